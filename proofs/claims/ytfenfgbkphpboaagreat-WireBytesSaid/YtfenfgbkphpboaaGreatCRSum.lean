/-
  No statement: the document's own sum.
-/
import Derived.Test.YtfenfgbkphpboaaGreatCSum
namespace Go.Proofs.YtfenfgbkphpboaaGreat
open Go.RowKit

theorem and_u32 (s : Nat) (h : s < 4294967296) : bits .and .u32 (s : Int) 1 = ((s % 2 : Nat) : Int) := by
  have := bits_mask .u32 32 (by decide) (fun n h0 h1 => by rw [IntKind.wrap_u32]; omega) 1 (by decide) (s : Int) (by omega) (by omega)
  simpa using this

set_option maxHeartbeats 1000000 in
set_option maxRecDepth 100000 in
theorem rSum_any (a : Option Addr) (c : Nat) (l : List UInt8) (w : World) (h : BR w a c l) :
    Calls Tryz.prog 41 #[.slice a l.length c] w fun e w' => e = .returned (.int .u32 (crc l : Nat)) ∧ w' = w := by
  have hl : l.length ≤ 9223372036854775807 := by have := h.1; have := h.2.1; unfold maxLen at this; omega
  have H := Lib.hid h
  clear h
  go_enter Tryz.func41, Tryz.ntmps41
  go_wp2_with fail
  go_loop [3, 4] (fun s i => ∃ k : Nat, i = .int .i64 k ∧ k ≤ l.length ∧ s = .int .u32 (reg 4294967295 (l.take k) : Nat)) (fun _ i => l.length - (intOf i).toNat)
  case atStart => exact ⟨0, rfl, Nat.zero_le _, rfl⟩
  case round =>
    obtain ⟨k, rfl, hk, rfl⟩ := hrel
    by_cases hlt : k < l.length
    · obtain ⟨b, off, rfl, hc⟩ := H.out.cells (by omega)
      have c0 := hc k hlt
      have hsn := reg_snoc 4294967295 (l.take k) l[k]
      rw [← take_more l k hlt] at hsn
      have hx := byte_lt l[k]
      have hs := reg_take l k
      obtain ⟨x, hx'⟩ : ∃ x, l[k].toNat = x := ⟨_, rfl⟩
      rw [hx'] at c0 hsn hx
      obtain ⟨s, hs'⟩ : ∃ s, reg 4294967295 (l.take k) = s := ⟨_, rfl⟩
      rw [hs'] at hsn hs
      rw [hs']
      have HS := Lib.hid hsn
      have e1 : bits .xor .u32 (s : Int) (x : Int) = ((s ^^^ x : Nat) : Int) := xor_u32 s x hs (by omega)
      have hsx : s ^^^ x < 4294967296 := Nat.xor_lt_two_pow (n := 32) hs (by omega)
      clear hc hx' hs' hsn
      go_wp2_with fail
      go_loop [3, 5] (fun v i => ∃ j : Nat, i = .int .i64 j ∧ j ≤ 8 ∧ v = .int .u32 (stps j (s ^^^ x) : Nat)) (fun _ i => 8 - (intOf i).toNat)
      case atStart => exact ⟨0, rfl, Nat.zero_le _, rfl⟩
      case round =>
        obtain ⟨j, rfl, hj, rfl⟩ := hrel
        have ht := stps_lt j hsx
        have hsu := stps_succ' j (s ^^^ x)
        obtain ⟨t, ht'⟩ : ∃ t, stps j (s ^^^ x) = t := ⟨_, rfl⟩
        rw [ht'] at ht hsu
        rw [ht']
        have HU := Lib.hid hsu
        have HV := Lib.hid ht'
        have e2 := and_u32 t ht
        clear hsu ht' e1
        by_cases hj8 : j < 8
        · by_cases h2 : t % 2 = 1
          · have e3 := xor_u32 (t / 2) 3988292384 (by omega) (by decide)
            rw [show ((t / 2 : Nat) : Int) = (t : Int) / 2 by omega, show ((3988292384 : Nat) : Int) = 3988292384 by rfl] at e3
            have HE := Lib.hid (show t / 2 ^^^ 3988292384 = crcS t by unfold crcS; rw [if_pos h2])
            rw [h2] at e2
            clear h2
            go_wp2_with fail
            go_round
            case rel => exact ⟨j + 1, by go_num, by omega, by rw [HU.out, ← HE.out]⟩
            case measure => simp [intOf]; omega
          · have h20 : t % 2 = 0 := by omega
            have HE := Lib.hid (show t / 2 = crcS t by unfold crcS; rw [if_neg h2, Nat.xor_zero])
            rw [h20] at e2
            clear h2 h20
            go_wp2_with fail
            go_round
            case rel => exact ⟨j + 1, by go_num, by omega, by rw [HU.out, ← HE.out]; simp⟩
            case measure => simp [intOf]; omega
        · obtain rfl : j = 8 := by omega
          clear e2
          go_wp2_with fail
          go_round
          case rel => exact ⟨k + 1, by go_num, by omega, by rw [HS.out, ← HV.out]⟩
          case measure => simp [intOf]; omega
    · obtain rfl : k = l.length := by omega
      have hs := reg_take l l.length
      rw [List.take_length] at hs ⊢
      have e3 := xor_u32 4294967295 (reg 4294967295 l) (by decide) hs
      have e4 : 4294967295 ^^^ reg 4294967295 l = crc l := by
        have := xor_all hs
        unfold crc
        have h2 : (reg 4294967295 l ^^^ (4294967295 - reg 4294967295 l)) ^^^ reg 4294967295 l = 4294967295 ^^^ reg 4294967295 l := congrArg (· ^^^ reg 4294967295 l) this
        rw [← h2, Nat.xor_assoc, Nat.xor_comm _ (reg 4294967295 l), ← Nat.xor_assoc, Nat.xor_self, Nat.zero_xor]
      have E := Lib.hid (e3.trans (by rw [e4]))
      clear e3 e4
      go_wp2_with fail
      go_ret
      exact ⟨ret_u32 E.out, rfl⟩

end Go.Proofs.YtfenfgbkphpboaaGreat
