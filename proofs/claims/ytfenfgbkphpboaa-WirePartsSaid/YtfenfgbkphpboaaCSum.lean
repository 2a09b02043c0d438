/-
  No statement: the sum of package codec, and the document's own.
-/
import Derived.Test.YtfenfgbkphpboaaCrc
import Derived.Test.YtfenfgbkphpboaaProg
import Derived.Test.YtfenfgbkphpboaaApp
import Derived.Lib.UnsafeStr
import Derived.WalkKit
import Derived.WalkSpells
import Derived.IntWalk
import Derived.Lib.Hide
import Derived.LoopTactic
namespace Go.Proofs.Ytfenfgbkphpboaa
open Go.RowKit

/-- A []byte reads as bytes. -/
def BR (w : World) (a : Option Addr) (c : Nat) (l : List UInt8) : Prop :=
  l.length ≤ c ∧ c ≤ maxLen ∧ ((a = none ∧ c = 0) ∨ (l = [] ∧ ∃ x, a = some x) ∨ ∃ b off, a = some ⟨b, off, none⟩ ∧ ∀ j (h : j < l.length), w.cell? ⟨b, off + j, none⟩ = some (.int .u8 l[j].toNat))

theorem BR.kept {w w' : World} {a : Option Addr} {c : Nat} {l : List UInt8} (h : BR w a c l) (hb : Below w.heap.size w w') : BR w' a c l := by
  refine ⟨h.1, h.2.1, ?_⟩
  rcases h.2.2 with h | h | ⟨b, off, rfl, hc⟩
  · exact .inl h
  · exact .inr (.inl h)
  · refine .inr (.inr ⟨b, off, rfl, fun j hj => (hb.cell (p := ⟨b, _, none⟩) ?_).trans (hc j hj)⟩)
    have := World.block_lt_of_cell? w _ (hc j hj)
    simpa using this

theorem xor_u32 (a b : Nat) (ha : a < 4294967296) (hb : b < 4294967296) : bits .xor .u32 (a : Int) (b : Int) = ((a ^^^ b : Nat) : Int) := by
  have hx : a ^^^ b < 2 ^ 32 := Nat.xor_lt_two_pow (by omega) (by omega)
  have h1 : (BitVec.ofInt 32 (a : Int)).toNat = a := by
    rw [BitVec.ofInt_natCast, BitVec.toNat_ofNat]; exact Nat.mod_eq_of_lt (by omega)
  have h2 : (BitVec.ofInt 32 (b : Int)).toNat = b := by
    rw [BitVec.ofInt_natCast, BitVec.toNat_ofNat]; exact Nat.mod_eq_of_lt (by omega)
  show IntKind.u32.wrap ((BitVec.ofInt 32 (a : Int) ^^^ BitVec.ofInt 32 (b : Int)).toNat : Int) = _
  rw [BitVec.toNat_xor, h1, h2, IntKind.wrap_u32]
  omega

theorem ret_u32 {a b : Int} (h : a = b) : Ending.returned (.int .u32 a) = .returned (.int .u32 b) := by rw [h]

theorem poly_eq (s : Nat) (h : s < 4294967296) : bits .xor .u32 ((s : Int) / 2) ((s : Int) % 2 * 3988292384) = (crcS s : Nat) := by
  have e : (s : Int) % 2 * 3988292384 = ((if s % 2 = 1 then 3988292384 else 0 : Nat) : Int) := by
    by_cases h1 : s % 2 = 1
    · rw [if_pos h1]; omega
    · rw [if_neg h1]; omega
  rw [e, show (s : Int) / 2 = ((s / 2 : Nat) : Int) by omega, xor_u32 _ _ (by omega) (by split <;> decide)]
  rfl

theorem take_more (l : List UInt8) (k : Nat) (h : k < l.length) : l.take (k + 1) = l.take k ++ [l[k]] := by
  rw [List.take_succ_eq_append_getElem h]

theorem BR.cells {w : World} {a : Option Addr} {c : Nat} {l : List UInt8} (h : BR w a c l) (h0 : 0 < l.length) : ∃ b off, a = some ⟨b, off, none⟩ ∧ ∀ j (h : j < l.length), w.cell? ⟨b, off + j, none⟩ = some (.int .u8 l[j].toNat) := by
  rcases h.2.2 with ⟨rfl, hc⟩ | ⟨rfl, _⟩ | h'
  · have := h.1; omega
  · simp at h0
  · exact h'

theorem reg_take (l : List UInt8) (k : Nat) : reg 4294967295 (l.take k) < 4294967296 := reg_lt _ (by decide)

set_option maxHeartbeats 1000000 in
set_option maxRecDepth 100000 in
theorem sum_any (a : Option Addr) (c : Nat) (l : List UInt8) (w : World) (h : BR w a c l) :
    Calls Try.prog 90 #[.slice a l.length c] w fun e w' => e = .returned (.int .u32 (crc l : Nat)) ∧ w' = w := by
  have hl : l.length ≤ 9223372036854775807 := by have := h.1; have := h.2.1; unfold maxLen at this; omega
  have H := Lib.hid h
  clear h
  go_enter Try.func90, Try.ntmps90
  go_wp2_with fail
  go_loop [3, 8] (fun s i => ∃ k : Nat, i = .int .i64 k ∧ k ≤ l.length ∧ s = .int .u32 (reg 4294967295 (l.take k) : Nat)) (fun _ i => l.length - (intOf i).toNat)
  case atStart => exact ⟨0, rfl, Nat.zero_le _, rfl⟩
  case round =>
    obtain ⟨k, rfl, hk, rfl⟩ := hrel
    by_cases hlt : k < l.length
    · obtain ⟨b, off, rfl, hc⟩ := H.out.cells (by omega)
      have c0 := hc k hlt
      have hsn := reg_snoc 4294967295 (l.take k) l[k]
      rw [← take_more l k hlt] at hsn
      have hx := byte_lt l[k]
      have hs := reg_take l k
      obtain ⟨x, hx'⟩ : ∃ x, l[k].toNat = x := ⟨_, rfl⟩
      rw [hx'] at c0 hsn hx
      obtain ⟨s, hs'⟩ : ∃ s, reg 4294967295 (l.take k) = s := ⟨_, rfl⟩
      rw [hs'] at hsn hs
      rw [hs']
      have HS := Lib.hid hsn
      have HT := Lib.hid (And.intro hs hx)
      have e1 : bits .xor .u32 (s : Int) (x : Int) = ((s ^^^ x : Nat) : Int) := xor_u32 s x hs (by omega)
      have hsx : s ^^^ x < 4294967296 := Nat.xor_lt_two_pow (n := 32) hs (by omega)
      clear hc hx' hs' hsn
      go_wp2_with fail
      go_loop [3, 16] (fun v i => ∃ j : Nat, i = .int .i64 j ∧ j ≤ 8 ∧ v = .int .u32 (stps j (s ^^^ x) : Nat)) (fun _ i => 8 - (intOf i).toNat)
      case atStart => exact ⟨0, rfl, Nat.zero_le _, rfl⟩
      case round =>
        obtain ⟨j, rfl, hj, rfl⟩ := hrel
        have ht := stps_lt j hsx
        have hsu := stps_succ' j (s ^^^ x)
        obtain ⟨t, ht'⟩ : ∃ t, stps j (s ^^^ x) = t := ⟨_, rfl⟩
        rw [ht'] at ht hsu
        rw [ht']
        have HU := Lib.hid hsu
        have HV := Lib.hid ht'
        have e2 := poly_eq t ht
        clear hsu ht' e1
        by_cases hj8 : j < 8
        · go_wp2_with fail
          go_round
          case rel => exact ⟨j + 1, by go_num, by omega, by rw [HU.out]⟩
          case measure => simp [intOf]; omega
        · obtain rfl : j = 8 := by omega
          go_wp2_with fail
          go_round
          case rel => exact ⟨k + 1, by go_num, by omega, by rw [HS.out, ← HV.out]⟩
          case measure => simp [intOf]; omega
    · obtain rfl : k = l.length := by omega
      have hs := reg_take l l.length
      rw [List.take_length] at hs ⊢
      have e3 := xor_u32 4294967295 (reg 4294967295 l) (by decide) hs
      have e4 : 4294967295 ^^^ reg 4294967295 l = crc l := by
        have := xor_all hs
        unfold crc
        have h2 : (reg 4294967295 l ^^^ (4294967295 - reg 4294967295 l)) ^^^ reg 4294967295 l = 4294967295 ^^^ reg 4294967295 l := congrArg (· ^^^ reg 4294967295 l) this
        rw [← h2, Nat.xor_assoc, Nat.xor_comm _ (reg 4294967295 l), ← Nat.xor_assoc, Nat.xor_self, Nat.zero_xor]
      have E := Lib.hid (e3.trans (by rw [e4]))
      clear e3 e4
      go_wp2_with fail
      go_ret
      exact ⟨ret_u32 E.out, rfl⟩

end Go.Proofs.Ytfenfgbkphpboaa
