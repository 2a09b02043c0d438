/-
  No statement: first of package codec.
-/
import Derived.Test.YtfenfgbkphpboaaCMath
import Derived.Test.YtfenfgbkphpboaaCSum
import Derived.Lib.EndianBits
namespace Go.Proofs.Ytfenfgbkphpboaa
open Go.RowKit

def FstPost (w : World) (f : Nat × Nat × Int) (e : Ending) (w' : World) : Prop := e = .returned (.tuple #[.int .u64 (f.1 : Nat), .int .i64 (f.2.1 : Nat), .int .i64 f.2.2]) ∧ w' = w

theorem pow_int (j : Nat) : ((2 ^ j : Nat) : Int) = (2 : Int) ^ j := by simp

theorem or_next (acc x k : Nat) (ha : acc < 2 ^ (7 * k)) (hk : k ≤ 8) : bits .or .u64 (acc : Int) (IntKind.u64.wrap ((x : Int) % 128 * 2 ^ (7 * k))) = ((acc + x % 128 * 2 ^ (7 * k) : Nat) : Int) := by
  have hp := pow_le8 hk
  have hm : x % 128 * 2 ^ (7 * k) ≤ 127 * 2 ^ (7 * k) := Nat.mul_le_mul_right _ (by omega)
  have e : (x : Int) % 128 * 2 ^ (7 * k) = ((x % 128 * 2 ^ (7 * k) : Nat) : Int) := by rw [← pow_int]; simp
  have hb : x % 128 * 2 ^ (7 * k) < 18446744073709551616 := by omega
  rw [e, wraps_u64 _ (by omega) (by omega)]
  have hmod : ((x % 128 * 2 ^ (7 * k) : Nat) : Int) % 2 ^ (7 * k) = 0 := by
    rw [← pow_int]; exact_mod_cast Nat.mul_mod_left _ _
  have := bits_join_low .u64 64 (by decide) wraps_u64 (7 * k) acc ((x % 128 * 2 ^ (7 * k) : Nat) : Int) (by omega) (by rw [← pow_int]; exact_mod_cast ha) (by omega) (by omega) hmod (by omega)
  rw [this]
  omega

theorem or_last (acc : Nat) (ha : acc < 2 ^ (7 * 9)) : bits .or .u64 (acc : Int) 9223372036854775808 = ((acc + 9223372036854775808 : Nat) : Int) := by
  have h9 : acc < 9223372036854775808 := ha
  have := bits_join_low .u64 64 (by decide) wraps_u64 63 acc 9223372036854775808 (by omega) (by omega) (by omega) (by omega) (by decide) (by decide)
  rw [this]
  omega

theorem or_none (acc : Nat) (ha : acc < 18446744073709551616) : bits .or .u64 (acc : Int) 0 = (acc : Int) := by
  have h := (bits_nat .u64 64 (by decide) wraps_u64 acc 0 (by omega) (by decide)).2
  rw [show ((0 : Nat) : Int) = 0 from rfl, Nat.or_zero] at h
  exact h

theorem fst_ret {a b c : Int} {w : World} {f : Nat × Nat × Int} (h1 : a = (f.1 : Nat)) (h2 : b = (f.2.1 : Nat)) (h3 : c = f.2.2) : FstPost w f (.returned (.tuple #[.int .u64 a, .int .i64 b, .int .i64 c])) w := by
  subst h1; subst h2; subst h3; exact ⟨rfl, rfl⟩

set_option maxHeartbeats 1000000 in
set_option maxRecDepth 100000 in
theorem first_any (a : Option Addr) (c : Nat) (l : List UInt8) (w : World) (h : BR w a c l) :
    Calls Try.prog 86 #[.slice a l.length c] w (FstPost w (fstF 0 0 l)) := by
  have hl : l.length ≤ 9223372036854775807 := by have := h.1; have := h.2.1; unfold maxLen at this; omega
  have H := Lib.hid h
  clear h
  obtain ⟨f, hf⟩ : ∃ f, fstF 0 0 l = f := ⟨_, rfl⟩
  rw [hf]
  have HF := Lib.hid hf
  clear hf
  go_enter Try.func86, Try.ntmps86
  go_wp2_with fail
  go_loop [5, 10] (fun u i => ∃ k acc : Nat, i = .int .i64 k ∧ k ≤ l.length ∧ k ≤ 9 ∧ u = .int .u64 acc ∧ Hid (acc < 2 ^ (7 * k)) ∧ Hid (fstF k acc (l.drop k) = f)) (fun _ i => l.length - (intOf i).toNat)
  case atStart => exact ⟨0, 0, rfl, Nat.zero_le _, by omega, rfl, Lib.hid (by decide), HF⟩
  case round =>
    obtain ⟨k, acc, rfl, hk, hk9, rfl, HA, HF⟩ := hrel
    by_cases hlt : k < l.length
    · obtain ⟨b, off, rfl, hc⟩ := H.out.cells (by omega)
      have c0 := hc k hlt
      have hx := byte_lt l[k]
      have hF := HF.out
      have hd : l.drop k = l[k] :: l.drop (k + 1) := List.drop_eq_getElem_cons hlt
      rw [hd, fstF] at hF
      obtain ⟨x, hx'⟩ : ∃ x, l[k].toNat = x := ⟨_, rfl⟩
      rw [hx'] at c0 hx hF
      clear hc hx' hd HF H
      by_cases h9 : k = 9
      · subst h9
        by_cases h1 : 1 < x
        · rw [if_pos ⟨rfl, h1⟩] at hF
          have P := Lib.hid (fst_ret (w := w) (f := f) (a := 0) (b := 0) (c := 2) (by rw [← hF]; rfl) (by rw [← hF]; rfl) (by rw [← hF]))
          clear hF
          go_wp2_with fail
          go_ret3
          exact P.out
        · rw [if_neg (fun h => h1 h.2), if_neg (by omega)] at hF
          by_cases h0 : x = 0
          · subst h0
            rw [if_pos ⟨rfl, by omega⟩] at hF
            have P := Lib.hid (fst_ret (w := w) (f := f) (a := 0) (b := 0) (c := 2) (by rw [← hF]; rfl) (by rw [← hF]; rfl) (by rw [← hF]))
            clear hF
            go_wp2_with fail
            go_ret3
            exact P.out
          · obtain rfl : x = 1 := by omega
            rw [if_neg (fun h => by omega)] at hF
            have e := or_last acc HA.out
            have P := Lib.hid (fst_ret (w := w) (f := f) (a := ((acc + 9223372036854775808 : Nat) : Int)) (b := 10) (c := 0) (by rw [← hF, Nat.one_mul]) (by rw [← hF]; rfl) (by rw [← hF]))
            clear hF
            go_wp2_with fail
            go_ret3
            exact P.out
      · rw [if_neg (fun h => h9 h.1)] at hF
        have e := or_next acc x k HA.out (by omega)
        by_cases h128 : 128 ≤ x
        · rw [if_pos h128] at hF
          have HF := Lib.hid hF
          have HN := Lib.hid (show acc + x % 128 * 2 ^ (7 * k) < 2 ^ (7 * (k + 1)) by
            have : x % 128 * 2 ^ (7 * k) ≤ 127 * 2 ^ (7 * k) := Nat.mul_le_mul_right _ (by omega)
            have := HA.out
            rw [pow7]; omega)
          clear hF
          have h9' : ((k : Int) == 9) = false := by rw [beq_eq_false_iff_ne]; omega
          go_wp2_with fail
          go_round
          case rel => exact ⟨k + 1, _, by go_num, by omega, by omega, rfl, HN, HF⟩
          case measure => simp [intOf]; omega
        · rw [if_neg h128] at hF
          have h9' : ((k : Int) == 9) = false := by rw [beq_eq_false_iff_ne]; omega
          have ex : x % 128 = x := Nat.mod_eq_of_lt (by omega)
          by_cases h0 : x = 0
          · subst h0
            by_cases hk0 : k = 0
            · subst hk0
              rw [Nat.add_zero] at c0
              rw [if_neg (fun h => by omega)] at hF
              have e0 := or_none acc (by have : acc < 1 := HA.out; omega)
              have P := Lib.hid (fst_ret (w := w) (f := f) (a := (acc : Int)) (b := 1) (c := 0) (by rw [← hF]; simp) (by rw [← hF]; rfl) (by rw [← hF]))
              clear hF e
              go_wp2_with fail
              go_ret3
              exact P.out
            · rw [if_pos ⟨rfl, by omega⟩] at hF
              have hk1 : 0 < k := by omega
              have P := Lib.hid (fst_ret (w := w) (f := f) (a := 0) (b := 0) (c := 2) (by rw [← hF]; rfl) (by rw [← hF]; rfl) (by rw [← hF]))
              clear hF e
              go_wp2_with fail
              go_ret3
              exact P.out
          · rw [if_neg (fun h => h0 h.1)] at hF
            have h0' : ((x : Int) == 0) = false := by rw [beq_eq_false_iff_ne]; omega
            have P := Lib.hid (fst_ret (w := w) (f := f) (a := ((acc + x % 128 * 2 ^ (7 * k) : Nat) : Int)) (b := (k : Int) + 1) (c := 0) (by rw [← hF, ex]) (by rw [← hF]; rfl) (by rw [← hF]))
            clear hF ex
            go_wp2_with fail
            go_ret3
            exact P.out
    · obtain rfl : k = l.length := by omega
      have hF := HF.out
      rw [List.drop_length] at hF
      have P := Lib.hid (fst_ret (w := w) (f := f) (a := 0) (b := 0) (c := 3) (by rw [← hF]; rfl) (by rw [← hF]; rfl) (by rw [← hF]; rfl))
      clear hF HF HA
      go_wp2_with fail
      go_ret3
      exact P.out

end Go.Proofs.Ytfenfgbkphpboaa
