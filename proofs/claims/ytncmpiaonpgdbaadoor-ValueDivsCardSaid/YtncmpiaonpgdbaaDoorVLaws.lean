/-
  No statement: the walks of ValueSums, ValueDivs, ValueEnds (P202).
-/
import Derived.Test.YtncmpiaonpgdbaaDoorVKnown
import Derived.Test.YtncmpiaonpgdbaaDoorVMul
import Derived.Test.YtncmpiaonpgdbaaDoorVRMul
namespace Go.Proofs.YtncmpiaonpgdbaaDoor
open Go.RowKit

set_option maxRecDepth 100000 in
set_option maxHeartbeats 4000000 in
theorem sums_walk (a b : Int) (ha : In64 a) (hb : In64 b) (w : World) (hw : Laid w) (h8 : 7 ≤ w.heap.size) :
    Calls Tryd.prog 5 #[.int .i64 a, .int .i64 b] w fun e w' => e = .returned (.bool true) ∧ Below w.heap.size w w' := by
  have S1 := Lib.hid (fun w => vAdd_any a b w ha hb)
  have S2 := Lib.hid (fun w => rAdd_any a b w ha hb)
  have S3 := Lib.hid (fun w => vSub_any a b w ha hb)
  have S4 := Lib.hid (fun w => rSub_any a b w ha hb)
  have S5 := Lib.hid (fun w => vMul_any a b w ha hb)
  have S6 := Lib.hid (fun w => rMul_any a b w ha hb)
  have S7 := Lib.hid (fun w => by have := vMul_any b a w hb ha; rw [Int.mul_comm] at this; exact this)
  by_cases h0 : b = 0
  · subst h0
    have Q1 := Lib.hid (fun w => vDiv_nought a w)
    have Q2 := Lib.hid (fun w => vMod_nought a w)
    have Q3 := Lib.hid (fun w => rDiv_nought a w)
    have Q4 := Lib.hid (fun w => rMod_nought a w)
    clear ha hb
    go_enter Tryd.func5, Tryd.ntmps5
    go_wp2_with fail
    refine (known_any w hw h8).mono ?_
    rintro e w1 ⟨rfl, hb⟩
    have hb1 := Lib.hid hb
    clear hb
    go_wp2_with fail
    refine (Q1.out _).mono ?_
    rintro e w' ⟨rfl, rfl⟩
    go_wp2_with fail
    refine (Q2.out _).mono ?_
    rintro e w' ⟨rfl, rfl⟩
    go_wp2_with fail
    refine (Q3.out _).mono ?_
    rintro e w' ⟨rfl, rfl⟩
    go_wp2_with fail
    refine (Q4.out _).mono ?_
    rintro e w' ⟨rfl, rfl⟩
    go_wp2_with fail
    refine (S1.out _).mono ?_
    rintro e w' ⟨rfl, rfl⟩
    go_wp2_with fail
    refine (S2.out _).mono ?_
    rintro e w' ⟨rfl, rfl⟩
    go_wp2_with fail
    refine (S3.out _).mono ?_
    rintro e w' ⟨rfl, rfl⟩
    go_wp2_with fail
    refine (S4.out _).mono ?_
    rintro e w' ⟨rfl, rfl⟩
    go_wp2_with fail
    refine (S5.out _).mono ?_
    rintro e w' ⟨rfl, rfl⟩
    go_wp2_with fail
    refine (S6.out _).mono ?_
    rintro e w' ⟨rfl, rfl⟩
    go_wp2_with fail
    refine (S7.out _).mono ?_
    rintro e w' ⟨rfl, rfl⟩
    go_wp2_with fail
    refine (S6.out _).mono ?_
    rintro e w' ⟨rfl, rfl⟩
    go_wp2_with fail
    go_ret
    exact ⟨rfl, hb1.out⟩
  · have Q1 := Lib.hid (fun w => vDiv_any a b w ha hb h0)
    have Q2 := Lib.hid (fun w => vMod_any a b w ha hb h0)
    have Q3 := Lib.hid (fun w => rDiv_any a b w ha hb h0)
    have Q4 := Lib.hid (fun w => rMod_any a b w ha hb h0)
    clear ha hb h0
    go_enter Tryd.func5, Tryd.ntmps5
    go_wp2_with fail
    refine (known_any w hw h8).mono ?_
    rintro e w1 ⟨rfl, hb⟩
    have hb1 := Lib.hid hb
    clear hb
    go_wp2_with fail
    refine (Q1.out _).mono ?_
    rintro e w' ⟨rfl, rfl⟩
    go_wp2_with fail
    refine (Q2.out _).mono ?_
    rintro e w' ⟨rfl, rfl⟩
    go_wp2_with fail
    refine (Q3.out _).mono ?_
    rintro e w' ⟨rfl, rfl⟩
    go_wp2_with fail
    refine (Q4.out _).mono ?_
    rintro e w' ⟨rfl, rfl⟩
    go_wp2_with fail
    refine (S1.out _).mono ?_
    rintro e w' ⟨rfl, rfl⟩
    go_wp2_with fail
    refine (S2.out _).mono ?_
    rintro e w' ⟨rfl, rfl⟩
    go_wp2_with fail
    refine (S3.out _).mono ?_
    rintro e w' ⟨rfl, rfl⟩
    go_wp2_with fail
    refine (S4.out _).mono ?_
    rintro e w' ⟨rfl, rfl⟩
    go_wp2_with fail
    refine (S5.out _).mono ?_
    rintro e w' ⟨rfl, rfl⟩
    go_wp2_with fail
    refine (S6.out _).mono ?_
    rintro e w' ⟨rfl, rfl⟩
    go_wp2_with fail
    refine (S7.out _).mono ?_
    rintro e w' ⟨rfl, rfl⟩
    go_wp2_with fail
    refine (S6.out _).mono ?_
    rintro e w' ⟨rfl, rfl⟩
    go_wp2_with fail
    go_ret
    exact ⟨rfl, hb1.out⟩

set_option maxRecDepth 100000 in
set_option maxHeartbeats 4000000 in
theorem divs_walk (a b : Int) (ha : In64 a) (hb : In64 b) (w : World) (hw : Laid w) (h8 : 7 ≤ w.heap.size) :
    Calls Tryd.prog 7 #[.int .i64 a, .int .i64 b] w fun e w' => e = .returned (.bool true) ∧ Below w.heap.size w w' := by
  by_cases h0 : b = 0
  · subst h0
    have Q1 := Lib.hid (fun w => vDiv_nought a w)
    have Q2 := Lib.hid (fun w => vMod_nought a w)
    clear ha hb
    go_enter Tryd.func7, Tryd.ntmps7
    go_wp2_with fail
    refine (known_any w hw h8).mono ?_
    rintro e w1 ⟨rfl, hb⟩
    have hb1 := Lib.hid hb
    clear hb
    go_wp2_with fail
    refine (Q1.out _).mono ?_
    rintro e w' ⟨rfl, rfl⟩
    go_wp2_with fail
    refine (Q2.out _).mono ?_
    rintro e w' ⟨rfl, rfl⟩
    go_wp2_with fail
    go_ret
    exact ⟨rfl, hb1.out⟩
  have q0 : (b == 0) = false := by simpa using h0
  by_cases hl : a = -9223372036854775808 ∧ b = -1
  · obtain ⟨rfl, rfl⟩ := hl
    have Q1 := Lib.hid (fun w => by have := vDiv_any _ _ w ha hb h0; rw [show cut64 (Int.tdiv (-9223372036854775808) (-1)) = 9223372036854775807 by decide] at this; exact this)
    have Q2 := Lib.hid (fun w => by have := vMod_any _ _ w ha hb h0; rw [show Int.tmod (-9223372036854775808) (-1) = 0 by decide] at this; exact this)
    clear ha hb h0
    go_enter Tryd.func7, Tryd.ntmps7
    go_wp2_with fail
    refine (known_any w hw h8).mono ?_
    rintro e w1 ⟨rfl, hb⟩
    have hb1 := Lib.hid hb
    clear hb
    go_wp2_with fail
    refine (Q1.out _).mono ?_
    rintro e w' ⟨rfl, rfl⟩
    go_wp2_with fail
    refine (Q2.out _).mono ?_
    rintro e w' ⟨rfl, rfl⟩
    go_wp2_with fail
    go_ret
    exact ⟨rfl, hb1.out⟩
  · have hi : In64 (a.tdiv b) := tdiv_in ha h0 (fun x y => hl ⟨x, y⟩)
    have Q1 := Lib.hid (fun w => by have := vDiv_any a b w ha hb h0; rw [cut64_id hi] at this; exact this)
    have Q2 := Lib.hid (fun w => vMod_any a b w ha hb h0)
    have he := Int.tmod_add_mul_tdiv a b
    have hab : (a.tmod b).natAbs < b.natAbs := by
      rw [Int.natAbs_tmod]; exact Nat.mod_lt _ (by omega)
    have hsg : 0 ≤ a → 0 ≤ a.tmod b := fun h => Int.tmod_nonneg b h
    have hsn : a ≤ 0 → a.tmod b ≤ 0 := fun h => by
      have := Int.tmod_nonneg (a := -a) b (by omega)
      rw [Int.neg_tmod] at this; omega
    obtain ⟨r, hr⟩ : ∃ r, a.tmod b = r := ⟨_, rfl⟩
    obtain ⟨t, ht⟩ : ∃ t, a.tdiv b = t := ⟨_, rfl⟩
    rw [hr] at he hab hsg hsn Q2
    rw [ht] at he Q1 hi
    obtain ⟨m, hm⟩ : ∃ m, t * b = m := ⟨_, rfl⟩
    rw [Int.mul_comm b t, hm] at he
    obtain ⟨a1, a2⟩ := ha
    obtain ⟨b1, b2⟩ := hb
    have hl1 : (a == -9223372036854775808) = false ∨ (b == -1) = false := by
      by_cases x : a = -9223372036854775808
      · right; rw [beq_eq_false_iff_ne]; exact fun y => hl ⟨x, y⟩
      · left; simpa using x
    have hmr : wrap64 m = m := wrap_in ⟨by omega, by omega⟩
    have hme : m + r = a := by omega
    have hmb1 : -9223372036854775808 ≤ m := by omega
    have hmb2 : m ≤ 9223372036854775807 := by omega
    clear he hl hi hr ht
    have cr : (r == 0) = true ∧ r = 0 ∨ (r == 0) = false ∧ r < 0 ∧ a < 0 ∨ (r == 0) = false ∧ 0 < r ∧ 0 ≤ a := by
      rcases Int.lt_trichotomy r 0 with h | h | h
      · exact .inr (.inl ⟨by rw [beq_eq_false_iff_ne]; omega, h, by omega⟩)
      · exact .inl ⟨by rw [h]; rfl, h⟩
      · exact .inr (.inr ⟨by rw [beq_eq_false_iff_ne]; omega, h, by omega⟩)
    have cb : 0 < b ∧ r < b ∧ -b < r ∨ b < 0 ∧ b < r ∧ (b == -9223372036854775808) = true ∨ b < 0 ∧ b < r ∧ (b == -9223372036854775808) = false ∧ -9223372036854775808 < b ∧ r < -b := by
      by_cases h : 0 < b
      · exact .inl ⟨h, by omega, by omega⟩
      · by_cases hx : b = -9223372036854775808
        · exact .inr (.inl ⟨by omega, by omega, by rw [hx]; rfl⟩)
        · exact .inr (.inr ⟨by omega, by omega, by rw [beq_eq_false_iff_ne]; exact hx, by omega, by omega⟩)
    clear hsn hsg hab
    have Hm := Lib.hid hm
    rcases hl1 with l1 | l1 <;> rcases cr with ⟨r1, r2⟩ | ⟨r1, r2, r3⟩ | ⟨r1, r2, r3⟩ <;> rcases cb with ⟨b3, b4, b5⟩ | ⟨b3, b4, b5⟩ | ⟨b3, b4, b5, b6, b7⟩
    all_goals
      go_enter Tryd.func7, Tryd.ntmps7
      go_wp2_with fail
      refine (known_any w hw h8).mono ?_
      rintro e w1 ⟨rfl, hb⟩
      have hb1 := Lib.hid hb
      clear hb
      go_wp2_with fail
      refine (Q1.out _).mono ?_
      rintro e w' ⟨rfl, rfl⟩
      go_wp2_with fail
      refine (Q2.out _).mono ?_
      rintro e w' ⟨rfl, rfl⟩
      go_wp2_with fail
      all_goals
        go_ret
        exact ⟨rfl, hb1.out⟩

end Go.Proofs.YtncmpiaonpgdbaaDoor
