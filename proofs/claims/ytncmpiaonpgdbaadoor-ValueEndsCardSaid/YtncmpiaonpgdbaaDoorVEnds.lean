/-
  No statement: the walk of ValueEnds (P202).
-/
import Derived.Test.YtncmpiaonpgdbaaDoorVKnown
import Derived.Test.YtncmpiaonpgdbaaDoorVMul
namespace Go.Proofs.YtncmpiaonpgdbaaDoor
open Go.RowKit

set_option maxRecDepth 100000 in
set_option maxHeartbeats 4000000 in
theorem ends_walk (a b c : Int) (ha : In64 a) (hb : In64 b) (hc : In64 c) (w : World) (hw : Laid w) (h8 : 7 ≤ w.heap.size) :
    Calls Tryd.prog 8 #[.int .i64 a, .int .i64 b, .int .i64 c] w fun e w' => e = .returned (.bool true) ∧ Below w.heap.size w w' := by
  have n0 : In64 0 := by unfold In64; omega
  have n1 : In64 1 := by unfold In64; omega
  obtain ⟨x, hx⟩ : ∃ x, cut64 (a + b) = x := ⟨_, rfl⟩
  obtain ⟨y, hy⟩ : ∃ y, cut64 (a + c) = y := ⟨_, rfl⟩
  have S1 := Lib.hid (fun w => by have := vAdd_any a b w ha hb; rw [hx] at this; exact this)
  have S2 := Lib.hid (fun w => by have := vAdd_any a c w ha hc; rw [hy] at this; exact this)
  have S3 := Lib.hid (fun w => by have := vAdd_any b a w hb ha; rw [Int.add_comm, hx] at this; exact this)
  have S4 := Lib.hid (fun w => by have := vAdd_any a 0 w ha n0; rw [Int.add_zero, cut64_id ha] at this; exact this)
  have S5 := Lib.hid (fun w => by have := vSub_any a 0 w ha n0; rw [Int.sub_zero, cut64_id ha] at this; exact this)
  have S6 := Lib.hid (fun w => by have := vSub_any a a w ha ha; rw [Int.sub_self, cut64_id n0] at this; exact this)
  have S7 := Lib.hid (fun w => by have := vMul_any a 1 w ha n1; rw [Int.mul_one, cut64_id ha] at this; exact this)
  have S8 := Lib.hid (fun w => by have := vMul_any a 0 w ha n0; rw [Int.mul_zero, cut64_id n0] at this; exact this)
  have f1 : (b < 0 ∧ x ≤ a) ∨ (b = 0 ∧ x = a) ∨ (0 < b ∧ a ≤ x) := by
    rw [← hx]; unfold cut64 In64 at *; omega
  have f2 : (b ≤ c ∧ x ≤ y) ∨ (c < b ∧ y ≤ x) := by
    rw [← hx, ← hy]; unfold cut64 In64 at *; omega
  clear hx hy ha hb hc n0 n1
  rcases f1 with ⟨g1, g2⟩ | ⟨g1, g2⟩ | ⟨g1, g2⟩ <;> rcases f2 with ⟨g3, g4⟩ | ⟨g3, g4⟩
  all_goals
    first
      | (have g5 : decide (b ≤ c) = true := by simpa using g3)
      | (have g5 : decide (b ≤ c) = false := by simpa using g3)
    try subst g1
    try subst g2
    go_enter Tryd.func8, Tryd.ntmps8
    go_wp2_with (first | (go_at_call 9; refine (known_any w hw h8).mono ?_; rintro e w1 ⟨rfl, hb⟩; have hb1 := Lib.hid hb; clear hb) | (go_at_call 25; first | ((with_reducible refine (S1.out _).mono ?_); rintro e w' ⟨rfl, rfl⟩) | ((with_reducible refine (S2.out _).mono ?_); rintro e w' ⟨rfl, rfl⟩) | ((with_reducible refine (S3.out _).mono ?_); rintro e w' ⟨rfl, rfl⟩) | ((with_reducible refine (S4.out _).mono ?_); rintro e w' ⟨rfl, rfl⟩)) | (go_at_call 27; first | ((with_reducible refine (S5.out _).mono ?_); rintro e w' ⟨rfl, rfl⟩) | ((with_reducible refine (S6.out _).mono ?_); rintro e w' ⟨rfl, rfl⟩)) | (go_at_call 29; first | ((with_reducible refine (S7.out _).mono ?_); rintro e w' ⟨rfl, rfl⟩) | ((with_reducible refine (S8.out _).mono ?_); rintro e w' ⟨rfl, rfl⟩)))
    go_ret
    exact ⟨rfl, hb1.out⟩

end Go.Proofs.YtncmpiaonpgdbaaDoor
