/-
  No statement: contracts of Holds of package calc, and of the document's own (P1001).
-/
import Derived.Test.YtcmcnmmhkpolcaaHMath
namespace Go.Proofs.Ytcmcnmmhkpolcaa
open Go.RowKit

theorem eq_list (o : ByteArray) (x : List UInt8) : (o.toList == x) = decide (o = ⟨x.toArray⟩) := by
  rw [Lib.toList_data]
  by_cases h : o = ⟨x.toArray⟩
  · subst h; simp
  · rw [decide_eq_false h]
    rw [beq_eq_false_iff_ne]
    intro e
    exact h (text_eq (by simpa using e))
theorem lit_yes {o : ByteArray} {x : List UInt8} (h : o = ⟨x.toArray⟩) : (o.toList == x) = true := by rw [eq_list]; exact decide_eq_true h
theorem lit_no {o : ByteArray} {x : List UInt8} (h : ¬ o = ⟨x.toArray⟩) : (o.toList == x) = false := by rw [eq_list]; exact decide_eq_false h

/-- Whether two numbers hold by a sign. -/
def holdsB (o : ByteArray) (a b : Int) : Option Bool :=
  if o = ⟨#[61]⟩ then some (a == b) else if o = ⟨#[33, 61]⟩ then some (a != b) else if o = ⟨#[60]⟩ then some (decide (a < b))
  else if o = ⟨#[60, 61]⟩ then some (decide (a ≤ b)) else if o = ⟨#[62]⟩ then some (decide (b < a)) else if o = ⟨#[62, 61]⟩ then some (decide (b ≤ a)) else none

set_option maxHeartbeats 4000000 in
theorem pHolds_any (o : ByteArray) (a b : Int) (w : World) : Calls Try.prog 14 #[.string o, .int .i64 a, .int .i64 b] w fun e w' => e = .returned (.tuple #[.bool ((holdsB o a b).getD false), .bool (holdsB o a b).isSome]) ∧ w = w' := by
  by_cases h0 : o = ⟨#[61]⟩
  · have g0 := lit_yes (x := [61]) h0
    unfold holdsB
    rw [if_pos h0]
    clear h0
    go_enter Try.func14, Try.ntmps14
    go_wp2_with fail
    go_ret2
    exact ⟨rfl, rfl⟩
  · by_cases h1 : o = ⟨#[33, 61]⟩
    · have g0 := lit_no (x := [61]) h0
      have g1 := lit_yes (x := [33, 61]) h1
      unfold holdsB
      rw [if_neg h0]
      rw [if_pos h1]
      clear h0 h1
      go_enter Try.func14, Try.ntmps14
      go_wp2_with fail
      go_ret2
      exact ⟨rfl, rfl⟩
    · by_cases h2 : o = ⟨#[60]⟩
      · have g0 := lit_no (x := [61]) h0
        have g1 := lit_no (x := [33, 61]) h1
        have g2 := lit_yes (x := [60]) h2
        unfold holdsB
        rw [if_neg h0]
        rw [if_neg h1]
        rw [if_pos h2]
        clear h0 h1 h2
        go_enter Try.func14, Try.ntmps14
        go_wp2_with fail
        go_ret2
        exact ⟨rfl, rfl⟩
      · by_cases h3 : o = ⟨#[60, 61]⟩
        · have g0 := lit_no (x := [61]) h0
          have g1 := lit_no (x := [33, 61]) h1
          have g2 := lit_no (x := [60]) h2
          have g3 := lit_yes (x := [60, 61]) h3
          unfold holdsB
          rw [if_neg h0]
          rw [if_neg h1]
          rw [if_neg h2]
          rw [if_pos h3]
          clear h0 h1 h2 h3
          go_enter Try.func14, Try.ntmps14
          go_wp2_with fail
          go_ret2
          exact ⟨rfl, rfl⟩
        · by_cases h4 : o = ⟨#[62]⟩
          · have g0 := lit_no (x := [61]) h0
            have g1 := lit_no (x := [33, 61]) h1
            have g2 := lit_no (x := [60]) h2
            have g3 := lit_no (x := [60, 61]) h3
            have g4 := lit_yes (x := [62]) h4
            unfold holdsB
            rw [if_neg h0]
            rw [if_neg h1]
            rw [if_neg h2]
            rw [if_neg h3]
            rw [if_pos h4]
            clear h0 h1 h2 h3 h4
            go_enter Try.func14, Try.ntmps14
            go_wp2_with fail
            go_ret2
            exact ⟨rfl, rfl⟩
          · by_cases h5 : o = ⟨#[62, 61]⟩
            · have g0 := lit_no (x := [61]) h0
              have g1 := lit_no (x := [33, 61]) h1
              have g2 := lit_no (x := [60]) h2
              have g3 := lit_no (x := [60, 61]) h3
              have g4 := lit_no (x := [62]) h4
              have g5 := lit_yes (x := [62, 61]) h5
              unfold holdsB
              rw [if_neg h0]
              rw [if_neg h1]
              rw [if_neg h2]
              rw [if_neg h3]
              rw [if_neg h4]
              rw [if_pos h5]
              clear h0 h1 h2 h3 h4 h5
              go_enter Try.func14, Try.ntmps14
              go_wp2_with fail
              go_ret2
              exact ⟨rfl, rfl⟩
            · have g0 := lit_no (x := [61]) h0
              have g1 := lit_no (x := [33, 61]) h1
              have g2 := lit_no (x := [60]) h2
              have g3 := lit_no (x := [60, 61]) h3
              have g4 := lit_no (x := [62]) h4
              have g5 := lit_no (x := [62, 61]) h5
              unfold holdsB
              rw [if_neg h0]
              rw [if_neg h1]
              rw [if_neg h2]
              rw [if_neg h3]
              rw [if_neg h4]
              rw [if_neg h5]
              clear h0 h1 h2 h3 h4 h5
              go_enter Try.func14, Try.ntmps14
              go_wp2_with fail
              go_ret2
              exact ⟨rfl, rfl⟩

set_option maxHeartbeats 4000000 in
theorem rHolds_any (o : ByteArray) (a b : Int) (w : World) : Calls Try.prog 15 #[.string o, .int .i64 a, .int .i64 b] w fun e w' => e = .returned (.tuple #[.bool ((holdsB o a b).getD false), .bool (holdsB o a b).isSome]) ∧ w = w' := by
  by_cases h0 : o = ⟨#[61]⟩
  · have g0 := lit_yes (x := [61]) h0
    unfold holdsB
    rw [if_pos h0]
    clear h0
    go_enter Try.func15, Try.ntmps15
    go_wp2_with fail
    go_ret2
    exact ⟨rfl, rfl⟩
  · by_cases h1 : o = ⟨#[33, 61]⟩
    · have g0 := lit_no (x := [61]) h0
      have g1 := lit_yes (x := [33, 61]) h1
      unfold holdsB
      rw [if_neg h0]
      rw [if_pos h1]
      clear h0 h1
      go_enter Try.func15, Try.ntmps15
      go_wp2_with fail
      go_ret2
      exact ⟨rfl, rfl⟩
    · by_cases h2 : o = ⟨#[60]⟩
      · have g0 := lit_no (x := [61]) h0
        have g1 := lit_no (x := [33, 61]) h1
        have g2 := lit_yes (x := [60]) h2
        unfold holdsB
        rw [if_neg h0]
        rw [if_neg h1]
        rw [if_pos h2]
        clear h0 h1 h2
        go_enter Try.func15, Try.ntmps15
        go_wp2_with fail
        go_ret2
        exact ⟨rfl, rfl⟩
      · by_cases h3 : o = ⟨#[60, 61]⟩
        · have g0 := lit_no (x := [61]) h0
          have g1 := lit_no (x := [33, 61]) h1
          have g2 := lit_no (x := [60]) h2
          have g3 := lit_yes (x := [60, 61]) h3
          unfold holdsB
          rw [if_neg h0]
          rw [if_neg h1]
          rw [if_neg h2]
          rw [if_pos h3]
          clear h0 h1 h2 h3
          go_enter Try.func15, Try.ntmps15
          go_wp2_with fail
          go_ret2
          exact ⟨rfl, rfl⟩
        · by_cases h4 : o = ⟨#[62]⟩
          · have g0 := lit_no (x := [61]) h0
            have g1 := lit_no (x := [33, 61]) h1
            have g2 := lit_no (x := [60]) h2
            have g3 := lit_no (x := [60, 61]) h3
            have g4 := lit_yes (x := [62]) h4
            unfold holdsB
            rw [if_neg h0]
            rw [if_neg h1]
            rw [if_neg h2]
            rw [if_neg h3]
            rw [if_pos h4]
            clear h0 h1 h2 h3 h4
            go_enter Try.func15, Try.ntmps15
            go_wp2_with fail
            go_ret2
            exact ⟨rfl, rfl⟩
          · by_cases h5 : o = ⟨#[62, 61]⟩
            · have g0 := lit_no (x := [61]) h0
              have g1 := lit_no (x := [33, 61]) h1
              have g2 := lit_no (x := [60]) h2
              have g3 := lit_no (x := [60, 61]) h3
              have g4 := lit_no (x := [62]) h4
              have g5 := lit_yes (x := [62, 61]) h5
              unfold holdsB
              rw [if_neg h0]
              rw [if_neg h1]
              rw [if_neg h2]
              rw [if_neg h3]
              rw [if_neg h4]
              rw [if_pos h5]
              clear h0 h1 h2 h3 h4 h5
              go_enter Try.func15, Try.ntmps15
              go_wp2_with fail
              go_ret2
              exact ⟨rfl, rfl⟩
            · have g0 := lit_no (x := [61]) h0
              have g1 := lit_no (x := [33, 61]) h1
              have g2 := lit_no (x := [60]) h2
              have g3 := lit_no (x := [60, 61]) h3
              have g4 := lit_no (x := [62]) h4
              have g5 := lit_no (x := [62, 61]) h5
              unfold holdsB
              rw [if_neg h0]
              rw [if_neg h1]
              rw [if_neg h2]
              rw [if_neg h3]
              rw [if_neg h4]
              rw [if_neg h5]
              clear h0 h1 h2 h3 h4 h5
              go_enter Try.func15, Try.ntmps15
              go_wp2_with fail
              go_ret2
              exact ⟨rfl, rfl⟩

end Go.Proofs.Ytcmcnmmhkpolcaa
