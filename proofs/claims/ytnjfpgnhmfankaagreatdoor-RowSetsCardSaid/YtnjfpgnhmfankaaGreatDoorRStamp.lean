/-
  No statement: the contracts of the document's CheckStamp, Compare and StampText.
-/
import Derived.Test.YtnjfpgnhmfankaaGreatDoorRNode
import Derived.Test.YtnjfpgnhmfankaaGreatDoorRDec
import Derived.Test.YtnjfpgnhmfankaaGreatDoorSCmp
import Derived.Test.YtnjfpgnhmfankaaGreatDoorSText
import Derived.StillTailTactics
import Derived.RangeFuncRecord
import Derived.Deep.RegionHeld3
namespace Go.Proofs.YtnjfpgnhmfankaaGreatDoor
open Go.RowKit

set_option maxHeartbeats 1000000 in
theorem rCheckStamp_any (t i q : Int) (o : ByteArray) (hm : o.size ≤ 1000) (w : World) : Calls Tryz.prog 64 #[stp t i q o] w fun e w' => e = .returned (.int .i64 (errS t i q o)) ∧ Below w.heap.size w w' := by
  have C1 := fun w => rIn_any t w
  have C2 := fun w => rIn_any i w
  have C3 := fun w => rIn_any q w
  have C4 := fun w => rNode_any o hm w
  obtain ⟨b1, h1⟩ : ∃ b, countB t = b := ⟨_, rfl⟩
  obtain ⟨b2, h2⟩ : ∃ b, countB i = b := ⟨_, rfl⟩
  obtain ⟨b3, h3⟩ : ∃ b, countB q = b := ⟨_, rfl⟩
  obtain ⟨b4, h4⟩ : ∃ b, nodeB o.data.toList = b := ⟨_, rfl⟩
  unfold errS
  rw [h1] at C1 ⊢
  rw [h2] at C2 ⊢
  rw [h3] at C3 ⊢
  rw [h4] at C4 ⊢
  clear h1 h2 h3 h4
  have D1 := Lib.hid C1
  have D2 := Lib.hid C2
  have D3 := Lib.hid C3
  have D4 := Lib.hid C4
  clear C1 C2 C3 C4
  unfold stp
  cases b1 with
  | false =>
    go_enter Tryz.func64, Tryz.ntmps64
    go_wp2_with fail
    refine (D1.out _).mono ?_
    rintro e w1 ⟨rfl, rfl⟩
    go_wp2_with fail
    go_ret
    exact ⟨rfl, (Below.refl _ _).alloc (Nat.le_refl _) _⟩
  | true =>
    cases b2 with
    | false =>
      go_enter Tryz.func64, Tryz.ntmps64
      go_wp2_with fail
      refine (D1.out _).mono ?_
      rintro e w1 ⟨rfl, rfl⟩
      go_wp2_with fail
      refine (D2.out _).mono ?_
      rintro e w1 ⟨rfl, rfl⟩
      go_wp2_with fail
      go_ret
      exact ⟨rfl, (Below.refl _ _).alloc (Nat.le_refl _) _⟩
    | true =>
      cases b3 with
      | false =>
        go_enter Tryz.func64, Tryz.ntmps64
        go_wp2_with fail
        refine (D1.out _).mono ?_
        rintro e w1 ⟨rfl, rfl⟩
        go_wp2_with fail
        refine (D2.out _).mono ?_
        rintro e w1 ⟨rfl, rfl⟩
        go_wp2_with fail
        refine (D3.out _).mono ?_
        rintro e w1 ⟨rfl, rfl⟩
        go_wp2_with fail
        go_ret
        exact ⟨rfl, (Below.refl _ _).alloc (Nat.le_refl _) _⟩
      | true =>
        cases b4 with
        | false =>
          go_enter Tryz.func64, Tryz.ntmps64
          go_wp2_with fail
          refine (D1.out _).mono ?_
          rintro e w1 ⟨rfl, rfl⟩
          go_wp2_with fail
          refine (D2.out _).mono ?_
          rintro e w1 ⟨rfl, rfl⟩
          go_wp2_with fail
          refine (D3.out _).mono ?_
          rintro e w1 ⟨rfl, rfl⟩
          go_wp2_with fail
          refine (D4.out _).mono ?_
          rintro e w1 ⟨rfl, hb⟩
          have HB := Lib.hid hb
          clear hb
          go_wp2_with fail
          go_ret
          exact ⟨rfl, ((Below.refl _ _).alloc (Nat.le_refl _) _).trans (HB.out.mono (by simp))⟩
        | true =>
          go_enter Tryz.func64, Tryz.ntmps64
          go_wp2_with fail
          refine (D1.out _).mono ?_
          rintro e w1 ⟨rfl, rfl⟩
          go_wp2_with fail
          refine (D2.out _).mono ?_
          rintro e w1 ⟨rfl, rfl⟩
          go_wp2_with fail
          refine (D3.out _).mono ?_
          rintro e w1 ⟨rfl, rfl⟩
          go_wp2_with fail
          refine (D4.out _).mono ?_
          rintro e w1 ⟨rfl, hb⟩
          have HB := Lib.hid hb
          clear hb
          go_wp2_with fail
          go_ret
          exact ⟨rfl, ((Below.refl _ _).alloc (Nat.le_refl _) _).trans (HB.out.mono (by simp))⟩

end Go.Proofs.YtnjfpgnhmfankaaGreatDoor
