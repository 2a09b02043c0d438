/-
  Proved: any two programs: whether they may be, which is newer; which names are kept
-/
import Derived.Test.YtgfkjkokmcejbaaGreatDoorVT19
import Derived.Test.YtgfkjkokmcejbaaGreatDoorVTF
import Derived.Test.YtgfkjkokmcejbaaGreatDoorVTG
namespace Go.Proofs.YtgfkjkokmcejbaaGreatDoor
open Go.ChangeShapes Go.WideShapes Go.ChangeAt Go.RowKit
open Go.ChangeMaps (open_string shut_string)

theorem progTwo_over : Rows.ProgTwoSaid :=
  OpenClaim.holds_of_wide 5 Tryz.f5 rfl rfl rfl rfl rfl rfl rfl ⟨rfl, rfl, rfl, rfl, rfl⟩ rfl rfl rfl rfl rfl (by kernel_rfl) Tryz.func5 progTwo_joined
    (of_decide_eq_true (by kernel_rfl)) (by unfold Func.isWrapper; first | (rw [if_pos (by decide +kernel)]; kernel_rfl) | (rw [if_neg (by decide +kernel)]; exact ⟨rfl, rfl⟩))
    (fun os started H enc _ => progTwo_lifted os started H enc)

/-- any two programs: whether they may be, which is newer; which names are kept -/
theorem progTwo_card : Rows.ProgTwoCardSaid :=
  Claim7.holds_tied_plain_at .later [] [.data, .data, .data, .data, .sentinel, .sentinel, .pinned] true Rows.progTwoCard.stood.harness true
    progTwo_over (fun _ h => by cases h) (by kernel_rfl) (fun _ h => by cases h) progTwo_row_tie rfl ⟨rfl, rfl⟩ (by kernel_rfl) rfl
    (fun f fn hf hfn => by
      obtain rfl : f = 5 := Option.some.inj ((show Tryz.prog.funcNamed _ = some 5 by kernel_rfl).symm.trans hf) |>.symm
      obtain rfl : fn = Tryz.f5 := (Option.some.inj (Tryz.func5.symm.trans hfn)).symm
      exact ⟨by kernel_rfl, fun j t ht => by
        rw [Tryz.params5] at ht
        have hm : t ∈ [46, 46, 9] := by simpa using Array.mem_of_getElem? ht
        have hall : ([46, 46, 9].all fun u => !Tryz.prog.wantsStandIn u) = true := by kernel_rfl
        exact (show Tryz.prog.wantsStandIn t = false by simpa using List.all_eq_true.1 hall t hm)⟩)
    progTwo_goes
#print axioms progTwo_card
end Go.Proofs.YtgfkjkokmcejbaaGreatDoor
