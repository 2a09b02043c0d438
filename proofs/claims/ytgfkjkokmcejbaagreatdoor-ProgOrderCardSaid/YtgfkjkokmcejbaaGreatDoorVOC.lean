/-
  Proved: which program is newer is an order
-/
import Derived.Test.YtgfkjkokmcejbaaGreatDoorVO14
import Derived.Test.YtgfkjkokmcejbaaGreatDoorVOF
import Derived.Test.YtgfkjkokmcejbaaGreatDoorVOG
namespace Go.Proofs.YtgfkjkokmcejbaaGreatDoor
open Go.ChangeShapes Go.WideShapes Go.ChangeAt Go.RowKit
open Go.ChangeMaps (open_string shut_string)

theorem progOrder_over : Rows.ProgOrderSaid :=
  OpenClaim.holds_of_wide 7 Tryz.f7 rfl rfl rfl rfl rfl rfl rfl ⟨rfl, rfl, rfl, rfl, rfl⟩ rfl rfl rfl rfl rfl (by kernel_rfl) Tryz.func7 progOrder_joined
    (of_decide_eq_true (by kernel_rfl)) (by unfold Func.isWrapper; first | (rw [if_pos (by decide +kernel)]; kernel_rfl) | (rw [if_neg (by decide +kernel)]; exact ⟨rfl, rfl⟩))
    (fun os started H enc _ => progOrder_lifted os started H enc)

/-- which program is newer is an order -/
theorem progOrder_card : Rows.ProgOrderCardSaid :=
  Claim7.holds_tied_plain_at .later [] [.data, .data, .data, .data, .sentinel, .sentinel, .pinned] true Rows.progOrderCard.stood.harness true
    progOrder_over (fun _ h => by cases h) (by kernel_rfl) (fun _ h => by cases h) progOrder_row_tie rfl ⟨rfl, rfl⟩ (by kernel_rfl) rfl
    (fun f fn hf hfn => by
      obtain rfl : f = 7 := Option.some.inj ((show Tryz.prog.funcNamed _ = some 7 by kernel_rfl).symm.trans hf) |>.symm
      obtain rfl : fn = Tryz.f7 := (Option.some.inj (Tryz.func7.symm.trans hfn)).symm
      exact ⟨by kernel_rfl, fun j t ht => by
        rw [Tryz.params7] at ht
        have hm : t ∈ [46, 46, 46] := by simpa using Array.mem_of_getElem? ht
        have hall : ([46, 46, 46].all fun u => !Tryz.prog.wantsStandIn u) = true := by kernel_rfl
        exact (show Tryz.prog.wantsStandIn t = false by simpa using List.all_eq_true.1 hall t hm)⟩)
    progOrder_goes
#print axioms progOrder_card
end Go.Proofs.YtgfkjkokmcejbaaGreatDoor
