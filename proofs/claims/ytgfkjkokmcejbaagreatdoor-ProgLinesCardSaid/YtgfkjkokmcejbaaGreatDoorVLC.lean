/-
  Proved: as many lines as may be, each name once; one more is too long, at its place; a name twice, or a kept one, is refused at its own
-/
import Derived.Test.YtgfkjkokmcejbaaGreatDoorVL14
import Derived.Test.YtgfkjkokmcejbaaGreatDoorVLF
import Derived.Test.YtgfkjkokmcejbaaGreatDoorVLG
namespace Go.Proofs.YtgfkjkokmcejbaaGreatDoor
open Go.ChangeShapes Go.WideShapes Go.ChangeAt Go.RowKit
open Go.ChangeMaps (open_string shut_string)

theorem progLines_over : Rows.ProgLinesSaid :=
  OpenClaim.holds_of_wide 6 Tryz.f6 rfl rfl rfl rfl rfl rfl rfl ⟨rfl, rfl, rfl, rfl, rfl⟩ rfl rfl rfl rfl rfl (by kernel_rfl) Tryz.func6 progLines_joined
    (of_decide_eq_true (by kernel_rfl)) (by unfold Func.isWrapper; first | (rw [if_pos (by decide +kernel)]; kernel_rfl) | (rw [if_neg (by decide +kernel)]; exact ⟨rfl, rfl⟩))
    (fun os started H enc _ => progLines_lifted os started H enc)

/-- as many lines as may be, each name once; one more is too long, at its place; a name twice, or a kept one, is refused at its own -/
theorem progLines_card : Rows.ProgLinesCardSaid :=
  Claim7.holds_tied_plain_at .later [] [.data, .data, .data, .data, .sentinel, .sentinel, .pinned] true Rows.progLinesCard.stood.harness true
    progLines_over (fun _ h => by cases h) (by kernel_rfl) (fun _ h => by cases h) progLines_row_tie rfl ⟨rfl, rfl⟩ (by kernel_rfl) rfl
    (fun f fn hf hfn => by
      obtain rfl : f = 6 := Option.some.inj ((show Tryz.prog.funcNamed _ = some 6 by kernel_rfl).symm.trans hf) |>.symm
      obtain rfl : fn = Tryz.f6 := (Option.some.inj (Tryz.func6.symm.trans hfn)).symm
      exact ⟨by kernel_rfl, fun j t ht => by
        rw [Tryz.params6] at ht
        have hm : t ∈ [5, 5, 5] := by simpa using Array.mem_of_getElem? ht
        have hall : ([5, 5, 5].all fun u => !Tryz.prog.wantsStandIn u) = true := by kernel_rfl
        exact (show Tryz.prog.wantsStandIn t = false by simpa using List.all_eq_true.1 hall t hm)⟩)
    progLines_goes
#print axioms progLines_card
end Go.Proofs.YtgfkjkokmcejbaaGreatDoor
