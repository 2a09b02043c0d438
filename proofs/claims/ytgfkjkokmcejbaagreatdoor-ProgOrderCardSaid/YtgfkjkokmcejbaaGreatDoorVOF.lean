/-
  No statement: closed facts of the row of ProgOrder.
-/
import Derived.Test.YtgfkjkokmcejbaaGreatDoorCards
import Derived.Test.YtgfkjkokmcejbaaGreatDoorChecked
import Derived.JoinedOf
import Derived.SevenTiedAt
import Derived.ProofKit
namespace Go.Proofs.YtgfkjkokmcejbaaGreatDoor
open Go.ChangeShapes Go.WideShapes Go.ChangeAt Go.RowKit

theorem progOrder_m0 : (Rows.progOrderRow.inPlace == Tryz.pinned.checked.prog.inPlace 7) = true := by kernel_rfl
theorem progOrder_m1 : (Rows.progOrderRow.unfollowed == Tryz.pinned.checked.prog.unfollowed 7) = true := by kernel_rfl
theorem progOrder_m2 : (Rows.progOrderRow.recurses == Tryz.pinned.checked.prog.recurses 7) = true := by kernel_rfl
theorem progOrder_m3 : (Rows.progOrderRow.named == Tryz.pinned.checked.prog.varsNamed 7) = true := by kernel_rfl
theorem progOrder_joined : joinedFacts Tryz.pinned.checked.prog 7 Tryz.f7 Rows.progOrderSpec Rows.progOrderRow = true := by
  unfold joinedFacts
  rw [progOrder_m0, progOrder_m1, progOrder_m2, progOrder_m3]
  kernel_rfl

end Go.Proofs.YtgfkjkokmcejbaaGreatDoor
