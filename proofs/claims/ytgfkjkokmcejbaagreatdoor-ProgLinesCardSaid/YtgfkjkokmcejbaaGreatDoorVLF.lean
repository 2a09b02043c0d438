/-
  No statement: closed facts of the row of ProgLines.
-/
import Derived.Test.YtgfkjkokmcejbaaGreatDoorCards
import Derived.Test.YtgfkjkokmcejbaaGreatDoorChecked
import Derived.JoinedOf
import Derived.SevenTiedAt
import Derived.ProofKit
namespace Go.Proofs.YtgfkjkokmcejbaaGreatDoor
open Go.ChangeShapes Go.WideShapes Go.ChangeAt Go.RowKit

theorem progLines_m0 : (Rows.progLinesRow.inPlace == Tryz.pinned.checked.prog.inPlace 6) = true := by kernel_rfl
theorem progLines_m1 : (Rows.progLinesRow.unfollowed == Tryz.pinned.checked.prog.unfollowed 6) = true := by kernel_rfl
theorem progLines_m2 : (Rows.progLinesRow.recurses == Tryz.pinned.checked.prog.recurses 6) = true := by kernel_rfl
theorem progLines_m3 : (Rows.progLinesRow.named == Tryz.pinned.checked.prog.varsNamed 6) = true := by kernel_rfl
theorem progLines_joined : joinedFacts Tryz.pinned.checked.prog 6 Tryz.f6 Rows.progLinesSpec Rows.progLinesRow = true := by
  unfold joinedFacts
  rw [progLines_m0, progLines_m1, progLines_m2, progLines_m3]
  kernel_rfl

end Go.Proofs.YtgfkjkokmcejbaaGreatDoor
