/-
  No statement: closed facts of the row of ProgTwo.
-/
import Derived.Test.YtgfkjkokmcejbaaGreatDoorCards
import Derived.Test.YtgfkjkokmcejbaaGreatDoorChecked
import Derived.JoinedOf
import Derived.SevenTiedAt
import Derived.ProofKit
namespace Go.Proofs.YtgfkjkokmcejbaaGreatDoor
open Go.ChangeShapes Go.WideShapes Go.ChangeAt Go.RowKit

theorem progTwo_m0 : (Rows.progTwoRow.inPlace == Tryz.pinned.checked.prog.inPlace 5) = true := by kernel_rfl
theorem progTwo_m1 : (Rows.progTwoRow.unfollowed == Tryz.pinned.checked.prog.unfollowed 5) = true := by kernel_rfl
theorem progTwo_m2 : (Rows.progTwoRow.recurses == Tryz.pinned.checked.prog.recurses 5) = true := by kernel_rfl
theorem progTwo_m3 : (Rows.progTwoRow.named == Tryz.pinned.checked.prog.varsNamed 5) = true := by kernel_rfl
theorem progTwo_joined : joinedFacts Tryz.pinned.checked.prog 5 Tryz.f5 Rows.progTwoSpec Rows.progTwoRow = true := by
  unfold joinedFacts
  rw [progTwo_m0, progTwo_m1, progTwo_m2, progTwo_m3]
  kernel_rfl

end Go.Proofs.YtgfkjkokmcejbaaGreatDoor
