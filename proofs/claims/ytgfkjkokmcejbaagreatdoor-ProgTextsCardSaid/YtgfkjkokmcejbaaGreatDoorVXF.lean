/-
  No statement: closed facts of the row of ProgTexts.
-/
import Derived.Test.YtgfkjkokmcejbaaGreatDoorCards
import Derived.Test.YtgfkjkokmcejbaaGreatDoorChecked
import Derived.JoinedOf
import Derived.SevenTiedAt
import Derived.ProofKit
namespace Go.Proofs.YtgfkjkokmcejbaaGreatDoor
open Go.ChangeShapes Go.WideShapes Go.ChangeAt Go.RowKit

theorem progTexts_m0 : (Rows.progTextsRow.inPlace == Tryz.pinned.checked.prog.inPlace 3) = true := by kernel_rfl
theorem progTexts_m1 : (Rows.progTextsRow.unfollowed == Tryz.pinned.checked.prog.unfollowed 3) = true := by kernel_rfl
theorem progTexts_m2 : (Rows.progTextsRow.recurses == Tryz.pinned.checked.prog.recurses 3) = true := by kernel_rfl
theorem progTexts_m3 : (Rows.progTextsRow.named == Tryz.pinned.checked.prog.varsNamed 3) = true := by kernel_rfl
theorem progTexts_joined : joinedFacts Tryz.pinned.checked.prog 3 Tryz.f3 Rows.progTextsSpec Rows.progTextsRow = true := by
  unfold joinedFacts
  rw [progTexts_m0, progTexts_m1, progTexts_m2, progTexts_m3]
  kernel_rfl

end Go.Proofs.YtgfkjkokmcejbaaGreatDoor
