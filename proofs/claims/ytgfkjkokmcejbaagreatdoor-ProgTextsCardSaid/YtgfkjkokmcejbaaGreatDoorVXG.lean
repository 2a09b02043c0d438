/-
  No statement: a closed fact of the card of ProgTexts.
-/
import Derived.Test.YtgfkjkokmcejbaaGreatDoorCards
import Derived.Test.YtgfkjkokmcejbaaGreatDoorChecked
import Derived.JoinedOf
import Derived.SevenTiedAt
import Derived.ProofKit
namespace Go.Proofs.YtgfkjkokmcejbaaGreatDoor
open Go.ChangeShapes Go.WideShapes Go.ChangeAt Go.RowKit

theorem progTexts_goes : false = Rows.progTextsRow.goesBy Tryz.pinned.checked.prog := by kernel_rfl

end Go.Proofs.YtgfkjkokmcejbaaGreatDoor
