/-
  No statement: a closed fact of the card of ProgOrder.
-/
import Derived.Test.YtgfkjkokmcejbaaGreatDoorCards
import Derived.Test.YtgfkjkokmcejbaaGreatDoorChecked
import Derived.JoinedOf
import Derived.SevenTiedAt
import Derived.ProofKit
namespace Go.Proofs.YtgfkjkokmcejbaaGreatDoor
open Go.ChangeShapes Go.WideShapes Go.ChangeAt Go.RowKit

theorem progOrder_goes : false = Rows.progOrderRow.goesBy Tryz.pinned.checked.prog := by kernel_rfl

end Go.Proofs.YtgfkjkokmcejbaaGreatDoor
