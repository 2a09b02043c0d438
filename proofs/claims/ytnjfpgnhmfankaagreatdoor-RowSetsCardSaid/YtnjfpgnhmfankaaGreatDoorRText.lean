/-
  No statement: the contract of the document's own ValueText.
-/
import Derived.Test.YtnjfpgnhmfankaaGreatDoorRDec
import Derived.Test.YtnjfpgnhmfankaaGreatDoorVText
namespace Go.Proofs.YtnjfpgnhmfankaaGreatDoor
open Go.RowKit

end Go.Proofs.YtnjfpgnhmfankaaGreatDoor
