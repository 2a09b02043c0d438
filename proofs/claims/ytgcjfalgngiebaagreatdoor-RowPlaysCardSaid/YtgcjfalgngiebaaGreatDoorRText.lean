/-
  No statement: the contract of the document's own ValueText.
-/
import Derived.Test.YtgcjfalgngiebaaGreatDoorRDec
import Derived.Test.YtgcjfalgngiebaaGreatDoorVText
namespace Go.Proofs.YtgcjfalgngiebaaGreatDoor
open Go.RowKit

end Go.Proofs.YtgcjfalgngiebaaGreatDoor
