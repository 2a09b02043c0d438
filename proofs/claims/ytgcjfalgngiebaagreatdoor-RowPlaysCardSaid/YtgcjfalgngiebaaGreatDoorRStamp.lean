/-
  No statement: the contracts of the document's CheckStamp, Compare and StampText.
-/
import Derived.Test.YtgcjfalgngiebaaGreatDoorRNode
import Derived.Test.YtgcjfalgngiebaaGreatDoorRDec
import Derived.Test.YtgcjfalgngiebaaGreatDoorSCmp
import Derived.Test.YtgcjfalgngiebaaGreatDoorSText
import Derived.StillTailTactics
import Derived.RangeFuncRecord
import Derived.Deep.RegionHeld3
namespace Go.Proofs.YtgcjfalgngiebaaGreatDoor
open Go.RowKit

end Go.Proofs.YtgcjfalgngiebaaGreatDoor
