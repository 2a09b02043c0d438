/-
  No statement: the contract of the document's own Check of a row.
-/
import Derived.Test.YtgcjfalgngiebaaGreatDoorWText
import Derived.Test.YtgcjfalgngiebaaGreatDoorRCheck
import Derived.Test.YtgcjfalgngiebaaGreatDoorRStamp
import Derived.Deep.QuietTactic
import Derived.BigQuiet
import Derived.IntWalk
namespace Go.Proofs.YtgcjfalgngiebaaGreatDoor
open Go.RowKit

/-- The name ahead of the k-th attribute. -/
def prevA (A : Nat → AD) (k : Nat) : ByteArray := if k = 0 then ⟨#[]⟩ else (A (k - 1)).m

theorem leS_of {p m : ByteArray} (h : lsS p m = false) : (Op.bytesLess p.toList m.toList) = false := h

end Go.Proofs.YtgcjfalgngiebaaGreatDoor
