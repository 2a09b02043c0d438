/-
  No statement: the contract of the document's own RowText.
-/
import Derived.Test.YtgcjfalgngiebaaGreatDoorXSame
import Derived.Test.YtgcjfalgngiebaaGreatDoorRText
namespace Go.Proofs.YtgcjfalgngiebaaGreatDoor
open Go.RowKit

theorem mk_list (l : List UInt8) : (⟨l.toArray⟩ : ByteArray).data.toList = l := by simp

end Go.Proofs.YtgcjfalgngiebaaGreatDoor
