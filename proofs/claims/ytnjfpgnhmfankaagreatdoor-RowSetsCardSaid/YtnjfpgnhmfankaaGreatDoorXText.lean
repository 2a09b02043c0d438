/-
  No statement: the contract of the document's own RowText.
-/
import Derived.Test.YtnjfpgnhmfankaaGreatDoorXSame
import Derived.Test.YtnjfpgnhmfankaaGreatDoorRText
namespace Go.Proofs.YtnjfpgnhmfankaaGreatDoor
open Go.RowKit

theorem mk_list (l : List UInt8) : (⟨l.toArray⟩ : ByteArray).data.toList = l := by simp

end Go.Proofs.YtnjfpgnhmfankaaGreatDoor
