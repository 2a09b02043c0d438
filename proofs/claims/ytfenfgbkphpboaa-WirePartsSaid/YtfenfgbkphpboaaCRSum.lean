/-
  No statement: the document's own sum.
-/
import Derived.Test.YtfenfgbkphpboaaCSum
namespace Go.Proofs.Ytfenfgbkphpboaa
open Go.RowKit

theorem and_u32 (s : Nat) (h : s < 4294967296) : bits .and .u32 (s : Int) 1 = ((s % 2 : Nat) : Int) := by
  have := bits_mask .u32 32 (by decide) (fun n h0 h1 => by rw [IntKind.wrap_u32]; omega) 1 (by decide) (s : Int) (by omega) (by omega)
  simpa using this

end Go.Proofs.Ytfenfgbkphpboaa
