/-
  No statement: a stamp in a block of its own.
-/
import Derived.Test.YtdghknmlleffbaaDoorSKnown
namespace Go.Proofs.YtdghknmlleffbaaDoor
open Go.RowKit

/-- A stamp lies in block B. -/
def StAt (B : Nat) (t i q : Int) (o : ByteArray) (w : World) : Prop := w.heap[B]? = some (.cells #[.int .i64 t, .int .i64 i, .int .i64 q, .string o] 43 (0, 0))

theorem StAt.kept {B : Nat} {t i q : Int} {o : ByteArray} {w w' : World} (h : StAt B t i q o w) (hb : Below w.heap.size w w') : StAt B t i q o w' := (hb.block _ (lt_of_block h)).trans h

theorem long_of {n : Nat} (h : ¬ n ≤ 100) : decide ((100 : Int) < (n : Int)) = true := decide_eq_true (by omega)

end Go.Proofs.YtdghknmlleffbaaDoor
