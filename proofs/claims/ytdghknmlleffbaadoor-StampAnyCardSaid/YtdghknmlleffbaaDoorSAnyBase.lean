/-
  No statement: the order of stamps, turned; the law's own Of.
-/
import Derived.Test.YtdghknmlleffbaaDoorStAt
import Derived.Test.YtdghknmlleffbaaDoorSTurn
import Derived.Test.YtdghknmlleffbaaDoorRStamp
import Derived.Deep.RegionHeld3
import Derived.IntWalk
namespace Go.Proofs.YtdghknmlleffbaaDoor
open Go.RowKit

set_option maxHeartbeats 1000000 in
theorem ofS_any (t i q : Int) (o : ByteArray) (w : World) : Calls Tryd.prog 22 #[stp t i q o] w fun e w' => e = .returned (stp t i q o) ∧ Below w.heap.size w w' := by
  unfold stp
  go_enter Tryd.func22, Tryd.ntmps22
  go_wp2_with fail
  exact bodyPost_ret (v := .agg #[.int .i64 t, .int .i64 i, .int .i64 q, .string o]) (by simp [results, Tryd.results22, go_sem]) rfl ⟨rfl, ((Below.refl _ _).alloc (Nat.le_refl _) _).alloc (by simp) _⟩

end Go.Proofs.YtdghknmlleffbaaDoor
