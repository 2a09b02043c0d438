/-
  No statement: cantonlaw1.name: a text by a number; nothing that was there is turned.
-/
import Derived.Test.YtbfnoflemmneoaaBase
import Derived.Test.YtbfnoflemmneoaaProg
import Derived.Laws.BytesArg
namespace Go.Proofs.Ytbfnoflemmneoaa
open Go.RowKit

/-- The text that a number gets. -/
def nm (n : Int) : ByteArray := ({ data := #[118] } : ByteArray) ++ strOfNums [wrap64 (97 + bits BinOp.and IntKind.i64 n 15) % 256]

set_option maxHeartbeats 1000000 in
set_option maxRecDepth 100000 in
theorem name_any (n : Int) (w : World) : Calls Try.prog 21 #[.int .i64 n] w fun e w' => e = .returned (.string (nm n)) ∧ Kept (fun _ => False) w w' := by
  have hcv : ∀ m : Int, (convert 70 9 (.slice (some ⟨w.heap.size, 0, none⟩) 1 1)).run Try.prog (w.alloc (.cells #[.int .u8 m] 5)) = .ok (.string (strOfNums [m])) (w.alloc (.cells #[.int .u8 m] 5)) := fun m =>
    run_convert_bytes_arg _ _ _ (by kernel_rfl : Try.prog.underlying 70 = some (.slice 5)) (by kernel_rfl) w.heap.size 0 1 1 [m] rfl (fun i hi => by
      obtain rfl : i = 0 := by omega
      simp) _ (by kernel_rfl)
  go_enter Try.func21, Try.ntmps21
  go_wp2
  go_ret
  exact ⟨rfl, (Kept.refl _ w).alloc _⟩

end Go.Proofs.Ytbfnoflemmneoaa
