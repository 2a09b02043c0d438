/-
  No statement: fold and unfold of package codec.
-/
import Derived.Test.YtfenfgbkphpboaaCMath
import Derived.Test.YtfenfgbkphpboaaProg
import Derived.Test.YtfenfgbkphpboaaBase
import Derived.WalkKit
import Derived.WalkSpells
import Derived.IntWalk
import Derived.Lib.Hide
namespace Go.Proofs.Ytfenfgbkphpboaa
open Go.RowKit

theorem ret_u64 {a b : Int} (h : a = b) : Ending.returned (.int .u64 a) = .returned (.int .u64 b) := by rw [h]
theorem ret_i64' {a b : Int} (h : a = b) : Ending.returned (.int .i64 a) = .returned (.int .i64 b) := by rw [h]

set_option maxHeartbeats 1000000 in
theorem fold_any (n : Int) (h0 : -9223372036854775808 ≤ n) (h1 : n ≤ 9223372036854775807) (w : World) : Calls Try.prog 68 #[.int .i64 n] w fun e w' => e = .returned (.int .u64 (Lib.zigzag n : Nat)) ∧ w' = w := by
  by_cases hn : n < 0
  · have hz := Lib.zigzag_neg h0 hn
    go_enter Try.func68, Try.ntmps68
    go_wp2_with fail
    go_ret
    exact ⟨rfl, rfl⟩
  · have hz := Lib.hid (Lib.zigzag_nonneg (show 0 ≤ n by omega))
    go_enter Try.func68, Try.ntmps68
    go_wp2_with fail
    go_ret
    exact ⟨ret_u64 hz.out.symm, rfl⟩

set_option maxHeartbeats 1000000 in
theorem unfold_any (u : Nat) (h : u < 18446744073709551616) (w : World) : Calls Try.prog 87 #[.int .u64 u] w fun e w' => e = .returned (.int .i64 (Lib.unzigzag u)) ∧ w' = w := by
  by_cases hu : u % 2 = 0
  · have hz := Lib.hid (show Lib.unzigzag u = (u : Int) / 2 by unfold Lib.unzigzag; rw [if_pos hu]; omega)
    have h2 : ((u : Int) % 2 == 1) = false := by rw [beq_eq_false_iff_ne]; omega
    clear hu
    go_enter Try.func87, Try.ntmps87
    go_wp2_with fail
    go_ret
    exact ⟨ret_i64' hz.out.symm, rfl⟩
  · have hz := Lib.hid (show Lib.unzigzag u = -((u / 2 : Nat) : Int) - 1 by unfold Lib.unzigzag; rw [if_neg hu])
    have h2 : ((u : Int) % 2 == 1) = true := by rw [beq_iff_eq]; omega
    have hx := Lib.hid (Lib.i64_not (u / 2) (by omega))
    clear hu
    go_enter Try.func87, Try.ntmps87
    go_wp2_with fail
    go_ret
    exact ⟨ret_i64' (by rw [hz.out, ← hx.out]; congr 1), rfl⟩

end Go.Proofs.Ytfenfgbkphpboaa
