/-
  No statement: the contracts of the document's own Of, Order, OrderText, Decimal.
-/
import Derived.Test.YtfenfgbkphpboaaVCmp
import Derived.Laws.IdiomStrings
namespace Go.Proofs.Ytfenfgbkphpboaa
open Go.RowKit

set_option maxHeartbeats 1000000 in
theorem order_any (a b : Int) (w : World) : Calls Try.prog 51 #[.int .i64 a, .int .i64 b] w fun e w' => e = .returned (.int .i64 (cmpI a b)) ∧ w = w' := by
  have hc : a < b ∨ b < a ∨ a = b := by omega
  rcases hc with h | h | rfl
  · rw [show cmpI a b = -1 by unfold cmpI; rw [if_pos h]]
    go_enter Try.func51, Try.ntmps51
    go_wp2
    go_ret
    exact ⟨rfl, rfl⟩
  · rw [show cmpI a b = 1 by unfold cmpI; rw [if_neg (by omega), if_pos h]]
    go_enter Try.func51, Try.ntmps51
    go_wp2
    go_ret
    exact ⟨rfl, rfl⟩
  · rw [cmpI_self]
    go_enter Try.func51, Try.ntmps51
    go_wp2
    go_ret
    exact ⟨rfl, rfl⟩

set_option maxHeartbeats 1000000 in
theorem orderText_any (a b : ByteArray) (w : World) : Calls Try.prog 52 #[.string a, .string b] w fun e w' => e = .returned (.int .i64 (cmpS a b)) ∧ w = w' := by
  by_cases h : Op.bytesLess a.toList b.toList = true
  · rw [show cmpS a b = -1 by unfold cmpS; rw [if_pos h]]
    go_enter Try.func52, Try.ntmps52
    go_wp2
    go_ret
    exact ⟨rfl, rfl⟩
  · have h' : Op.bytesLess a.toList b.toList = false := by simpa using h
    by_cases k : Op.bytesLess b.toList a.toList = true
    · rw [show cmpS a b = 1 by unfold cmpS; rw [if_neg h, if_pos k]]
      have q : (a.toList == b.toList) = false := by
        rw [beq_eq_false_iff_ne]; intro e
        rw [e, bytesLess_irrefl] at k; cases k
      clear h
      go_enter Try.func52, Try.ntmps52
      go_wp2
      go_ret
      exact ⟨rfl, rfl⟩
    · have k' : Op.bytesLess b.toList a.toList = false := by simpa using k
      rw [show cmpS a b = 0 by unfold cmpS; rw [if_neg h, if_neg k]]
      obtain rfl : a = b := bytes_eq (bytesLess_total _ _ h' k')
      clear h k k'
      go_enter Try.func52, Try.ntmps52
      go_wp2
      go_ret
      exact ⟨rfl, rfl⟩

set_option maxHeartbeats 1000000 in
theorem of2_any (k n : Int) (s : ByteArray) (a : Option Addr) (len cap : Nat) (w : World) : Calls Try.prog 12 #[val k n s (.slice a len cap)] w fun e w' => e = .returned (val k n s (.slice a len cap)) ∧ Below w.heap.size w w' := by
  unfold val
  go_enter Try.func12, Try.ntmps12
  go_wp2
  exact bodyPost_ret (v := .agg #[.int .i64 k, .int .i64 n, .string s, .slice a len cap]) (by simp [results, Try.results12, go_sem]) rfl ⟨rfl, ((Below.refl _ _).alloc (Nat.le_refl _) _).alloc (by simp) _⟩

end Go.Proofs.Ytfenfgbkphpboaa
