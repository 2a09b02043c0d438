/-
  No statement: contracts of Mul of package value, and of the document's own (P202).
-/
import Derived.Test.YtncmpiaonpgdbaaDoorVNum
import Derived.Test.YtncmpiaonpgdbaaDoorShelf
namespace Go.Proofs.YtncmpiaonpgdbaaDoor
open Go.RowKit

theorem mul64_any (x y : Nat) (hx : x < 18446744073709551616) (hy : y < 18446744073709551616) (H L : Int) (hH : ((x * y / 18446744073709551616 : Nat) : Int) = H) (hL : ((x * y % 18446744073709551616 : Nat) : Int) = L) (w : World) :
    Calls Tryd.prog 47 #[.int .u64 x, .int .u64 y] w fun e w' => e = .returned (.tuple #[.int .u64 H, .int .u64 L]) ∧ w = w' := by
  subst hH; subst hL
  exact (Tryd.bits_Mul64 x y hx hy w).mono fun e w' ⟨h, k⟩ => ⟨h, k.symm⟩

theorem mul_natAbs (a b : Int) : a * b = if a < 0 then (if b < 0 then ((a.natAbs * b.natAbs : Nat) : Int) else -((a.natAbs * b.natAbs : Nat) : Int)) else (if b < 0 then -((a.natAbs * b.natAbs : Nat) : Int) else ((a.natAbs * b.natAbs : Nat) : Int)) := by
  rw [Int.natCast_mul]
  split <;> split
  · rw [show (a.natAbs : Int) = -a by omega, show (b.natAbs : Int) = -b by omega, Int.neg_mul_neg]
  · rw [show (a.natAbs : Int) = -a by omega, show (b.natAbs : Int) = b by omega, Int.neg_mul, Int.neg_neg]
  · rw [show (a.natAbs : Int) = a by omega, show (b.natAbs : Int) = -b by omega, Int.mul_neg, Int.neg_neg]
  · rw [show (a.natAbs : Int) = a by omega, show (b.natAbs : Int) = b by omega]

theorem same_sign {a b : Int} (h : a < 0 ∧ b < 0 ∨ 0 ≤ a ∧ 0 ≤ b) : decide (a < 0) = decide (b < 0) := by
  rcases h with ⟨h, k⟩ | ⟨h, k⟩
  · rw [decide_eq_true h, decide_eq_true k]
  · rw [decide_eq_false (by omega), decide_eq_false (by omega)]
theorem other_sign {a b : Int} (h : a < 0 ∧ 0 ≤ b ∨ 0 ≤ a ∧ b < 0) : ¬ decide (a < 0) = decide (b < 0) := by
  rcases h with ⟨h, k⟩ | ⟨h, k⟩
  · rw [decide_eq_true h, decide_eq_false (by omega)]; decide
  · rw [decide_eq_false (by omega), decide_eq_true k]; decide

set_option maxHeartbeats 1000000 in
theorem vMul_any (a b : Int) (w : World) (ha : In64 a) (hb : In64 b) : Calls Tryd.prog 29 #[.int .i64 a, .int .i64 b] w fun e w' => e = .returned (.int .i64 (cut64 (a * b))) ∧ w = w' := by
  have hm := mul_natAbs a b
  have hx : a.natAbs < 18446744073709551616 := by unfold In64 at ha; omega
  have hy : b.natAbs < 18446744073709551616 := by unfold In64 at hb; omega
  have hb' : a.natAbs * b.natAbs ≤ 9223372036854775808 * 9223372036854775808 := Nat.mul_le_mul (by unfold In64 at ha; omega) (by unfold In64 at hb; omega)
  obtain ⟨N, hN⟩ : ∃ N : Nat, a.natAbs * b.natAbs = N := ⟨_, rfl⟩
  rw [hN] at hm hb'
  obtain ⟨H, hH⟩ : ∃ H : Int, ((a.natAbs * b.natAbs / 18446744073709551616 : Nat) : Int) = H := ⟨_, rfl⟩
  obtain ⟨L, hL⟩ : ∃ L : Int, ((a.natAbs * b.natAbs % 18446744073709551616 : Nat) : Int) = L := ⟨_, rfl⟩
  have hH' : ((N / 18446744073709551616 : Nat) : Int) = H := by rw [← hN]; exact hH
  have hL' : ((N % 18446744073709551616 : Nat) : Int) = L := by rw [← hN]; exact hL
  have C := fun w => mul64_any a.natAbs b.natAbs hx hy H L hH hL w
  have A := fun w => size_any a w ha
  have B := fun w => size_any b w hb
  have R : cut64 (a * b) = if N ≤ 9223372036854775807 then (if decide (a < 0) = decide (b < 0) then L else -L) else (if decide (a < 0) = decide (b < 0) then 9223372036854775807 else -9223372036854775808) := by
    rw [hm]
    by_cases a0 : a < 0 <;> by_cases b0 : b < 0 <;> simp only [a0, b0, if_true, if_false, decide_true, decide_false, Bool.false_eq_true, Bool.true_eq_false] <;> unfold cut64 <;> (repeat' split) <;> omega
  have c1 : N ≤ 9223372036854775807 → H = 0 ∧ 0 ≤ L ∧ L ≤ 9223372036854775807 := by omega
  have c2 : ¬ N ≤ 9223372036854775807 → H = 0 → 9223372036854775807 < L := by omega
  have H0 : 0 ≤ H := by omega
  have H1 : H < 18446744073709551616 := by omega
  have L0 : 0 ≤ L := by omega
  have L1 : L < 18446744073709551616 := by omega
  have A1 := Lib.hid A
  have B1 := Lib.hid B
  have C1 := Lib.hid C
  have R1 := Lib.hid R
  clear A B C R hm hN hH hL hH' hL' ha hb
  clear hb' hx hy
  by_cases hn : N ≤ 9223372036854775807
  · obtain ⟨rfl, -, k2⟩ := c1 hn
    clear c1 c2
    by_cases a0 : a < 0 <;> by_cases b0 : b < 0
    all_goals
      go_enter Tryd.func29, Tryd.ntmps29
      go_wp2_with (first | (go_at_call 48; first | ((with_reducible refine (A1.out _).mono ?_); rintro e w' ⟨rfl, rfl⟩) | ((with_reducible refine (B1.out _).mono ?_); rintro e w' ⟨rfl, rfl⟩)) | (go_at_call 47; refine (C1.out _).mono ?_; rintro e w' ⟨rfl, rfl⟩) | (go_at_call 46; refine (bound_any _ _).mono ?_; rintro e w' ⟨rfl, rfl⟩))
      go_ret
      refine ⟨ret_i64 ?_, rfl⟩
      rw [R1.out, if_pos hn]
      clear R1 A1 B1 C1
      first
        | (rw [if_pos (same_sign (by omega))]; done)
        | (rw [if_neg (other_sign (by omega))]; done)
  · replace c2 := c2 hn
    clear c1
    by_cases a0 : a < 0 <;> by_cases b0 : b < 0 <;> by_cases h0 : H = 0
    all_goals
      first
        | (have L2 := c2 h0
           subst h0)
        | (have h2 : (H == 0) = false := by simpa using h0
           have h3 : (H != 0) = true := by simpa using h0)
      clear c2
      go_enter Tryd.func29, Tryd.ntmps29
      go_wp2_with (first | (go_at_call 48; first | ((with_reducible refine (A1.out _).mono ?_); rintro e w' ⟨rfl, rfl⟩) | ((with_reducible refine (B1.out _).mono ?_); rintro e w' ⟨rfl, rfl⟩)) | (go_at_call 47; refine (C1.out _).mono ?_; rintro e w' ⟨rfl, rfl⟩) | (go_at_call 46; refine (bound_any _ _).mono ?_; rintro e w' ⟨rfl, rfl⟩))
      go_ret
      refine ⟨ret_i64 ?_, rfl⟩
      rw [R1.out, if_neg hn]
      clear R1 A1 B1 C1
      first
        | (rw [if_pos (same_sign (by omega))]; done)
        | (rw [if_neg (other_sign (by omega))]; done)

end Go.Proofs.YtncmpiaonpgdbaaDoor
