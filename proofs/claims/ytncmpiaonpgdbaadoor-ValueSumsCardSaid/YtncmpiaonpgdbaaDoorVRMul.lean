/-
  No statement: the contract of the document's own Mul (P202).
-/
import Derived.Test.YtncmpiaonpgdbaaDoorVNum
namespace Go.Proofs.YtncmpiaonpgdbaaDoor
open Go.RowKit

theorem wrap_eq (x : Int) : ∃ k : Int, wrap64 x = x + k * 18446744073709551616 ∧ In64 (wrap64 x) ∧ (¬ In64 x → ¬ k = 0) := by
  refine ⟨-((x + 9223372036854775808) / 18446744073709551616), ?_, ?_, ?_⟩ <;> (try unfold In64) <;> (try unfold wrap64) <;> omega

theorem mul_sign {a b : Int} (ha : ¬ a = 0) (hb : ¬ b = 0) (h : ¬ In64 (a * b)) : cut64 (a * b) = if decide (a < 0) = decide (b < 0) then 9223372036854775807 else -9223372036854775808 := by
  have hs : decide (a < 0) = decide (b < 0) → 0 < a * b := fun e => by
    by_cases x : a < 0
    · have y : b < 0 := by simpa [x] using e.symm
      exact Int.mul_pos_of_neg_of_neg x y
    · have y : ¬ b < 0 := by simpa [x] using e.symm
      exact Int.mul_pos (by omega) (by omega)
  have hd : ¬ decide (a < 0) = decide (b < 0) → a * b < 0 := fun e => by
    by_cases x : a < 0
    · have y : ¬ b < 0 := fun y => e (by simp [x, y])
      exact Int.mul_neg_of_neg_of_pos x (by omega)
    · have y : b < 0 := by
        by_cases y : b < 0
        · exact y
        · exact (e (by simp [x, y])).elim
      exact Int.mul_neg_of_pos_of_neg (by omega) y
  unfold In64 at h
  split
  · have := hs ‹_›
    exact cut64_hi (by omega)
  · have := hd ‹_›
    exact cut64_lo (by omega)

/-- Where the product doesn't fit, its remainder's quotient isn't the factor. -/
theorem quo_not {a b : Int} (hb : In64 b) (h0 : ¬ b = 0) (h : ¬ In64 (a * b)) (hx : ¬ (a = -9223372036854775808 ∧ b = -1)) : ¬ wrap64 ((wrap64 (a * b)).tdiv b) = a := by
  obtain ⟨k, hk, hi, hn⟩ := wrap_eq (a * b)
  have hk0 := hn h
  obtain ⟨c, hc⟩ : ∃ c, wrap64 (a * b) = c := ⟨_, rfl⟩
  rw [hc] at hk hi ⊢
  intro e
  by_cases hl : c = -9223372036854775808 ∧ b = -1
  · obtain ⟨rfl, rfl⟩ := hl
    exact hx ⟨by rw [← e]; unfold wrap64; decide, rfl⟩
  · have hq : In64 (c.tdiv b) := tdiv_in hi h0 (fun x y => hl ⟨x, y⟩)
    rw [wrap_in hq] at e
    have hr := Int.tmod_add_mul_tdiv c b
    rw [e] at hr
    have hlt : (c.tmod b).natAbs < b.natAbs := by
      rw [Int.natAbs_tmod]
      exact Nat.mod_lt _ (by omega)
    have : b * a = a * b := Int.mul_comm _ _
    unfold In64 at hb hi
    omega

theorem quo_is {a b : Int} (ha : In64 a) (h0 : ¬ b = 0) : wrap64 ((a * b).tdiv b) = a := by
  rw [Int.mul_tdiv_cancel _ h0, wrap_in ha]

set_option maxHeartbeats 4000000 in
theorem rMul_any (a b : Int) (w : World) (ha : In64 a) (hb : In64 b) : Calls Tryd.prog 30 #[.int .i64 a, .int .i64 b] w fun e w' => e = .returned (.int .i64 (cut64 (a * b))) ∧ w = w' := by
  by_cases a0 : a = 0
  · subst a0
    go_enter Tryd.func30, Tryd.ntmps30
    go_wp2_with fail
    go_ret
    exact ⟨ret_i64 (by rw [Int.zero_mul]; decide), rfl⟩
  have ha0 : (a == 0) = false := by simpa using a0
  by_cases b0 : b = 0
  · subst b0
    go_enter Tryd.func30, Tryd.ntmps30
    go_wp2_with fail
    go_ret
    exact ⟨ret_i64 (by rw [Int.mul_zero]; decide), rfl⟩
  have hb0 : (b == 0) = false := by simpa using b0
  obtain ⟨c, hc⟩ : ∃ c, wrap64 (a * b) = c := ⟨_, rfl⟩
  obtain ⟨q, hq⟩ : ∃ q, wrap64 (c.tdiv b) = q := ⟨_, rfl⟩
  by_cases hi : In64 (a * b)
  · have Q : (q == a) = true := by rw [← hq, ← hc, wrap_in hi, quo_is ha b0]; simp
    have R := Lib.hid (show c = cut64 (a * b) by rw [← hc, wrap_in hi, cut64_id hi])
    have n1 : (a == -9223372036854775808) = true → (b == -1) = true → False := fun x y => by
      have x := eq_of_beq x; have y := eq_of_beq y; subst x; subst y; unfold In64 at hi; omega
    have n2 : (b == -9223372036854775808) = true → (a == -1) = true → False := fun x y => by
      have x := eq_of_beq x; have y := eq_of_beq y; subst x; subst y; unfold In64 at hi; omega
    clear hi ha hb
    cases h1 : (a == -9223372036854775808) <;> cases h2 : (b == -1) <;> cases h3 : (b == -9223372036854775808) <;> cases h4 : (a == -1)
    all_goals first | (exfalso; exact n1 h1 h2) | (exfalso; exact n2 h3 h4) | skip
    all_goals clear n1 n2
    all_goals
      go_enter Tryd.func30, Tryd.ntmps30
      go_wp2_with fail
      go_ret
      exact ⟨ret_i64 (hc.trans R.out), rfl⟩
  · have R := Lib.hid (mul_sign a0 b0 hi)
    by_cases hx : a = -9223372036854775808 ∧ b = -1
    · obtain ⟨rfl, rfl⟩ := hx
      obtain rfl : -9223372036854775808 = c := by rw [← hc]; unfold wrap64; decide
      obtain rfl : -9223372036854775808 = q := by rw [← hq]; unfold wrap64; decide
      have k1 : wrap64 9223372036854775808 = -9223372036854775808 := by unfold wrap64; decide
      clear ha hb hi hc hq
      go_enter Tryd.func30, Tryd.ntmps30
      go_wp2_with fail
      go_ret
      exact ⟨ret_i64 (by decide), rfl⟩
    · have Q : (q == a) = false := by
        have := quo_not hb b0 hi hx
        rw [hc, hq] at this
        simpa using this
      clear hi ha hb hx
      cases h1 : decide (a < 0) <;> cases h2 : decide (b < 0)
      all_goals
        have R1 := Lib.hid (show (cut64 (a * b)) = _ from R.out.trans (by rw [h1, h2]))
        clear R
        go_enter Tryd.func30, Tryd.ntmps30
        go_wp2_with fail
        go_ret
        exact ⟨ret_i64 (by rw [R1.out]; rfl), rfl⟩

end Go.Proofs.YtncmpiaonpgdbaaDoor
