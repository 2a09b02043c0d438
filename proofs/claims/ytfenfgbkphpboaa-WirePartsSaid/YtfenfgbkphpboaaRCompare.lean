/-
  No statement: the contract of the document's own CompareValue.
-/
import Derived.Test.YtfenfgbkphpboaaRDec
namespace Go.Proofs.Ytfenfgbkphpboaa
open Go.RowKit

theorem cmpL_end {z1 z2 : Nat → Int} {n1 n2 k : Nat} (h : ∀ j, j < k → z1 j = z2 j) (h1 : k ≤ n1) (h2 : k ≤ n2) (he : ¬ (k < n1 ∧ k < n2)) : cmpL (upTo z1 n1) (upTo z2 n2) = cmpI n1 n2 := by
  rw [cmp_at h h1 h2]
  by_cases e1 : k < n1
  · rw [upTo_drop z1 e1, upTo_done z2 (by omega), cmpL]
    unfold cmpI; rw [if_neg (by omega), if_pos (by omega)]
  · rw [upTo_done z1 (by omega)]
    by_cases e2 : k < n2
    · rw [upTo_drop z2 e2, cmpL]
      unfold cmpI; rw [if_pos (by omega)]
    · rw [upTo_done z2 (by omega), cmpL]
      unfold cmpI; rw [if_neg (by omega), if_neg (by omega)]

theorem cmpL_here {z1 z2 : Nat → Int} {n1 n2 k : Nat} (h : ∀ j, j < k → z1 j = z2 j) (h1 : k < n1) (h2 : k < n2) (hne : ¬ z1 k = z2 k) : cmpL (upTo z1 n1) (upTo z2 n2) = cmpI (z1 k) (z2 k) := by
  rw [cmp_at h (by omega) (by omega), upTo_drop z1 h1, upTo_drop z2 h2, cmpL, if_neg (cmpI_ne hne)]

set_option maxRecDepth 100000 in
set_option maxHeartbeats 4000000 in
theorem rCmpList_any (m1 : Int) (s1 : ByteArray) (a1 : Option Addr) (l1 c1 : Nat) (z1 : Nat → Int) (m2 : Int) (s2 : ByteArray) (a2 : Option Addr) (l2 c2 : Nat) (z2 : Nat → Int) (w : World) (h1 : Reads w a1 l1 z1) (h2 : Reads w a2 l2 z2) :
    Calls Try.prog 22 #[.agg #[.int .i64 3, .int .i64 m1, .string s1, .slice a1 l1 c1], .agg #[.int .i64 3, .int .i64 m2, .string s2, .slice a2 l2 c2]] w fun e w' => e = .returned (.int .i64 (cmpL (upTo z1 l1) (upTo z2 l2))) ∧ Below w.heap.size w w' := by
  have M1 := h1.1
  have M2 := h2.1
  unfold maxLen at M1 M2
  obtain ⟨o1, ho1⟩ : ∃ o, Obj.cells #[.int .i64 3, .int .i64 m1, .string s1, .slice a1 l1 c1] 43 = o := ⟨_, rfl⟩
  obtain ⟨o2, ho2⟩ : ∃ o, Obj.cells #[.int .i64 3, .int .i64 m2, .string s2, .slice a2 l2 c2] 43 = o := ⟨_, rfl⟩
  have bl : Below w.heap.size w ((w.alloc o1).alloc o2) := ((Below.refl _ _).alloc (Nat.le_refl _) _).alloc (by simp) _
  have R1 := Lib.hid (h1.kept bl).2
  have R2 := Lib.hid (h2.kept bl).2
  have BL := Lib.hid bl
  subst ho1; subst ho2
  clear h1 h2 bl
  go_enter Try.func22, Try.ntmps22
  go_wp2
  go_loopw [5] (fun i wr => ∃ k : Nat, k ≤ l1 ∧ k ≤ l2 ∧ i = .int .i64 k ∧ Hid (∀ j, j < k → z1 j = z2 j) ∧ Hid (∃ n0, wr = ((w.alloc (.cells #[.int .i64 3, .int .i64 m1, .string s1, .slice a1 l1 c1] 43)).alloc (.cells #[.int .i64 3, .int .i64 m2, .string s2, .slice a2 l2 c2] 43)).drewN n0)) (fun i _ => l1 - (intOf i).toNat)
  case atStart => exact ⟨0, Nat.zero_le _, Nat.zero_le _, rfl, Lib.hid (fun j h => by omega), Lib.hid ⟨0, rfl⟩⟩
  case round =>
    obtain ⟨k, hk1, hk2, rfl, he, hw⟩ := hrel
    obtain ⟨n0, rfl⟩ := hw.out
    by_cases e1 : k < l1
    · rcases R1.out with h0 | ⟨b1, f1, rfl, hc1⟩
      · omega
      · by_cases e2 : k < l2
        · rcases R2.out with h0 | ⟨b2, f2, rfl, hc2⟩
          · omega
          · have g1 := hc1 k e1
            have g2 := hc2 k e2
            clear hc1 hc2
            by_cases hz : z1 k = z2 k
            · have he2 := Lib.hid (show ∀ j, j < k + 1 → z1 j = z2 j from fun j hj => by
                by_cases e : j = k
                · subst e; exact hz
                · exact he.out j (by omega))
              obtain ⟨x, hx⟩ : ∃ x, z2 k = x := ⟨_, rfl⟩
              rw [hz, hx] at g1
              rw [hx] at g2
              clear hx hz he
              go_wp2
              go_quiet (fail)
              go_wp2
              go_roundw
              case rel => exact ⟨k + 1, by omega, by omega, by go_num, he2, Lib.hid ⟨_, rfl⟩⟩
              case measure => simp [intOf]; omega
            · have R3 := Lib.hid (cmpL_here he.out e1 e2 hz)
              obtain ⟨x, hx⟩ : ∃ x, z1 k = x := ⟨_, rfl⟩
              obtain ⟨y, hy⟩ : ∃ x, z2 k = x := ⟨_, rfl⟩
              rw [hx, hy] at R3
              rw [hx] at g1 hz
              rw [hy] at g2 hz
              have q1 : (x == y) = false := by simpa using hz
              have q2 : (x != y) = true := by simpa using hz
              have C : ∀ w, Calls Try.prog 51 #[.int .i64 x, .int .i64 y] w fun e w' => e = .returned (.int .i64 (cmpI x y)) ∧ w' = w := fun w => (order_any x y w).mono fun _ _ h => ⟨h.1, h.2.symm⟩
              obtain ⟨v, hv⟩ : ∃ v, cmpI x y = v := ⟨_, rfl⟩
              rw [hv] at C R3
              have C1 := Lib.hid C
              clear C hv hx hy hz he
              go_wp2
              go_quiet (fail)
              go_wp2
              go_quiet ((refine (C1.out _).mono ?_; rintro e w' ⟨he, hw⟩; exact ⟨he, _, hw⟩))
              go_wp2
              go_ret
              exact ⟨ret_i64 R3.out.symm, BL.out.trans ⟨rfl, rfl, rfl, Nat.le_refl _, fun _ _ => rfl⟩⟩
        · have e3 : l2 ≤ k := by omega
          have R3 := Lib.hid (cmpL_end he.out hk1 hk2 (by omega))
          have C := Lib.hid (fun w => order_any (l1 : Int) (l2 : Int) w)
          go_wp2_with (go_at_call 51; refine (C.out _).mono ?_; rintro e w' ⟨rfl, rfl⟩)
          go_ret
          exact ⟨ret_i64 R3.out.symm, BL.out.trans ⟨rfl, rfl, rfl, Nat.le_refl _, fun _ _ => rfl⟩⟩
    · by_cases e2 : k < l2
      · have R3 := Lib.hid (cmpL_end he.out hk1 hk2 (by omega))
        have C := Lib.hid (fun w => order_any (l1 : Int) (l2 : Int) w)
        go_wp2_with (go_at_call 51; refine (C.out _).mono ?_; rintro e w' ⟨rfl, rfl⟩)
        go_ret
        exact ⟨ret_i64 R3.out.symm, BL.out.trans ⟨rfl, rfl, rfl, Nat.le_refl _, fun _ _ => rfl⟩⟩
      · have e3 : l2 ≤ k := by omega
        have R3 := Lib.hid (cmpL_end he.out hk1 hk2 (by omega))
        have C := Lib.hid (fun w => order_any (l1 : Int) (l2 : Int) w)
        go_wp2_with (go_at_call 51; refine (C.out _).mono ?_; rintro e w' ⟨rfl, rfl⟩)
        go_ret
        exact ⟨ret_i64 R3.out.symm, BL.out.trans ⟨rfl, rfl, rfl, Nat.le_refl _, fun _ _ => rfl⟩⟩

set_option maxRecDepth 100000 in
set_option maxHeartbeats 2000000 in
theorem rCompare_any (k1 n1 : Int) (s1 : ByteArray) (a1 : Option Addr) (l1 c1 : Nat) (z1 : Nat → Int) (k2 n2 : Int) (s2 : ByteArray) (a2 : Option Addr) (l2 c2 : Nat) (z2 : Nat → Int) (w : World) (h1 : Reads w a1 l1 z1) (h2 : Reads w a2 l2 z2) :
    Calls Try.prog 22 #[val k1 n1 s1 (.slice a1 l1 c1), val k2 n2 s2 (.slice a2 l2 c2)] w fun e w' => e = .returned (.int .i64 (cmpV k1 n1 s1 l1 z1 k2 n2 s2 l2 z2)) ∧ Below w.heap.size w w' := by
  unfold val
  by_cases hk : k1 = k2
  · subst hk
    have R : cmpV k1 n1 s1 l1 z1 k1 n2 s2 l2 z2 = if k1 = 1 then cmpI n1 n2 else if k1 = 2 then cmpS s1 s2 else if k1 = 3 then cmpL (upTo z1 l1) (upTo z2 l2) else 0 := by unfold cmpV; rw [if_pos rfl]
    rw [R]
    clear R
    by_cases e1 : k1 = 1
    · subst e1; rw [if_pos rfl]
      clear h1 h2
      go_enter Try.func22, Try.ntmps22
      go_wp2_with (go_at_call 51; refine (order_any _ _ _).mono ?_; rintro e w' ⟨rfl, rfl⟩)
      go_ret
      exact ⟨rfl, (((Below.refl _ _).alloc (Nat.le_refl _) _).alloc (by simp) _)⟩
    have q1 : (k1 == 1) = false := by simpa using e1
    rw [if_neg e1]
    by_cases e2 : k1 = 2
    · subst e2; rw [if_pos rfl]
      clear h1 h2
      go_enter Try.func22, Try.ntmps22
      go_wp2_with (go_at_call 52; refine (orderText_any _ _ _).mono ?_; rintro e w' ⟨rfl, rfl⟩)
      go_ret
      exact ⟨rfl, (((Below.refl _ _).alloc (Nat.le_refl _) _).alloc (by simp) _)⟩
    have q2 : (k1 == 2) = false := by simpa using e2
    rw [if_neg e2]
    by_cases e3 : k1 = 3
    · subst e3; rw [if_pos rfl]
      exact rCmpList_any n1 s1 a1 l1 c1 z1 n2 s2 a2 l2 c2 z2 w h1 h2
    have q3 : (k1 == 3) = false := by simpa using e3
    rw [if_neg e3]
    clear e1 e2 e3 h1 h2
    go_enter Try.func22, Try.ntmps22
    go_wp2_with fail
    go_ret
    exact ⟨rfl, (((Below.refl _ _).alloc (Nat.le_refl _) _).alloc (by simp) _)⟩
  · have R : cmpV k1 n1 s1 l1 z1 k2 n2 s2 l2 z2 = cmpI k1 k2 := by unfold cmpV; rw [if_neg hk]
    rw [R]
    have q : (k1 == k2) = false := by simpa using hk
    have q' : (k1 != k2) = true := by simpa using hk
    clear R hk h1 h2
    go_enter Try.func22, Try.ntmps22
    go_wp2_with (go_at_call 51; refine (order_any _ _ _).mono ?_; rintro e w' ⟨rfl, rfl⟩)
    go_ret
    exact ⟨rfl, (((Below.refl _ _).alloc (Nat.le_refl _) _).alloc (by simp) _)⟩

end Go.Proofs.Ytfenfgbkphpboaa
