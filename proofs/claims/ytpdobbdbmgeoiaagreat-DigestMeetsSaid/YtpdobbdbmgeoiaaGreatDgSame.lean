/-
  No statement: the document's CompareValue and Same of rows.
-/
import Derived.Test.YtpdobbdbmgeoiaaGreatTbRef
import Derived.Deep.RegionHeld3
set_option linter.unusedVariables false
set_option linter.unusedSimpArgs false

namespace Go.Proofs.YtpdobbdbmgeoiaaGreat
open Go.RowKit

theorem cmpL_end {z1 z2 : Nat → Int} {n1 n2 k : Nat} (h : ∀ j, j < k → z1 j = z2 j) (h1 : k ≤ n1) (h2 : k ≤ n2) (he : ¬ (k < n1 ∧ k < n2)) : cmpL (upTo z1 n1) (upTo z2 n2) = cmpI n1 n2 := by
  rw [cmp_at h h1 h2]
  by_cases e1 : k < n1
  · rw [upTo_drop z1 e1, upTo_done z2 (by omega), cmpL]
    unfold cmpI; rw [if_neg (by omega), if_pos (by omega)]
  · rw [upTo_done z1 (by omega)]
    by_cases e2 : k < n2
    · rw [upTo_drop z2 e2, cmpL]
      unfold cmpI; rw [if_pos (by omega)]
    · rw [upTo_done z2 (by omega), cmpL]
      unfold cmpI; rw [if_neg (by omega), if_neg (by omega)]

theorem cmpL_here {z1 z2 : Nat → Int} {n1 n2 k : Nat} (h : ∀ j, j < k → z1 j = z2 j) (h1 : k < n1) (h2 : k < n2) (hne : ¬ z1 k = z2 k) : cmpL (upTo z1 n1) (upTo z2 n2) = cmpI (z1 k) (z2 k) := by
  rw [cmp_at h (by omega) (by omega), upTo_drop z1 h1, upTo_drop z2 h2, cmpL, if_neg (cmpI_ne hne)]

set_option maxRecDepth 100000 in
set_option maxHeartbeats 4000000 in
theorem rCmpList_any (m1 : Int) (s1 : ByteArray) (a1 : Option Addr) (l1 c1 : Nat) (z1 : Nat → Int) (m2 : Int) (s2 : ByteArray) (a2 : Option Addr) (l2 c2 : Nat) (z2 : Nat → Int) (w : World) (h1 : Reads w a1 l1 z1) (h2 : Reads w a2 l2 z2) :
    Calls Tryz.prog 92 #[.agg #[.int .i64 3, .int .i64 m1, .string s1, .slice a1 l1 c1], .agg #[.int .i64 3, .int .i64 m2, .string s2, .slice a2 l2 c2]] w fun e w' => e = .returned (.int .i64 (cmpL (upTo z1 l1) (upTo z2 l2))) ∧ Below w.heap.size w w' := by
  have M1 := h1.1
  have M2 := h2.1
  unfold maxLen at M1 M2
  obtain ⟨o1, ho1⟩ : ∃ o, Obj.cells #[.int .i64 3, .int .i64 m1, .string s1, .slice a1 l1 c1] 131 = o := ⟨_, rfl⟩
  obtain ⟨o2, ho2⟩ : ∃ o, Obj.cells #[.int .i64 3, .int .i64 m2, .string s2, .slice a2 l2 c2] 131 = o := ⟨_, rfl⟩
  have bl : Below w.heap.size w ((w.alloc o1).alloc o2) := ((Below.refl _ _).alloc (Nat.le_refl _) _).alloc (by simp) _
  have R1 := Lib.hid (h1.kept bl).2
  have R2 := Lib.hid (h2.kept bl).2
  have BL := Lib.hid bl
  subst ho1; subst ho2
  clear h1 h2 bl
  go_enter Tryz.func92, Tryz.ntmps92
  go_wp2
  go_loopw [5] (fun i wr => ∃ k : Nat, k ≤ l1 ∧ k ≤ l2 ∧ i = .int .i64 k ∧ Hid (∀ j, j < k → z1 j = z2 j) ∧ Hid (∃ n0, wr = ((w.alloc (.cells #[.int .i64 3, .int .i64 m1, .string s1, .slice a1 l1 c1] 131)).alloc (.cells #[.int .i64 3, .int .i64 m2, .string s2, .slice a2 l2 c2] 131)).drewN n0)) (fun i _ => l1 - (intOf i).toNat)
  case atStart => exact ⟨0, Nat.zero_le _, Nat.zero_le _, rfl, Lib.hid (fun j h => by omega), Lib.hid ⟨0, rfl⟩⟩
  case round =>
    obtain ⟨k, hk1, hk2, rfl, he, hw⟩ := hrel
    obtain ⟨n0, rfl⟩ := hw.out
    by_cases e1 : k < l1
    · rcases R1.out with h0 | ⟨b1, f1, rfl, hc1⟩
      · omega
      · by_cases e2 : k < l2
        · rcases R2.out with h0 | ⟨b2, f2, rfl, hc2⟩
          · omega
          · have g1 := hc1 k e1
            have g2 := hc2 k e2
            clear hc1 hc2
            by_cases hz : z1 k = z2 k
            · have he2 := Lib.hid (show ∀ j, j < k + 1 → z1 j = z2 j from fun j hj => by
                by_cases e : j = k
                · subst e; exact hz
                · exact he.out j (by omega))
              obtain ⟨x, hx⟩ : ∃ x, z2 k = x := ⟨_, rfl⟩
              rw [hz, hx] at g1
              rw [hx] at g2
              clear hx hz he
              go_wp2
              go_quiet (fail)
              go_wp2
              go_roundw
              case rel => exact ⟨k + 1, by omega, by omega, by go_num, he2, Lib.hid ⟨_, rfl⟩⟩
              case measure => simp [intOf]; omega
            · have R3 := Lib.hid (cmpL_here he.out e1 e2 hz)
              obtain ⟨x, hx⟩ : ∃ x, z1 k = x := ⟨_, rfl⟩
              obtain ⟨y, hy⟩ : ∃ x, z2 k = x := ⟨_, rfl⟩
              rw [hx, hy] at R3
              rw [hx] at g1 hz
              rw [hy] at g2 hz
              have q1 : (x == y) = false := by simpa using hz
              have q2 : (x != y) = true := by simpa using hz
              have C : ∀ w, Calls Tryz.prog 79 #[.int .i64 x, .int .i64 y] w fun e w' => e = .returned (.int .i64 (cmpI x y)) ∧ w' = w := fun w => (order_any x y w).mono fun _ _ h => ⟨h.1, h.2.symm⟩
              obtain ⟨v, hv⟩ : ∃ v, cmpI x y = v := ⟨_, rfl⟩
              rw [hv] at C R3
              have C1 := Lib.hid C
              clear C hv hx hy hz he
              go_wp2
              go_quiet (fail)
              go_wp2
              go_quiet ((refine (C1.out _).mono ?_; rintro e w' ⟨he, hw⟩; exact ⟨he, _, hw⟩))
              go_wp2
              go_ret
              exact ⟨ret_i64 R3.out.symm, BL.out.trans ⟨rfl, rfl, rfl, Nat.le_refl _, fun _ _ => rfl⟩⟩
        · have e3 : l2 ≤ k := by omega
          have R3 := Lib.hid (cmpL_end he.out hk1 hk2 (by omega))
          have C := Lib.hid (fun w => order_any (l1 : Int) (l2 : Int) w)
          go_wp2_with (go_at_call 79; refine (C.out _).mono ?_; rintro e w' ⟨rfl, rfl⟩)
          go_ret
          exact ⟨ret_i64 R3.out.symm, BL.out.trans ⟨rfl, rfl, rfl, Nat.le_refl _, fun _ _ => rfl⟩⟩
    · by_cases e2 : k < l2
      · have R3 := Lib.hid (cmpL_end he.out hk1 hk2 (by omega))
        have C := Lib.hid (fun w => order_any (l1 : Int) (l2 : Int) w)
        go_wp2_with (go_at_call 79; refine (C.out _).mono ?_; rintro e w' ⟨rfl, rfl⟩)
        go_ret
        exact ⟨ret_i64 R3.out.symm, BL.out.trans ⟨rfl, rfl, rfl, Nat.le_refl _, fun _ _ => rfl⟩⟩
      · have e3 : l2 ≤ k := by omega
        have R3 := Lib.hid (cmpL_end he.out hk1 hk2 (by omega))
        have C := Lib.hid (fun w => order_any (l1 : Int) (l2 : Int) w)
        go_wp2_with (go_at_call 79; refine (C.out _).mono ?_; rintro e w' ⟨rfl, rfl⟩)
        go_ret
        exact ⟨ret_i64 R3.out.symm, BL.out.trans ⟨rfl, rfl, rfl, Nat.le_refl _, fun _ _ => rfl⟩⟩

set_option maxRecDepth 100000 in
set_option maxHeartbeats 2000000 in
theorem rCompare_any (k1 n1 : Int) (s1 : ByteArray) (a1 : Option Addr) (l1 c1 : Nat) (z1 : Nat → Int) (k2 n2 : Int) (s2 : ByteArray) (a2 : Option Addr) (l2 c2 : Nat) (z2 : Nat → Int) (w : World) (h1 : Reads w a1 l1 z1) (h2 : Reads w a2 l2 z2) :
    Calls Tryz.prog 92 #[val k1 n1 s1 (.slice a1 l1 c1), val k2 n2 s2 (.slice a2 l2 c2)] w fun e w' => e = .returned (.int .i64 (cmpV k1 n1 s1 l1 z1 k2 n2 s2 l2 z2)) ∧ Below w.heap.size w w' := by
  unfold val
  by_cases hk : k1 = k2
  · subst hk
    have R : cmpV k1 n1 s1 l1 z1 k1 n2 s2 l2 z2 = if k1 = 1 then cmpI n1 n2 else if k1 = 2 then cmpS s1 s2 else if k1 = 3 then cmpL (upTo z1 l1) (upTo z2 l2) else 0 := by unfold cmpV; rw [if_pos rfl]
    rw [R]
    clear R
    by_cases e1 : k1 = 1
    · subst e1; rw [if_pos rfl]
      clear h1 h2
      go_enter Tryz.func92, Tryz.ntmps92
      go_wp2_with (go_at_call 79; refine (order_any _ _ _).mono ?_; rintro e w' ⟨rfl, rfl⟩)
      go_ret
      exact ⟨rfl, (((Below.refl _ _).alloc (Nat.le_refl _) _).alloc (by simp) _)⟩
    have q1 : (k1 == 1) = false := by simpa using e1
    rw [if_neg e1]
    by_cases e2 : k1 = 2
    · subst e2; rw [if_pos rfl]
      clear h1 h2
      go_enter Tryz.func92, Tryz.ntmps92
      go_wp2_with (go_at_call 80; refine (orderText_any _ _ _).mono ?_; rintro e w' ⟨rfl, rfl⟩)
      go_ret
      exact ⟨rfl, (((Below.refl _ _).alloc (Nat.le_refl _) _).alloc (by simp) _)⟩
    have q2 : (k1 == 2) = false := by simpa using e2
    rw [if_neg e2]
    by_cases e3 : k1 = 3
    · subst e3; rw [if_pos rfl]
      exact rCmpList_any n1 s1 a1 l1 c1 z1 n2 s2 a2 l2 c2 z2 w h1 h2
    have q3 : (k1 == 3) = false := by simpa using e3
    rw [if_neg e3]
    clear e1 e2 e3 h1 h2
    go_enter Tryz.func92, Tryz.ntmps92
    go_wp2_with fail
    go_ret
    exact ⟨rfl, (((Below.refl _ _).alloc (Nat.le_refl _) _).alloc (by simp) _)⟩
  · have R : cmpV k1 n1 s1 l1 z1 k2 n2 s2 l2 z2 = cmpI k1 k2 := by unfold cmpV; rw [if_neg hk]
    rw [R]
    have q : (k1 == k2) = false := by simpa using hk
    have q' : (k1 != k2) = true := by simpa using hk
    clear R hk h1 h2
    go_enter Tryz.func92, Tryz.ntmps92
    go_wp2_with (go_at_call 79; refine (order_any _ _ _).mono ?_; rintro e w' ⟨rfl, rfl⟩)
    go_ret
    exact ⟨rfl, (((Below.refl _ _).alloc (Nat.le_refl _) _).alloc (by simp) _)⟩

end Go.Proofs.YtpdobbdbmgeoiaaGreat

namespace Go.Proofs.YtpdobbdbmgeoiaaGreat
open Go.RowKit

set_option maxRecDepth 100000 in
set_option maxHeartbeats 4000000 in
theorem xSameAs_any (a1 a2 : Option Addr) (n c1 c2 : Nat) (A1 A2 : Nat → AD) (hn : n ≤ 1000000) (w : World) (h1 : ReadsA w a1 n A1) (h2 : ReadsA w a2 n A2) :
    Calls Tryz.prog 52 #[.slice a1 n c1, .slice a2 n c2] w fun e w' => e = .returned (.bool (sameAs (fromA A1 n 0) (fromA A2 n 0))) ∧ Below w.heap.size w w' := by
  have R1 := Lib.hid h1
  have R2 := Lib.hid h2
  clear h1 h2
  go_enter Tryz.func52, Tryz.ntmps52
  go_wp2_with fail
  go_loopw [5] (fun i wr => ∃ k : Nat, i = .int .i64 k ∧ k ≤ n ∧ Hid (sameAs (fromA A1 n 0) (fromA A2 n 0) = sameAs (fromA A1 n k) (fromA A2 n k)) ∧ Hid (Below w.heap.size w wr) ∧ Hid (ReadsA wr a1 n A1) ∧ Hid (ReadsA wr a2 n A2)) (fun i _ => n - (intOf i).toNat)
  case atStart => exact ⟨0, rfl, Nat.zero_le _, Lib.hid rfl, Lib.hid (Below.refl _ _), R1, R2⟩
  case round =>
    obtain ⟨k, rfl, hk, hE, hB, hR1, hR2⟩ := hrel
    clear R1 R2
    by_cases hlt : k < n
    · obtain ⟨b1, o1, rfl, hc1⟩ := hR1.out.2.resolve_left (by omega)
      obtain ⟨b2, o2, rfl, hc2⟩ := hR2.out.2.resolve_left (by omega)
      obtain ⟨y1, e1, g1, r1⟩ := hc1 k hlt
      obtain ⟨y2, e2, g2, r2⟩ := hc2 k hlt
      have hE2 := hE.out
      rw [fromA_cons A1 hlt, fromA_cons A2 hlt] at hE2
      obtain ⟨x1, hx1⟩ : ∃ x, A1 k = x := ⟨_, rfl⟩
      obtain ⟨x2, hx2⟩ : ∃ x, A2 k = x := ⟨_, rfl⟩
      rw [hx1] at g1 r1 hE2
      rw [hx2] at g2 r2 hE2
      have hE2' : sameAs (fromA A1 n 0) (fromA A2 n 0) = (((x1.m.toList == x2.m.toList) && decide (cmpV x1.k x1.n x1.s x1.len x1.z x2.k x2.n x2.s x2.len x2.z = 0)) && sameAs (fromA A1 n (k + 1)) (fromA A2 n (k + 1))) := hE2
      have hz := hB.out.size
      have G1 := Lib.hid g1
      have G2 := Lib.hid g2
      obtain ⟨p0, p1, p2, p3, p4⟩ := g1
      obtain ⟨q0, q1, q2, q3, q4⟩ := g2
      clear hc1 hc2 hE2 hE hx1 hx2
      cases he : (x1.m.toList == x2.m.toList) with
      | false =>
        have HE := Lib.hid (p := sameAs (fromA A1 n 0) (fromA A2 n 0) = false) (by rw [hE2', he]; rfl)
        have he' : (x1.m.toList != x2.m.toList) = true := by unfold bne; rw [he]; rfl
        clear hE2' r1 r2 G1 G2
        go_wp2_with fail
        go_quiet (fail)
        go_wp2_with fail
        go_ret
        exact ⟨ret_b (by rw [HE.out]), hB.out.trans ⟨rfl, rfl, rfl, Nat.le_refl _, fun _ _ => rfl⟩⟩
      | true =>
        obtain ⟨v, hv⟩ : ∃ v, cmpV x1.k x1.n x1.s x1.len x1.z x2.k x2.n x2.s x2.len x2.z = v := ⟨_, rfl⟩
        have HE := Lib.hid (p := sameAs (fromA A1 n 0) (fromA A2 n 0) = (decide (v = 0) && sameAs (fromA A1 n (k + 1)) (fromA A2 n (k + 1)))) (by rw [hE2', he, hv]; rfl)
        have he' : (x1.m.toList != x2.m.toList) = false := by unfold bne; rw [he]; rfl
        have C := Lib.hid (p := ∀ w', Below wr.heap.size wr w' → Calls Tryz.prog 92 #[.agg #[.int .i64 x1.k, .int .i64 x1.n, .string x1.s, .slice y1 x1.len e1], .agg #[.int .i64 x2.k, .int .i64 x2.n, .string x2.s, .slice y2 x2.len e2]] w' fun e w'' => e = .returned (.int .i64 v) ∧ Below w'.heap.size w' w'') (fun w' hb => by have := rCompare_any x1.k x1.n x1.s y1 x1.len e1 x1.z x2.k x2.n x2.s y2 x2.len e2 x2.z w' (r1.kept hb) (r2.kept hb); rwa [hv] at this)
        clear hE2' hv r1 r2
        have hdr : Below wr.heap.size wr wr.drew := ⟨rfl, rfl, rfl, Nat.le_refl _, fun _ _ => rfl⟩
        have HDR := Lib.hid hdr
        clear hdr
        go_wp2_with fail
        go_region_held3 (fun w' => (w'.cell? ⟨b1, o1 + k * 5, none⟩ = some (.string x1.m) ∧ w'.cell? ⟨b1, o1 + k * 5 + 1, none⟩ = some (.int .i64 x1.k) ∧ w'.cell? ⟨b1, o1 + k * 5 + 2, none⟩ = some (.int .i64 x1.n) ∧ w'.cell? ⟨b1, o1 + k * 5 + 3, none⟩ = some (.string x1.s) ∧ w'.cell? ⟨b1, o1 + k * 5 + 4, none⟩ = some (.slice y1 x1.len e1)) ∧ (w'.cell? ⟨b2, o2 + k * 5, none⟩ = some (.string x2.m) ∧ w'.cell? ⟨b2, o2 + k * 5 + 1, none⟩ = some (.int .i64 x2.k) ∧ w'.cell? ⟨b2, o2 + k * 5 + 2, none⟩ = some (.int .i64 x2.n) ∧ w'.cell? ⟨b2, o2 + k * 5 + 3, none⟩ = some (.string x2.s) ∧ w'.cell? ⟨b2, o2 + k * 5 + 4, none⟩ = some (.slice y2 x2.len e2))) (first | assumption | (refine ⟨⟨?_, ?_, ?_, ?_, ?_⟩, ⟨?_, ?_, ?_, ?_, ?_⟩⟩ <;> (first | assumption | (go_keep; done)))) (first
          | (go_at_call 92
             with_reducible refine (C.out _ HDR.out).mono ?_
             rintro e w2 ⟨rfl, hb⟩
             have B2 := Lib.hid (HDR.out.trans hb)
             have cc := And.intro (G1.out.kept (HDR.out.trans hb)) (G2.out.kept (HDR.out.trans hb))
             clear hb)
          | fail)
        by_cases h0 : v = 0
        · subst h0
          have HE2 := Lib.hid (p := sameAs (fromA A1 n 0) (fromA A2 n 0) = sameAs (fromA A1 n (k + 1)) (fromA A2 n (k + 1))) (by rw [HE.out]; rfl)
          clear HE
          go_wp2_with fail
          go_roundw
          case rel => exact ⟨k + 1, by go_num, by omega, HE2, Lib.hid (hB.out.trans (B2.out.mono hz)), Lib.hid (hR1.out.kept B2.out), Lib.hid (hR2.out.kept B2.out)⟩
          case measure => simp [intOf]; omega
        · have h0' : (v == 0) = false := by simpa using h0
          have HE2 := Lib.hid (p := sameAs (fromA A1 n 0) (fromA A2 n 0) = false) (by rw [HE.out, decide_eq_false h0]; rfl)
          clear HE h0
          go_wp2_with fail
          go_ret
          exact ⟨ret_b (by rw [HE2.out]), hB.out.trans (B2.out.mono hz)⟩
    · go_wp2_with fail
      go_ret
      exact ⟨ret_b (by rw [hE.out, fromA_nil A1 (by omega)]; rfl), hB.out⟩

set_option maxHeartbeats 2000000 in
theorem xSameAttrs_any (a1 a2 : Option Addr) (n1 n2 c1 c2 : Nat) (A1 A2 : Nat → AD) (hn : n1 ≤ 1000000) (w : World) (h1 : ReadsA w a1 n1 A1) (h2 : ReadsA w a2 n2 A2) :
    Calls Tryz.prog 52 #[.slice a1 n1 c1, .slice a2 n2 c2] w fun e w' => e = .returned (.bool (sameL n1 n2 A1 A2)) ∧ Below w.heap.size w w' := by
  unfold sameL
  by_cases he : n1 = n2
  · subst he
    rw [decide_eq_true rfl, Bool.true_and]
    exact xSameAs_any a1 a2 n1 c1 c2 A1 A2 hn w h1 h2
  · rw [decide_eq_false he, Bool.false_and]
    have m1 := h1.1
    have m2 := h2.1
    unfold maxLen at m1 m2
    have e1 : ((n1 : Int) == (n2 : Int)) = false := by rw [beq_eq_false_iff_ne]; omega
    have e2 : (n1 == n2) = false := by rw [beq_eq_false_iff_ne]; exact he
    clear h1 h2 he
    go_enter Tryz.func52, Tryz.ntmps52
    go_wp2_with fail
    go_ret
    exact ⟨rfl, Below.refl _ _⟩

set_option maxHeartbeats 4000000 in
theorem xSame_any (x y : RD) (a1 a2 : Option Addr) (c1 c2 : Nat) (hn : x.len ≤ 1000000) (w : World) (h1 : ReadsA w a1 x.len x.A) (h2 : ReadsA w a2 y.len y.A) :
    Calls Tryz.prog 20 #[.agg #[.string x.key, .int .i64 x.t, .int .i64 x.i, .int .i64 x.q, .string x.o, .slice a1 x.len c1], .agg #[.string y.key, .int .i64 y.t, .int .i64 y.i, .int .i64 y.q, .string y.o, .slice a2 y.len c2]] w fun e w' => e = .returned (.bool (sameR x y)) ∧ Below w.heap.size w w' := by
  obtain ⟨k1, t1, i1, q1, o1, n1, A1⟩ := x
  obtain ⟨k2, t2, i2, q2, o2, n2, A2⟩ := y
  simp only at hn h1 h2 ⊢
  have bl : ∀ o1 o2, Below w.heap.size w ((w.alloc o1).alloc o2) := fun o1 o2 => ((Below.refl _ _).alloc (Nat.le_refl _) _).alloc (by simp) _
  have C := Lib.hid (p := ∀ o3 o4 w2, Below ((w.alloc o3).alloc o4).heap.size ((w.alloc o3).alloc o4) w2 → Calls Tryz.prog 52 #[.slice a1 n1 c1, .slice a2 n2 c2] w2 fun e w' => e = .returned (.bool (sameL n1 n2 A1 A2)) ∧ Below w2.heap.size w2 w') (fun o3 o4 w2 h => xSameAttrs_any a1 a2 n1 n2 c1 c2 A1 A2 hn w2 ((h1.kept (bl o3 o4)).kept h) ((h2.kept (bl o3 o4)).kept h))
  have D := Lib.hid (fun w => rCmpStamp_any t1 i1 q1 o1 t2 i2 q2 o2 w)
  have E : sameR ⟨k1, t1, i1, q1, o1, n1, A1⟩ ⟨k2, t2, i2, q2, o2, n2, A2⟩ = ((k1.toList == k2.toList) && (decide (cmpSt t1 i1 q1 o1 t2 i2 q2 o2 = 0) && sameL n1 n2 A1 A2)) := rfl
  obtain ⟨x, hx⟩ : ∃ x, cmpSt t1 i1 q1 o1 t2 i2 q2 o2 = x := ⟨_, rfl⟩
  obtain ⟨b, hb⟩ : ∃ b, sameL n1 n2 A1 A2 = b := ⟨_, rfl⟩
  rw [hx, hb] at E
  rw [hx] at D
  rw [hb] at C
  unfold stp at D
  rw [E]
  have BL := Lib.hid bl
  clear bl hb hx h1 h2 E
  cases he : (k1.toList == k2.toList) with
  | false =>
    go_enter Tryz.func20, Tryz.ntmps20
    go_wp2_with fail
    go_ret
    exact ⟨rfl, BL.out _ _⟩
  | true =>
    by_cases h0 : x = 0
    · subst h0
      go_enter Tryz.func20, Tryz.ntmps20
      go_wp2_with fail
      refine (D.out _).mono ?_
      rintro e w1 ⟨rfl, hb⟩
      have B1 := Lib.hid hb
      obtain ⟨hc, hf⟩ := bcell hb
      clear hb
      go_wp2_with fail
      refine (C.out _ _ _ B1.out).mono ?_
      rintro e w2 ⟨rfl, hb⟩
      have B2 := Lib.hid hb
      have hz := Lib.hid B1.out.size
      clear hb
      go_wp2_with fail
      go_ret
      exact ⟨rfl, ((BL.out _ _).trans (B1.out.mono (by simp; omega))).trans (B2.out.mono (by have := hz.out; simp at this; omega))⟩
    · have h0' : (x == 0) = false := by simpa using h0
      rw [decide_eq_false h0]
      clear h0
      go_enter Tryz.func20, Tryz.ntmps20
      go_wp2_with fail
      refine (D.out _).mono ?_
      rintro e w1 ⟨rfl, hb⟩
      have B1 := Lib.hid hb
      clear hb
      go_wp2_with fail
      go_ret
      exact ⟨rfl, (BL.out _ _).trans (B1.out.mono (by simp; omega))⟩

end Go.Proofs.YtpdobbdbmgeoiaaGreat
