/-
  No statement: the contracts of sameAttr, SameAttrs and Same of package row.
-/
import Derived.Test.YtpdobbdbmgeoiaaGreatWCheck
import Derived.Test.YtpdobbdbmgeoiaaGreatSCmp
namespace Go.Proofs.YtpdobbdbmgeoiaaGreat
open Go.RowKit

/-- Are two attributes alike? -/
def sameAD (x y : AD) : Bool := (x.m.toList == y.m.toList) && decide (cmpV x.k x.n x.s x.len x.z y.k y.n y.s y.len y.z = 0)

/-- Are attributes alike? -/
def sameAs : List AD → List AD → Bool
  | x :: r, y :: s => sameAD x y && sameAs r s
  | _, _ => true

/-- Are rows alike? -/
def sameR (x y : RD) : Bool := (x.key.toList == y.key.toList) && (decide (cmpSt x.t x.i x.q x.o y.t y.i y.q y.o = 0) && (decide (x.len = y.len) && sameAs (fromA x.A x.len 0) (fromA y.A y.len 0)))

set_option maxHeartbeats 2000000 in
theorem sameAttr_any (x y : AD) (p q : Option Addr) (c d : Nat) (w : World) (h1 : Reads w p x.len x.z) (h2 : Reads w q y.len y.z) :
    Calls Tryz.prog 97 #[.agg #[.string x.m, .int .i64 x.k, .int .i64 x.n, .string x.s, .slice p x.len c], .agg #[.string y.m, .int .i64 y.k, .int .i64 y.n, .string y.s, .slice q y.len d]] w fun e w' => e = .returned (.bool (sameAD x y)) ∧ Below w.heap.size w w' := by
  obtain ⟨m1, k1, n1, s1, l1, z1⟩ := x
  obtain ⟨m2, k2, n2, s2, l2, z2⟩ := y
  simp only at h1 h2 ⊢
  have bl : ∀ o1 o2, Below w.heap.size w ((w.alloc o1).alloc o2) := fun o1 o2 => ((Below.refl _ _).alloc (Nat.le_refl _) _).alloc (by simp) _
  have C := fun o1 o2 => same_any k1 n1 s1 p l1 c z1 k2 n2 s2 q l2 d z2 _ (h1.kept (bl o1 o2)) (h2.kept (bl o1 o2))
  obtain ⟨b, hb⟩ : ∃ b, decide (cmpV k1 n1 s1 l1 z1 k2 n2 s2 l2 z2 = 0) = b := ⟨_, rfl⟩
  have E : sameAD ⟨m1, k1, n1, s1, l1, z1⟩ ⟨m2, k2, n2, s2, l2, z2⟩ = ((m1.toList == m2.toList) && b) := by unfold sameAD; rw [hb]
  rw [E]
  rw [hb] at C
  unfold val at C
  have C1 := Lib.hid C
  have BL := Lib.hid bl
  clear C bl hb h1 h2 E
  cases he : (m1.toList == m2.toList) with
  | false =>
    go_enter Tryz.func97, Tryz.ntmps97
    go_wp2_with fail
    go_ret
    exact ⟨rfl, BL.out _ _⟩
  | true =>
    go_enter Tryz.func97, Tryz.ntmps97
    go_wp2_with fail
    refine (C1.out _ _).mono ?_
    rintro e w1 ⟨rfl, hb⟩
    have B1 := Lib.hid hb
    clear hb
    go_wp2_with fail
    go_ret
    exact ⟨rfl, (BL.out _ _).trans (B1.out.mono (by simp; omega))⟩

set_option maxRecDepth 100000 in
set_option maxHeartbeats 4000000 in
theorem equalFunc_any (a1 a2 : Option Addr) (n c1 c2 : Nat) (A1 A2 : Nat → AD) (hn : n ≤ 1000000) (w : World) (h1 : ReadsA w a1 n A1) (h2 : ReadsA w a2 n A2) :
    Calls Tryz.prog 96 #[.slice a1 n c1, .slice a2 n c2, .func (.func 97) #[] #[]] w fun e w' => e = .returned (.bool (sameAs (fromA A1 n 0) (fromA A2 n 0))) ∧ Below w.heap.size w w' := by
  have R1 := Lib.hid h1
  have R2 := Lib.hid h2
  clear h1 h2
  go_enter Tryz.func96, Tryz.ntmps96
  go_wp2_with fail
  go_loopw [17] (fun i wr => ∃ k : Nat, i = .int .i64 k ∧ k ≤ n ∧ Hid (sameAs (fromA A1 n 0) (fromA A2 n 0) = sameAs (fromA A1 n k) (fromA A2 n k)) ∧ Hid (Below w.heap.size w wr) ∧ Hid (ReadsA wr a1 n A1) ∧ Hid (ReadsA wr a2 n A2)) (fun i _ => n - (intOf i).toNat)
  case atStart => exact ⟨0, rfl, Nat.zero_le _, Lib.hid rfl, Lib.hid (Below.refl _ _), R1, R2⟩
  case round =>
    obtain ⟨k, rfl, hk, hE, hB, hR1, hR2⟩ := hrel
    clear R1 R2
    by_cases hlt : k < n
    · obtain ⟨b1, o1, rfl, hc1⟩ := hR1.out.2.resolve_left (by omega)
      obtain ⟨b2, o2, rfl, hc2⟩ := hR2.out.2.resolve_left (by omega)
      obtain ⟨y1, e1, g1, r1⟩ := hc1 k hlt
      obtain ⟨y2, e2, g2, r2⟩ := hc2 k hlt
      have hE2 := hE.out
      rw [fromA_cons A1 hlt, fromA_cons A2 hlt] at hE2
      obtain ⟨x1, hx1⟩ : ∃ x, A1 k = x := ⟨_, rfl⟩
      obtain ⟨x2, hx2⟩ : ∃ x, A2 k = x := ⟨_, rfl⟩
      rw [hx1] at g1 r1 hE2
      rw [hx2] at g2 r2 hE2
      have hE2' : sameAs (fromA A1 n 0) (fromA A2 n 0) = (sameAD x1 x2 && sameAs (fromA A1 n (k + 1)) (fromA A2 n (k + 1))) := hE2
      obtain ⟨b, hb⟩ : ∃ b, sameAD x1 x2 = b := ⟨_, rfl⟩
      rw [hb] at hE2'
      have HE := Lib.hid hE2'
      have bl : ∀ o1 o2, Below wr.heap.size wr ((wr.alloc o1).alloc o2) := fun o1 o2 => ((Below.refl _ _).alloc (Nat.le_refl _) _).alloc (by simp) _
      have C := Lib.hid (fun o1 o2 => sameAttr_any x1 x2 y1 y2 e1 e2 ((wr.alloc o1).alloc o2) (r1.kept (bl o1 o2)) (r2.kept (bl o1 o2)))
      rw [hb] at C
      have BL := Lib.hid bl
      have hz := hB.out.size
      have hl2 := g2.lt
      obtain ⟨p0, p1, p2, p3, p4⟩ := g1
      obtain ⟨q0, q1, q2, q3, q4⟩ := g2
      clear hc1 hc2 r1 r2 hE2 hE2' hb bl hE
      clear hx1 hx2
      go_wp2_with fail
      refine (C.out _ _).mono ?_
      rintro e w2 ⟨rfl, hb⟩
      have B2 := Lib.hid ((BL.out _ _).trans (hb.mono (by simp; omega)))
      clear hb p0 p1 p2 p3 p4 q0 q1 q2 q3 q4 C
      cases b with
      | true =>
        go_wp2_with fail
        go_roundw
        case rel => exact ⟨k + 1, by go_num, by omega, Lib.hid (by rw [HE.out]; rfl), Lib.hid (hB.out.trans (B2.out.mono hz)), Lib.hid (hR1.out.kept B2.out), Lib.hid (hR2.out.kept B2.out)⟩
        case measure => simp [intOf]; omega
      | false =>
        go_wp2_with fail
        go_ret
        exact ⟨ret_b (by rw [HE.out]; rfl), hB.out.trans (B2.out.mono hz)⟩
    · go_wp2_with fail
      go_ret
      exact ⟨ret_b (by rw [hE.out, fromA_nil A1 (by omega)]; rfl), hB.out⟩

set_option maxHeartbeats 2000000 in
theorem equalFunc_off (a1 a2 : Option Addr) (n1 n2 c1 c2 : Nat) (_h1 : n1 ≤ maxLen) (_h2 : n2 ≤ maxLen) (hn : ¬ n1 = n2) (w : World) :
    Calls Tryz.prog 96 #[.slice a1 n1 c1, .slice a2 n2 c2, .func (.func 97) #[] #[]] w fun e w' => e = .returned (.bool false) ∧ w = w' := by
  unfold maxLen at _h1 _h2
  have e1 : ((n1 : Int) == (n2 : Int)) = false := by rw [beq_eq_false_iff_ne]; omega
  have e2 : (n1 == n2) = false := by rw [beq_eq_false_iff_ne]; exact hn
  clear hn
  go_enter Tryz.func96, Tryz.ntmps96
  go_wp2_with fail
  go_ret
  exact ⟨rfl, rfl⟩

/-- Are attributes alike, as many as there are? -/
def sameL (n1 n2 : Nat) (A1 A2 : Nat → AD) : Bool := decide (n1 = n2) && sameAs (fromA A1 n1 0) (fromA A2 n2 0)

set_option maxHeartbeats 2000000 in
theorem sameAttrs_any (a1 a2 : Option Addr) (n1 n2 c1 c2 : Nat) (A1 A2 : Nat → AD) (hn : n1 ≤ 1000000) (w : World) (h1 : ReadsA w a1 n1 A1) (h2 : ReadsA w a2 n2 A2) :
    Calls Tryz.prog 58 #[.slice a1 n1 c1, .slice a2 n2 c2] w fun e w' => e = .returned (.bool (sameL n1 n2 A1 A2)) ∧ Below w.heap.size w w' := by
  unfold sameL
  by_cases he : n1 = n2
  · subst he
    rw [decide_eq_true rfl, Bool.true_and]
    have C := Lib.hid (equalFunc_any a1 a2 n1 c1 c2 A1 A2 hn w h1 h2)
    obtain ⟨b, hb⟩ : ∃ b, sameAs (fromA A1 n1 0) (fromA A2 n1 0) = b := ⟨_, rfl⟩
    rw [hb] at C ⊢
    clear hb h1 h2
    go_enter Tryz.func58, Tryz.ntmps58
    go_wp2_with fail
    refine C.out.mono ?_
    rintro e w1 ⟨rfl, hb⟩
    have B1 := Lib.hid hb
    clear hb
    go_wp2_with fail
    go_ret
    exact ⟨rfl, B1.out⟩
  · rw [decide_eq_false he, Bool.false_and]
    have C := Lib.hid (equalFunc_off a1 a2 n1 n2 c1 c2 h1.1 h2.1 he w)
    clear h1 h2 he
    go_enter Tryz.func58, Tryz.ntmps58
    go_wp2_with fail
    refine C.out.mono ?_
    rintro e w1 ⟨rfl, rfl⟩
    go_wp2_with fail
    go_ret
    exact ⟨rfl, Below.refl _ _⟩

set_option maxHeartbeats 4000000 in
theorem rowSame_any (x y : RD) (a1 a2 : Option Addr) (c1 c2 : Nat) (hn : x.len ≤ 1000000) (w : World) (h1 : ReadsA w a1 x.len x.A) (h2 : ReadsA w a2 y.len y.A) :
    Calls Tryz.prog 24 #[.agg #[.string x.key, .int .i64 x.t, .int .i64 x.i, .int .i64 x.q, .string x.o, .slice a1 x.len c1], .agg #[.string y.key, .int .i64 y.t, .int .i64 y.i, .int .i64 y.q, .string y.o, .slice a2 y.len c2]] w fun e w' => e = .returned (.bool (sameR x y)) ∧ Below w.heap.size w w' := by
  obtain ⟨k1, t1, i1, q1, o1, n1, A1⟩ := x
  obtain ⟨k2, t2, i2, q2, o2, n2, A2⟩ := y
  simp only at hn h1 h2 ⊢
  have bl : ∀ o1 o2, Below w.heap.size w ((w.alloc o1).alloc o2) := fun o1 o2 => ((Below.refl _ _).alloc (Nat.le_refl _) _).alloc (by simp) _
  have C := Lib.hid (p := ∀ o3 o4 w2, Below ((w.alloc o3).alloc o4).heap.size ((w.alloc o3).alloc o4) w2 → Calls Tryz.prog 58 #[.slice a1 n1 c1, .slice a2 n2 c2] w2 fun e w' => e = .returned (.bool (sameL n1 n2 A1 A2)) ∧ Below w2.heap.size w2 w') (fun o3 o4 w2 h => sameAttrs_any a1 a2 n1 n2 c1 c2 A1 A2 hn w2 ((h1.kept (bl o3 o4)).kept h) ((h2.kept (bl o3 o4)).kept h))
  have D := Lib.hid (fun w => stampCompare_any t1 i1 q1 o1 t2 i2 q2 o2 w)
  have E : sameR ⟨k1, t1, i1, q1, o1, n1, A1⟩ ⟨k2, t2, i2, q2, o2, n2, A2⟩ = ((k1.toList == k2.toList) && (decide (cmpSt t1 i1 q1 o1 t2 i2 q2 o2 = 0) && sameL n1 n2 A1 A2)) := rfl
  obtain ⟨x, hx⟩ : ∃ x, cmpSt t1 i1 q1 o1 t2 i2 q2 o2 = x := ⟨_, rfl⟩
  obtain ⟨b, hb⟩ : ∃ b, sameL n1 n2 A1 A2 = b := ⟨_, rfl⟩
  rw [hx, hb] at E
  rw [hx] at D
  rw [hb] at C
  unfold stp at D
  rw [E]
  have BL := Lib.hid bl
  clear bl hb hx h1 h2 E
  cases he : (k1.toList == k2.toList) with
  | false =>
    go_enter Tryz.func24, Tryz.ntmps24
    go_wp2_with fail
    go_ret
    exact ⟨rfl, BL.out _ _⟩
  | true =>
    by_cases h0 : x = 0
    · subst h0
      go_enter Tryz.func24, Tryz.ntmps24
      go_wp2_with fail
      refine (D.out _).mono ?_
      rintro e w1 ⟨rfl, hb⟩
      have B1 := Lib.hid hb
      obtain ⟨hc, hf⟩ := bcell hb
      clear hb
      go_wp2_with fail
      refine (C.out _ _ _ B1.out).mono ?_
      rintro e w2 ⟨rfl, hb⟩
      have B2 := Lib.hid hb
      have hz := Lib.hid B1.out.size
      clear hb
      go_wp2_with fail
      go_ret
      exact ⟨rfl, ((BL.out _ _).trans (B1.out.mono (by simp; omega))).trans (B2.out.mono (by have := hz.out; simp at this; omega))⟩
    · have h0' : (x == 0) = false := by simpa using h0
      rw [decide_eq_false h0]
      clear h0
      go_enter Tryz.func24, Tryz.ntmps24
      go_wp2_with fail
      refine (D.out _).mono ?_
      rintro e w1 ⟨rfl, hb⟩
      have B1 := Lib.hid hb
      clear hb
      go_wp2_with fail
      go_ret
      exact ⟨rfl, (BL.out _ _).trans (B1.out.mono (by simp; omega))⟩

end Go.Proofs.YtpdobbdbmgeoiaaGreat
