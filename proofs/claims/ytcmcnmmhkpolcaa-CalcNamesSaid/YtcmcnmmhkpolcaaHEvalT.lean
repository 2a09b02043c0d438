/-
  No statement: contracts of eval and Eval of package calc (P1001).
-/
import Derived.Test.YtcmcnmmhkpolcaaHEval
namespace Go.Proofs.Ytcmcnmmhkpolcaa
open Go.RowKit

/-- What stands under which an expression is asked: attributes that rise, and what names have in them. -/
structure Under (A : Nat → Wr.AD) (n : Nat) (g : ByteArray → Option Int) : Prop where
  ok : GetOK A n g
  ri : Wr.RiseA A n
  few : n ≤ 1000
  sm : ∀ j, j < n → (A j).len ≤ 1000000

/-- What eval does at a tree. -/
def PEv (A : Nat → Wr.AD) (n : Nat) (g : ByteArray → Option Int) (t : TN) : Prop := ∀ (G : Nat → Prop) (w : World) (a : Option Addr) (c : Nat) (y : Option Addr) (cy : Nat), ReadsN G w a t.ks → Wr.ReadsA w y n A →
  Calls Try.prog 24 #[nodeV t.op t.nm t.n a t.ks.len c, .slice y n cy] w fun e w' => e = .returned (.tuple #[.int .i64 ((evT g t).getD 0), .bool (evT g t).isSome]) ∧ Below w.heap.size w w'

variable {A : Nat → Wr.AD} {n : Nat} {g : ByteArray → Option Int}

set_option maxHeartbeats 4000000 in
theorem pev_num (o m : ByteArray) (v : Int) (h1 : isNum o = true) : PEv A n g ⟨o, m, v, .nil⟩ := by
  intro G w a c y cy hr hA
  rw [ev_num g h1]
  clear hr hA
  dsimp only
  have g1 := op_yes h1
  unfold bNum at g1
  have NB := Lib.hid (heap_alloc_new w (ndG o m v a F.nil.len c))
  have B0 := Lib.hid ((Below.refl w.heap.size w).alloc (Nat.le_refl _) (ndG o m v a F.nil.len c))
  clear h1
  go_enter Try.func24, Try.ntmps24
  go_wp2_with fail
  go_ret2
  exact ⟨rfl, B0.out⟩

set_option maxHeartbeats 4000000 in
theorem pev_name (U : Under A n g) (o m : ByteArray) (v : Int) (h1 : isNum o = false) (h2 : isName o = true) : PEv A n g ⟨o, m, v, .nil⟩ := by
  intro G w a c y cy hr hA
  rw [ev_name g h1 h2]
  dsimp only
  have g1 := op_not h1
  have g2 := op_yes h2
  unfold bNum at g1
  unfold bName at g2
  have B0 := Lib.hid ((Below.refl w.heap.size w).alloc (Nat.le_refl _) (ndG o m v a F.nil.len c))
  have C := Lib.hid (number_any U.ok U.ri U.few U.sm y cy m (w.alloc (ndG o m v a F.nil.len c)) (hA.kept B0.out))
  obtain ⟨q, hq⟩ : ∃ q, g m = q := ⟨_, rfl⟩
  rw [hq] at C ⊢
  clear h1 h2 hr hA hq
  go_enter Try.func24, Try.ntmps24
  go_wp2_with fail
  refine C.out.mono ?_
  rintro e w1 ⟨rfl, hb⟩
  have B1 := Lib.hid (B0.out.trans (hb.mono B0.out.size))
  clear hb
  go_wp2_with fail
  go_ret2
  exact ⟨rfl, B1.out⟩

set_option maxHeartbeats 8000000 in
theorem pev_neg (o m : ByteArray) (v : Int) (t : TN) (h1 : isNum o = false) (h2 : isName o = false) (h3 : isNeg o = true) (hi : ∀ x, evT g t = some x → In64 x) (ih : PEv A n g t) : PEv A n g ⟨o, m, v, t.f⟩ := by
  intro G w a c y cy hr hA
  rw [ev_neg g t h1 h2 h3]
  dsimp only at hr ⊢
  rw [show t.f.len = 1 from rfl]
  have g1 := op_not h1
  have g2 := op_not h2
  have g3 := op_yes h3
  unfold bNum at g1
  unfold bName at g2
  unfold bNeg at g3
  have NB := Lib.hid (heap_alloc_new w (ndG o m v a 1 c))
  have B0 := Lib.hid ((Below.refl w.heap.size w).alloc (Nat.le_refl _) (ndG o m v a 1 c))
  obtain ⟨b, off, a2, c2, ha, hG, hbl, ⟨p0, p1, p2, p3⟩, hr2⟩ := readsN_at (hr.kept B0.out) (show t.f.at 0 = some t from rfl)
  have C := Lib.hid (ih G (w.alloc (ndG o m v a 1 c)) a2 c2 y cy hr2 (hA.kept B0.out))
  rw [Nat.zero_mul, Nat.add_zero] at p0 p1 p2 p3
  subst ha
  have SB := Lib.hid (fun (x : Int) (h : In64 x) (V : World) => vSub_any 0 x V (by unfold In64; omega) h)
  have HI : In64 ((evT g t).getD 0) := by
    cases hE : evT g t with
    | none => show In64 0; unfold In64; omega
    | some x => exact hi x hE
  have RS : (Option.map (fun x => cut64 (0 - x)) (evT g t)).getD 0 = cut64 (0 - (evT g t).getD 0) ∧ (Option.map (fun x => cut64 (0 - x)) (evT g t)).isSome = (evT g t).isSome := by
    cases evT g t with
    | none => exact ⟨by decide, rfl⟩
    | some x => exact ⟨rfl, rfl⟩
  rw [RS.1, RS.2]
  obtain ⟨q, hq⟩ : ∃ q, (evT g t).getD 0 = q := ⟨_, rfl⟩
  obtain ⟨z, hz⟩ : ∃ z, (evT g t).isSome = z := ⟨_, rfl⟩
  rw [hq] at C HI ⊢
  rw [hz] at C ⊢
  have S1 := Lib.hid (SB.out q HI)
  rw [Int.zero_sub]
  clear h1 h2 h3 hr hA ih hr2 hq hz RS HI hi SB
  go_enter Try.func24, Try.ntmps24
  go_wp2_with fail
  generalize w.alloc (ndG o m v (some ⟨b, off, none⟩) 1 c) = W at NB B0 C hbl p0 p1 p2 p3 ⊢
  obtain ⟨⟨m0, m1, m2, m3⟩, -⟩ := four NB.out
  go_wp2_with fail
  refine C.out.mono ?_
  rintro e w1 ⟨rfl, hb⟩
  have B1 := Lib.hid (B0.out.trans (hb.mono B0.out.size))
  clear hb
  go_wp2_with fail
  refine (S1.out _).mono ?_
  rintro e w2 ⟨rfl, rfl⟩
  go_wp2_with fail
  go_ret2
  exact ⟨rfl, B1.out⟩

set_option maxHeartbeats 8000000 in
theorem pev_two (o m : ByteArray) (v : Int) (t u : TN) (h1 : isNum o = false) (h2 : isName o = false) (h3 : isNeg o = false) (h4 : isTwo o = true) (hi : ∀ x, evT g t = some x → In64 x) (hj : ∀ x, evT g u = some x → In64 x) (ih : PEv A n g t) (iu : PEv A n g u) : PEv A n g ⟨o, m, v, .cons t.op t.nm t.n t.ks u.f⟩ := by
  intro G w a c y cy hr hA
  rw [ev_two g t u h1 h2 h3]
  dsimp only at hr ⊢
  rw [show (F.cons t.op t.nm t.n t.ks u.f).len = 2 from rfl]
  have g1 := op_not h1
  have g2 := op_not h2
  have g3 := op_not h3
  unfold bNum at g1
  unfold bName at g2
  unfold bNeg at g3
  have NB := Lib.hid (heap_alloc_new w (ndG o m v a 2 c))
  have B0 := Lib.hid ((Below.refl w.heap.size w).alloc (Nat.le_refl _) (ndG o m v a 2 c))
  obtain ⟨b, off, a2, c2, ha, hG, hbl, ⟨p0, p1, p2, p3⟩, hr2⟩ := readsN_at (hr.kept B0.out) (show (F.cons t.op t.nm t.n t.ks u.f).at 0 = some t from rfl)
  obtain ⟨b', off', a3, c3, ha', hG', hbl', ⟨q0, q1, q2, q3⟩, hr3⟩ := readsN_at (hr.kept B0.out) (show (F.cons t.op t.nm t.n t.ks u.f).at 1 = some u from rfl)
  subst ha
  cases ha'
  have C := Lib.hid (ih G (w.alloc (ndG o m v (some ⟨b, off, none⟩) 2 c)) a2 c2 y cy hr2 (hA.kept B0.out))
  have D := Lib.hid (fun V (hV : Below (w.alloc (ndG o m v (some ⟨b, off, none⟩) 2 c)).heap.size (w.alloc (ndG o m v (some ⟨b, off, none⟩) 2 c)) V) => iu G V a3 c3 y cy (hr3.kept hV) ((hA.kept B0.out).kept hV))
  have AP := Lib.hid (fun (p q : Int) (hp : In64 p) (hq : In64 q) (V : World) => pApply_any o p q hp hq h4 V)
  rw [Nat.zero_mul, Nat.add_zero] at p0 p1 p2 p3
  rw [Nat.one_mul] at q0 q1 q2 q3
  clear h1 h2 h3 h4 hr hA ih iu hr2 hr3
  cases hT : evT g t with
  | none =>
    rw [hT] at C
    simp only [Option.getD_none, Option.isSome_none] at C ⊢
    clear hT hi hj D AP
    go_enter Try.func24, Try.ntmps24
    go_wp2_with fail
    generalize w.alloc (ndG o m v (some ⟨b, off, none⟩) 2 c) = W at NB B0 C hbl p0 p1 p2 p3 ⊢
    obtain ⟨⟨m0, m1, m2, m3⟩, -⟩ := four NB.out
    go_wp2_with fail
    refine C.out.mono ?_
    rintro e w1 ⟨rfl, hb⟩
    have B1 := Lib.hid (B0.out.trans (hb.mono B0.out.size))
    clear hb
    go_wp2_with fail
    go_ret2
    exact ⟨rfl, B1.out⟩
  | some p =>
    rw [hT] at C
    simp only [Option.getD_some, Option.isSome_some] at C
    have HP := Lib.hid (hi p hT)
    cases hU : evT g u with
    | none =>
      rw [hU] at D
      simp only [Option.getD_none, Option.isSome_none] at D ⊢
      clear hT hi hj hU AP
      go_enter Try.func24, Try.ntmps24
      go_wp2_with fail
      generalize w.alloc (ndG o m v (some ⟨b, off, none⟩) 2 c) = W at NB B0 C D hbl hbl' p0 p1 p2 p3 q0 q1 q2 q3 ⊢
      obtain ⟨⟨m0, m1, m2, m3⟩, -⟩ := four NB.out
      go_wp2_with fail
      refine C.out.mono ?_
      rintro e w1 ⟨rfl, hb⟩
      have D1 := Lib.hid (D.out w1 hb)
      have B1 := Lib.hid (B0.out.trans (hb.mono B0.out.size))
      have s0 := (hb.cell hbl').trans q0
      have s1 := (hb.cell hbl').trans q1
      have s2 := (hb.cell hbl').trans q2
      have s3 := (hb.cell hbl').trans q3
      have s4 := (hb.cell (lt_block NB.out)).trans m3
      have s5 := (hb.cell (lt_block NB.out)).trans m0
      clear hb p0 p1 p2 p3 q0 q1 q2 q3 m0 m1 m2 m3 C D
      go_wp2_with fail
      refine D1.out.mono ?_
      rintro e w2 ⟨rfl, hb⟩
      have B2 := Lib.hid (B1.out.trans (hb.mono B1.out.size))
      clear hb
      go_wp2_with fail
      go_ret2
      exact ⟨rfl, B2.out⟩
    | some q =>
      rw [hU] at D
      simp only [Option.getD_some, Option.isSome_some] at D ⊢
      have A1 := Lib.hid (AP.out p q HP.out (hj q hU))
      clear hT hi hj hU AP HP
      go_enter Try.func24, Try.ntmps24
      go_wp2_with fail
      generalize w.alloc (ndG o m v (some ⟨b, off, none⟩) 2 c) = W at NB B0 C D hbl hbl' p0 p1 p2 p3 q0 q1 q2 q3 ⊢
      obtain ⟨⟨m0, m1, m2, m3⟩, -⟩ := four NB.out
      go_wp2_with fail
      refine C.out.mono ?_
      rintro e w1 ⟨rfl, hb⟩
      have D1 := Lib.hid (D.out w1 hb)
      have B1 := Lib.hid (B0.out.trans (hb.mono B0.out.size))
      have s0 := (hb.cell hbl').trans q0
      have s1 := (hb.cell hbl').trans q1
      have s2 := (hb.cell hbl').trans q2
      have s3 := (hb.cell hbl').trans q3
      have N1 := Lib.hid ((hb.block _ (lt_block NB.out)).trans NB.out)
      have s4 := (hb.cell (lt_block NB.out)).trans m3
      have s5 := (hb.cell (lt_block NB.out)).trans m0
      clear hb p0 p1 p2 p3 q0 q1 q2 q3 m0 m1 m2 m3 C D
      go_wp2_with fail
      refine D1.out.mono ?_
      rintro e w2 ⟨rfl, hb⟩
      have B2 := Lib.hid (B1.out.trans (hb.mono B1.out.size))
      have s6 := (hb.cell (lt_block N1.out)).trans s5
      clear hb s0 s1 s2 s3 s4 s5
      go_wp2_with fail
      refine (A1.out _).mono ?_
      rintro e w3 ⟨rfl, rfl⟩
      go_wp2_with fail
      go_ret2
      exact ⟨rfl, B2.out⟩

theorem pev_any (U : Under A n g) (t : TN) (h : OkT t) (hn : NumsF t.f) : PEv A n g t ∧ ∀ x, evT g t = some x → In64 x :=
  tree_induct1 (P := fun t => PEv A n g t ∧ ∀ x, evT g t = some x → In64 x)
    (fun o m v a b d => ⟨pev_num o m v a, fun x hx => by rw [ev_num g a] at hx; cases hx; unfold In64; omega⟩)
    (fun o m v a b _ => ⟨pev_name U o m v a b, fun x hx => by rw [ev_name g a b] at hx; exact U.ok.fit _ _ hx⟩)
    (fun o m v t a b c ih => ⟨pev_neg o m v t a b c ih.2 ih.1, fun x hx => by
      rw [ev_neg g t a b c, Option.map_eq_some_iff] at hx
      obtain ⟨z, _, rfl⟩ := hx
      exact cut64_in _⟩)
    (fun o m v t u a b c d ih iu => ⟨pev_two o m v t u a b c d ih.2 iu.2 ih.1 iu.1, fun x hx => by
      rw [ev_two g t u a b c] at hx
      split at hx
      · rename_i p q hp hq
        exact apply_in (ih.2 _ hp) hx
      · cases hx⟩) t h hn

set_option maxHeartbeats 4000000 in
theorem pEval_any (U : Under A n g) (t : TN) (h : checkT t = 0) (hn : NumsF t.f) (hS : SzF t.f) (G : Nat → Prop) (w : World) (a : Option Addr) (c : Nat) (y : Option Addr) (cy : Nat) (hr : ReadsN G w a t.ks) (hA : Wr.ReadsA w y n A) :
    Calls Try.prog 11 #[nodeV t.op t.nm t.n a t.ks.len c, .slice y n cy] w fun e w' => e = .returned (.tuple #[.int .i64 ((evT g t).getD 0), .bool (evT g t).isSome]) ∧ Below w.heap.size w w' := by
  have B0 := (Below.refl w.heap.size w).alloc (Nat.le_refl _) (ndG t.op t.nm t.n a t.ks.len c)
  have N0 := heap_alloc_new w (ndG t.op t.nm t.n a t.ks.len c)
  have R0 := hr.kept B0
  have A0 := hA.kept B0
  generalize hW : w.alloc (ndG t.op t.nm t.n a t.ks.len c) = W at B0 N0 R0 A0
  have HW := Lib.hid hW
  have HB := Lib.hid B0
  have CK := Lib.hid (pCheck_any t G W a c hS R0)
  rw [h] at CK
  have EV := Lib.hid (fun V (hV : Below W.heap.size W V) => (pev_any U t ((check_iff t).1 h).1 hn).1 G V a c y cy (R0.kept hV) (A0.kept hV))
  obtain ⟨q, hq⟩ : ∃ q, (evT g t).getD 0 = q := ⟨_, rfl⟩
  obtain ⟨z, hz⟩ : ∃ z, (evT g t).isSome = z := ⟨_, rfl⟩
  rw [hq, hz] at EV ⊢
  have HN := Lib.hid N0
  clear hr hA B0 N0 R0 A0 hW hq hz h
  obtain ⟨⟨m0, m1, m2, m3⟩, -⟩ := four HN.out
  go_enter Try.func11, Try.ntmps11
  go_upto_region 1 with fail
  rw [HW.out]
  go_wp2_with fail
  refine CK.out.mono ?_
  rintro e w1 ⟨rfl, hb⟩
  have E1 := Lib.hid (EV.out w1 hb)
  have B1 := Lib.hid (HB.out.trans (hb.mono HB.out.size))
  have N1 := (hb.block _ (lt_block HN.out)).trans HN.out
  clear hb m0 m1 m2 m3 EV CK
  obtain ⟨⟨m0, m1, m2, m3⟩, -⟩ := four N1
  clear N1
  go_wp2_with fail
  refine E1.out.mono ?_
  rintro e w2 ⟨rfl, hb⟩
  have B2 := Lib.hid (B1.out.trans (hb.mono B1.out.size))
  clear hb
  go_wp2_with fail
  go_ret2
  exact ⟨rfl, B2.out⟩

end Go.Proofs.Ytcmcnmmhkpolcaa
