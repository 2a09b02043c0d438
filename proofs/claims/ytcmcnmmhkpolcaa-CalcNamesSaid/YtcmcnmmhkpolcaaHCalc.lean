/-
  No statement: the contract of the document's Calc (P1001).
-/
import Derived.Test.YtcmcnmmhkpolcaaHEvalT
import Derived.Test.YtcmcnmmhkpolcaaHW6
namespace Go.Proofs.Ytcmcnmmhkpolcaa
open Go.RowKit

/-- What the document's Calc does at a tree. -/
def REv (A : Nat → Wr.AD) (n : Nat) (g : ByteArray → Option Int) (t : TN) : Prop := ∀ (G : Nat → Prop) (w : World) (a : Option Addr) (c : Nat) (y : Option Addr) (cy : Nat), ReadsN G w a t.ks → Wr.ReadsA w y n A →
  Calls Try.prog 12 #[nodeV t.op t.nm t.n a t.ks.len c, .slice y n cy] w fun e w' => e = .returned (.tuple #[.int .i64 ((evT g t).getD 0), .bool (evT g t).isSome]) ∧ Below w.heap.size w w'

variable {A : Nat → Wr.AD} {n : Nat} {g : ByteArray → Option Int}

theorem found_ref (hg : GetOK A n g) (x : ByteArray) : ¬ has (Wr.nmA A n) x = true → g x = none := fun h => hg.no x fun _ hj e => h (Wr.nmA_has hj e)

set_option maxHeartbeats 4000000 in
theorem rev_num (o m : ByteArray) (v : Int) (h1 : isNum o = true) : REv A n g ⟨o, m, v, .nil⟩ := by
  intro G w a c y cy hr hA
  rw [ev_num g h1]
  clear hr hA
  dsimp only
  have g1 := op_yes h1
  unfold bNum at g1
  have B0 := Lib.hid ((Below.refl w.heap.size w).alloc (Nat.le_refl _) (ndO o m v a F.nil.len c))
  clear h1
  go_enter Try.func12, Try.ntmps12
  go_wp2_with fail
  go_ret2
  exact ⟨rfl, B0.out⟩

set_option maxHeartbeats 8000000 in
theorem rev_name (hg : GetOK A n g) (hn : n ≤ 1000) (o m : ByteArray) (v : Int) (h1 : isNum o = false) (h2 : isName o = true) : REv A n g ⟨o, m, v, .nil⟩ := by
  intro G w a c y cy hr hA
  rw [ev_name g h1 h2]
  dsimp only
  have g1 := op_not h1
  have g2 := op_yes h2
  unfold bNum at g1
  unfold bName at g2
  have B0 := Lib.hid ((Below.refl w.heap.size w).alloc (Nat.le_refl _) (ndO o m v a F.nil.len c))
  have C := Lib.hid (Wr.rGet_any y n cy A m hn (w.alloc (ndO o m v a F.nil.len c)) (hA.kept B0.out))
  clear h1 h2 hr hA
  by_cases hh : has (Wr.nmA A n) m = true
  · have C1 := Lib.hid (p := Calls Try.prog 25 #[.slice y n cy, .string m] (w.alloc (ndO o m v a F.nil.len c)) fun e w' => (∃ (k N : Int) (Z : ByteArray) (a : Option Addr) (L c : Nat), g m = (if k = 1 then some N else none) ∧ e = .returned (.tuple #[.agg #[.int .i64 k, .int .i64 N, .string Z, .slice a L c], .bool true])) ∧ Below (w.alloc (ndO o m v a F.nil.len c)).heap.size (w.alloc (ndO o m v a F.nil.len c)) w') (C.out.mono fun e w' ⟨he, hb⟩ => by
      rw [if_pos hh] at he
      obtain ⟨j, y2, c2, hj, rfl, he, -⟩ := he
      exact ⟨⟨_, _, _, y2, _, c2, hg.yes j hj, he⟩, hb⟩)
    clear C hh
    go_enter Try.func12, Try.ntmps12
    go_wp2_with fail
    refine C1.out.mono ?_
    rintro e w1 ⟨⟨k, N, Z, a2, L, c2, hv, rfl⟩, hb⟩
    have B1 := Lib.hid (B0.out.trans (hb.mono B0.out.size))
    have HV := Lib.hid hv
    clear hb hv C1
    have B2 := Lib.hid (B1.out.trans (((Below.refl w1.heap.size w1).alloc (Nat.le_refl _) (.cells #[.int .i64 k, .int .i64 N, .string Z, .slice a2 L c2] 62)).mono B1.out.size))
    by_cases h1 : k = 1
    · subst h1
      have HG := Lib.hid (show g m = some N by rw [HV.out, if_pos rfl])
      clear HV
      go_wp2_with fail
      go_ret2
      exact ⟨by rw [HG.out]; rfl, B2.out⟩
    · have HG := Lib.hid (show g m = none by rw [HV.out, if_neg h1])
      have e1 : (k == 1) = false := by simpa using h1
      have e2 : (k != 1) = true := by simpa using h1
      clear HV
      go_wp2_with fail
      go_ret2
      exact ⟨by rw [HG.out]; rfl, B2.out⟩
  · have HG := Lib.hid (found_ref hg m hh)
    have C1 := Lib.hid (p := Calls Try.prog 25 #[.slice y n cy, .string m] (w.alloc (ndO o m v a F.nil.len c)) fun e w' => e = .returned (.tuple #[.agg #[.int .i64 0, .int .i64 0, .string ⟨#[]⟩, .slice none 0 0], .bool false]) ∧ Below (w.alloc (ndO o m v a F.nil.len c)).heap.size (w.alloc (ndO o m v a F.nil.len c)) w') (C.out.mono fun e w' ⟨he, hb⟩ => by
      rw [if_neg hh] at he
      exact ⟨he, hb⟩)
    clear C hh
    go_enter Try.func12, Try.ntmps12
    go_wp2_with fail
    refine C1.out.mono ?_
    rintro e w1 ⟨rfl, hb⟩
    have B1 := Lib.hid (B0.out.trans (hb.mono B0.out.size))
    have B2 := Lib.hid (B1.out.trans (((Below.refl w1.heap.size w1).alloc (Nat.le_refl _) (.cells #[.int .i64 0, .int .i64 0, .string ⟨#[]⟩, .slice none 0 0] 62)).mono B1.out.size))
    clear hb C1
    go_wp2_with fail
    go_ret2
    exact ⟨by rw [HG.out]; rfl, B2.out⟩

set_option maxHeartbeats 8000000 in
theorem rev_neg (o m : ByteArray) (v : Int) (t : TN) (h1 : isNum o = false) (h2 : isName o = false) (h3 : isNeg o = true) (hi : ∀ x, evT g t = some x → In64 x) (ih : REv A n g t) : REv A n g ⟨o, m, v, t.f⟩ := by
  intro G w a c y cy hr hA
  rw [ev_neg g t h1 h2 h3]
  dsimp only at hr ⊢
  rw [show t.f.len = 1 from rfl]
  have g1 := op_not h1
  have g2 := op_not h2
  have g3 := op_yes h3
  unfold bNum at g1
  unfold bName at g2
  unfold bNeg at g3
  have NB := Lib.hid (heap_alloc_new w (ndO o m v a 1 c))
  have B0 := Lib.hid ((Below.refl w.heap.size w).alloc (Nat.le_refl _) (ndO o m v a 1 c))
  obtain ⟨b, off, a2, c2, ha, hG, hbl, ⟨p0, p1, p2, p3⟩, hr2⟩ := readsN_at (hr.kept B0.out) (show t.f.at 0 = some t from rfl)
  have C := Lib.hid (ih G (w.alloc (ndO o m v a 1 c)) a2 c2 y cy hr2 (hA.kept B0.out))
  rw [Nat.zero_mul, Nat.add_zero] at p0 p1 p2 p3
  subst ha
  have SB := Lib.hid (fun (x : Int) (h : In64 x) (V : World) => rSub_any 0 x V (by unfold In64; omega) h)
  clear h1 h2 h3 hr hA ih hr2
  cases hT : evT g t with
  | none =>
    rw [hT] at C
    simp only [Option.getD_none, Option.isSome_none, Option.map_none] at C ⊢
    clear hT hi SB
    go_enter Try.func12, Try.ntmps12
    go_wp2_with fail
    generalize w.alloc (ndO o m v (some ⟨b, off, none⟩) 1 c) = W at NB B0 C hbl p0 p1 p2 p3 ⊢
    obtain ⟨⟨m0, m1, m2, m3⟩, -⟩ := four NB.out
    go_wp2_with fail
    refine C.out.mono ?_
    rintro e w1 ⟨rfl, hb⟩
    have B1 := Lib.hid (B0.out.trans (hb.mono B0.out.size))
    clear hb
    go_wp2_with fail
    go_ret2
    exact ⟨rfl, B1.out⟩
  | some q =>
    rw [hT] at C
    simp only [Option.getD_some, Option.isSome_some, Option.map_some] at C ⊢
    have S1 := Lib.hid (SB.out q (hi q hT))
    rw [Int.zero_sub]
    clear hT hi SB
    go_enter Try.func12, Try.ntmps12
    go_wp2_with fail
    generalize w.alloc (ndO o m v (some ⟨b, off, none⟩) 1 c) = W at NB B0 C hbl p0 p1 p2 p3 ⊢
    obtain ⟨⟨m0, m1, m2, m3⟩, -⟩ := four NB.out
    go_wp2_with fail
    refine C.out.mono ?_
    rintro e w1 ⟨rfl, hb⟩
    have B1 := Lib.hid (B0.out.trans (hb.mono B0.out.size))
    clear hb
    go_wp2_with fail
    refine (S1.out _).mono ?_
    rintro e w2 ⟨rfl, rfl⟩
    go_wp2_with fail
    go_ret2
    exact ⟨rfl, B1.out⟩

set_option maxHeartbeats 8000000 in
theorem rev_none (o m : ByteArray) (v : Int) (t u : TN) (h1 : isNum o = false) (h2 : isName o = false) (h3 : isNeg o = false) (hno : ¬ ∃ p q, evT g t = some p ∧ evT g u = some q) (ih : REv A n g t) (iu : REv A n g u) : REv A n g ⟨o, m, v, .cons t.op t.nm t.n t.ks u.f⟩ := by
  intro G w a c y cy hr hA
  rw [ev_two g t u h1 h2 h3]
  dsimp only at hr ⊢
  rw [show (F.cons t.op t.nm t.n t.ks u.f).len = 2 from rfl]
  have g1 := op_not h1
  have g2 := op_not h2
  have g3 := op_not h3
  unfold bNum at g1
  unfold bName at g2
  unfold bNeg at g3
  have NB := Lib.hid (heap_alloc_new w (ndO o m v a 2 c))
  have B0 := Lib.hid ((Below.refl w.heap.size w).alloc (Nat.le_refl _) (ndO o m v a 2 c))
  obtain ⟨b, off, a2, c2, ha, hG, hbl, ⟨p0, p1, p2, p3⟩, hr2⟩ := readsN_at (hr.kept B0.out) (show (F.cons t.op t.nm t.n t.ks u.f).at 0 = some t from rfl)
  obtain ⟨b', off', a3, c3, ha', hG', hbl', ⟨q0, q1, q2, q3⟩, hr3⟩ := readsN_at (hr.kept B0.out) (show (F.cons t.op t.nm t.n t.ks u.f).at 1 = some u from rfl)
  subst ha
  cases ha'
  have C := Lib.hid (ih G (w.alloc (ndO o m v (some ⟨b, off, none⟩) 2 c)) a2 c2 y cy hr2 (hA.kept B0.out))
  have D := Lib.hid (fun V (hV : Below (w.alloc (ndO o m v (some ⟨b, off, none⟩) 2 c)).heap.size (w.alloc (ndO o m v (some ⟨b, off, none⟩) 2 c)) V) => iu G V a3 c3 y cy (hr3.kept hV) ((hA.kept B0.out).kept hV))
  rw [Nat.zero_mul, Nat.add_zero] at p0 p1 p2 p3
  rw [Nat.one_mul] at q0 q1 q2 q3
  clear h1 h2 h3 hr hA ih iu hr2 hr3
  cases hT : evT g t with
  | none =>
    rw [hT] at C
    simp only [Option.getD_none, Option.isSome_none] at C ⊢
    obtain ⟨q, hq⟩ : ∃ q, (evT g u).getD 0 = q := ⟨_, rfl⟩
    obtain ⟨z, hz⟩ : ∃ z, (evT g u).isSome = z := ⟨_, rfl⟩
    rw [hq, hz] at D
    clear hT hno hq hz
    go_enter Try.func12, Try.ntmps12
    go_wp2_with fail
    generalize w.alloc (ndO o m v (some ⟨b, off, none⟩) 2 c) = W at NB B0 C D hbl hbl' p0 p1 p2 p3 q0 q1 q2 q3 ⊢
    obtain ⟨⟨m0, m1, m2, m3⟩, -⟩ := four NB.out
    go_wp2_with fail
    refine C.out.mono ?_
    rintro e w1 ⟨rfl, hb⟩
    have D1 := Lib.hid (D.out w1 hb)
    have B1 := Lib.hid (B0.out.trans (hb.mono B0.out.size))
    have s0 := (hb.cell hbl').trans q0
    have s1 := (hb.cell hbl').trans q1
    have s2 := (hb.cell hbl').trans q2
    have s3 := (hb.cell hbl').trans q3
    have N1 := Lib.hid ((hb.block _ (lt_block NB.out)).trans NB.out)
    have s4 := (hb.cell (lt_block NB.out)).trans m3
    have s5 := (hb.cell (lt_block NB.out)).trans m0
    clear hb p0 p1 p2 p3 q0 q1 q2 q3 m0 m1 m2 m3 C D
    go_wp2_with fail
    refine D1.out.mono ?_
    rintro e w2 ⟨rfl, hb⟩
    have B2 := Lib.hid (B1.out.trans (hb.mono B1.out.size))
    have s6 := (hb.cell (lt_block N1.out)).trans s5
    clear hb s0 s1 s2 s3 s4 s5
    go_wp2_with fail
    go_ret2
    exact ⟨rfl, B2.out⟩
  | some p =>
    rw [hT] at C
    have hU : evT g u = none := by
      cases hU : evT g u with
      | none => rfl
      | some q => exact absurd ⟨p, q, hT, hU⟩ hno
    rw [hU] at D ⊢
    simp only [Option.getD_none, Option.isSome_none, Option.getD_some, Option.isSome_some] at C D ⊢
    clear hT hno hU
    go_enter Try.func12, Try.ntmps12
    go_wp2_with fail
    generalize w.alloc (ndO o m v (some ⟨b, off, none⟩) 2 c) = W at NB B0 C D hbl hbl' p0 p1 p2 p3 q0 q1 q2 q3 ⊢
    obtain ⟨⟨m0, m1, m2, m3⟩, -⟩ := four NB.out
    go_wp2_with fail
    refine C.out.mono ?_
    rintro e w1 ⟨rfl, hb⟩
    have D1 := Lib.hid (D.out w1 hb)
    have B1 := Lib.hid (B0.out.trans (hb.mono B0.out.size))
    have s0 := (hb.cell hbl').trans q0
    have s1 := (hb.cell hbl').trans q1
    have s2 := (hb.cell hbl').trans q2
    have s3 := (hb.cell hbl').trans q3
    have N1 := Lib.hid ((hb.block _ (lt_block NB.out)).trans NB.out)
    have s4 := (hb.cell (lt_block NB.out)).trans m3
    have s5 := (hb.cell (lt_block NB.out)).trans m0
    clear hb p0 p1 p2 p3 q0 q1 q2 q3 m0 m1 m2 m3 C D
    go_wp2_with fail
    refine D1.out.mono ?_
    rintro e w2 ⟨rfl, hb⟩
    have B2 := Lib.hid (B1.out.trans (hb.mono B1.out.size))
    have s6 := (hb.cell (lt_block N1.out)).trans s5
    clear hb s0 s1 s2 s3 s4 s5
    go_wp2_with fail
    go_ret2
    exact ⟨rfl, B2.out⟩

set_option maxHeartbeats 8000000 in
theorem rev_add (o m : ByteArray) (v : Int) (t u : TN) (h1 : isNum o = false) (h2 : isName o = false) (h3 : isNeg o = false) (hob : o.data.toList = [43]) {p q : Int} (hT : evT g t = some p) (hU : evT g u = some q) (hp : In64 p) (hq : In64 q) (ih : REv A n g t) (iu : REv A n g u) : REv A n g ⟨o, m, v, .cons t.op t.nm t.n t.ks u.f⟩ := by
  intro G w a c y cy hr hA
  rw [ev_two g t u h1 h2 h3]
  dsimp only at hr ⊢
  rw [show (F.cons t.op t.nm t.n t.ks u.f).len = 2 from rfl]
  have g1 := op_not h1
  have g2 := op_not h2
  have g3 := op_not h3
  unfold bNum at g1
  unfold bName at g2
  unfold bNeg at g3
  have NB := Lib.hid (heap_alloc_new w (ndO o m v a 2 c))
  have B0 := Lib.hid ((Below.refl w.heap.size w).alloc (Nat.le_refl _) (ndO o m v a 2 c))
  obtain ⟨b, off, a2, c2, ha, hG, hbl, ⟨p0, p1, p2, p3⟩, hr2⟩ := readsN_at (hr.kept B0.out) (show (F.cons t.op t.nm t.n t.ks u.f).at 0 = some t from rfl)
  obtain ⟨b', off', a3, c3, ha', hG', hbl', ⟨q0, q1, q2, q3⟩, hr3⟩ := readsN_at (hr.kept B0.out) (show (F.cons t.op t.nm t.n t.ks u.f).at 1 = some u from rfl)
  subst ha
  cases ha'
  have C := Lib.hid (ih G (w.alloc (ndO o m v (some ⟨b, off, none⟩) 2 c)) a2 c2 y cy hr2 (hA.kept B0.out))
  have D := Lib.hid (fun V (hV : Below (w.alloc (ndO o m v (some ⟨b, off, none⟩) 2 c)).heap.size (w.alloc (ndO o m v (some ⟨b, off, none⟩) 2 c)) V) => iu G V a3 c3 y cy (hr3.kept hV) ((hA.kept B0.out).kept hV))
  rw [Nat.zero_mul, Nat.add_zero] at p0 p1 p2 p3
  rw [Nat.one_mul] at q0 q1 q2 q3
  have f0 : (o.toList == [43]) = true := by rw [Lib.toList_data, hob]; decide
  rw [hT] at C ⊢
  rw [hU] at D ⊢
  simp only [Option.getD_some, Option.isSome_some] at C D ⊢
  have E : applyB o p q = some (cut64 (p + q)) := by unfold applyB; rw [hob]; rfl
  rw [E]
  simp only [Option.getD_some, Option.isSome_some]
  have S1 := Lib.hid (fun V => rAdd_any p q V hp hq)
  clear h1 h2 h3 hr hA ih iu hr2 hr3 hT hU hob E hp hq
  go_enter Try.func12, Try.ntmps12
  go_wp2_with fail
  generalize w.alloc (ndO o m v (some ⟨b, off, none⟩) 2 c) = W at NB B0 C D hbl hbl' p0 p1 p2 p3 q0 q1 q2 q3 ⊢
  obtain ⟨⟨m0, m1, m2, m3⟩, -⟩ := four NB.out
  go_wp2_with fail
  refine C.out.mono ?_
  rintro e w1 ⟨rfl, hb⟩
  have D1 := Lib.hid (D.out w1 hb)
  have B1 := Lib.hid (B0.out.trans (hb.mono B0.out.size))
  have s0 := (hb.cell hbl').trans q0
  have s1 := (hb.cell hbl').trans q1
  have s2 := (hb.cell hbl').trans q2
  have s3 := (hb.cell hbl').trans q3
  have N1 := Lib.hid ((hb.block _ (lt_block NB.out)).trans NB.out)
  have s4 := (hb.cell (lt_block NB.out)).trans m3
  have s5 := (hb.cell (lt_block NB.out)).trans m0
  clear hb p0 p1 p2 p3 q0 q1 q2 q3 m0 m1 m2 m3 C D
  go_wp2_with fail
  refine D1.out.mono ?_
  rintro e w2 ⟨rfl, hb⟩
  have B2 := Lib.hid (B1.out.trans (hb.mono B1.out.size))
  have s6 := (hb.cell (lt_block N1.out)).trans s5
  clear hb s0 s1 s2 s3 s4 s5
  go_wp2_with fail
  refine (S1.out _).mono ?_
  rintro e w3 ⟨rfl, rfl⟩
  go_wp2_with fail
  go_ret2
  exact ⟨rfl, B2.out⟩

set_option maxHeartbeats 8000000 in
theorem rev_sub (o m : ByteArray) (v : Int) (t u : TN) (h1 : isNum o = false) (h2 : isName o = false) (h3 : isNeg o = false) (hob : o.data.toList = [45]) {p q : Int} (hT : evT g t = some p) (hU : evT g u = some q) (hp : In64 p) (hq : In64 q) (ih : REv A n g t) (iu : REv A n g u) : REv A n g ⟨o, m, v, .cons t.op t.nm t.n t.ks u.f⟩ := by
  intro G w a c y cy hr hA
  rw [ev_two g t u h1 h2 h3]
  dsimp only at hr ⊢
  rw [show (F.cons t.op t.nm t.n t.ks u.f).len = 2 from rfl]
  have g1 := op_not h1
  have g2 := op_not h2
  have g3 := op_not h3
  unfold bNum at g1
  unfold bName at g2
  unfold bNeg at g3
  have NB := Lib.hid (heap_alloc_new w (ndO o m v a 2 c))
  have B0 := Lib.hid ((Below.refl w.heap.size w).alloc (Nat.le_refl _) (ndO o m v a 2 c))
  obtain ⟨b, off, a2, c2, ha, hG, hbl, ⟨p0, p1, p2, p3⟩, hr2⟩ := readsN_at (hr.kept B0.out) (show (F.cons t.op t.nm t.n t.ks u.f).at 0 = some t from rfl)
  obtain ⟨b', off', a3, c3, ha', hG', hbl', ⟨q0, q1, q2, q3⟩, hr3⟩ := readsN_at (hr.kept B0.out) (show (F.cons t.op t.nm t.n t.ks u.f).at 1 = some u from rfl)
  subst ha
  cases ha'
  have C := Lib.hid (ih G (w.alloc (ndO o m v (some ⟨b, off, none⟩) 2 c)) a2 c2 y cy hr2 (hA.kept B0.out))
  have D := Lib.hid (fun V (hV : Below (w.alloc (ndO o m v (some ⟨b, off, none⟩) 2 c)).heap.size (w.alloc (ndO o m v (some ⟨b, off, none⟩) 2 c)) V) => iu G V a3 c3 y cy (hr3.kept hV) ((hA.kept B0.out).kept hV))
  rw [Nat.zero_mul, Nat.add_zero] at p0 p1 p2 p3
  rw [Nat.one_mul] at q0 q1 q2 q3
  have f0 : (o.toList == [43]) = false := by rw [Lib.toList_data, hob]; decide
  have f1 : (o.toList == [45]) = true := by rw [Lib.toList_data, hob]; decide
  rw [hT] at C ⊢
  rw [hU] at D ⊢
  simp only [Option.getD_some, Option.isSome_some] at C D ⊢
  have E : applyB o p q = some (cut64 (p - q)) := by unfold applyB; rw [hob]; rfl
  rw [E]
  simp only [Option.getD_some, Option.isSome_some]
  have S1 := Lib.hid (fun V => rSub_any p q V hp hq)
  clear h1 h2 h3 hr hA ih iu hr2 hr3 hT hU hob E hp hq
  go_enter Try.func12, Try.ntmps12
  go_wp2_with fail
  generalize w.alloc (ndO o m v (some ⟨b, off, none⟩) 2 c) = W at NB B0 C D hbl hbl' p0 p1 p2 p3 q0 q1 q2 q3 ⊢
  obtain ⟨⟨m0, m1, m2, m3⟩, -⟩ := four NB.out
  go_wp2_with fail
  refine C.out.mono ?_
  rintro e w1 ⟨rfl, hb⟩
  have D1 := Lib.hid (D.out w1 hb)
  have B1 := Lib.hid (B0.out.trans (hb.mono B0.out.size))
  have s0 := (hb.cell hbl').trans q0
  have s1 := (hb.cell hbl').trans q1
  have s2 := (hb.cell hbl').trans q2
  have s3 := (hb.cell hbl').trans q3
  have N1 := Lib.hid ((hb.block _ (lt_block NB.out)).trans NB.out)
  have s4 := (hb.cell (lt_block NB.out)).trans m3
  have s5 := (hb.cell (lt_block NB.out)).trans m0
  clear hb p0 p1 p2 p3 q0 q1 q2 q3 m0 m1 m2 m3 C D
  go_wp2_with fail
  refine D1.out.mono ?_
  rintro e w2 ⟨rfl, hb⟩
  have B2 := Lib.hid (B1.out.trans (hb.mono B1.out.size))
  have s6 := (hb.cell (lt_block N1.out)).trans s5
  clear hb s0 s1 s2 s3 s4 s5
  go_wp2_with fail
  refine (S1.out _).mono ?_
  rintro e w3 ⟨rfl, rfl⟩
  go_wp2_with fail
  go_ret2
  exact ⟨rfl, B2.out⟩

set_option maxHeartbeats 8000000 in
theorem rev_mul (o m : ByteArray) (v : Int) (t u : TN) (h1 : isNum o = false) (h2 : isName o = false) (h3 : isNeg o = false) (hob : o.data.toList = [42]) {p q : Int} (hT : evT g t = some p) (hU : evT g u = some q) (hp : In64 p) (hq : In64 q) (ih : REv A n g t) (iu : REv A n g u) : REv A n g ⟨o, m, v, .cons t.op t.nm t.n t.ks u.f⟩ := by
  intro G w a c y cy hr hA
  rw [ev_two g t u h1 h2 h3]
  dsimp only at hr ⊢
  rw [show (F.cons t.op t.nm t.n t.ks u.f).len = 2 from rfl]
  have g1 := op_not h1
  have g2 := op_not h2
  have g3 := op_not h3
  unfold bNum at g1
  unfold bName at g2
  unfold bNeg at g3
  have NB := Lib.hid (heap_alloc_new w (ndO o m v a 2 c))
  have B0 := Lib.hid ((Below.refl w.heap.size w).alloc (Nat.le_refl _) (ndO o m v a 2 c))
  obtain ⟨b, off, a2, c2, ha, hG, hbl, ⟨p0, p1, p2, p3⟩, hr2⟩ := readsN_at (hr.kept B0.out) (show (F.cons t.op t.nm t.n t.ks u.f).at 0 = some t from rfl)
  obtain ⟨b', off', a3, c3, ha', hG', hbl', ⟨q0, q1, q2, q3⟩, hr3⟩ := readsN_at (hr.kept B0.out) (show (F.cons t.op t.nm t.n t.ks u.f).at 1 = some u from rfl)
  subst ha
  cases ha'
  have C := Lib.hid (ih G (w.alloc (ndO o m v (some ⟨b, off, none⟩) 2 c)) a2 c2 y cy hr2 (hA.kept B0.out))
  have D := Lib.hid (fun V (hV : Below (w.alloc (ndO o m v (some ⟨b, off, none⟩) 2 c)).heap.size (w.alloc (ndO o m v (some ⟨b, off, none⟩) 2 c)) V) => iu G V a3 c3 y cy (hr3.kept hV) ((hA.kept B0.out).kept hV))
  rw [Nat.zero_mul, Nat.add_zero] at p0 p1 p2 p3
  rw [Nat.one_mul] at q0 q1 q2 q3
  have f0 : (o.toList == [43]) = false := by rw [Lib.toList_data, hob]; decide
  have f1 : (o.toList == [45]) = false := by rw [Lib.toList_data, hob]; decide
  have f2 : (o.toList == [42]) = true := by rw [Lib.toList_data, hob]; decide
  rw [hT] at C ⊢
  rw [hU] at D ⊢
  simp only [Option.getD_some, Option.isSome_some] at C D ⊢
  have E : applyB o p q = some (cut64 (p * q)) := by unfold applyB; rw [hob]; rfl
  rw [E]
  simp only [Option.getD_some, Option.isSome_some]
  have S1 := Lib.hid (fun V => rMul_any p q V hp hq)
  clear h1 h2 h3 hr hA ih iu hr2 hr3 hT hU hob E hp hq
  go_enter Try.func12, Try.ntmps12
  go_wp2_with fail
  generalize w.alloc (ndO o m v (some ⟨b, off, none⟩) 2 c) = W at NB B0 C D hbl hbl' p0 p1 p2 p3 q0 q1 q2 q3 ⊢
  obtain ⟨⟨m0, m1, m2, m3⟩, -⟩ := four NB.out
  go_wp2_with fail
  refine C.out.mono ?_
  rintro e w1 ⟨rfl, hb⟩
  have D1 := Lib.hid (D.out w1 hb)
  have B1 := Lib.hid (B0.out.trans (hb.mono B0.out.size))
  have s0 := (hb.cell hbl').trans q0
  have s1 := (hb.cell hbl').trans q1
  have s2 := (hb.cell hbl').trans q2
  have s3 := (hb.cell hbl').trans q3
  have N1 := Lib.hid ((hb.block _ (lt_block NB.out)).trans NB.out)
  have s4 := (hb.cell (lt_block NB.out)).trans m3
  have s5 := (hb.cell (lt_block NB.out)).trans m0
  clear hb p0 p1 p2 p3 q0 q1 q2 q3 m0 m1 m2 m3 C D
  go_wp2_with fail
  refine D1.out.mono ?_
  rintro e w2 ⟨rfl, hb⟩
  have B2 := Lib.hid (B1.out.trans (hb.mono B1.out.size))
  have s6 := (hb.cell (lt_block N1.out)).trans s5
  clear hb s0 s1 s2 s3 s4 s5
  go_wp2_with fail
  refine (S1.out _).mono ?_
  rintro e w3 ⟨rfl, rfl⟩
  go_wp2_with fail
  go_ret2
  exact ⟨rfl, B2.out⟩

set_option maxHeartbeats 8000000 in
theorem rev_div (o m : ByteArray) (v : Int) (t u : TN) (h1 : isNum o = false) (h2 : isName o = false) (h3 : isNeg o = false) (hob : o.data.toList = [47]) {p q : Int} (hT : evT g t = some p) (hU : evT g u = some q) (hp : In64 p) (hq : In64 q) (ih : REv A n g t) (iu : REv A n g u) : REv A n g ⟨o, m, v, .cons t.op t.nm t.n t.ks u.f⟩ := by
  intro G w a c y cy hr hA
  rw [ev_two g t u h1 h2 h3]
  dsimp only at hr ⊢
  rw [show (F.cons t.op t.nm t.n t.ks u.f).len = 2 from rfl]
  have g1 := op_not h1
  have g2 := op_not h2
  have g3 := op_not h3
  unfold bNum at g1
  unfold bName at g2
  unfold bNeg at g3
  have NB := Lib.hid (heap_alloc_new w (ndO o m v a 2 c))
  have B0 := Lib.hid ((Below.refl w.heap.size w).alloc (Nat.le_refl _) (ndO o m v a 2 c))
  obtain ⟨b, off, a2, c2, ha, hG, hbl, ⟨p0, p1, p2, p3⟩, hr2⟩ := readsN_at (hr.kept B0.out) (show (F.cons t.op t.nm t.n t.ks u.f).at 0 = some t from rfl)
  obtain ⟨b', off', a3, c3, ha', hG', hbl', ⟨q0, q1, q2, q3⟩, hr3⟩ := readsN_at (hr.kept B0.out) (show (F.cons t.op t.nm t.n t.ks u.f).at 1 = some u from rfl)
  subst ha
  cases ha'
  have C := Lib.hid (ih G (w.alloc (ndO o m v (some ⟨b, off, none⟩) 2 c)) a2 c2 y cy hr2 (hA.kept B0.out))
  have D := Lib.hid (fun V (hV : Below (w.alloc (ndO o m v (some ⟨b, off, none⟩) 2 c)).heap.size (w.alloc (ndO o m v (some ⟨b, off, none⟩) 2 c)) V) => iu G V a3 c3 y cy (hr3.kept hV) ((hA.kept B0.out).kept hV))
  rw [Nat.zero_mul, Nat.add_zero] at p0 p1 p2 p3
  rw [Nat.one_mul] at q0 q1 q2 q3
  have f0 : (o.toList == [43]) = false := by rw [Lib.toList_data, hob]; decide
  have f1 : (o.toList == [45]) = false := by rw [Lib.toList_data, hob]; decide
  have f2 : (o.toList == [42]) = false := by rw [Lib.toList_data, hob]; decide
  have f3 : (o.toList == [47]) = true := by rw [Lib.toList_data, hob]; decide
  rw [hT] at C ⊢
  rw [hU] at D ⊢
  simp only [Option.getD_some, Option.isSome_some] at C D ⊢
  by_cases hz : q = 0
  · subst hz
    have E : applyB o p 0 = none := by unfold applyB; rw [hob]; rfl
    rw [E]
    simp only [Option.getD_none, Option.isSome_none]
    have S1 := Lib.hid (fun V => rDiv_nought p V)
    clear h1 h2 h3 hr hA ih iu hr2 hr3 hT hU hob E hp hq
    go_enter Try.func12, Try.ntmps12
    go_wp2_with fail
    generalize w.alloc (ndO o m v (some ⟨b, off, none⟩) 2 c) = W at NB B0 C D hbl hbl' p0 p1 p2 p3 q0 q1 q2 q3 ⊢
    obtain ⟨⟨m0, m1, m2, m3⟩, -⟩ := four NB.out
    go_wp2_with fail
    refine C.out.mono ?_
    rintro e w1 ⟨rfl, hb⟩
    have D1 := Lib.hid (D.out w1 hb)
    have B1 := Lib.hid (B0.out.trans (hb.mono B0.out.size))
    have s0 := (hb.cell hbl').trans q0
    have s1 := (hb.cell hbl').trans q1
    have s2 := (hb.cell hbl').trans q2
    have s3 := (hb.cell hbl').trans q3
    have N1 := Lib.hid ((hb.block _ (lt_block NB.out)).trans NB.out)
    have s4 := (hb.cell (lt_block NB.out)).trans m3
    have s5 := (hb.cell (lt_block NB.out)).trans m0
    clear hb p0 p1 p2 p3 q0 q1 q2 q3 m0 m1 m2 m3 C D
    go_wp2_with fail
    refine D1.out.mono ?_
    rintro e w2 ⟨rfl, hb⟩
    have B2 := Lib.hid (B1.out.trans (hb.mono B1.out.size))
    have s6 := (hb.cell (lt_block N1.out)).trans s5
    clear hb s0 s1 s2 s3 s4 s5
    go_wp2_with fail
    refine (S1.out _).mono ?_
    rintro e w3 ⟨rfl, rfl⟩
    go_wp2_with fail
    go_ret2
    exact ⟨rfl, B2.out⟩
  · have E : applyB o p q = some (cut64 (p.tdiv q)) := by unfold applyB; rw [hob]; exact if_neg hz
    rw [E]
    simp only [Option.getD_some, Option.isSome_some]
    have S1 := Lib.hid (fun V => rDiv_any p q V hp hq hz)
    clear h1 h2 h3 hr hA ih iu hr2 hr3 hT hU hob E hp hq hz
    go_enter Try.func12, Try.ntmps12
    go_wp2_with fail
    generalize w.alloc (ndO o m v (some ⟨b, off, none⟩) 2 c) = W at NB B0 C D hbl hbl' p0 p1 p2 p3 q0 q1 q2 q3 ⊢
    obtain ⟨⟨m0, m1, m2, m3⟩, -⟩ := four NB.out
    go_wp2_with fail
    refine C.out.mono ?_
    rintro e w1 ⟨rfl, hb⟩
    have D1 := Lib.hid (D.out w1 hb)
    have B1 := Lib.hid (B0.out.trans (hb.mono B0.out.size))
    have s0 := (hb.cell hbl').trans q0
    have s1 := (hb.cell hbl').trans q1
    have s2 := (hb.cell hbl').trans q2
    have s3 := (hb.cell hbl').trans q3
    have N1 := Lib.hid ((hb.block _ (lt_block NB.out)).trans NB.out)
    have s4 := (hb.cell (lt_block NB.out)).trans m3
    have s5 := (hb.cell (lt_block NB.out)).trans m0
    clear hb p0 p1 p2 p3 q0 q1 q2 q3 m0 m1 m2 m3 C D
    go_wp2_with fail
    refine D1.out.mono ?_
    rintro e w2 ⟨rfl, hb⟩
    have B2 := Lib.hid (B1.out.trans (hb.mono B1.out.size))
    have s6 := (hb.cell (lt_block N1.out)).trans s5
    clear hb s0 s1 s2 s3 s4 s5
    go_wp2_with fail
    refine (S1.out _).mono ?_
    rintro e w3 ⟨rfl, rfl⟩
    go_wp2_with fail
    go_ret2
    exact ⟨rfl, B2.out⟩

set_option maxHeartbeats 8000000 in
theorem rev_mod (o m : ByteArray) (v : Int) (t u : TN) (h1 : isNum o = false) (h2 : isName o = false) (h3 : isNeg o = false) (hob : o.data.toList = [37]) {p q : Int} (hT : evT g t = some p) (hU : evT g u = some q) (hp : In64 p) (hq : In64 q) (ih : REv A n g t) (iu : REv A n g u) : REv A n g ⟨o, m, v, .cons t.op t.nm t.n t.ks u.f⟩ := by
  intro G w a c y cy hr hA
  rw [ev_two g t u h1 h2 h3]
  dsimp only at hr ⊢
  rw [show (F.cons t.op t.nm t.n t.ks u.f).len = 2 from rfl]
  have g1 := op_not h1
  have g2 := op_not h2
  have g3 := op_not h3
  unfold bNum at g1
  unfold bName at g2
  unfold bNeg at g3
  have NB := Lib.hid (heap_alloc_new w (ndO o m v a 2 c))
  have B0 := Lib.hid ((Below.refl w.heap.size w).alloc (Nat.le_refl _) (ndO o m v a 2 c))
  obtain ⟨b, off, a2, c2, ha, hG, hbl, ⟨p0, p1, p2, p3⟩, hr2⟩ := readsN_at (hr.kept B0.out) (show (F.cons t.op t.nm t.n t.ks u.f).at 0 = some t from rfl)
  obtain ⟨b', off', a3, c3, ha', hG', hbl', ⟨q0, q1, q2, q3⟩, hr3⟩ := readsN_at (hr.kept B0.out) (show (F.cons t.op t.nm t.n t.ks u.f).at 1 = some u from rfl)
  subst ha
  cases ha'
  have C := Lib.hid (ih G (w.alloc (ndO o m v (some ⟨b, off, none⟩) 2 c)) a2 c2 y cy hr2 (hA.kept B0.out))
  have D := Lib.hid (fun V (hV : Below (w.alloc (ndO o m v (some ⟨b, off, none⟩) 2 c)).heap.size (w.alloc (ndO o m v (some ⟨b, off, none⟩) 2 c)) V) => iu G V a3 c3 y cy (hr3.kept hV) ((hA.kept B0.out).kept hV))
  rw [Nat.zero_mul, Nat.add_zero] at p0 p1 p2 p3
  rw [Nat.one_mul] at q0 q1 q2 q3
  have f0 : (o.toList == [43]) = false := by rw [Lib.toList_data, hob]; decide
  have f1 : (o.toList == [45]) = false := by rw [Lib.toList_data, hob]; decide
  have f2 : (o.toList == [42]) = false := by rw [Lib.toList_data, hob]; decide
  have f3 : (o.toList == [47]) = false := by rw [Lib.toList_data, hob]; decide
  rw [hT] at C ⊢
  rw [hU] at D ⊢
  simp only [Option.getD_some, Option.isSome_some] at C D ⊢
  by_cases hz : q = 0
  · subst hz
    have E : applyB o p 0 = none := by unfold applyB; rw [hob]; rfl
    rw [E]
    simp only [Option.getD_none, Option.isSome_none]
    have S1 := Lib.hid (fun V => rMod_nought p V)
    clear h1 h2 h3 hr hA ih iu hr2 hr3 hT hU hob E hp hq
    go_enter Try.func12, Try.ntmps12
    go_wp2_with fail
    generalize w.alloc (ndO o m v (some ⟨b, off, none⟩) 2 c) = W at NB B0 C D hbl hbl' p0 p1 p2 p3 q0 q1 q2 q3 ⊢
    obtain ⟨⟨m0, m1, m2, m3⟩, -⟩ := four NB.out
    go_wp2_with fail
    refine C.out.mono ?_
    rintro e w1 ⟨rfl, hb⟩
    have D1 := Lib.hid (D.out w1 hb)
    have B1 := Lib.hid (B0.out.trans (hb.mono B0.out.size))
    have s0 := (hb.cell hbl').trans q0
    have s1 := (hb.cell hbl').trans q1
    have s2 := (hb.cell hbl').trans q2
    have s3 := (hb.cell hbl').trans q3
    have N1 := Lib.hid ((hb.block _ (lt_block NB.out)).trans NB.out)
    have s4 := (hb.cell (lt_block NB.out)).trans m3
    have s5 := (hb.cell (lt_block NB.out)).trans m0
    clear hb p0 p1 p2 p3 q0 q1 q2 q3 m0 m1 m2 m3 C D
    go_wp2_with fail
    refine D1.out.mono ?_
    rintro e w2 ⟨rfl, hb⟩
    have B2 := Lib.hid (B1.out.trans (hb.mono B1.out.size))
    have s6 := (hb.cell (lt_block N1.out)).trans s5
    clear hb s0 s1 s2 s3 s4 s5
    go_wp2_with fail
    refine (S1.out _).mono ?_
    rintro e w3 ⟨rfl, rfl⟩
    go_wp2_with fail
    go_ret2
    exact ⟨rfl, B2.out⟩
  · have E : applyB o p q = some (p.tmod q) := by unfold applyB; rw [hob]; exact if_neg hz
    rw [E]
    simp only [Option.getD_some, Option.isSome_some]
    have S1 := Lib.hid (fun V => rMod_any p q V hp hq hz)
    clear h1 h2 h3 hr hA ih iu hr2 hr3 hT hU hob E hp hq hz
    go_enter Try.func12, Try.ntmps12
    go_wp2_with fail
    generalize w.alloc (ndO o m v (some ⟨b, off, none⟩) 2 c) = W at NB B0 C D hbl hbl' p0 p1 p2 p3 q0 q1 q2 q3 ⊢
    obtain ⟨⟨m0, m1, m2, m3⟩, -⟩ := four NB.out
    go_wp2_with fail
    refine C.out.mono ?_
    rintro e w1 ⟨rfl, hb⟩
    have D1 := Lib.hid (D.out w1 hb)
    have B1 := Lib.hid (B0.out.trans (hb.mono B0.out.size))
    have s0 := (hb.cell hbl').trans q0
    have s1 := (hb.cell hbl').trans q1
    have s2 := (hb.cell hbl').trans q2
    have s3 := (hb.cell hbl').trans q3
    have N1 := Lib.hid ((hb.block _ (lt_block NB.out)).trans NB.out)
    have s4 := (hb.cell (lt_block NB.out)).trans m3
    have s5 := (hb.cell (lt_block NB.out)).trans m0
    clear hb p0 p1 p2 p3 q0 q1 q2 q3 m0 m1 m2 m3 C D
    go_wp2_with fail
    refine D1.out.mono ?_
    rintro e w2 ⟨rfl, hb⟩
    have B2 := Lib.hid (B1.out.trans (hb.mono B1.out.size))
    have s6 := (hb.cell (lt_block N1.out)).trans s5
    clear hb s0 s1 s2 s3 s4 s5
    go_wp2_with fail
    refine (S1.out _).mono ?_
    rintro e w3 ⟨rfl, rfl⟩
    go_wp2_with fail
    go_ret2
    exact ⟨rfl, B2.out⟩

theorem rev_two (o m : ByteArray) (v : Int) (t u : TN) (h1 : isNum o = false) (h2 : isName o = false) (h3 : isNeg o = false) (h4 : isTwo o = true) (hi : ∀ x, evT g t = some x → In64 x) (hj : ∀ x, evT g u = some x → In64 x) (ih : REv A n g t) (iu : REv A n g u) : REv A n g ⟨o, m, v, .cons t.op t.nm t.n t.ks u.f⟩ := by
  by_cases hb : ∃ p q, evT g t = some p ∧ evT g u = some q
  · obtain ⟨p, q, hp, hq⟩ := hb
    unfold isTwo at h4
    simp only [Bool.or_eq_true, beq_iff_eq] at h4
    rcases h4 with (((h | h) | h) | h) | h
    · exact rev_add o m v t u h1 h2 h3 h hp hq (hi _ hp) (hj _ hq) ih iu
    · exact rev_sub o m v t u h1 h2 h3 h hp hq (hi _ hp) (hj _ hq) ih iu
    · exact rev_mul o m v t u h1 h2 h3 h hp hq (hi _ hp) (hj _ hq) ih iu
    · exact rev_div o m v t u h1 h2 h3 h hp hq (hi _ hp) (hj _ hq) ih iu
    · exact rev_mod o m v t u h1 h2 h3 h hp hq (hi _ hp) (hj _ hq) ih iu
  · exact rev_none o m v t u h1 h2 h3 hb ih iu

theorem rev_any (U : Under A n g) (t : TN) (h : OkT t) (hn : NumsF t.f) : REv A n g t ∧ ∀ x, evT g t = some x → In64 x :=
  tree_induct1 (P := fun t => REv A n g t ∧ ∀ x, evT g t = some x → In64 x)
    (fun o m v a b d => ⟨rev_num o m v a, fun x hx => by rw [ev_num g a] at hx; cases hx; unfold In64; omega⟩)
    (fun o m v a b _ => ⟨rev_name U.ok U.few o m v a b, fun x hx => by rw [ev_name g a b] at hx; exact U.ok.fit _ _ hx⟩)
    (fun o m v t a b c ih => ⟨rev_neg o m v t a b c ih.2 ih.1, fun x hx => by
      rw [ev_neg g t a b c, Option.map_eq_some_iff] at hx
      obtain ⟨z, _, rfl⟩ := hx
      exact cut64_in _⟩)
    (fun o m v t u a b c d ih iu => ⟨rev_two o m v t u a b c d ih.2 iu.2 ih.1 iu.1, fun x hx => by
      rw [ev_two g t u a b c] at hx
      split at hx
      · rename_i p q hp hq
        exact apply_in (ih.2 _ hp) hx
      · cases hx⟩) t h hn

end Go.Proofs.Ytcmcnmmhkpolcaa
