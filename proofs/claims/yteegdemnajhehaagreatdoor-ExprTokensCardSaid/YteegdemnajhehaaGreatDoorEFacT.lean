/-
  No statement: factor of the document's reader at each kind of token, what lies deeper by hypothesis.
-/
import Derived.Test.YteegdemnajhehaaGreatDoorEFac
import Derived.BigRegion
namespace Go.Proofs.YteegdemnajhehaaGreatDoor
open Go.RowKit

theorem at_get {ts : List Tk} {p : Nat} (hp : p < ts.length) : ts[p]? = some ts[p] := List.getElem?_eq_getElem hp

/-- What stands where factor has taken its token. -/
structure FW (ts : List Tk) (rb : Nat) (a : Option Addr) (c : Nat) (s : RS) (w0 : World) (k : Int) (X : ByteArray) (n p : Int) (w : World) : Prop where
  pw : PW ts rb a c s w
  kp : Kept (· = rb) w0 w
  nb : w.heap[w0.heap.size]? = some (ndO ⟨#[]⟩ ⟨#[]⟩ 0 none 0 0)
  tb : w.heap[w0.heap.size + 1]? = some (.cells #[.int .i64 k, .string X, .int .i64 n, .int .i64 p] 63 (0, 0))

theorem FW.next {ts : List Tk} {rb : Nat} {a : Option Addr} {c : Nat} {s s' : RS} {w0 w w' : World} {k : Int} {X : ByteArray} {n p : Int} (h : FW ts rb a c s w0 k X n p w) (hrb : rb < w0.heap.size) (hp : PW ts rb a c s' w') (hk : Kept (· = rb) w w') : FW ts rb a c s' w0 k X n p w' :=
  ⟨hp, h.kp.trans hk (fun i hi _ => hi), hk.heap h.nb (by show ¬ w0.heap.size = rb; omega), hk.heap h.tb (by show ¬ w0.heap.size + 1 = rb; omega)⟩

theorem FW.lt {ts : List Tk} {rb : Nat} {a : Option Addr} {c : Nat} {s : RS} {w0 w : World} {k : Int} {X : ByteArray} {n p : Int} (h : FW ts rb a c s w0 k X n p w) : w0.heap.size + 1 < w.heap.size := (Array.getElem?_eq_some_iff.1 h.tb).1

set_option maxHeartbeats 8000000 in
theorem fac_num (ts : List Tk) (rb : Nat) (a : Option Addr) (c : Nat) (s : RS) (w : World) (h : PW ts rb a c s w) (hb : s.bad = 0) (hp : s.pos < ts.length) (hc : s.cnt ≤ 32) (hk : ts[s.pos].kind = 2) :
    Calls Tryz.prog 86 #[.pointer (some ⟨rb, 0, none⟩)] w (PE ts rb a c (pE ts .fac s) w) := by
  obtain ⟨t, ht⟩ : ∃ t, ts[s.pos] = t := ⟨_, rfl⟩
  rw [ht] at hk
  have e : pE ts .fac s = (numT t.num, tickR s) := by rw [pE_fac, if_pos hb, at_get hp, ht]; simp only; rw [if_pos hk]
  rw [e]
  clear e
  have q : ((s.bad : Int) != 0) = false := by rw [hb]; rfl
  have K1 := kept_below ((Below.refl w.heap.size w).alloc (Nat.le_refl _) (ndO ⟨#[]⟩ ⟨#[]⟩ 0 none 0 0)) (· = rb)
  have H1 := h.below ((Below.refl _ w).alloc (Nat.le_refl _) (ndO ⟨#[]⟩ ⟨#[]⟩ 0 none 0 0))
  obtain ⟨⟨c0, c1, c2, c3, c4⟩, f1, f2, f3, f4⟩ := H1.r.cells
  obtain ⟨b, off, ha, hbr, p0, p1, p2, p3⟩ := tok_cells H1.t hp
  rw [ht] at p0 p1 p2 p3
  obtain ⟨X, hX⟩ : ∃ X : ByteArray, ⟨t.text.toArray⟩ = X := ⟨_, rfl⟩
  rw [hX] at p1
  have hXl : X.data.toList = t.text := by rw [← hX]
  have HX := Lib.hid hX
  subst ha
  have H := Lib.hid H1
  have K := Lib.hid K1
  have hrb := h.r.lt
  have hfine := h.f
  have NB := heap_alloc_new w (ndO ⟨#[]⟩ ⟨#[]⟩ 0 none 0 0)
  have hsz : (w.alloc (ndO ⟨#[]⟩ ⟨#[]⟩ 0 none 0 0)).heap.size = w.heap.size + 1 := World.size_alloc _ _
  generalize hW : w.alloc (ndO ⟨#[]⟩ ⟨#[]⟩ 0 none 0 0) = W at *
  have a1 : decide (ts.length ≤ s.pos) = false := decide_eq_false (by omega)
  have a2 : decide ((ts.length : Int) ≤ (s.pos : Int)) = false := decide_eq_false (by omega)
  have a3 : (s.pos : Int) < (ts.length : Int) := by omega
  have a4 : (0 : Int) ≤ (s.pos : Int) := by omega
  have a5 : ((s.pos : Int)).toNat = s.pos := by omega
  have NB := Lib.hid NB
  have k1 : (t.kind == 2) = true := by rw [hk]; rfl
  clear hk
  have hb := Lib.hid hb
  clear h H1 K1 hX
  go_enter Tryz.func86, Tryz.ntmps86
  go_wp2_with fail
  clear hW
  go_wp2_with (go_quiet (fail))
  have HD := H.out.kept ((Kept.refl (fun _ => False) W).drewN nq)
  have KD := Lib.hid (show Kept (· = rb) w (W.drewN nq) from K.out.drewN nq)
  have NBD := Lib.hid (show (W.drewN nq).heap[w.heap.size]? = some (ndO ⟨#[]⟩ ⟨#[]⟩ 0 none 0 0) from NB.out)
  have hsz2 : (W.drewN nq).heap.size = w.heap.size + 1 := hsz
  generalize W.drewN nq = V at HD KD NBD hsz2 ⊢
  obtain ⟨⟨e0, e1, e2, e3, e4⟩, -⟩ := HD.r.cells
  obtain ⟨b', off', ha', -, r0, r1, r2, r3⟩ := tok_cells HD.t hp
  cases ha'
  rw [ht] at r0 r1 r2 r3
  rw [HX.out] at r1
  have HA := HD.below ((Below.refl _ V).alloc (Nat.le_refl _) (.cells #[.int .i64 0, .string ⟨#[]⟩, .int .i64 0, .int .i64 0] 63))
  obtain ⟨⟨x0, x1, x2, x3, x4⟩, -⟩ := HA.r.cells
  obtain ⟨b', off', ha', -, y0, y1, y2, y3⟩ := tok_cells HA.t hp
  cases ha'
  rw [ht] at y0 y1 y2 y3
  rw [HX.out] at y1
  have HV := Lib.hid HD
  clear HD HA p0 p1 p2 p3 c0 c1 c2 c3 c4 f1 f2 f3 f4 H K NB hsz
  go_region
  have W1 := Lib.hid (show FW ts rb (some ⟨b, off, none⟩) c s w t.kind X t.num t.place (V.alloc (.cells #[.int .i64 t.kind, .string X, .int .i64 t.num, .int .i64 t.place] 63)).drew from
    ⟨(HV.out.below ((Below.refl _ V).alloc (Nat.le_refl _) _)).kept ((Kept.refl (fun _ => False) _).drew), (KD.out.alloc _).drew, (Below.heap_alloc V _ _ (by omega)).trans NBD.out, by rw [← hsz2]; exact heap_alloc_new V _⟩)
  generalize (V.alloc (.cells #[.int .i64 t.kind, .string X, .int .i64 t.num, .int .i64 t.place] 63)).drew = U at W1 ⊢
  clear x0 x1 x2 x3 x4 y0 y1 y2 y3 r0 r1 r2 r3 e0 e1 e2 e3 e4 HV KD NBD hsz2
  obtain ⟨⟨m0, m1, m2, m3⟩, -⟩ := four W1.out.tb
  have C := Lib.hid (tick_any ts rb (some ⟨b, off, none⟩) c s U W1.out.pw (fun _ => ⟨hp, hc⟩) (by have := hfine.2.1; omega))
  go_wp2_with fail
  refine C.out.mono ?_
  rintro e w1 ⟨rfl, h1, hk⟩
  have W2 := Lib.hid (W1.out.next hrb h1 hk)
  clear h1 hk C m0 m1 m2 m3
  obtain ⟨⟨m0, m1, m2, m3⟩, -⟩ := four W2.out.tb
  obtain ⟨⟨n0, n1, n2, n3⟩, g0, g1, g2, g3⟩ := four W2.out.nb
  go_wp2_with fail
  obtain ⟨⟨d0, d1, d2, d3⟩, -⟩ := four (four_set W2.out.nb (.string ⟨#[110, 117, 109]⟩) (.string ⟨#[]⟩) (.int .i64 t.num) (.slice none 0 0))
  refine bodyPost_ret (v := nodeV ⟨#[110, 117, 109]⟩ ⟨#[]⟩ t.num none 0 0) (by simp [results, Tryz.results86, go_sem, d0, d1, d2, d3]) rfl ?_
  exact PE.put (q := (numT t.num, tickR s)) (cc := 0) hrb W2.out.pw W2.out.kp (.inl rfl)

set_option maxHeartbeats 8000000 in
theorem fac_name (ts : List Tk) (rb : Nat) (a : Option Addr) (c : Nat) (s : RS) (w : World) (h : PW ts rb a c s w) (hb : s.bad = 0) (hp : s.pos < ts.length) (hc : s.cnt ≤ 32) (hk : ts[s.pos].kind = 1) :
    Calls Tryz.prog 86 #[.pointer (some ⟨rb, 0, none⟩)] w (PE ts rb a c (pE ts .fac s) w) := by
  obtain ⟨t, ht⟩ : ∃ t, ts[s.pos] = t := ⟨_, rfl⟩
  rw [ht] at hk
  have e : pE ts .fac s = (nameT t.text, tickR s) := by rw [pE_fac, if_pos hb, at_get hp, ht]; simp only; rw [if_neg (by rw [hk]; decide), if_pos hk]
  rw [e]
  clear e
  have q : ((s.bad : Int) != 0) = false := by rw [hb]; rfl
  have K1 := kept_below ((Below.refl w.heap.size w).alloc (Nat.le_refl _) (ndO ⟨#[]⟩ ⟨#[]⟩ 0 none 0 0)) (· = rb)
  have H1 := h.below ((Below.refl _ w).alloc (Nat.le_refl _) (ndO ⟨#[]⟩ ⟨#[]⟩ 0 none 0 0))
  obtain ⟨⟨c0, c1, c2, c3, c4⟩, f1, f2, f3, f4⟩ := H1.r.cells
  obtain ⟨b, off, ha, hbr, p0, p1, p2, p3⟩ := tok_cells H1.t hp
  rw [ht] at p0 p1 p2 p3
  obtain ⟨X, hX⟩ : ∃ X : ByteArray, ⟨t.text.toArray⟩ = X := ⟨_, rfl⟩
  rw [hX] at p1
  have hXl : X.data.toList = t.text := by rw [← hX]
  have HX := Lib.hid hX
  subst ha
  have H := Lib.hid H1
  have K := Lib.hid K1
  have hrb := h.r.lt
  have hfine := h.f
  have NB := heap_alloc_new w (ndO ⟨#[]⟩ ⟨#[]⟩ 0 none 0 0)
  have hsz : (w.alloc (ndO ⟨#[]⟩ ⟨#[]⟩ 0 none 0 0)).heap.size = w.heap.size + 1 := World.size_alloc _ _
  generalize hW : w.alloc (ndO ⟨#[]⟩ ⟨#[]⟩ 0 none 0 0) = W at *
  have a1 : decide (ts.length ≤ s.pos) = false := decide_eq_false (by omega)
  have a2 : decide ((ts.length : Int) ≤ (s.pos : Int)) = false := decide_eq_false (by omega)
  have a3 : (s.pos : Int) < (ts.length : Int) := by omega
  have a4 : (0 : Int) ≤ (s.pos : Int) := by omega
  have a5 : ((s.pos : Int)).toNat = s.pos := by omega
  have NB := Lib.hid NB
  have k1 : (t.kind == 2) = false := by rw [hk]; rfl
  have k2 : (t.kind == 1) = true := by rw [hk]; rfl
  clear hk
  have hb := Lib.hid hb
  clear h H1 K1 hX
  go_enter Tryz.func86, Tryz.ntmps86
  go_wp2_with fail
  clear hW
  go_wp2_with (go_quiet (fail))
  have HD := H.out.kept ((Kept.refl (fun _ => False) W).drewN nq)
  have KD := Lib.hid (show Kept (· = rb) w (W.drewN nq) from K.out.drewN nq)
  have NBD := Lib.hid (show (W.drewN nq).heap[w.heap.size]? = some (ndO ⟨#[]⟩ ⟨#[]⟩ 0 none 0 0) from NB.out)
  have hsz2 : (W.drewN nq).heap.size = w.heap.size + 1 := hsz
  generalize W.drewN nq = V at HD KD NBD hsz2 ⊢
  obtain ⟨⟨e0, e1, e2, e3, e4⟩, -⟩ := HD.r.cells
  obtain ⟨b', off', ha', -, r0, r1, r2, r3⟩ := tok_cells HD.t hp
  cases ha'
  rw [ht] at r0 r1 r2 r3
  rw [HX.out] at r1
  have HA := HD.below ((Below.refl _ V).alloc (Nat.le_refl _) (.cells #[.int .i64 0, .string ⟨#[]⟩, .int .i64 0, .int .i64 0] 63))
  obtain ⟨⟨x0, x1, x2, x3, x4⟩, -⟩ := HA.r.cells
  obtain ⟨b', off', ha', -, y0, y1, y2, y3⟩ := tok_cells HA.t hp
  cases ha'
  rw [ht] at y0 y1 y2 y3
  rw [HX.out] at y1
  have HV := Lib.hid HD
  clear HD HA p0 p1 p2 p3 c0 c1 c2 c3 c4 f1 f2 f3 f4 H K NB hsz
  go_region
  have W1 := Lib.hid (show FW ts rb (some ⟨b, off, none⟩) c s w t.kind X t.num t.place (V.alloc (.cells #[.int .i64 t.kind, .string X, .int .i64 t.num, .int .i64 t.place] 63)).drew from
    ⟨(HV.out.below ((Below.refl _ V).alloc (Nat.le_refl _) _)).kept ((Kept.refl (fun _ => False) _).drew), (KD.out.alloc _).drew, (Below.heap_alloc V _ _ (by omega)).trans NBD.out, by rw [← hsz2]; exact heap_alloc_new V _⟩)
  generalize (V.alloc (.cells #[.int .i64 t.kind, .string X, .int .i64 t.num, .int .i64 t.place] 63)).drew = U at W1 ⊢
  clear x0 x1 x2 x3 x4 y0 y1 y2 y3 r0 r1 r2 r3 e0 e1 e2 e3 e4 HV KD NBD hsz2
  obtain ⟨⟨m0, m1, m2, m3⟩, -⟩ := four W1.out.tb
  have eN : nameT t.text = ⟨⟨#[110, 97, 109, 101]⟩, X, 0, .nil⟩ := by unfold nameT; rw [HX.out]
  have C := Lib.hid (tick_any ts rb (some ⟨b, off, none⟩) c s U W1.out.pw (fun _ => ⟨hp, hc⟩) (by have := hfine.2.1; omega))
  go_wp2_with fail
  refine C.out.mono ?_
  rintro e w1 ⟨rfl, h1, hk⟩
  have W2 := Lib.hid (W1.out.next hrb h1 hk)
  clear h1 hk C m0 m1 m2 m3
  obtain ⟨⟨m0, m1, m2, m3⟩, -⟩ := four W2.out.tb
  obtain ⟨⟨n0, n1, n2, n3⟩, g0, g1, g2, g3⟩ := four W2.out.nb
  go_wp2_with fail
  obtain ⟨⟨d0, d1, d2, d3⟩, -⟩ := four (four_set W2.out.nb (.string ⟨#[110, 97, 109, 101]⟩) (.string X) (.int .i64 0) (.slice none 0 0))
  refine bodyPost_ret (v := nodeV ⟨#[110, 97, 109, 101]⟩ X 0 none 0 0) (by simp [results, Tryz.results86, go_sem, d0, d1, d2, d3]) rfl ?_
  rw [eN]
  exact PE.put (q := (⟨⟨#[110, 97, 109, 101]⟩, X, 0, .nil⟩, tickR s)) (cc := 0) hrb W2.out.pw W2.out.kp (.inl rfl)

set_option maxHeartbeats 8000000 in
theorem fac_none (ts : List Tk) (rb : Nat) (a : Option Addr) (c : Nat) (s : RS) (w : World) (h : PW ts rb a c s w) (hb : s.bad = 0) (hp : s.pos < ts.length) (_hc : s.cnt ≤ 32) (hk2 : ¬ ts[s.pos].kind = 2) (hk1 : ¬ ts[s.pos].kind = 1) (h45 : ¬ ts[s.pos].text = [45]) (h40 : ¬ ts[s.pos].text = [40]) :
    Calls Tryz.prog 86 #[.pointer (some ⟨rb, 0, none⟩)] w (PE ts rb a c (pE ts .fac s) w) := by
  obtain ⟨t, ht⟩ : ∃ t, ts[s.pos] = t := ⟨_, rfl⟩
  rw [ht] at hk2 hk1 h45 h40
  have e : pE ts .fac s = (zeroT, failR 2 s) := by rw [pE_fac, if_pos hb, at_get hp, ht]; simp only; rw [if_neg hk2, if_neg hk1, if_neg h45, if_neg h40]
  rw [e]
  clear e
  have q : ((s.bad : Int) != 0) = false := by rw [hb]; rfl
  have K1 := kept_below ((Below.refl w.heap.size w).alloc (Nat.le_refl _) (ndO ⟨#[]⟩ ⟨#[]⟩ 0 none 0 0)) (· = rb)
  have H1 := h.below ((Below.refl _ w).alloc (Nat.le_refl _) (ndO ⟨#[]⟩ ⟨#[]⟩ 0 none 0 0))
  obtain ⟨⟨c0, c1, c2, c3, c4⟩, f1, f2, f3, f4⟩ := H1.r.cells
  obtain ⟨b, off, ha, hbr, p0, p1, p2, p3⟩ := tok_cells H1.t hp
  rw [ht] at p0 p1 p2 p3
  obtain ⟨X, hX⟩ : ∃ X : ByteArray, ⟨t.text.toArray⟩ = X := ⟨_, rfl⟩
  rw [hX] at p1
  have hXl : X.data.toList = t.text := by rw [← hX]
  have HX := Lib.hid hX
  subst ha
  have H := Lib.hid H1
  have K := Lib.hid K1
  have hrb := h.r.lt
  have hfine := h.f
  have NB := heap_alloc_new w (ndO ⟨#[]⟩ ⟨#[]⟩ 0 none 0 0)
  have hsz : (w.alloc (ndO ⟨#[]⟩ ⟨#[]⟩ 0 none 0 0)).heap.size = w.heap.size + 1 := World.size_alloc _ _
  generalize hW : w.alloc (ndO ⟨#[]⟩ ⟨#[]⟩ 0 none 0 0) = W at *
  have a1 : decide (ts.length ≤ s.pos) = false := decide_eq_false (by omega)
  have a2 : decide ((ts.length : Int) ≤ (s.pos : Int)) = false := decide_eq_false (by omega)
  have a3 : (s.pos : Int) < (ts.length : Int) := by omega
  have a4 : (0 : Int) ≤ (s.pos : Int) := by omega
  have a5 : ((s.pos : Int)).toNat = s.pos := by omega
  have NB := Lib.hid NB
  have k1 : (t.kind == 2) = false := beq_eq_false_iff_ne.2 hk2
  have k2 : (t.kind == 1) = false := beq_eq_false_iff_ne.2 hk1
  have k3 : (X.toList == [45]) = false := by rw [Lib.toList_data, hXl]; exact beq_eq_false_iff_ne.2 h45
  have k4 : (X.toList == [40]) = false := by rw [Lib.toList_data, hXl]; exact beq_eq_false_iff_ne.2 h40
  clear hk2 hk1 h45 h40
  have hb := Lib.hid hb
  clear h H1 K1 hX
  go_enter Tryz.func86, Tryz.ntmps86
  go_wp2_with fail
  clear hW
  go_wp2_with (go_quiet (fail))
  have HD := H.out.kept ((Kept.refl (fun _ => False) W).drewN nq)
  have KD := Lib.hid (show Kept (· = rb) w (W.drewN nq) from K.out.drewN nq)
  have NBD := Lib.hid (show (W.drewN nq).heap[w.heap.size]? = some (ndO ⟨#[]⟩ ⟨#[]⟩ 0 none 0 0) from NB.out)
  have hsz2 : (W.drewN nq).heap.size = w.heap.size + 1 := hsz
  generalize W.drewN nq = V at HD KD NBD hsz2 ⊢
  obtain ⟨⟨e0, e1, e2, e3, e4⟩, -⟩ := HD.r.cells
  obtain ⟨b', off', ha', -, r0, r1, r2, r3⟩ := tok_cells HD.t hp
  cases ha'
  rw [ht] at r0 r1 r2 r3
  rw [HX.out] at r1
  have HA := HD.below ((Below.refl _ V).alloc (Nat.le_refl _) (.cells #[.int .i64 0, .string ⟨#[]⟩, .int .i64 0, .int .i64 0] 63))
  obtain ⟨⟨x0, x1, x2, x3, x4⟩, -⟩ := HA.r.cells
  obtain ⟨b', off', ha', -, y0, y1, y2, y3⟩ := tok_cells HA.t hp
  cases ha'
  rw [ht] at y0 y1 y2 y3
  rw [HX.out] at y1
  have HV := Lib.hid HD
  clear HD HA p0 p1 p2 p3 c0 c1 c2 c3 c4 f1 f2 f3 f4 H K NB hsz
  go_region
  have W1 := Lib.hid (show FW ts rb (some ⟨b, off, none⟩) c s w t.kind X t.num t.place (V.alloc (.cells #[.int .i64 t.kind, .string X, .int .i64 t.num, .int .i64 t.place] 63)).drew from
    ⟨(HV.out.below ((Below.refl _ V).alloc (Nat.le_refl _) _)).kept ((Kept.refl (fun _ => False) _).drew), (KD.out.alloc _).drew, (Below.heap_alloc V _ _ (by omega)).trans NBD.out, by rw [← hsz2]; exact heap_alloc_new V _⟩)
  generalize (V.alloc (.cells #[.int .i64 t.kind, .string X, .int .i64 t.num, .int .i64 t.place] 63)).drew = U at W1 ⊢
  clear x0 x1 x2 x3 x4 y0 y1 y2 y3 r0 r1 r2 r3 e0 e1 e2 e3 e4 HV KD NBD hsz2
  obtain ⟨⟨m0, m1, m2, m3⟩, -⟩ := four W1.out.tb
  have C := Lib.hid (fail_any ts rb (some ⟨b, off, none⟩) c s 2 (by decide) U W1.out.pw)
  go_wp2_with fail
  refine C.out.mono ?_
  rintro e w1 ⟨rfl, h1, hk⟩
  have W2 := Lib.hid (W1.out.next hrb h1 hk)
  clear h1 hk C m0 m1 m2 m3
  obtain ⟨⟨n0, n1, n2, n3⟩, g0, g1, g2, g3⟩ := four W2.out.nb
  go_wp2_with fail
  obtain ⟨⟨d0, d1, d2, d3⟩, -⟩ := four (four_set W2.out.nb (.string ⟨#[]⟩) (.string ⟨#[]⟩) (.int .i64 0) (.slice none 0 0))
  refine bodyPost_ret (v := nodeV ⟨#[]⟩ ⟨#[]⟩ 0 none 0 0) (by simp [results, Tryz.results86, go_sem, d0, d1, d2, d3]) rfl ?_
  exact PE.put (q := (zeroT, failR 2 s)) (cc := 0) hrb W2.out.pw W2.out.kp (.inl rfl)

set_option maxHeartbeats 8000000 in
theorem fac_neg (ts : List Tk) (rb : Nat) (a : Option Addr) (c : Nat) (s : RS) (w : World) (h : PW ts rb a c s w) (hb : s.bad = 0) (hp : s.pos < ts.length) (hc : s.cnt ≤ 32) (hk2 : ¬ ts[s.pos].kind = 2) (hk1 : ¬ ts[s.pos].kind = 1) (h45 : ts[s.pos].text = [45]) (ih : ∀ w', PW ts rb a c (tickR s) w' → Calls Tryz.prog 86 #[.pointer (some ⟨rb, 0, none⟩)] w' (PE ts rb a c (pE ts .fac (tickR s)) w')) :
    Calls Tryz.prog 86 #[.pointer (some ⟨rb, 0, none⟩)] w (PE ts rb a c (pE ts .fac s) w) := by
  obtain ⟨t, ht⟩ : ∃ t, ts[s.pos] = t := ⟨_, rfl⟩
  rw [ht] at hk2 hk1 h45
  have e : pE ts .fac s = (negT (pE ts .fac (tickR s)).1, (pE ts .fac (tickR s)).2) := by rw [pE_fac, if_pos hb, at_get hp, ht]; simp only; rw [if_neg hk2, if_neg hk1, if_pos h45]
  rw [e]
  clear e
  have q : ((s.bad : Int) != 0) = false := by rw [hb]; rfl
  have K1 := kept_below ((Below.refl w.heap.size w).alloc (Nat.le_refl _) (ndO ⟨#[]⟩ ⟨#[]⟩ 0 none 0 0)) (· = rb)
  have H1 := h.below ((Below.refl _ w).alloc (Nat.le_refl _) (ndO ⟨#[]⟩ ⟨#[]⟩ 0 none 0 0))
  obtain ⟨⟨c0, c1, c2, c3, c4⟩, f1, f2, f3, f4⟩ := H1.r.cells
  obtain ⟨b, off, ha, hbr, p0, p1, p2, p3⟩ := tok_cells H1.t hp
  rw [ht] at p0 p1 p2 p3
  obtain ⟨X, hX⟩ : ∃ X : ByteArray, ⟨t.text.toArray⟩ = X := ⟨_, rfl⟩
  rw [hX] at p1
  have hXl : X.data.toList = t.text := by rw [← hX]
  have HX := Lib.hid hX
  subst ha
  have H := Lib.hid H1
  have K := Lib.hid K1
  have hrb := h.r.lt
  have hfine := h.f
  have NB := heap_alloc_new w (ndO ⟨#[]⟩ ⟨#[]⟩ 0 none 0 0)
  have hsz : (w.alloc (ndO ⟨#[]⟩ ⟨#[]⟩ 0 none 0 0)).heap.size = w.heap.size + 1 := World.size_alloc _ _
  generalize hW : w.alloc (ndO ⟨#[]⟩ ⟨#[]⟩ 0 none 0 0) = W at *
  have a1 : decide (ts.length ≤ s.pos) = false := decide_eq_false (by omega)
  have a2 : decide ((ts.length : Int) ≤ (s.pos : Int)) = false := decide_eq_false (by omega)
  have a3 : (s.pos : Int) < (ts.length : Int) := by omega
  have a4 : (0 : Int) ≤ (s.pos : Int) := by omega
  have a5 : ((s.pos : Int)).toNat = s.pos := by omega
  have NB := Lib.hid NB
  have k1 : (t.kind == 2) = false := beq_eq_false_iff_ne.2 hk2
  have k2 : (t.kind == 1) = false := beq_eq_false_iff_ne.2 hk1
  have k3 : (X.toList == [45]) = true := by rw [Lib.toList_data, hXl]; exact beq_iff_eq.2 h45
  have IH := Lib.hid ih
  clear hk2 hk1 h45 ih
  have hb := Lib.hid hb
  clear h H1 K1 hX
  go_enter Tryz.func86, Tryz.ntmps86
  go_wp2_with fail
  clear hW
  go_wp2_with (go_quiet (fail))
  have HD := H.out.kept ((Kept.refl (fun _ => False) W).drewN nq)
  have KD := Lib.hid (show Kept (· = rb) w (W.drewN nq) from K.out.drewN nq)
  have NBD := Lib.hid (show (W.drewN nq).heap[w.heap.size]? = some (ndO ⟨#[]⟩ ⟨#[]⟩ 0 none 0 0) from NB.out)
  have hsz2 : (W.drewN nq).heap.size = w.heap.size + 1 := hsz
  generalize W.drewN nq = V at HD KD NBD hsz2 ⊢
  obtain ⟨⟨e0, e1, e2, e3, e4⟩, -⟩ := HD.r.cells
  obtain ⟨b', off', ha', -, r0, r1, r2, r3⟩ := tok_cells HD.t hp
  cases ha'
  rw [ht] at r0 r1 r2 r3
  rw [HX.out] at r1
  have HA := HD.below ((Below.refl _ V).alloc (Nat.le_refl _) (.cells #[.int .i64 0, .string ⟨#[]⟩, .int .i64 0, .int .i64 0] 63))
  obtain ⟨⟨x0, x1, x2, x3, x4⟩, -⟩ := HA.r.cells
  obtain ⟨b', off', ha', -, y0, y1, y2, y3⟩ := tok_cells HA.t hp
  cases ha'
  rw [ht] at y0 y1 y2 y3
  rw [HX.out] at y1
  have HV := Lib.hid HD
  clear HD HA p0 p1 p2 p3 c0 c1 c2 c3 c4 f1 f2 f3 f4 H K NB hsz
  go_region
  have W1 := Lib.hid (show FW ts rb (some ⟨b, off, none⟩) c s w t.kind X t.num t.place (V.alloc (.cells #[.int .i64 t.kind, .string X, .int .i64 t.num, .int .i64 t.place] 63)).drew from
    ⟨(HV.out.below ((Below.refl _ V).alloc (Nat.le_refl _) _)).kept ((Kept.refl (fun _ => False) _).drew), (KD.out.alloc _).drew, (Below.heap_alloc V _ _ (by omega)).trans NBD.out, by rw [← hsz2]; exact heap_alloc_new V _⟩)
  generalize (V.alloc (.cells #[.int .i64 t.kind, .string X, .int .i64 t.num, .int .i64 t.place] 63)).drew = U at W1 ⊢
  clear x0 x1 x2 x3 x4 y0 y1 y2 y3 r0 r1 r2 r3 e0 e1 e2 e3 e4 HV KD NBD hsz2
  obtain ⟨⟨m0, m1, m2, m3⟩, -⟩ := four W1.out.tb
  have C := Lib.hid (tick_any ts rb (some ⟨b, off, none⟩) c s U W1.out.pw (fun _ => ⟨hp, hc⟩) (by have := hfine.2.1; omega))
  go_wp2_with fail
  refine C.out.mono ?_
  rintro e w1 ⟨rfl, h1, hk⟩
  have W2 := Lib.hid (W1.out.next hrb h1 hk)
  clear h1 hk C m0 m1 m2 m3
  obtain ⟨⟨m0, m1, m2, m3⟩, -⟩ := four W2.out.tb
  obtain ⟨⟨n0, n1, n2, n3⟩, g0, g1, g2, g3⟩ := four W2.out.nb
  clear m0 m1 m2 m3 n0 n1 n2 n3 g0 g1 g2 g3
  have C2 := Lib.hid (IH.out w1 W2.out.pw)
  obtain ⟨q2, hq2⟩ : ∃ q2, pE ts .fac (tickR s) = q2 := ⟨_, rfl⟩
  rw [hq2] at C2 ⊢
  go_wp2_with fail
  refine C2.out.mono ?_
  rintro e w2 ⟨ad, cc, rfl, h2, hk2, hr2⟩
  have W3 := Lib.hid (W2.out.next hrb h2 hk2)
  have R3 := Lib.hid (hr2.mono (show w.heap.size + 2 ≤ w1.heap.size from W2.out.lt))
  obtain ⟨⟨n0, n1, n2, n3⟩, g0, g1, g2, g3⟩ := four W3.out.nb
  have hsz3 := W3.out.lt
  have hsz4 : w.heap.size < w2.heap.size := by omega
  have hsz5 : w.heap.size < w2.heap.size + 1 := by omega
  clear h2 hk2 hr2 C2
  go_wp2_with fail
  have hp4 : (put4 w2 w.heap.size ⟨#[110, 101, 103]⟩ ⟨#[]⟩ 0 (some ⟨w2.heap.size + 1, 0, none⟩) 1 1).heap.size = w2.heap.size := by simp [put4]
  have B1 := (Below.refl (put4 w2 w.heap.size ⟨#[110, 101, 103]⟩ ⟨#[]⟩ 0 (some ⟨w2.heap.size + 1, 0, none⟩) 1 1).heap.size _).alloc (Nat.le_refl _) (ndO q2.1.op q2.1.nm q2.1.n ad q2.1.ks.len cc)
  have B2 := (Below.refl ((put4 w2 w.heap.size ⟨#[110, 101, 103]⟩ ⟨#[]⟩ 0 (some ⟨w2.heap.size + 1, 0, none⟩) 1 1).alloc (ndO q2.1.op q2.1.nm q2.1.n ad q2.1.ks.len cc)).heap.size _).alloc (Nat.le_refl _) (ndO q2.1.op q2.1.nm q2.1.n ad q2.1.ks.len cc)
  have KP := kept_put4 w2 w.heap.size ⟨#[110, 101, 103]⟩ ⟨#[]⟩ 0 (some ⟨w2.heap.size + 1, 0, none⟩) 1 1
  have R4 := (((R3.out.keptS KP (fun k hk => by omega)).kept B1).kept B2)
  have P4 := ((W3.out.pw.other KP hrb).below B1).below B2
  have K4 := ((W3.out.kp.trans KP (fun i hi hlt => by omega)).alloc (ndO q2.1.op q2.1.nm q2.1.n ad q2.1.ks.len cc)).alloc (ndO q2.1.op q2.1.nm q2.1.n ad q2.1.ks.len cc)
  have hnew := heap_alloc_new ((put4 w2 w.heap.size ⟨#[110, 101, 103]⟩ ⟨#[]⟩ 0 (some ⟨w2.heap.size + 1, 0, none⟩) 1 1).alloc (ndO q2.1.op q2.1.nm q2.1.n ad q2.1.ks.len cc)) (ndO q2.1.op q2.1.nm q2.1.n ad q2.1.ks.len cc)
  rw [World.size_alloc, hp4] at hnew
  have hres := (B2.block w.heap.size (by rw [World.size_alloc, hp4]; omega)).trans ((B1.block w.heap.size (by rw [hp4]; omega)).trans (four_set W3.out.nb (.string ⟨#[110, 101, 103]⟩) (.string ⟨#[]⟩) (.int .i64 0) (.slice (some ⟨w2.heap.size + 1, 0, none⟩) 1 1)))
  obtain ⟨⟨d0, d1, d2, d3⟩, -⟩ := four hres
  refine bodyPost_ret (v := nodeV ⟨#[110, 101, 103]⟩ ⟨#[]⟩ 0 (some ⟨w2.heap.size + 1, 0, none⟩) 1 1) (by simp [results, Tryz.results86, go_sem, d0, d1, d2, d3]) rfl ?_
  rw [hq2]
  exact ⟨_, _, rfl, P4, K4, .inr ⟨_, _, rfl, (readsF_one (G := fun b => w.heap.size + 2 ≤ b) (by show w.heap.size + 2 ≤ w2.heap.size + 1; omega) hnew R4).lower (by omega)⟩⟩

set_option maxHeartbeats 8000000 in
theorem fac_par1 (ts : List Tk) (rb : Nat) (a : Option Addr) (c : Nat) (s : RS) (w : World) (h : PW ts rb a c s w) (hb : s.bad = 0) (hp : s.pos < ts.length) (hc : s.cnt ≤ 32) (hk2 : ¬ ts[s.pos].kind = 2) (hk1 : ¬ ts[s.pos].kind = 1) (h40 : ts[s.pos].text = [40]) (ih : ∀ w', PW ts rb a c (stepR s) w' → Calls Tryz.prog 40 #[.pointer (some ⟨rb, 0, none⟩)] w' (PE ts rb a c (pE ts .sum (stepR s)) w')) (hbad : ¬ (pE ts .sum (stepR s)).2.bad = 0) :
    Calls Tryz.prog 86 #[.pointer (some ⟨rb, 0, none⟩)] w (PE ts rb a c (pE ts .fac s) w) := by
  obtain ⟨t, ht⟩ : ∃ t, ts[s.pos] = t := ⟨_, rfl⟩
  rw [ht] at hk2 hk1 h40
  have h45 : ¬ t.text = [45] := by rw [h40]; decide
  have e : pE ts .fac s = ((pE ts .sum (stepR s)).1, closeR ts (pE ts .sum (stepR s)).2) := by rw [pE_fac, if_pos hb, at_get hp, ht]; simp only; rw [if_neg hk2, if_neg hk1, if_neg h45, if_pos h40]
  rw [e]
  clear e
  have TOP := pE_top ts .sum (stepR s) hb (by show s.pos + 1 ≤ ts.length; omega) hc
  have hfs : FineR ts.length (stepR s) := ⟨fun _ => by show s.pos + 1 ≤ ts.length; omega, by show s.pos + 1 ≤ _; omega, by show s.cnt ≤ 33; omega, h.f.2.2.2⟩
  obtain ⟨q2, hq2⟩ : ∃ q2, pE ts .sum (stepR s) = q2 := ⟨_, rfl⟩
  rw [hq2] at ih TOP ⊢
  rw [hq2] at hbad
  have ec : closeR ts q2.2 = stepR q2.2 := by unfold closeR; rw [if_neg (by simp [hbad])]
  rw [ec]
  have hfc : FineR ts.length (stepR q2.2) := ⟨fun x => absurd x hbad, by show q2.2.pos + 1 ≤ _; have h1 := TOP.1; have h2 : (stepR s).pos = s.pos + 1 := rfl; omega, TOP.2.1, h.f.2.2.2⟩
  have qb : ((q2.2.bad : Int) == 0) = false := beq_eq_false_iff_ne.2 hbad
  clear hbad ec
  have q : ((s.bad : Int) != 0) = false := by rw [hb]; rfl
  have K1 := kept_below ((Below.refl w.heap.size w).alloc (Nat.le_refl _) (ndO ⟨#[]⟩ ⟨#[]⟩ 0 none 0 0)) (· = rb)
  have H1 := h.below ((Below.refl _ w).alloc (Nat.le_refl _) (ndO ⟨#[]⟩ ⟨#[]⟩ 0 none 0 0))
  obtain ⟨⟨c0, c1, c2, c3, c4⟩, f1, f2, f3, f4⟩ := H1.r.cells
  obtain ⟨b, off, ha, hbr, p0, p1, p2, p3⟩ := tok_cells H1.t hp
  rw [ht] at p0 p1 p2 p3
  obtain ⟨X, hX⟩ : ∃ X : ByteArray, ⟨t.text.toArray⟩ = X := ⟨_, rfl⟩
  rw [hX] at p1
  have hXl : X.data.toList = t.text := by rw [← hX]
  have HX := Lib.hid hX
  subst ha
  have H := Lib.hid H1
  have K := Lib.hid K1
  have hrb := h.r.lt
  have hfine := h.f
  have NB := heap_alloc_new w (ndO ⟨#[]⟩ ⟨#[]⟩ 0 none 0 0)
  have hsz : (w.alloc (ndO ⟨#[]⟩ ⟨#[]⟩ 0 none 0 0)).heap.size = w.heap.size + 1 := World.size_alloc _ _
  generalize hW : w.alloc (ndO ⟨#[]⟩ ⟨#[]⟩ 0 none 0 0) = W at *
  have a1 : decide (ts.length ≤ s.pos) = false := decide_eq_false (by omega)
  have a2 : decide ((ts.length : Int) ≤ (s.pos : Int)) = false := decide_eq_false (by omega)
  have a3 : (s.pos : Int) < (ts.length : Int) := by omega
  have a4 : (0 : Int) ≤ (s.pos : Int) := by omega
  have a5 : ((s.pos : Int)).toNat = s.pos := by omega
  have NB := Lib.hid NB
  have k1 : (t.kind == 2) = false := beq_eq_false_iff_ne.2 hk2
  have k2 : (t.kind == 1) = false := beq_eq_false_iff_ne.2 hk1
  have k3 : (X.toList == [45]) = false := by rw [Lib.toList_data, hXl]; exact beq_eq_false_iff_ne.2 h45
  have k4 : (X.toList == [40]) = true := by rw [Lib.toList_data, hXl]; exact beq_iff_eq.2 h40
  have IH := Lib.hid ih
  have hsp : (s.pos : Int) + 1 ≤ 9223372036854775807 := by have := hfine.2.2.2; omega
  have hcp : (q2.2.pos : Int) + 1 ≤ 9223372036854775807 := by have := TOP.1; have := hfine.2.2.2; omega
  clear hk2 hk1 h40 h45 ih
  have hb := Lib.hid hb
  clear h H1 K1 hX
  go_enter Tryz.func86, Tryz.ntmps86
  go_wp2_with fail
  clear hW
  go_wp2_with (go_quiet (fail))
  have HD := H.out.kept ((Kept.refl (fun _ => False) W).drewN nq)
  have KD := Lib.hid (show Kept (· = rb) w (W.drewN nq) from K.out.drewN nq)
  have NBD := Lib.hid (show (W.drewN nq).heap[w.heap.size]? = some (ndO ⟨#[]⟩ ⟨#[]⟩ 0 none 0 0) from NB.out)
  have hsz2 : (W.drewN nq).heap.size = w.heap.size + 1 := hsz
  generalize W.drewN nq = V at HD KD NBD hsz2 ⊢
  obtain ⟨⟨e0, e1, e2, e3, e4⟩, -⟩ := HD.r.cells
  obtain ⟨b', off', ha', -, r0, r1, r2, r3⟩ := tok_cells HD.t hp
  cases ha'
  rw [ht] at r0 r1 r2 r3
  rw [HX.out] at r1
  have HA := HD.below ((Below.refl _ V).alloc (Nat.le_refl _) (.cells #[.int .i64 0, .string ⟨#[]⟩, .int .i64 0, .int .i64 0] 63))
  obtain ⟨⟨x0, x1, x2, x3, x4⟩, -⟩ := HA.r.cells
  obtain ⟨b', off', ha', -, y0, y1, y2, y3⟩ := tok_cells HA.t hp
  cases ha'
  rw [ht] at y0 y1 y2 y3
  rw [HX.out] at y1
  have HV := Lib.hid HD
  clear HD HA p0 p1 p2 p3 c0 c1 c2 c3 c4 f1 f2 f3 f4 H K NB hsz
  go_region
  have W1 := Lib.hid (show FW ts rb (some ⟨b, off, none⟩) c s w t.kind X t.num t.place (V.alloc (.cells #[.int .i64 t.kind, .string X, .int .i64 t.num, .int .i64 t.place] 63)).drew from
    ⟨(HV.out.below ((Below.refl _ V).alloc (Nat.le_refl _) _)).kept ((Kept.refl (fun _ => False) _).drew), (KD.out.alloc _).drew, (Below.heap_alloc V _ _ (by omega)).trans NBD.out, by rw [← hsz2]; exact heap_alloc_new V _⟩)
  generalize (V.alloc (.cells #[.int .i64 t.kind, .string X, .int .i64 t.num, .int .i64 t.place] 63)).drew = U at W1 ⊢
  clear x0 x1 x2 x3 x4 y0 y1 y2 y3 r0 r1 r2 r3 e0 e1 e2 e3 e4 HV KD NBD hsz2
  obtain ⟨⟨m0, m1, m2, m3⟩, -⟩ := four W1.out.tb
  obtain ⟨⟨x0, x1, x2, x3, x4⟩, y1, y2, y3, y4⟩ := W1.out.pw.r.cells
  have WS := Lib.hid (W1.out.next hrb (W1.out.pw.set (s' := stepR s) (o := 1) (v := .int .i64 ((s.pos : Int) + 1)) hfs rfl) (kept_set (Kept.refl _ _) 1 _))
  have C2 := Lib.hid (IH.out _ WS.out.pw)
  go_wp2_with fail
  generalize hU2 : U.setCell ⟨rb, 1, none⟩ (.int .i64 ((s.pos : Int) + 1)) = U2 at *
  refine C2.out.mono ?_
  rintro e w2 ⟨ad, cc, rfl, h2, hk2, hr2⟩
  have W3 := Lib.hid (WS.out.next hrb h2 hk2)
  have R3 := Lib.hid (hr2.mono (show w.heap.size + 2 ≤ U2.heap.size from WS.out.lt))
  have hsz3 := W3.out.lt
  have BN := (Below.refl w2.heap.size w2).alloc (Nat.le_refl _) (ndO q2.1.op q2.1.nm q2.1.n ad q2.1.ks.len cc)
  have hnew := Lib.hid (heap_alloc_new w2 (ndO q2.1.op q2.1.nm q2.1.n ad q2.1.ks.len cc))
  have W4 := Lib.hid (W3.out.next hrb (h2.below BN) (kept_below BN _))
  have R4 := Lib.hid (R3.out.kept BN)
  have hs4 : (w2.alloc (ndO q2.1.op q2.1.nm q2.1.n ad q2.1.ks.len cc)).heap.size = w2.heap.size + 1 := World.size_alloc _ _
  clear h2 hk2 hr2 C2 x0 x1 x2 x3 x4 y1 y2 y3 y4 m0 m1 m2 m3 W1 WS BN hU2
  generalize hV4 : w2.alloc (ndO q2.1.op q2.1.nm q2.1.n ad q2.1.ks.len cc) = V4 at *
  obtain ⟨⟨x0, x1, x2, x3, x4⟩, y1, y2, y3, y4⟩ := W4.out.pw.r.cells
  obtain ⟨⟨z0, z1, z2, z3⟩, -⟩ := four hnew.out
  obtain ⟨⟨n0, n1, n2, n3⟩, g0, g1, g2, g3⟩ := four W4.out.nb
  have W5 := Lib.hid (W4.out.next hrb (W4.out.pw.set (s' := stepR q2.2) (o := 1) (v := .int .i64 ((q2.2.pos : Int) + 1)) hfc rfl) (kept_set (Kept.refl _ _) 1 _))
  have R5 := Lib.hid (R4.out.keptS (kept_set (Kept.refl (· = rb) V4) 1 (.int .i64 ((q2.2.pos : Int) + 1))) (fun k hk => by omega))
  go_wp2_with fail
  have hres := four_set W5.out.nb (.string q2.1.op) (.string q2.1.nm) (.int .i64 q2.1.n) (.slice ad q2.1.ks.len cc)
  obtain ⟨⟨d0, d1, d2, d3⟩, -⟩ := four hres
  refine bodyPost_ret (v := nodeV q2.1.op q2.1.nm q2.1.n ad q2.1.ks.len cc) (by simp [results, Tryz.results86, go_sem, d0, d1, d2, d3]) rfl ?_
  exact PE.put (q := (q2.1, stepR q2.2)) hrb W5.out.pw W5.out.kp (R5.out.mono (by omega))

set_option maxHeartbeats 8000000 in
theorem fac_par2 (ts : List Tk) (rb : Nat) (a : Option Addr) (c : Nat) (s : RS) (w : World) (h : PW ts rb a c s w) (hb : s.bad = 0) (hp : s.pos < ts.length) (hc : s.cnt ≤ 32) (hk2 : ¬ ts[s.pos].kind = 2) (hk1 : ¬ ts[s.pos].kind = 1) (h40 : ts[s.pos].text = [40]) (ih : ∀ w', PW ts rb a c (stepR s) w' → Calls Tryz.prog 40 #[.pointer (some ⟨rb, 0, none⟩)] w' (PE ts rb a c (pE ts .sum (stepR s)) w')) (hbad : (pE ts .sum (stepR s)).2.bad = 0) (hsh : isS ts [41] (pE ts .sum (stepR s)).2.pos = true) :
    Calls Tryz.prog 86 #[.pointer (some ⟨rb, 0, none⟩)] w (PE ts rb a c (pE ts .fac s) w) := by
  obtain ⟨t, ht⟩ : ∃ t, ts[s.pos] = t := ⟨_, rfl⟩
  rw [ht] at hk2 hk1 h40
  have h45 : ¬ t.text = [45] := by rw [h40]; decide
  have e : pE ts .fac s = ((pE ts .sum (stepR s)).1, closeR ts (pE ts .sum (stepR s)).2) := by rw [pE_fac, if_pos hb, at_get hp, ht]; simp only; rw [if_neg hk2, if_neg hk1, if_neg h45, if_pos h40]
  rw [e]
  clear e
  have TOP := pE_top ts .sum (stepR s) hb (by show s.pos + 1 ≤ ts.length; omega) hc
  have hfs : FineR ts.length (stepR s) := ⟨fun _ => by show s.pos + 1 ≤ ts.length; omega, by show s.pos + 1 ≤ _; omega, by show s.cnt ≤ 33; omega, h.f.2.2.2⟩
  obtain ⟨q2, hq2⟩ : ∃ q2, pE ts .sum (stepR s) = q2 := ⟨_, rfl⟩
  rw [hq2] at ih TOP ⊢
  rw [hq2] at hbad hsh
  have ec : closeR ts q2.2 = stepR q2.2 := by unfold closeR; rw [hbad, hsh]; rfl
  rw [ec]
  have T3 := TOP.2.2 hbad
  have hlt := isS_lt hsh
  have hfc : FineR ts.length (stepR q2.2) := ⟨fun _ => by show q2.2.pos + 1 ≤ _; omega, by show q2.2.pos + 1 ≤ _; omega, TOP.2.1, h.f.2.2.2⟩
  have qb : ((q2.2.bad : Int) == 0) = true := by rw [hbad]; rfl
  clear hbad ec
  have q : ((s.bad : Int) != 0) = false := by rw [hb]; rfl
  have K1 := kept_below ((Below.refl w.heap.size w).alloc (Nat.le_refl _) (ndO ⟨#[]⟩ ⟨#[]⟩ 0 none 0 0)) (· = rb)
  have H1 := h.below ((Below.refl _ w).alloc (Nat.le_refl _) (ndO ⟨#[]⟩ ⟨#[]⟩ 0 none 0 0))
  obtain ⟨⟨c0, c1, c2, c3, c4⟩, f1, f2, f3, f4⟩ := H1.r.cells
  obtain ⟨b, off, ha, hbr, p0, p1, p2, p3⟩ := tok_cells H1.t hp
  rw [ht] at p0 p1 p2 p3
  obtain ⟨X, hX⟩ : ∃ X : ByteArray, ⟨t.text.toArray⟩ = X := ⟨_, rfl⟩
  rw [hX] at p1
  have hXl : X.data.toList = t.text := by rw [← hX]
  have HX := Lib.hid hX
  subst ha
  have H := Lib.hid H1
  have K := Lib.hid K1
  have hrb := h.r.lt
  have hfine := h.f
  have NB := heap_alloc_new w (ndO ⟨#[]⟩ ⟨#[]⟩ 0 none 0 0)
  have hsz : (w.alloc (ndO ⟨#[]⟩ ⟨#[]⟩ 0 none 0 0)).heap.size = w.heap.size + 1 := World.size_alloc _ _
  generalize hW : w.alloc (ndO ⟨#[]⟩ ⟨#[]⟩ 0 none 0 0) = W at *
  have a1 : decide (ts.length ≤ s.pos) = false := decide_eq_false (by omega)
  have a2 : decide ((ts.length : Int) ≤ (s.pos : Int)) = false := decide_eq_false (by omega)
  have a3 : (s.pos : Int) < (ts.length : Int) := by omega
  have a4 : (0 : Int) ≤ (s.pos : Int) := by omega
  have a5 : ((s.pos : Int)).toNat = s.pos := by omega
  have NB := Lib.hid NB
  have k1 : (t.kind == 2) = false := beq_eq_false_iff_ne.2 hk2
  have k2 : (t.kind == 1) = false := beq_eq_false_iff_ne.2 hk1
  have k3 : (X.toList == [45]) = false := by rw [Lib.toList_data, hXl]; exact beq_eq_false_iff_ne.2 h45
  have k4 : (X.toList == [40]) = true := by rw [Lib.toList_data, hXl]; exact beq_iff_eq.2 h40
  have IH := Lib.hid ih
  have hsp : (s.pos : Int) + 1 ≤ 9223372036854775807 := by have := hfine.2.2.2; omega
  have hcp : (q2.2.pos : Int) + 1 ≤ 9223372036854775807 := by have := TOP.1; have := hfine.2.2.2; omega
  clear hk2 hk1 h40 h45 ih
  have hb := Lib.hid hb
  clear h H1 K1 hX
  go_enter Tryz.func86, Tryz.ntmps86
  go_wp2_with fail
  clear hW
  go_wp2_with (go_quiet (fail))
  have HD := H.out.kept ((Kept.refl (fun _ => False) W).drewN nq)
  have KD := Lib.hid (show Kept (· = rb) w (W.drewN nq) from K.out.drewN nq)
  have NBD := Lib.hid (show (W.drewN nq).heap[w.heap.size]? = some (ndO ⟨#[]⟩ ⟨#[]⟩ 0 none 0 0) from NB.out)
  have hsz2 : (W.drewN nq).heap.size = w.heap.size + 1 := hsz
  generalize W.drewN nq = V at HD KD NBD hsz2 ⊢
  obtain ⟨⟨e0, e1, e2, e3, e4⟩, -⟩ := HD.r.cells
  obtain ⟨b', off', ha', -, r0, r1, r2, r3⟩ := tok_cells HD.t hp
  cases ha'
  rw [ht] at r0 r1 r2 r3
  rw [HX.out] at r1
  have HA := HD.below ((Below.refl _ V).alloc (Nat.le_refl _) (.cells #[.int .i64 0, .string ⟨#[]⟩, .int .i64 0, .int .i64 0] 63))
  obtain ⟨⟨x0, x1, x2, x3, x4⟩, -⟩ := HA.r.cells
  obtain ⟨b', off', ha', -, y0, y1, y2, y3⟩ := tok_cells HA.t hp
  cases ha'
  rw [ht] at y0 y1 y2 y3
  rw [HX.out] at y1
  have HV := Lib.hid HD
  clear HD HA p0 p1 p2 p3 c0 c1 c2 c3 c4 f1 f2 f3 f4 H K NB hsz
  go_region
  have W1 := Lib.hid (show FW ts rb (some ⟨b, off, none⟩) c s w t.kind X t.num t.place (V.alloc (.cells #[.int .i64 t.kind, .string X, .int .i64 t.num, .int .i64 t.place] 63)).drew from
    ⟨(HV.out.below ((Below.refl _ V).alloc (Nat.le_refl _) _)).kept ((Kept.refl (fun _ => False) _).drew), (KD.out.alloc _).drew, (Below.heap_alloc V _ _ (by omega)).trans NBD.out, by rw [← hsz2]; exact heap_alloc_new V _⟩)
  generalize (V.alloc (.cells #[.int .i64 t.kind, .string X, .int .i64 t.num, .int .i64 t.place] 63)).drew = U at W1 ⊢
  clear x0 x1 x2 x3 x4 y0 y1 y2 y3 r0 r1 r2 r3 e0 e1 e2 e3 e4 HV KD NBD hsz2
  obtain ⟨⟨m0, m1, m2, m3⟩, -⟩ := four W1.out.tb
  obtain ⟨⟨x0, x1, x2, x3, x4⟩, y1, y2, y3, y4⟩ := W1.out.pw.r.cells
  have WS := Lib.hid (W1.out.next hrb (W1.out.pw.set (s' := stepR s) (o := 1) (v := .int .i64 ((s.pos : Int) + 1)) hfs rfl) (kept_set (Kept.refl _ _) 1 _))
  have C2 := Lib.hid (IH.out _ WS.out.pw)
  go_wp2_with fail
  generalize hU2 : U.setCell ⟨rb, 1, none⟩ (.int .i64 ((s.pos : Int) + 1)) = U2 at *
  refine C2.out.mono ?_
  rintro e w2 ⟨ad, cc, rfl, h2, hk2, hr2⟩
  have W3 := Lib.hid (WS.out.next hrb h2 hk2)
  have R3 := Lib.hid (hr2.mono (show w.heap.size + 2 ≤ U2.heap.size from WS.out.lt))
  have hsz3 := W3.out.lt
  have BN := (Below.refl w2.heap.size w2).alloc (Nat.le_refl _) (ndO q2.1.op q2.1.nm q2.1.n ad q2.1.ks.len cc)
  have hnew := Lib.hid (heap_alloc_new w2 (ndO q2.1.op q2.1.nm q2.1.n ad q2.1.ks.len cc))
  have W4 := Lib.hid (W3.out.next hrb (h2.below BN) (kept_below BN _))
  have R4 := Lib.hid (R3.out.kept BN)
  have hs4 : (w2.alloc (ndO q2.1.op q2.1.nm q2.1.n ad q2.1.ks.len cc)).heap.size = w2.heap.size + 1 := World.size_alloc _ _
  clear h2 hk2 hr2 C2 x0 x1 x2 x3 x4 y1 y2 y3 y4 m0 m1 m2 m3 W1 WS BN hU2
  generalize hV4 : w2.alloc (ndO q2.1.op q2.1.nm q2.1.n ad q2.1.ks.len cc) = V4 at *
  obtain ⟨⟨x0, x1, x2, x3, x4⟩, y1, y2, y3, y4⟩ := W4.out.pw.r.cells
  have CI := Lib.hid (p := Calls Tryz.prog 65 #[.pointer (some ⟨rb, 0, none⟩), .string ⟨#[41]⟩] V4 fun e w' => e = .returned (.bool true) ∧ Kept (fun _ => False) V4 w') (by have := is_any ts rb (some ⟨b, off, none⟩) c q2.2 ⟨#[41]⟩ V4 W4.out.pw; rwa [show isS ts (⟨#[41]⟩ : ByteArray).data.toList q2.2.pos = true from hsh] at this)
  go_wp2_with fail
  refine CI.out.mono ?_
  rintro e w5 ⟨rfl, hk5⟩
  have W5 := Lib.hid (W4.out.next hrb (W4.out.pw.kept hk5) (hk5.mono (fun _ h _ => h.elim)))
  have R5 := Lib.hid (R4.out.keptS hk5 (fun _ h => h.elim))
  have N5 := Lib.hid (show w5.heap[w2.heap.size]? = some (ndO q2.1.op q2.1.nm q2.1.n ad q2.1.ks.len cc) from hk5.heap hnew.out (fun h => h))
  clear hk5 CI x0 x1 x2 x3 x4 y1 y2 y3 y4
  obtain ⟨⟨x0, x1, x2, x3, x4⟩, y1, y2, y3, y4⟩ := W5.out.pw.r.cells
  obtain ⟨⟨z0, z1, z2, z3⟩, -⟩ := four N5.out
  obtain ⟨⟨n0, n1, n2, n3⟩, g0, g1, g2, g3⟩ := four W5.out.nb
  have W7 := Lib.hid (W5.out.next hrb (W5.out.pw.set (s' := stepR q2.2) (o := 1) (v := .int .i64 ((q2.2.pos : Int) + 1)) hfc rfl) (kept_set (Kept.refl _ _) 1 _))
  have R7 := Lib.hid (R5.out.keptS (kept_set (Kept.refl (· = rb) w5) 1 (.int .i64 ((q2.2.pos : Int) + 1))) (fun k hk => by omega))
  go_wp2_with fail
  have hres := four_set W7.out.nb (.string q2.1.op) (.string q2.1.nm) (.int .i64 q2.1.n) (.slice ad q2.1.ks.len cc)
  obtain ⟨⟨d0, d1, d2, d3⟩, -⟩ := four hres
  refine bodyPost_ret (v := nodeV q2.1.op q2.1.nm q2.1.n ad q2.1.ks.len cc) (by simp [results, Tryz.results86, go_sem, d0, d1, d2, d3]) rfl ?_
  exact PE.put (q := (q2.1, stepR q2.2)) hrb W7.out.pw W7.out.kp (R7.out.mono (by omega))

set_option maxHeartbeats 8000000 in
theorem fac_par3 (ts : List Tk) (rb : Nat) (a : Option Addr) (c : Nat) (s : RS) (w : World) (h : PW ts rb a c s w) (hb : s.bad = 0) (hp : s.pos < ts.length) (hc : s.cnt ≤ 32) (hk2 : ¬ ts[s.pos].kind = 2) (hk1 : ¬ ts[s.pos].kind = 1) (h40 : ts[s.pos].text = [40]) (ih : ∀ w', PW ts rb a c (stepR s) w' → Calls Tryz.prog 40 #[.pointer (some ⟨rb, 0, none⟩)] w' (PE ts rb a c (pE ts .sum (stepR s)) w')) (hbad : (pE ts .sum (stepR s)).2.bad = 0) (hsh : isS ts [41] (pE ts .sum (stepR s)).2.pos = false) :
    Calls Tryz.prog 86 #[.pointer (some ⟨rb, 0, none⟩)] w (PE ts rb a c (pE ts .fac s) w) := by
  obtain ⟨t, ht⟩ : ∃ t, ts[s.pos] = t := ⟨_, rfl⟩
  rw [ht] at hk2 hk1 h40
  have h45 : ¬ t.text = [45] := by rw [h40]; decide
  have e : pE ts .fac s = ((pE ts .sum (stepR s)).1, closeR ts (pE ts .sum (stepR s)).2) := by rw [pE_fac, if_pos hb, at_get hp, ht]; simp only; rw [if_neg hk2, if_neg hk1, if_neg h45, if_pos h40]
  rw [e]
  clear e
  have TOP := pE_top ts .sum (stepR s) hb (by show s.pos + 1 ≤ ts.length; omega) hc
  have hfs : FineR ts.length (stepR s) := ⟨fun _ => by show s.pos + 1 ≤ ts.length; omega, by show s.pos + 1 ≤ _; omega, by show s.cnt ≤ 33; omega, h.f.2.2.2⟩
  obtain ⟨q2, hq2⟩ : ∃ q2, pE ts .sum (stepR s) = q2 := ⟨_, rfl⟩
  rw [hq2] at ih TOP ⊢
  rw [hq2] at hbad hsh
  have ec : closeR ts q2.2 = stepR (failR 2 q2.2) := by unfold closeR; rw [hbad, hsh]; rfl
  rw [ec]
  have T3 := TOP.2.2 hbad
  have hfc : FineR ts.length (stepR (failR 2 q2.2)) := ⟨fun x => absurd x (fail_bad 2 (by decide) q2.2), by show (failR 2 q2.2).pos + 1 ≤ _; rw [fail_pos]; have h1 := TOP.1; have h2 : (stepR s).pos = s.pos + 1 := rfl; omega, by show (failR 2 q2.2).cnt ≤ 33; unfold failR; split <;> exact TOP.2.1, h.f.2.2.2⟩
  have hcp2 : ((failR 2 q2.2).pos : Int) + 1 ≤ 9223372036854775807 := by rw [fail_pos]; have := h.f.2.2.2; omega
  have qb : ((q2.2.bad : Int) == 0) = true := by rw [hbad]; rfl
  clear hbad ec
  have q : ((s.bad : Int) != 0) = false := by rw [hb]; rfl
  have K1 := kept_below ((Below.refl w.heap.size w).alloc (Nat.le_refl _) (ndO ⟨#[]⟩ ⟨#[]⟩ 0 none 0 0)) (· = rb)
  have H1 := h.below ((Below.refl _ w).alloc (Nat.le_refl _) (ndO ⟨#[]⟩ ⟨#[]⟩ 0 none 0 0))
  obtain ⟨⟨c0, c1, c2, c3, c4⟩, f1, f2, f3, f4⟩ := H1.r.cells
  obtain ⟨b, off, ha, hbr, p0, p1, p2, p3⟩ := tok_cells H1.t hp
  rw [ht] at p0 p1 p2 p3
  obtain ⟨X, hX⟩ : ∃ X : ByteArray, ⟨t.text.toArray⟩ = X := ⟨_, rfl⟩
  rw [hX] at p1
  have hXl : X.data.toList = t.text := by rw [← hX]
  have HX := Lib.hid hX
  subst ha
  have H := Lib.hid H1
  have K := Lib.hid K1
  have hrb := h.r.lt
  have hfine := h.f
  have NB := heap_alloc_new w (ndO ⟨#[]⟩ ⟨#[]⟩ 0 none 0 0)
  have hsz : (w.alloc (ndO ⟨#[]⟩ ⟨#[]⟩ 0 none 0 0)).heap.size = w.heap.size + 1 := World.size_alloc _ _
  generalize hW : w.alloc (ndO ⟨#[]⟩ ⟨#[]⟩ 0 none 0 0) = W at *
  have a1 : decide (ts.length ≤ s.pos) = false := decide_eq_false (by omega)
  have a2 : decide ((ts.length : Int) ≤ (s.pos : Int)) = false := decide_eq_false (by omega)
  have a3 : (s.pos : Int) < (ts.length : Int) := by omega
  have a4 : (0 : Int) ≤ (s.pos : Int) := by omega
  have a5 : ((s.pos : Int)).toNat = s.pos := by omega
  have NB := Lib.hid NB
  have k1 : (t.kind == 2) = false := beq_eq_false_iff_ne.2 hk2
  have k2 : (t.kind == 1) = false := beq_eq_false_iff_ne.2 hk1
  have k3 : (X.toList == [45]) = false := by rw [Lib.toList_data, hXl]; exact beq_eq_false_iff_ne.2 h45
  have k4 : (X.toList == [40]) = true := by rw [Lib.toList_data, hXl]; exact beq_iff_eq.2 h40
  have IH := Lib.hid ih
  have hsp : (s.pos : Int) + 1 ≤ 9223372036854775807 := by have := hfine.2.2.2; omega
  have hcp : (q2.2.pos : Int) + 1 ≤ 9223372036854775807 := by have := TOP.1; have := hfine.2.2.2; omega
  clear hk2 hk1 h40 h45 ih
  have hb := Lib.hid hb
  clear h H1 K1 hX
  go_enter Tryz.func86, Tryz.ntmps86
  go_wp2_with fail
  clear hW
  go_wp2_with (go_quiet (fail))
  have HD := H.out.kept ((Kept.refl (fun _ => False) W).drewN nq)
  have KD := Lib.hid (show Kept (· = rb) w (W.drewN nq) from K.out.drewN nq)
  have NBD := Lib.hid (show (W.drewN nq).heap[w.heap.size]? = some (ndO ⟨#[]⟩ ⟨#[]⟩ 0 none 0 0) from NB.out)
  have hsz2 : (W.drewN nq).heap.size = w.heap.size + 1 := hsz
  generalize W.drewN nq = V at HD KD NBD hsz2 ⊢
  obtain ⟨⟨e0, e1, e2, e3, e4⟩, -⟩ := HD.r.cells
  obtain ⟨b', off', ha', -, r0, r1, r2, r3⟩ := tok_cells HD.t hp
  cases ha'
  rw [ht] at r0 r1 r2 r3
  rw [HX.out] at r1
  have HA := HD.below ((Below.refl _ V).alloc (Nat.le_refl _) (.cells #[.int .i64 0, .string ⟨#[]⟩, .int .i64 0, .int .i64 0] 63))
  obtain ⟨⟨x0, x1, x2, x3, x4⟩, -⟩ := HA.r.cells
  obtain ⟨b', off', ha', -, y0, y1, y2, y3⟩ := tok_cells HA.t hp
  cases ha'
  rw [ht] at y0 y1 y2 y3
  rw [HX.out] at y1
  have HV := Lib.hid HD
  clear HD HA p0 p1 p2 p3 c0 c1 c2 c3 c4 f1 f2 f3 f4 H K NB hsz
  go_region
  have W1 := Lib.hid (show FW ts rb (some ⟨b, off, none⟩) c s w t.kind X t.num t.place (V.alloc (.cells #[.int .i64 t.kind, .string X, .int .i64 t.num, .int .i64 t.place] 63)).drew from
    ⟨(HV.out.below ((Below.refl _ V).alloc (Nat.le_refl _) _)).kept ((Kept.refl (fun _ => False) _).drew), (KD.out.alloc _).drew, (Below.heap_alloc V _ _ (by omega)).trans NBD.out, by rw [← hsz2]; exact heap_alloc_new V _⟩)
  generalize (V.alloc (.cells #[.int .i64 t.kind, .string X, .int .i64 t.num, .int .i64 t.place] 63)).drew = U at W1 ⊢
  clear x0 x1 x2 x3 x4 y0 y1 y2 y3 r0 r1 r2 r3 e0 e1 e2 e3 e4 HV KD NBD hsz2
  obtain ⟨⟨m0, m1, m2, m3⟩, -⟩ := four W1.out.tb
  obtain ⟨⟨x0, x1, x2, x3, x4⟩, y1, y2, y3, y4⟩ := W1.out.pw.r.cells
  have WS := Lib.hid (W1.out.next hrb (W1.out.pw.set (s' := stepR s) (o := 1) (v := .int .i64 ((s.pos : Int) + 1)) hfs rfl) (kept_set (Kept.refl _ _) 1 _))
  have C2 := Lib.hid (IH.out _ WS.out.pw)
  go_wp2_with fail
  generalize hU2 : U.setCell ⟨rb, 1, none⟩ (.int .i64 ((s.pos : Int) + 1)) = U2 at *
  refine C2.out.mono ?_
  rintro e w2 ⟨ad, cc, rfl, h2, hk2, hr2⟩
  have W3 := Lib.hid (WS.out.next hrb h2 hk2)
  have R3 := Lib.hid (hr2.mono (show w.heap.size + 2 ≤ U2.heap.size from WS.out.lt))
  have hsz3 := W3.out.lt
  have BN := (Below.refl w2.heap.size w2).alloc (Nat.le_refl _) (ndO q2.1.op q2.1.nm q2.1.n ad q2.1.ks.len cc)
  have hnew := Lib.hid (heap_alloc_new w2 (ndO q2.1.op q2.1.nm q2.1.n ad q2.1.ks.len cc))
  have W4 := Lib.hid (W3.out.next hrb (h2.below BN) (kept_below BN _))
  have R4 := Lib.hid (R3.out.kept BN)
  have hs4 : (w2.alloc (ndO q2.1.op q2.1.nm q2.1.n ad q2.1.ks.len cc)).heap.size = w2.heap.size + 1 := World.size_alloc _ _
  clear h2 hk2 hr2 C2 x0 x1 x2 x3 x4 y1 y2 y3 y4 m0 m1 m2 m3 W1 WS BN hU2
  generalize hV4 : w2.alloc (ndO q2.1.op q2.1.nm q2.1.n ad q2.1.ks.len cc) = V4 at *
  obtain ⟨⟨x0, x1, x2, x3, x4⟩, y1, y2, y3, y4⟩ := W4.out.pw.r.cells
  have CI := Lib.hid (p := Calls Tryz.prog 65 #[.pointer (some ⟨rb, 0, none⟩), .string ⟨#[41]⟩] V4 fun e w' => e = .returned (.bool false) ∧ Kept (fun _ => False) V4 w') (by have := is_any ts rb (some ⟨b, off, none⟩) c q2.2 ⟨#[41]⟩ V4 W4.out.pw; rwa [show isS ts (⟨#[41]⟩ : ByteArray).data.toList q2.2.pos = false from hsh] at this)
  go_wp2_with fail
  refine CI.out.mono ?_
  rintro e w5 ⟨rfl, hk5⟩
  have W5 := Lib.hid (W4.out.next hrb (W4.out.pw.kept hk5) (hk5.mono (fun _ h _ => h.elim)))
  have R5 := Lib.hid (R4.out.keptS hk5 (fun _ h => h.elim))
  have N5 := Lib.hid (show w5.heap[w2.heap.size]? = some (ndO q2.1.op q2.1.nm q2.1.n ad q2.1.ks.len cc) from hk5.heap hnew.out (fun h => h))
  clear hk5 CI x0 x1 x2 x3 x4 y1 y2 y3 y4
  have CF := Lib.hid (fail_any ts rb (some ⟨b, off, none⟩) c q2.2 2 (by decide) w5 W5.out.pw)
  go_wp2_with fail
  refine CF.out.mono ?_
  rintro e w6 ⟨rfl, h6, hk6⟩
  have W6 := Lib.hid (W5.out.next hrb h6 hk6)
  have R6 := Lib.hid (R5.out.keptS hk6 (fun k hk => by omega))
  have N6 := Lib.hid (show w6.heap[w2.heap.size]? = some (ndO q2.1.op q2.1.nm q2.1.n ad q2.1.ks.len cc) from hk6.heap N5.out (by show ¬ w2.heap.size = rb; omega))
  clear h6 hk6 CF
  obtain ⟨⟨x0, x1, x2, x3, x4⟩, y1, y2, y3, y4⟩ := W6.out.pw.r.cells
  obtain ⟨⟨z0, z1, z2, z3⟩, -⟩ := four N6.out
  obtain ⟨⟨n0, n1, n2, n3⟩, g0, g1, g2, g3⟩ := four W6.out.nb
  have W7 := Lib.hid (W6.out.next hrb (W6.out.pw.set (s' := stepR (failR 2 q2.2)) (o := 1) (v := .int .i64 (((failR 2 q2.2).pos : Int) + 1)) hfc rfl) (kept_set (Kept.refl _ _) 1 _))
  have R7 := Lib.hid (R6.out.keptS (kept_set (Kept.refl (· = rb) w6) 1 (.int .i64 (((failR 2 q2.2).pos : Int) + 1))) (fun k hk => by omega))
  go_wp2_with fail
  have hres := four_set W7.out.nb (.string q2.1.op) (.string q2.1.nm) (.int .i64 q2.1.n) (.slice ad q2.1.ks.len cc)
  obtain ⟨⟨d0, d1, d2, d3⟩, -⟩ := four hres
  refine bodyPost_ret (v := nodeV q2.1.op q2.1.nm q2.1.n ad q2.1.ks.len cc) (by simp [results, Tryz.results86, go_sem, d0, d1, d2, d3]) rfl ?_
  exact PE.put (q := (q2.1, stepR (failR 2 q2.2))) hrb W7.out.pw W7.out.kp (R7.out.mono (by omega))

end Go.Proofs.YteegdemnajhehaaGreatDoor
