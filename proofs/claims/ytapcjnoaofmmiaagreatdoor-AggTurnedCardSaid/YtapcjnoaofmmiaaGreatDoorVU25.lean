/-
 No statement: what AggTurnedCard needs, of the texts QOwn, OConds, OArgs, QGw, OParse, QParse.
-/
import Derived.Test.YtapcjnoaofmmiaaGreatDoorVU24
namespace Go.Proofs.YtapcjnoaofmmiaaGreatDoor
section
open Go.RowKit
structure QC where
 a1 : Option Addr
 c1 : Nat
 a2 : Option Addr
 c2 : Nat
abbrev eM (d : CD) (q : QC) : List Value := [.string d.op, .string d.a.op, .string d.a.nm, .int .i64 d.a.n, .slice q.a1 d.a.ks.len q.c1, .string d.b.op, .string d.b.nm, .int .i64 d.b.n, .slice q.a2 d.b.ks.len q.c2]
def cdL : List CD -> List QC -> List Value
 | d :: r, q :: s => eM d q ++ cdL r s
 | _, _ => []
def lP (G : Nat -> Prop) (w : World) (l : List CD) (qs : List QC) : Prop := ∀ (j : Nat) (d : CD) (q : QC), l[j]? = some d -> qs[j]? = some q -> aG G w q.a1 d.a.ks /\ aG G w q.a2 d.b.ks
theorem pG : ∀ (l : List CD) (q : List QC), ∀ u ∈ cdL l q, u.oneCell' = true
 | [], _, u, h => by simp [cdL] at h
 | _ :: _, [], u, h => by simp [cdL] at h
 | d :: r, p :: s, u, h => by
   rw [cdL] at h
   rcases List.mem_append.1 h with h | h
   · simp only [eM, List.mem_cons, List.not_mem_nil, or_false] at h
     rcases h with rfl | rfl | rfl | rfl | rfl | rfl | rfl | rfl | rfl <;> rfl
   · exact pG r s u h
theorem xJ : ∀ (l m : List CD) (q p : List QC), q.length = l.length -> cdL (l ++ m) (q ++ p) = cdL l q ++ cdL m p
 | [], m, [], p, _ => rfl
 | [], _, _ :: _, _, h => by simp at h
 | _ :: _, _, [], _, h => by simp at h
 | d :: r, m, q :: s, p, h => by rw [List.cons_append, List.cons_append, cdL, cdL, xJ r m s p (by simpa using h), List.append_assoc]
theorem BJ : ∀ (l : List CD) (q : List QC) {k : Nat} {d : CD} (_ : q.length = l.length) (_ : l[k]? = some d), ∃ p, q[k]? = some p /\ ∀ i u, (eM d p)[i]? = some u -> (cdL l q)[k * 9 + i]? = some u
 | [], _, k, d, _, hk => by simp at hk
 | _ :: _, [], k, d, h, _ => by simp at h
 | d :: r, p :: s, 0, d', h, hk => by
   cases hk;refine ⟨p, rfl, fun i u hu => ?_⟩
   have hi : i < 9 := by
    have := (List.getElem?_eq_some_iff.1 hu).1;exact this
   rw [cdL, Nat.zero_mul, Nat.zero_add, List.getElem?_append_left (by simpa [eM] using hi)];exact hu
 | d :: r, p :: s, k + 1, d', h, hk => by
   obtain ⟨p', h1, h2⟩ := BJ r s (k := k) (d := d') (by simpa using h) (by simpa using hk);refine ⟨p', by simpa using h1, fun i u hu => ?_⟩;rw [cdL, List.getElem?_append_right (by simp [eM]; omega)];have : (k + 1) * 9 + i - (eM d p).length = k * 9 + i := by simp [eM]; omega
   rw [this];exact h2 i u hu
theorem lP.keptS {S G : Nat -> Prop} {w w' : World} {l : List CD} {qs : List QC} (h : lP G w l qs) (hk : aF S w w') (hS : ∀ k, S k -> ¬ G k) : lP G w' l qs := fun j d q h1 h2 => ⟨(h j d q h1 h2).1.keptS hk hS, (h j d q h1 h2).2.keptS hk hS⟩
theorem lP.imp {G H : Nat -> Prop} {w : World} {l : List CD} {qs : List QC} (h : lP G w l qs) (hG : ∀ b, b < w.heap.size -> G b -> H b) : lP H w l qs := fun j d q h1 h2 => ⟨(h j d q h1 h2).1.imp hG, (h j d q h1 h2).2.imp hG⟩
theorem lP.snoc {G : Nat -> Prop} {w : World} {l : List CD} {qs : List QC} (h : lP G w l qs) (hl : qs.length = l.length) {d : CD} {q : QC} (h1 : aG G w q.a1 d.a.ks) (h2 : aG G w q.a2 d.b.ks) : lP G w (l ++ [d]) (qs ++ [q]) := fun j d' q' e1 e2 => by
 rcases Nat.lt_or_ge j l.length with hj | hj
 · rw [List.getElem?_append_left hj] at e1
   rw [List.getElem?_append_left (by omega)] at e2;exact h j d' q' e1 e2
 · rw [List.getElem?_append_right hj] at e1
   rw [List.getElem?_append_right (by omega)] at e2;rw [hl] at e2;cases hm : j - l.length with
   | zero =>
     rw [hm] at e1 e2;cases e1;cases e2;exact ⟨h1, h2⟩
   | succ m => rw [hm] at e1; simp at e1
theorem sE {G : Nat -> Prop} {w : World} {B : Nat} {e : TypeId} {a : Option Addr} {c : Nat} {l : List CD} {qs : List QC} (ho : w.ownsRow B e 9 (.slice a l.length c) l.length (cdL l qs)) (hl : qs.length = l.length) (hk : lP G w l qs) (hG : ∀ b, a = some ⟨b, 0, none⟩ -> G b) : eF G w a l := by
 by_cases hn : l = []
 · exact .inl hn
 right
 have h0 : ∃ d, l[0]? = some d := by
  cases l with
  | nil => exact absurd rfl hn
  | cons d r => exact ⟨d, rfl⟩
 obtain ⟨d0, hd0⟩ := h0;obtain ⟨p0, -, hp0⟩ := BJ l qs hl hd0;obtain ⟨g, hg, c0⟩ := gG ho (hp0 0 _ rfl);have hlt : g < w.heap.size := by have := World.block_lt_of_cell? w _ c0; simpa using this
 refine ⟨g, 0, hg, hG g hg, hlt, fun j d hj => ?_⟩;obtain ⟨p, hp, hc⟩ := BJ l qs hl hj;obtain ⟨k1, k2⟩ := hk j d p hj hp
 have get : ∀ i u, (eM d p)[i]? = some u -> w.cell? ⟨g, 0 + j * 9 + i, none⟩ = some u := fun i u hu => by
  obtain ⟨g', hg', c⟩ := gG ho (hc i u hu);rw [hg] at hg';cases hg';rw [Nat.zero_add];exact c
 exact ⟨p.a1, p.c1, p.a2, p.c2, ⟨get 0 _ rfl, get 1 _ rfl, get 2 _ rfl, get 3 _ rfl, get 4 _ rfl, get 5 _ rfl, get 6 _ rfl, get 7 _ rfl, get 8 _ rfl⟩, k1, k2⟩
theorem pZ {L : List Tk} {s : RS} (h : ¬ s.bad = 0) : (e8 L s).2 = s := by
 unfold e8;rw [fR h];simp only;rw [if_neg h]
def lT (L : List Tk) (n : Nat) (s : RS) : RS := goR (bL (decide (n < 4)) 4 (bL (gC L (if n = 0 then kI else rK) s.pos) 2 s))
theorem By {L : List Tk} {acc : List CD} {s : RS} {R : Aw} (hb : s.bad = 0) (hlt : s.pos < L.length) (hk : acc.length <= 4) (h : dR L (6 - acc.length) acc s = R) {d : CD}
 (hd : (e8 L (lT L acc.length s)).2.bad = 0 -> (e8 L (lT L acc.length s)).1 = d) : dR L (6 - (acc ++ [d]).length) (acc ++ [d]) (e8 L (lT L acc.length s)).2 = R := by
 obtain ⟨f, hf⟩ : ∃ f, 6 - acc.length = f + 1 + 1 := ⟨4 - acc.length, by omega⟩;have hf2 : 6 - (acc ++ [d]).length = f + 1 := by rw [List.length_append, List.length_singleton]; omega
 have e0 : dR L (f + 1 + 1) acc s = (if gC L (if acc.length = 0 then kI else rK) s.pos = false then .bad s.pos 2 else if 4 <= acc.length then .bad s.pos 4 else dR L (f + 1) (acc ++ [(e8 L (cY s)).1]) (e8 L (cY s)).2) := by
  rw [dR, if_neg (not_not_intro hb), if_neg (show ¬ L.length <= s.pos by omega)]
 rw [hf, e0] at h;rw [hf2, <- h];unfold lT at hd |-
 cases hw : gC L (if acc.length = 0 then kI else rK) s.pos with
 | false =>
   rw [if_pos rfl]
   have e : goR (bL (decide (acc.length < 4)) 4 (bL false 2 s)) = cH 2 s := by
    rw [fP, fQ (cR (by decide) hb), fC (cR (by decide) hb)]
   rw [e, pZ (cR (by decide) hb), eN (cR (by decide) hb)];unfold cH;rw [if_pos hb]
 | true =>
   rw [if_neg (by decide)];rw [hw] at hd
   by_cases h4 : 4 <= acc.length
   · rw [if_pos h4]
     have e : goR (bL (decide (acc.length < 4)) 4 (bL true 2 s)) = cH 4 s := by
      rw [decide_eq_false (by omega), fP, iQ, fC (cR (by decide) hb)]
     rw [e, pZ (cR (by decide) hb), eN (cR (by decide) hb)];unfold cH;rw [if_pos hb]
   · rw [if_neg h4]
     have e : goR (bL (decide (acc.length < 4)) 4 (bL true 2 s)) = cY s := by
      rw [decide_eq_true (by omega), iQ, iQ, Ad hb]
     rw [e] at hd |-
     by_cases hc : (e8 L (cY s)).2.bad = 0
     · rw [hd hc]
     · rw [eN hc, eN hc]
theorem IT {s : RS} (h : (goR s).bad = 0) : s.bad = 0 := Decidable.byContradiction fun hx => by rw [fC hx] at h; exact hx h
theorem Fm {L : List Tk} {n : Nat} {s : RS} (h : (e8 L (lT L n s)).2.bad = 0) : n < 4 := by
 have h1 : (lT L n s).bad = 0 := Decidable.byContradiction fun hx => by rw [pZ hx] at h; exact hx h
 unfold lT at h1;have h2 := IT h1;have := (jF (by decide) h2).1;simpa using this
abbrev GC (n : Nat) (wa : Option Addr) (b : Nat) : Prop := n <= b /\ wa ≠ some ⟨b, 0, none⟩
structure OCW (ts : List Tk) (rb : Nat) (a : Option Addr) (c : Nat) (w : World) (acc : List CD) (wa : Option Addr) (wc : Nat) (qs : List QC) (s : RS) (V : World) : Prop where
 r : PS ts rb a c s V
 k : aF (· = rb) w V
 own : V.ownsRow w.heap.size 98 9 (.slice wa acc.length wc) acc.length (cdL acc qs)
 ql : qs.length = acc.length
 kd : lP (GC w.heap.size wa) V acc qs
 h : rb < w.heap.size
section
variable {ts : List Tk} {rb : Nat} {a : Option Addr} {c : Nat} {w V V' : World} {acc : List CD} {wa : Option Addr} {wc : Nat} {qs : List QC} {s s' : RS}
theorem OCW.lo (h : OCW ts rb a c w acc wa wc qs s V) {b : Nat} (hb : (Value.slice wa acc.length wc).ownBlock = some b) : w.heap.size <= b /\ b < V.heap.size := h.own.lt b hb
theorem OCW.own' (h : OCW ts rb a c w acc wa wc qs s V) {b : Nat} (hb : (Value.slice wa acc.length wc).ownBlock = some b) : wa = some ⟨b, 0, none⟩ := by
 rcases h.own.2 with ⟨q1, _⟩ | ⟨g, cap, cur, q1, _⟩
 · rw [q1] at hb; cases hb
 · rw [q1] at hb
   cases hb;simp only [Value.slice.injEq] at q1;exact q1.1
theorem OCW.step (h : OCW ts rb a c w acc wa wc qs s V) (hp : PS ts rb a c s' V') (hk : aF (· = rb) V V') : OCW ts rb a c w acc wa wc qs s' V' := by
 have h1 := h.h;exact ⟨hp, h.k.trans hk (fun i hi _ => hi), dO (row := some rb) h.own (hk.mono (fun i hi _ => by rw [hi])) (fun b hb he => by have := (h.lo hb).1; have := Option.some.inj he; omega), h.ql, h.kd.keptS hk (fun k hk hg => by have := hg.1; omega), h1⟩
theorem OCW.below (h : OCW ts rb a c w acc wa wc qs s V) (hb : Below V.heap.size V V') : OCW ts rb a c w acc wa wc qs s V' := h.step (h.r.below hb) (aE hb _)
theorem OCW.drewN (h : OCW ts rb a c w acc wa wc qs s V) (n : Nat) : OCW ts rb a c w acc wa wc qs s (V.drewN n) := h.step (h.r.drewN n) ((aF.refl _ V).drewN n)
theorem OCW.push (h : OCW ts rb a c w acc wa wc qs s V) {d : CD} {q : QC} {a' : Option Addr} {c' : Nat} (hk : aF (fun b => (Value.slice wa acc.length wc).ownBlock = some b) V V')
 (hrow : V'.ownsRow w.heap.size 98 9 (.slice a' (acc.length + 1) c') (acc.length + 1) (cdL acc qs ++ eM d q))
 (hnew : ∀ b, (Value.slice a' (acc.length + 1) c').ownBlock = some b -> (Value.slice wa acc.length wc).ownBlock = some b \/ V.heap.size <= b)
 (h1 : aG (GC w.heap.size wa) V q.a1 d.a.ks) (h2 : aG (GC w.heap.size wa) V q.a2 d.b.ks) :
 OCW ts rb a c w (acc ++ [d]) a' c' (qs ++ [q]) s V' := by
 have e1 := h.h;have own' : ∀ b, a' = some ⟨b, 0, none⟩ -> (Value.slice a' (acc.length + 1) c').ownBlock = some b := fun b hb => by rw [hb]; rfl
 have len : (acc ++ [d]).length = acc.length + 1 := by simp
 have kd := h.kd.snoc h.ql h1 h2;refine ⟨h.r.kept hk (fun k hk => by have := (h.lo hk).1; omega), h.k.trans (hk.mono (T := fun i => w.heap.size <= i) (fun i hi _ => (h.lo hi).1)) (fun i hi hl => by omega), ?_, by rw [List.length_append, List.length_append, h.ql]; rfl, ?_, e1⟩
 · rw [len, xJ _ _ _ _ h.ql]
   have e : cdL [d] [q] = eM d q := by simp [cdL]
   rw [e];exact hrow
 · exact ((kd.imp (H := fun b => GC w.heap.size wa b /\ a' ≠ some ⟨b, 0, none⟩) (fun b hb hg => ⟨hg, fun e => by
    rcases hnew b (own' b e) with h' | h'
    · exact hg.2 (h.own' h')
    · omega⟩)).keptS hk (fun k hk hg => hg.1.2 (h.own' hk))).imp (fun b _ hg => ⟨hg.1.1, hg.2⟩)
theorem OCW.fresh (h : OCW ts rb a c w acc wa wc qs s V) {b : Nat} (hb : V.heap.size <= b) : GC w.heap.size wa b := by
 have := h.k.size;refine ⟨by omega, fun e => ?_⟩;have := (h.own.lt b (by rw [e]; rfl)).2;omega
end
def Kj : Value -> Nat
 | .slice _ n _ => n
 | _ => 0
theorem En : ∃ i z, Tryz.prog.info? 98 = some i /\ i.zero = some z /\ i.size = 9 /\ i.bytes = 144 /\ z.cells.size = 9 := by
 have h : (Tryz.prog.info? 98).map (fun i => (i.zero.map (fun z => z.cells.size), i.size, i.bytes)) = some (some 9, 9, 144) := by kernel_rfl
 cases hx : Tryz.prog.info? 98 with
 | none => rw [hx] at h; cases h
 | some i =>
   rw [hx] at h;simp only [Option.map_some, Option.some.injEq, Prod.mk.injEq] at h;obtain ⟨h1, h2, h3⟩ := h;cases hz : i.zero with
   | none => rw [hz] at h1; cases h1
   | some z =>
     rw [hz] at h1;exact ⟨i, z, rfl, hz, h2, h3, by simpa using h1⟩
theorem DK (W : World) (d : CD) (q : QC) : ∀ j u, (eM d q)[j]? = some u -> (W.alloc (.cells #[.string d.op, .string d.a.op, .string d.a.nm, .int .i64 d.a.n, .slice q.a1 d.a.ks.len q.c1, .string d.b.op, .string d.b.nm, .int .i64 d.b.n, .slice q.a2 d.b.ks.len q.c2] 98)).cell? ((⟨W.heap.size, 0, none⟩ : Addr).add j) = some u := fun j u hu => by
 obtain ⟨p0, p1, p2, p3, p4, p5, p6, p7, p8⟩ := jY (heap_alloc_new W (cdP d q.a1 q.c1 q.a2 q.c2));rw [Addr.add_lit]
 match j, hu with
 | 0, h => cases h; exact p0
 | 1, h => cases h; exact p1
 | 2, h => cases h; exact p2
 | 3, h => cases h; exact p3
 | 4, h => cases h; exact p4
 | 5, h => cases h; exact p5
 | 6, h => cases h; exact p6
 | 7, h => cases h; exact p7
 | 8, h => cases h; exact p8
 | n + 9, h => simp at h
def J7 (ts : List Tk) (rb : Nat) (a : Option Addr) (c : Nat) (R : Aw) (w : World) (e : Ending) (w' : World) : Prop :=
 ∃ (acc : List CD) (wa : Option Addr) (wc : Nat) (qs : List QC) (s : RS), e = .returned (.slice wa acc.length wc) /\ OCW ts rb a c w acc wa wc qs s w' /\ (match R with | .bad p er => ¬ s.bad = 0 /\ atR s = p /\ s.bad = er | .ok l => s.bad = 0 /\ acc = l)
def rI (n : Nat) : ByteArray := if n = 0 then ⟨#[119, 104, 101, 114, 101]⟩ else ⟨#[97, 110, 100]⟩
theorem Ay (n : Nat) : (rI n).data.toList = (if n = 0 then kI else rK) := by unfold rI; split <;> rfl
set_option maxHeartbeats 16000000 in
set_option maxRecDepth 100000 in
theorem Bz (ts : List Tk) (hL : ∀ t ∈ ts, eG t) (hO : ∀ t ∈ ts, Au t) (rb : Nat) (a : Option Addr) (c : Nat) (s0 : RS) (w : World) (h : PS ts rb a c s0 w) {R : Aw} (hR : dR ts 6 [] s0 = R) :
 Calls Tryz.prog 85 #[.pointer (some ⟨rb, 0, none⟩)] w (J7 ts rb a c R w) := by
 have K0 := aA (show OCW ts rb a c w [] none 0 [] s0 w from ⟨h, aF.refl _ _, ⟨rfl, .inl ⟨rfl, rfl⟩⟩, rfl, fun j d q h1 _ => by simp at h1, h.lt⟩);have HR := aA (show dR ts (6 - ([] : List CD).length) [] s0 = R from hR);clear h hR
 go_enter Tryz.func85, Tryz.ntmps85
 go_wp2_with fail
 go_loopw [3, 4, 5] (fun v3 v4 v5 wr => ∃ (acc : List CD) (wa : Option Addr) (wc' : Nat) (qs : List QC) (s : RS) (y : Value), v3 = .slice wa acc.length wc' /\ v4 = .string (rI acc.length) /\ v5 = y /\ acc.length <= 5 /\ Hid (s.bad = 0 -> acc.length <= 4) /\ Hid (dR ts (6 - acc.length) acc s = R) /\ Hid (OCW ts rb a c w acc wa wc' qs s wr)) (fun v3 _ _ _ => 10 - Kj v3)
 case atStart => exact ⟨[], none, 0, [], s0, _, rfl, rfl, rfl, by decide, aA (fun _ => by decide), HR, K0⟩
 case round =>
  obtain ⟨acc, wa, wc', qs, s, y, rfl, rfl, rfl, h5, H4, HE, HK⟩ := hrel;clear K0 HR;obtain ⟨⟨c0, c1, c2⟩, f0, f1, f2⟩ := cL HK.out.r.r;have hnn := HK.out.r.n;have hpp := HK.out.r.p
  by_cases hb : s.bad = 0
  · have q : ((s.bad : Int) == 0) = true := by rw [hb]; rfl
    have hat := iZ hb;obtain ⟨p, hp⟩ : ∃ p, atR s = p := ⟨_, rfl⟩;rw [hp] at c1 hpp
    by_cases hlt : p < ts.length
    · have a1 : (p : Int) < (ts.length : Int) := by omega
      have hps : s.pos = p := by rw [<- hat, hp]
      have h4 := H4.out hb;have NX := jZ ts rb a c (atR s) s.bad;obtain ⟨t, ht⟩ : ∃ t, aZ ts (atR s) = t := ⟨_, rfl⟩;have WT := Fl ts (rI acc.length).data.toList (atR s);rw [ht] at WT;rw [ht, oI] at NX;obtain ⟨X, hX⟩ : ∃ X : ByteArray, ⟨t.text.toArray⟩ = X := ⟨_, rfl⟩;have hXl : t.text = X.data.toList := by rw [<- hX]
      rw [hX] at NX;rw [hXl, <- Lib.toList_data, <- Lib.toList_data] at WT;obtain ⟨k, s', nn, pp⟩ := t;simp only at NX WT;have TL : k = 1 -> p < ts.length := fun _ => hlt
      obtain ⟨wb, hwb⟩ : ∃ z, gC ts (if acc.length = 0 then kI else rK) s.pos = z := ⟨_, rfl⟩;have e0 : gC ts (rI acc.length).toList (atR s) = wb := by rw [Lib.toList_data, Ay, hp, <- hps]; exact hwb
      rw [e0] at WT;have HWT := aA WT;have HWB := aA hwb;have HN := aA NX;have HB := aA hb;have HLT := aA (show s.pos < ts.length by omega);have HP := aA hp;have H44 := aA h4;clear hat hp NX ht WT hX hXl hwb TL hb hps e0
      go_upto_region 4 with (go_quiet (fail))
      have K1 := aA (HK.out.drewN nq);have N1 := aA (HN.out _ K1.out.r);clear HK c0 c1 c2 f0 f1 f2 HN;generalize wr.drewN nq = W0 at *
      go_wp2_with fail
      refine N1.out.mono ?_;rintro e w1 ⟨rfl, hb1⟩;have K2 := K1.out.below hb1;have BA := (Below.refl w1.heap.size w1).alloc (Nat.le_refl _) (tkO k X nn pp);have NA := heap_alloc_new w1 (tkO k X nn pp);have K3 := aA (K2.below BA);obtain ⟨⟨x0, x1, x2, x3⟩, -⟩ := aK NA;clear hb1 K2 BA N1 K1 NA
      go_upto_region 5 with fail
      generalize w1.alloc (tkO k X nn pp) = W1 at *
      go_cut [] (fun wc => Hid (OCW ts rb a c w acc wa wc' qs (bL wb 2 s) wc))
      case first =>
       have CM := aA (fun so => fG ts rb a c s so 2 (by decide) W1 K3.out.r);cases hk1 : (k == 1) with
       | true =>
         have q1 : (k == 1) = true := hk1;have hz : (X.toList == (rI acc.length).toList) = wb := by rw [HWT.out, hk1, Bool.true_and]
         clear hk1
         go_wp2_with fail
         refine (CM.out wb).mono ?_;rintro e w2 ⟨rfl, P, k5⟩;have K4 := aA (K3.out.step P k5);clear P k5
         go_wp2_with fail
         go_meet
         case rel => exact K4
       | false =>
         have q1 : (k == 1) = false := hk1;have hz : wb = false := by rw [HWT.out, hk1, Bool.false_and]
         subst hz;clear hk1
         go_wp2_with fail
         refine (CM.out false).mono ?_;rintro e w2 ⟨rfl, P, k5⟩;have K4 := aA (K3.out.step P k5);clear P k5
         go_wp2_with fail
         go_meet
         case rel => exact K4
      case rest =>
       have K4 := hcut;clear x0 x1 x2 x3 K3 hcut;obtain ⟨z4, hz4⟩ : ∃ z, decide (acc.length < 4) = z := ⟨_, rfl⟩;have hz5 : decide ((acc.length : Int) < 4) = z4 := by rw [<- hz4]; exact decide_eq_decide.2 (by omega)
       have HS3 := aA (show goR (bL z4 4 (bL wb 2 s)) = lT ts acc.length s by unfold lT; rw [HWB.out, hz4]);have CM := aA (fG ts rb a c (bL wb 2 s) z4 4 (by decide) wc K4.out.r)
       go_wp2_with fail
       refine CM.out.mono ?_;rintro e w2 ⟨rfl, P, k5⟩;have K5 := aA (K4.out.step P k5);have CS := aA (iG ts rb a c (bL z4 4 (bL wb 2 s)) (fun _ => by rw [gI, gI]; exact HLT.out) w2 P);clear P k5 CM K4 hz4 hz5
       go_wp2_with fail
       refine CS.out.mono ?_;rintro e w3 ⟨rfl, P, k5⟩;rw [HS3.out] at P;have K6 := aA (K5.out.step P k5);have CO := aA (EX ts hL hO rb a c (lT ts acc.length s) w3 P);clear P k5 CS K5;have HCS := aA (fun d hd => By (d := d) HB.out HLT.out H44.out HE.out hd);obtain ⟨⟨cd, s5⟩, hds⟩ : ∃ q : CD × RS, e8 ts (lT ts acc.length s) = q := ⟨_, rfl⟩;have HF := aA (fun h : s5.bad = 0 => Fm (L := ts) (n := acc.length) (s := s) (by rw [hds]; exact h));rw [hds] at CO HCS;clear hds
       go_wp2_with fail
       refine CO.out.mono ?_;rintro e v1 ⟨d, a1, c1, a2, c2, rfl, hp, hk, h1, h2, hd⟩;have BU := (Below.refl v1.heap.size v1).alloc (Nat.le_refl _) (.cells #[.string d.op, .string d.a.op, .string d.a.nm, .int .i64 d.a.n, .slice a1 d.a.ks.len c1, .string d.b.op, .string d.b.nm, .int .i64 d.b.n, .slice a2 d.b.ks.len c2] 98);have K7 := K6.out.step hp hk;have K8 := aA (K7.below BU);have R1 := aA ((aG.imp (G := fun b => w3.heap.size <= b) h1 (fun b _ hb => K6.out.fresh hb)).kept BU);have R2 := aA ((aG.imp (G := fun b => w3.heap.size <= b) h2 (fun b _ hb => K6.out.fresh hb)).kept BU);have HE2 := aA (HCS.out d hd);have und := Tryz.underlying26;obtain ⟨i, zv, hi, hz0, hz1, hz2, hz3⟩ := En;have OWN := aA (show (v1.alloc (.cells #[.string d.op, .string d.a.op, .string d.a.nm, .int .i64 d.a.n, .slice a1 d.a.ks.len c1, .string d.b.op, .string d.b.nm, .int .i64 d.b.n, .slice a2 d.b.ks.len c2] 98)).ownsRow w.heap.size 98 9 (.slice wa acc.length wc') acc.length (cdL acc qs) from K8.out.own);have NEW := aA (DK v1 d ⟨a1, c1, a2, c2⟩);have ONE := aA (fun u (hu : u ∈ eM d ⟨a1, c1, a2, c2⟩) => pG [d] [⟨a1, c1, a2, c2⟩] u (by simpa [cdL] using hu));have HBS := aA (show w.heap.size <= (v1.alloc (.cells #[.string d.op, .string d.a.op, .string d.a.nm, .int .i64 d.a.n, .slice a1 d.a.ks.len c1, .string d.b.op, .string d.b.nm, .int .i64 d.b.n, .slice a2 d.b.ks.len c2] 98)).heap.size from K8.out.k.size);clear hp hk h1 h2 hd BU K7 CO K6 HCS
       go_upto_region 9 with (first
        | (at_builtin
           refine aQ rfl _ _ 26 rfl (base := w.heap.size) und hi hz0 hz1 hz2 hz3 (by decide) (.slice wa acc.length wc') acc.length 1 1 ⟨v1.heap.size, 0, none⟩ (cdL acc qs) (eM d ⟨a1, c1, a2, c2⟩) rfl rfl OWN.out rfl NEW.out ONE.out (by unfold maxLen; omega) (by omega) HBS.out ?_;intro v4 w4 ho hg hn;obtain ⟨a', c', hv⟩ := cJ ho;subst hv;have KA := (aF.refl (fun b => (Value.slice wa acc.length wc').ownBlock = some b) _).grown hg (fun k hk => .inl hk);have K11 := aA (K8.out.push KA ho hn R1.out R2.out);clear ho hg hn KA K8 R1 R2 OWN NEW ONE HBS)
        | fail)
       have l1 : (acc ++ [d]).length = acc.length + 1 := by simp
       go_wp2_with fail
       go_roundw
       case rel =>
        refine ⟨acc ++ [d], a', c', qs ++ [⟨a1, c1, a2, c2⟩], s5, _, by rw [l1], by rw [l1]; unfold rI; rw [if_neg (by omega)], rfl, by omega, aA (fun h => by rw [l1]; exact HF.out h), HE2, K11⟩
       case measure => simp only [Kj]; omega
    · have a1 : ¬ (p : Int) < (ts.length : Int) := by omega
      have a2 : decide (p < ts.length) = false := decide_eq_false hlt
      have HX := aA (show R = .ok acc by
       have := HE.out;obtain ⟨f, hf⟩ : ∃ f, 6 - acc.length = f + 1 := ⟨5 - acc.length, by omega⟩;rw [hf, dR, if_neg (not_not_intro hb), if_pos (show ts.length <= s.pos by omega)] at this;exact this.symm)
      have HB := aA hb;clear hat hp hb
      go_wp2_with (go_quiet (fail))
      go_ret;refine ⟨acc, wa, wc', qs, s, rfl, HK.out.drewN _, ?_⟩;rw [HX.out];exact ⟨HB.out, rfl⟩
  · have q : ((s.bad : Int) == 0) = false := beq_eq_false_iff_ne.2 hb
    have HX := aA (show R = .bad s.whr s.bad by
     have := HE.out;obtain ⟨f, hf⟩ : ∃ f, 6 - acc.length = f + 1 := ⟨5 - acc.length, by omega⟩;rw [hf, eN hb] at this;exact this.symm)
    have HB := aA hb;clear hb
    go_wp2_with (go_quiet (fail))
    go_ret;refine ⟨acc, wa, wc', qs, s, rfl, HK.out.drewN _, ?_⟩;rw [HX.out];exact ⟨HB.out, oB HB.out, rfl⟩
theorem Bk {W : World} {B : Nat} {x : AG} {p : PA} (h : W.heap[B]? = some (agP x p)) (t : TN) (ad : Option Addr) (cc : Nat) : (putE W B t ad cc).heap[B]? = some (agP { x with e := t } { p with ea := ad, ec := cc }) := by
 have h0 := heap_setCell_same (W) B 2 _ 28 (.string t.op) h;have g0 : ((W).setCell ⟨B, 2, none⟩ (.string t.op)).heap[B]? = some (.cells #[.string x.fn, .int .i64 x.k, .string t.op, .string x.e.nm, .int .i64 x.e.n, .slice p.ea x.e.ks.len p.ec, .string x.g.op, .string x.g.nm, .int .i64 x.g.n, .slice p.ga x.g.ks.len p.gc, .slice p.wa x.wh.length p.wc] 28 (0, 0)) := by simpa using h0
 have h1 := heap_setCell_same ((W).setCell ⟨B, 2, none⟩ (.string t.op)) B 3 _ 28 (.string t.nm) g0;have g1 : (((W).setCell ⟨B, 2, none⟩ (.string t.op)).setCell ⟨B, 3, none⟩ (.string t.nm)).heap[B]? = some (.cells #[.string x.fn, .int .i64 x.k, .string t.op, .string t.nm, .int .i64 x.e.n, .slice p.ea x.e.ks.len p.ec, .string x.g.op, .string x.g.nm, .int .i64 x.g.n, .slice p.ga x.g.ks.len p.gc, .slice p.wa x.wh.length p.wc] 28 (0, 0)) := by simpa using h1
 have h2 := heap_setCell_same (((W).setCell ⟨B, 2, none⟩ (.string t.op)).setCell ⟨B, 3, none⟩ (.string t.nm)) B 4 _ 28 (.int .i64 t.n) g1;have g2 : ((((W).setCell ⟨B, 2, none⟩ (.string t.op)).setCell ⟨B, 3, none⟩ (.string t.nm)).setCell ⟨B, 4, none⟩ (.int .i64 t.n)).heap[B]? = some (.cells #[.string x.fn, .int .i64 x.k, .string t.op, .string t.nm, .int .i64 t.n, .slice p.ea x.e.ks.len p.ec, .string x.g.op, .string x.g.nm, .int .i64 x.g.n, .slice p.ga x.g.ks.len p.gc, .slice p.wa x.wh.length p.wc] 28 (0, 0)) := by simpa using h2
 have h3 := heap_setCell_same ((((W).setCell ⟨B, 2, none⟩ (.string t.op)).setCell ⟨B, 3, none⟩ (.string t.nm)).setCell ⟨B, 4, none⟩ (.int .i64 t.n)) B 5 _ 28 (.slice ad t.ks.len cc) g2;have g3 : (((((W).setCell ⟨B, 2, none⟩ (.string t.op)).setCell ⟨B, 3, none⟩ (.string t.nm)).setCell ⟨B, 4, none⟩ (.int .i64 t.n)).setCell ⟨B, 5, none⟩ (.slice ad t.ks.len cc)).heap[B]? = some (.cells #[.string x.fn, .int .i64 x.k, .string t.op, .string t.nm, .int .i64 t.n, .slice ad t.ks.len cc, .string x.g.op, .string x.g.nm, .int .i64 x.g.n, .slice p.ga x.g.ks.len p.gc, .slice p.wa x.wh.length p.wc] 28 (0, 0)) := by simpa using h3
 exact g3
theorem Bj {W : World} {B : Nat} {x : AG} {p : PA} (h : W.heap[B]? = some (agP x p)) (t : TN) (ad : Option Addr) (cc : Nat) : (putG W B t ad cc).heap[B]? = some (agP { x with g := t } { p with ga := ad, gc := cc }) := by
 have h0 := heap_setCell_same (W) B 6 _ 28 (.string t.op) h;have g0 : ((W).setCell ⟨B, 6, none⟩ (.string t.op)).heap[B]? = some (.cells #[.string x.fn, .int .i64 x.k, .string x.e.op, .string x.e.nm, .int .i64 x.e.n, .slice p.ea x.e.ks.len p.ec, .string t.op, .string x.g.nm, .int .i64 x.g.n, .slice p.ga x.g.ks.len p.gc, .slice p.wa x.wh.length p.wc] 28 (0, 0)) := by simpa using h0
 have h1 := heap_setCell_same ((W).setCell ⟨B, 6, none⟩ (.string t.op)) B 7 _ 28 (.string t.nm) g0;have g1 : (((W).setCell ⟨B, 6, none⟩ (.string t.op)).setCell ⟨B, 7, none⟩ (.string t.nm)).heap[B]? = some (.cells #[.string x.fn, .int .i64 x.k, .string x.e.op, .string x.e.nm, .int .i64 x.e.n, .slice p.ea x.e.ks.len p.ec, .string t.op, .string t.nm, .int .i64 x.g.n, .slice p.ga x.g.ks.len p.gc, .slice p.wa x.wh.length p.wc] 28 (0, 0)) := by simpa using h1
 have h2 := heap_setCell_same (((W).setCell ⟨B, 6, none⟩ (.string t.op)).setCell ⟨B, 7, none⟩ (.string t.nm)) B 8 _ 28 (.int .i64 t.n) g1;have g2 : ((((W).setCell ⟨B, 6, none⟩ (.string t.op)).setCell ⟨B, 7, none⟩ (.string t.nm)).setCell ⟨B, 8, none⟩ (.int .i64 t.n)).heap[B]? = some (.cells #[.string x.fn, .int .i64 x.k, .string x.e.op, .string x.e.nm, .int .i64 x.e.n, .slice p.ea x.e.ks.len p.ec, .string t.op, .string t.nm, .int .i64 t.n, .slice p.ga x.g.ks.len p.gc, .slice p.wa x.wh.length p.wc] 28 (0, 0)) := by simpa using h2
 have h3 := heap_setCell_same ((((W).setCell ⟨B, 6, none⟩ (.string t.op)).setCell ⟨B, 7, none⟩ (.string t.nm)).setCell ⟨B, 8, none⟩ (.int .i64 t.n)) B 9 _ 28 (.slice ad t.ks.len cc) g2;have g3 : (((((W).setCell ⟨B, 6, none⟩ (.string t.op)).setCell ⟨B, 7, none⟩ (.string t.nm)).setCell ⟨B, 8, none⟩ (.int .i64 t.n)).setCell ⟨B, 9, none⟩ (.slice ad t.ks.len cc)).heap[B]? = some (.cells #[.string x.fn, .int .i64 x.k, .string x.e.op, .string x.e.nm, .int .i64 x.e.n, .slice p.ea x.e.ks.len p.ec, .string t.op, .string t.nm, .int .i64 t.n, .slice ad t.ks.len cc, .slice p.wa x.wh.length p.wc] 28 (0, 0)) := by simpa using h3
 exact g3
theorem Bi {W : World} {B : Nat} {x : AG} {p : PA} (h : W.heap[B]? = some (agP x p)) (k : Int) : (W.setCell ⟨B, 1, none⟩ (.int .i64 k)).heap[B]? = some (agP { x with k := k } p) := by
 have h0 := heap_setCell_same W B 1 _ 28 (.int .i64 k) h;simpa using h0
structure AQ (ts : List Tk) (rb ab : Nat) (a : Option Addr) (c : Nat) (w : World) (x : AG) (p : PA) (s : RS) (V : World) : Prop where
 r : PS ts rb a c s V
 n : V.heap[ab]? = some (agP x p)
 k : aF (fun b => b = rb \/ b = ab) w V
 e : bY w.heap.size V p.ea x.e.ks
 g : bY w.heap.size V p.ga x.g.ks
 wa : p.wa = none
 wc : p.wc = 0
 h : rb < ab
 z : ab < w.heap.size
section
variable {ts : List Tk} {rb ab : Nat} {a : Option Addr} {c : Nat} {w V V' : World} {x : AG} {p : PA} {s s' : RS}
theorem AQ.step (h : AQ ts rb ab a c w x p s V) (hp : PS ts rb a c s' V') (hk : aF (· = rb) V V') : AQ ts rb ab a c w x p s' V' := by
 have h1 := h.h;have h2 := h.z;exact ⟨hp, hk.heap h.n (by omega), h.k.trans hk (fun i hi _ => .inl hi), h.e.keptS hk (fun k hk => by omega), h.g.keptS hk (fun k hk => by omega), h.wa, h.wc, h1, h2⟩
theorem AQ.below (h : AQ ts rb ab a c w x p s V) (hb : Below V.heap.size V V') : AQ ts rb ab a c w x p s V' := h.step (h.r.below hb) (aE hb _)
theorem AQ.setK (h : AQ ts rb ab a c w x p s V) (k : Int) : AQ ts rb ab a c w { x with k := k } p s (V.setCell ⟨ab, 1, none⟩ (.int .i64 k)) := by
 have h1 := h.h;have h2 := h.z;have hk := (aF.refl (· = ab) V).setCell (p := ⟨ab, 1, none⟩) (.inl rfl) (.int .i64 k);exact ⟨h.r.kept hk (fun k hk => by omega), Bi h.n k, h.k.trans hk (fun i hi _ => .inr hi), h.e.keptS hk (fun k hk => by omega), h.g.keptS hk (fun k hk => by omega), h.wa, h.wc, h1, h2⟩
theorem AQ.putE (h : AQ ts rb ab a c w x p s V) {t : TN} {ad : Option Addr} {cc : Nat} (hr : bY w.heap.size V ad t.ks) : AQ ts rb ab a c w { x with e := t } { p with ea := ad, ec := cc } s (putE V ab t ad cc) := by
 have h1 := h.h;have h2 := h.z;have hk := vB V ab t ad cc;exact ⟨h.r.kept hk (fun k hk => by omega), Bk h.n t ad cc, h.k.trans hk (fun i hi _ => .inr hi), hr.keptS hk (fun k hk => by omega), h.g.keptS hk (fun k hk => by omega), h.wa, h.wc, h1, h2⟩
theorem AQ.putG (h : AQ ts rb ab a c w x p s V) {t : TN} {ad : Option Addr} {cc : Nat} (hr : bY w.heap.size V ad t.ks) : AQ ts rb ab a c w { x with g := t } { p with ga := ad, gc := cc } s (putG V ab t ad cc) := by
 have h1 := h.h;have h2 := h.z;have hk := Ec V ab t ad cc;exact ⟨h.r.kept hk (fun k hk => by omega), Bj h.n t ad cc, h.k.trans hk (fun i hi _ => .inr hi), h.e.keptS hk (fun k hk => by omega), hr.keptS hk (fun k hk => by omega), h.wa, h.wc, h1, h2⟩
theorem AQ.box (h : AQ ts rb ab a c w x p s V) {B : Nat} {o : Obj} (hB : V.heap[B]? = some o) (hlo : w.heap.size <= B) {S : Nat -> Prop} (hk : aF S V V') (hS : ∀ k, S k -> k = rb \/ k = ab) : V'.heap[B]? = some o := by
 have h1 := h.h;have h2 := h.z;exact hk.heap hB (fun hs => by rcases hS B hs with e | e <;> omega)
end
theorem J3 {ts : List Tk} {rb ab : Nat} {a : Option Addr} {c : Nat} {w : World} {s : RS} {fn : ByteArray} (h : PS ts rb a c s w) (hn : w.heap[ab]? = some (agP ⟨fn, 0, aP, aP, []⟩ aY)) (hlt : rb < ab) : AQ ts rb ab a c w ⟨fn, 0, aP, aP, []⟩ aY s w :=
 ⟨h, hn, aF.refl _ _, .inl rfl, .inl rfl, rfl, rfl, hlt, aC hn⟩
set_option maxHeartbeats 16000000 in
set_option maxRecDepth 100000 in
theorem Ff (ts : List Tk) (hL : ∀ t ∈ ts, eG t) (rb ab : Nat) (a : Option Addr) (c : Nat) (s : RS) (fn : ByteArray) (w : World) (h : PS ts rb a c s w) (hn : w.heap[ab]? = some (agP ⟨fn, 0, aP, aP, []⟩ aY)) (hlt : rb < ab) :
 Calls Tryz.prog 84 #[.pointer (some ⟨rb, 0, none⟩), .pointer (some ⟨ab, 0, none⟩)] w fun e w' => e = .returned (.tuple #[]) /\
  ∃ p, AQ ts rb ab a c w ⟨fn, if kP fn.data.toList = true then (aZ ts (atR s)).num else 0, (oC ts fn.data.toList (nE ts fn.data.toList s)).1, (qD ts fn.data.toList (oC ts fn.data.toList (nE ts fn.data.toList s)).2).1, []⟩ p (gX ts fn.data.toList s) w' := by
 have Q0 := aA (J3 h hn hlt);have CP := aA (iH fn w);unfold gX;obtain ⟨F, hF⟩ : ∃ F, fn.data.toList = F := ⟨_, rfl⟩;rw [hF] at CP |-
 unfold ptV at CP;obtain ⟨kk, hk⟩ : ∃ b, kP F = b := ⟨_, rfl⟩;obtain ⟨ee, he⟩ : ∃ b, eP F = b := ⟨_, rfl⟩;obtain ⟨bb, hb⟩ : ∃ b, bP F = b := ⟨_, rfl⟩;obtain ⟨ff, hf⟩ : ∃ b, cZ F = b := ⟨_, rfl⟩;rw [hk, he, hb, hf] at CP;have EK : ∀ u, nE ts F u = if kk = true then dC ts [44] (oG ts u) else u := fun u => by unfold nE; rw [hk]
 have EE : ∀ u, oC ts F u = if ee = true then bQ ts u else (aP, u) := fun u => by unfold oC; rw [he]
 have EB : ∀ u, qD ts F u = if bb = true then bQ ts (dC ts [44] u) else (aP, u) := fun u => by unfold qD; rw [hb]
 rw [hk];obtain ⟨s1, hs1⟩ : ∃ u, nE ts F s = u := ⟨_, rfl⟩;obtain ⟨t1, s2, hs2⟩ : ∃ t u, oC ts F s1 = (t, u) := ⟨_, _, rfl⟩;obtain ⟨t2, s3, hs3⟩ : ∃ t u, qD ts F s2 = (t, u) := ⟨_, _, rfl⟩;rw [hs1, hs2];simp only;rw [hs3];simp only;rw [EK] at hs1;rw [EE] at hs2;rw [EB] at hs3;obtain ⟨kn, hkn⟩ : ∃ n, (if kk = true then (aZ ts (atR s)).num else 0) = n := ⟨_, rfl⟩;rw [hkn];have HS1 := aA hs1;have HS2 := aA hs2;have HS3 := aA hs3;have HKN := aA hkn;clear EK EE EB hs1 hs2 hs3 hkn hk he hb hf hF h hn;have hal := Q0.out.z;obtain ⟨m0, m1, m2, m3, m4, m5, m6, m7, m8, m9, m10⟩ := aD Q0.out.n
 go_enter Tryz.func84, Tryz.ntmps84
 go_wp2_with fail
 refine CP.out.mono ?_;rintro e w1 ⟨rfl, hb1⟩;have Q1 := Q0.out.below hb1;have BA := (Below.refl w1.heap.size w1).alloc (Nat.le_refl _) (ptO kk ee bb);have Q2 := aA (Q1.below BA);have NB := heap_alloc_new w1 (ptO kk ee bb);have hlo : w.heap.size <= w1.heap.size := hb1.size;clear hb1 Q1 BA CP Q0 m0 m1 m2 m3 m4 m5 m6 m7 m8 m9 m10
 go_upto_region 1 with fail
 generalize w1.alloc (ptO kk ee bb) = W at *;generalize w1.heap.size = B at *;have HN := aA NB;obtain ⟨⟨y0, y1, y2⟩, -⟩ := cL NB;clear NB
 go_upto_if 15 with fail
 go_cut [] (fun wc => ∃ p, Hid (AQ ts rb ab a c w ⟨fn, kn, aP, aP, []⟩ p s1 wc) /\ Hid (wc.heap[B]? = some (ptO kk ee bb)))
 case first =>
  cases kk with
  | true =>
    have CK := aA (JM ts rb a c s W Q2.out.r);have HE : (aZ ts (atR s)).num = kn := HKN.out;rw [HE] at CK
    go_wp2_with fail
    refine CK.out.mono ?_;rintro e w2 ⟨rfl, hp, hk⟩;have N3 := Q2.out.box HN.out hlo hk (fun k h => .inl h);have Q3 := (Q2.out.step hp hk).setK kn;have Q4 := aA Q3;have KS := (aF.refl (· = ab) w2).setCell (p := ⟨ab, 1, none⟩) (.inl rfl) (.int .i64 kn);have N4 := aA ((Q2.out.step hp hk).box (V := w2) (V' := w2.setCell ⟨ab, 1, none⟩ (.int .i64 kn)) N3 hlo KS (fun k h => .inr h));obtain ⟨m0, m1, m2, m3, m4, m5, m6, m7, m8, m9, m10⟩ := aD (Q2.out.step hp hk).n;obtain ⟨z0, z1, z2, z3, z4, z5, z6, z7, z8, z9, z10⟩ := dN (Q2.out.step hp hk).n;clear hp hk N3 Q3 KS CK
    go_upto_region 3 with fail
    clear m0 m1 m2 m3 m4 m5 m6 m7 m8 m9 m10 z0 z1 z2 z3 z4 z5 z6 z7 z8 z9 z10;obtain ⟨V, hV⟩ : ∃ V, w2.setCell ⟨ab, 1, none⟩ (.int .i64 kn) = V := ⟨_, rfl⟩;rw [hV] at Q4 N4 |-
    clear hV;have CS := aA (mI ts rb a c (oG ts s) ⟨#[44]⟩ V Q4.out.r)
    go_wp2_with fail
    refine CS.out.mono ?_;rintro e w3 ⟨rfl, hp, hk⟩;have N5 := aA (Q4.out.box N4.out hlo hk (fun k h => .inl h));have Q5 := aA (Q4.out.step hp hk);clear hp hk CS
    go_wp2_with fail
    go_meet
    case rel => exact ⟨_, by have := Q5; rw [<- HS1.out]; exact this, N5⟩
  | false =>
    have HE : (0 : Int) = kn := HKN.out;have HZ : s = s1 := HS1.out;subst HE;subst HZ
    go_wp2_with fail
    go_meet
    case rel => exact ⟨_, Q2, HN⟩
 case rest =>
  obtain ⟨p, Q3, N3⟩ := hcut;clear Q2 HN y0 y1 y2 HKN HS1;obtain ⟨⟨y0, y1, y2⟩, -⟩ := cL N3.out
  go_upto_if 24 with fail
  go_cut [] (fun wc => ∃ p, Hid (AQ ts rb ab a c w ⟨fn, kn, t1, aP, []⟩ p s2 wc) /\ Hid (wc.heap[B]? = some (ptO kk ee bb)))
  case first =>
   cases ee with
   | true =>
     have CE := aA (mR ts hL rb a c s1 wc Q3.out.r);have HE : bQ ts s1 = (t1, s2) := HS2.out;rw [HE] at CE
     go_wp2_with fail
     refine CE.out.mono ?_;rintro e w2 ⟨ad, cc, rfl, hp, hk, hr⟩;have N4 := Q3.out.box N3.out hlo hk (fun k h => .inl h);have Q4 := Q3.out.step hp hk;have hr2 : bY w.heap.size w2 ad t1.ks := aG.imp hr (fun b _ hb => Nat.le_trans Q3.out.k.size hb);have Q5 := aA (Q4.putE (cc := cc) hr2);have N5 := aA (Q4.box N4 hlo (vB w2 ab t1 ad cc) (fun k h => .inr h));obtain ⟨m0, m1, m2, m3, m4, m5, m6, m7, m8, m9, m10⟩ := aD Q4.n;obtain ⟨z0, z1, z2, z3, z4, z5, z6, z7, z8, z9, z10⟩ := dN Q4.n;clear hp hk hr hr2 N4 Q4 CE
     go_wp2_with fail
     go_meet
     case rel => exact ⟨_, Q5, N5⟩
   | false =>
     have HE : (aP, s1) = (t1, s2) := HS2.out;cases HE
     go_wp2_with fail
     go_meet
     case rel => exact ⟨_, Q3, N3⟩
  case rest =>
   obtain ⟨p, Q4, N4⟩ := hcut;clear Q3 N3 y0 y1 y2 HS2;obtain ⟨⟨y0, y1, y2⟩, -⟩ := cL N4.out;cases bb with
   | true =>
     have CS := aA (mI ts rb a c s2 ⟨#[44]⟩ wc Q4.out.r)
     go_wp2_with fail
     refine CS.out.mono ?_;rintro e w3 ⟨rfl, hp, hk⟩;have Q5 := aA (Q4.out.step hp hk);clear hp hk CS Q4 N4;have CE := aA (mR ts hL rb a c _ w3 Q5.out.r);have HE : bQ ts (dC ts [44] s2) = (t2, s3) := HS3.out;rw [HE] at CE
     go_wp2_with fail
     refine CE.out.mono ?_;rintro e w4 ⟨ad, cc, rfl, hp, hk, hr⟩;have Q6 := Q5.out.step hp hk;have hr2 : bY w.heap.size w4 ad t2.ks := aG.imp hr (fun b _ hb => Nat.le_trans Q5.out.k.size hb);have Q7 := aA (Q6.putG (cc := cc) hr2);obtain ⟨m0, m1, m2, m3, m4, m5, m6, m7, m8, m9, m10⟩ := aD Q6.n;obtain ⟨z0, z1, z2, z3, z4, z5, z6, z7, z8, z9, z10⟩ := dN Q6.n;clear hp hk hr hr2 Q6 CE
     go_wp2_with fail
     go_end0
     exact ⟨rfl, _, Q7.out⟩
   | false =>
     have HE : (aP, s2) = (t2, s3) := HS3.out;cases HE
     go_wp2_with fail
     go_end0
     exact ⟨rfl, _, Q4.out⟩
def tU (r : tV) (w0 : World) (e : Ending) (w' : World) : Prop := Below w0.heap.size w0 w' /\
 match r with
 | .bad p er => e = .returned (.tuple #[agV bC aY, .int .i64 (p : Nat), .int .i64 er])
 | .ok a => ∃ p, e = .returned (.tuple #[agV a p, .int .i64 0, .int .i64 0]) /\ aJ (fun b => w0.heap.size <= b) w' a p
section
variable {w : World} {ts : List Tk} {rb ab : Nat} {a : Option Addr} {c : Nat} {x : AG} {p : PA} {qs : List QC} {s s' : RS} {V V' : World}
end
theorem zF {ts : List Tk} {rb : Nat} {a : Option Addr} {c : Nat} {w V : World} {acc : List CD} {wa : Option Addr} {wc : Nat} {qs : List QC} {s : RS} (h : OCW ts rb a c w acc wa wc qs s V) : eF (fun b => w.heap.size <= b) V wa acc :=
 sE h.own h.ql (h.kd.imp (fun b _ hg => hg.1)) (fun b hb => (h.own.lt b (by rw [hb]; rfl)).1)
def Kv (ts : List Tk) (rb : Nat) (a : Option Addr) (c : Nat) (R : tV) (w : World) (e : Ending) (w' : World) : Prop :=
 ∃ (x : AG) (p : PA) (pos : Nat) (er : Int), e = .returned (agV x p) /\ PR ts rb a c pos er w' /\ aF (· = rb) w w' /\ (match R with | .bad q f => ¬ f = 0 /\ pos = q /\ er = f | .ok y => er = 0 /\ x = y /\ aJ (fun b => w.heap.size <= b) w' x p)
theorem Ep {W : World} {B : Nat} {x : AG} {p : PA} (h : W.heap[B]? = some (agP x p)) (l : List CD) (wa : Option Addr) (wc : Nat) : (W.setCell ⟨B, 10, none⟩ (.slice wa l.length wc)).heap[B]? = some (agP { x with wh := l } { p with wa := wa, wc := wc }) := by
 have h0 := heap_setCell_same W B 10 _ 28 (.slice wa l.length wc) h;simpa using h0
set_option maxHeartbeats 16000000 in
set_option maxRecDepth 100000 in
theorem Hb (ts : List Tk) (hL : ∀ t ∈ ts, eG t) (hO : ∀ t ∈ ts, Au t) (rb : Nat) (a : Option Addr) (c : Nat) (w : World) (h : PR ts rb a c 0 0 w) :
 Calls Tryz.prog 29 #[.pointer (some ⟨rb, 0, none⟩)] w (Kv ts rb a c (agS ts) w) := by
 have hrb := h.lt;have B1 := (Below.refl w.heap.size w).alloc (Nat.le_refl _) (agP bC aY);have NB := heap_alloc_new w (agP bC aY);have hs0 : (w.alloc (agP bC aY)).heap.size = w.heap.size + 1 := World.size_alloc _ _;have P1 := aA (show PS ts rb a c ⟨0, 0, 0, 0⟩ (w.alloc (agP bC aY)) from h.below B1);have K1 := aA (aE B1 (· = rb));generalize hW : w.alloc (agP bC aY) = W at *;have HW := aA hW;have N0 := aA NB;have CN := DM ts rb a c ⟨0, 0, 0, 0⟩ W P1.out;have CN2 : Calls Tryz.prog 82 #[.pointer (some ⟨rb, 0, none⟩)] W fun e w' => e = .returned (.string ⟨(aZ ts 0).text.toArray⟩) /\ PS ts rb a c (fO ts) w' /\ aF (· = rb) W w' := CN
 obtain ⟨fn, hfn⟩ : ∃ fn : ByteArray, ⟨(aZ ts 0).text.toArray⟩ = fn := ⟨_, rfl⟩;rw [hfn] at CN2;have HFN := aA hfn;have C1 := aA CN2;clear h B1 NB hW CN CN2 hfn
 go_enter Tryz.func29, Tryz.ntmps29
 go_upto_region 1 with fail
 rw [show w.alloc (.cells #[.string ⟨#[]⟩, .int .i64 0, .string ⟨#[]⟩, .string ⟨#[]⟩, .int .i64 0, .slice none 0 0, .string ⟨#[]⟩, .string ⟨#[]⟩, .int .i64 0, .slice none 0 0, .slice none 0 0] 28) = W from HW.out]
 go_wp2_with fail
 refine C1.out.mono ?_;rintro e w1 ⟨rfl, hp, hk⟩;have BA := (Below.refl w1.heap.size w1).alloc (Nat.le_refl _) (agP ⟨fn, 0, aP, aP, []⟩ aY);have NA := heap_alloc_new w1 (agP ⟨fn, 0, aP, aP, []⟩ aY);have hz1 := hk.size;have P2 := aA (hp.below BA);have K2 := aA ((K1.out.trans hk (fun i hi _ => hi)).trans (aE BA (· = rb)) (fun i hi _ => hi));have N1 := aA ((BA.block w.heap.size (by omega)).trans (hk.heap N0.out (by omega)));clear hp hk BA C1 P1 K1 N0
 go_upto_region 2 with fail
 rw [show w1.alloc (.cells #[.string fn, .int .i64 0, .string ⟨#[]⟩, .string ⟨#[]⟩, .int .i64 0, .slice none 0 0, .string ⟨#[]⟩, .string ⟨#[]⟩, .int .i64 0, .slice none 0 0, .slice none 0 0] 28) = w1.alloc (agP ⟨fn, 0, aP, aP, []⟩ aY) from rfl];generalize w1.alloc (agP ⟨fn, 0, aP, aP, []⟩ aY) = W1 at *;generalize w1.heap.size = ab at *;have hab : w.heap.size < ab := by omega
 have NA1 := aA NA;clear NA hz1 hs0;have C2 := aA (mI ts rb a c (fO ts) ⟨#[40]⟩ W1 P2.out)
 go_wp2_with fail
 refine C2.out.mono ?_;rintro e w2 ⟨rfl, hp, hk⟩;have P3 := aA (show PS ts rb a c (oY ts) w2 from hp);have K3 := aA (K2.out.trans hk (fun i hi _ => hi));have N2 := aA (hk.heap N1.out (by omega));have NA2 := aA (hk.heap NA1.out (by omega));clear hp hk C2 P2 K2 N1 NA1;have C3 := aA (Ff ts hL rb ab a c (oY ts) fn w2 P3.out NA2.out (by omega))
 go_wp2_with fail
 refine C3.out.mono ?_;rintro e w3 ⟨rfl, p, Q⟩;have hfl : fn.data.toList = (aZ ts 0).text := by rw [<- HFN.out]
 have Q2 := aA (show AQ ts rb ab a c w2 (uN ts []) p (gX ts (aZ ts 0).text (oY ts)) w3 by
  rw [hfl, <- HFN.out] at Q;exact Q)
 have N3 := aA (Q.k.heap N2.out (by omega));clear Q hfl C3 NA2 N2;have C4 := aA (mI ts rb a c (gX ts (aZ ts 0).text (oY ts)) ⟨#[41]⟩ w3 Q2.out.r)
 go_wp2_with fail
 refine C4.out.mono ?_;rintro e w4 ⟨rfl, hp, hk⟩;have Q3 := aA (show AQ ts rb ab a c w2 (uN ts []) p (lW ts) w4 from Q2.out.step hp hk);have N4 := aA (hk.heap N3.out (by omega));clear hp hk C4 N3 Q2;have C5 := aA (Bz ts hL hO rb a c (lW ts) w4 Q3.out.r (R := dR ts 6 [] (lW ts)) rfl)
 go_wp2_with fail
 refine C5.out.mono ?_;rintro e w5 ⟨acc, wa, wc, qs, s, rfl, CW5, hres⟩;have Q4 := aA (Q3.out.step CW5.r CW5.k);have RC := aA (zF CW5);have N5 := aA (CW5.k.heap N4.out (by omega));have HR := aA hres;have hz45 := CW5.k.size;have hz34 := Q3.out.k.size;clear CW5 C5 Q3 N4 hres;obtain ⟨m0, m1, m2, m3, m4, m5, m6, m7, m8, m9, m10⟩ := aD Q4.out.n;obtain ⟨z0, z1, z2, z3, z4, z5, z6, z7, z8, z9, z10⟩ := dN Q4.out.n
 go_upto_region 6 with fail
 clear m0 m1 m2 m3 m4 m5 m6 m7 m8 m9 m10 z0 z1 z2 z3 z4 z5 z6 z7 z8 z9 z10;have KS := (aF.refl (· = ab) w5).setCell (p := ⟨ab, 10, none⟩) (.inl rfl) (.slice wa acc.length wc);have NW := Ep Q4.out.n acc wa wc;have hl1 := Q4.out.z;have P6 := aA (Q4.out.r.kept KS (fun k hk => by omega));have K6 := aA ((K3.out.trans Q4.out.k (fun i hi hlt => by rcases hi with h | h <;> omega)).trans (KS.mono (T := fun i => w.heap.size <= i) (fun i hi _ => by omega)) (fun i hi hl => by omega));have N6 := aA (KS.heap N5.out (by omega));have RE := aA (Q4.out.e.keptS KS (fun k hk => by omega));have RG := aA (Q4.out.g.keptS KS (fun k hk => by omega));have hz24 := Q4.out.k.size;have XP := aA (show ∃ (x : AG) (q : PA), uN ts acc = x /\ { p with wa := wa, wc := wc } = q from ⟨_, _, rfl, rfl⟩);obtain ⟨x, q, hx, hq⟩ := XP.out;have NW2 := aA (show (w5.setCell ⟨ab, 10, none⟩ (.slice wa acc.length wc)).heap[ab]? = some (agP x q) by rw [<- hx, <- hq]; exact NW);have RE2 := aA (show bY w2.heap.size (w5.setCell ⟨ab, 10, none⟩ (.slice wa acc.length wc)) q.ea x.e.ks by rw [<- hx, <- hq]; exact RE.out);have RG2 := aA (show bY w2.heap.size (w5.setCell ⟨ab, 10, none⟩ (.slice wa acc.length wc)) q.ga x.g.ks by rw [<- hx, <- hq]; exact RG.out);have RC2 := aA (show eF (fun b => w4.heap.size <= b) (w5.setCell ⟨ab, 10, none⟩ (.slice wa acc.length wc)) q.wa x.wh by rw [<- hx, <- hq]; exact RC.out.keptS KS (fun k hk => by omega));have HX := aA hx;have hz2w := K3.out.size;clear hx hq XP NW RE RG RC KS Q4 K3 P3;obtain ⟨Y, hY⟩ : ∃ Y, w5.setCell ⟨ab, 10, none⟩ (.slice wa acc.length wc) = Y := ⟨_, rfl⟩
 rw [hY] at P6 K6 N6 NW2 RE2 RG2 RC2
 try rw [hY]
 clear hY;obtain ⟨m0, m1, m2, m3, m4, m5, m6, m7, m8, m9, m10⟩ := aD NW2.out;obtain ⟨b0, b1, b2, b3, b4, b5, b6, b7, b8, b9, b10⟩ := aD N6.out;obtain ⟨z0, z1, z2, z3, z4, z5, z6, z7, z8, z9, z10⟩ := dN N6.out
 go_wp2_with fail
 have KP := dX Y w.heap.size x q;obtain ⟨y0, y1, y2, y3, y4, y5, y6, y7, y8, y9, y10⟩ := aD (f7 (t := 28) N6.out x q)
 have P : Kv ts rb a c (agS ts) w (.returned (agV x q)) (fL Y w.heap.size x q) := by
  refine ⟨x, q, atR s, s.bad, rfl, P6.out.kept KP (fun k hk => by omega), K6.out.trans (KP.mono (T := fun i => w.heap.size <= i) (fun i hi _ => by omega)) (fun i hi hl => by omega), ?_⟩;have hr := HR.out;unfold agS;cases hc : dR ts 6 [] (lW ts) with
  | bad pq eq =>
    rw [hc] at hr;simp only at hr |-
    exact ⟨fun h => hr.1 (hr.2.2.trans h), hr.2.1, hr.2.2⟩
  | ok l =>
    rw [hc] at hr;simp only at hr |-
    refine ⟨hr.1, ?_, ?_⟩
    · rw [<- hr.2]; exact HX.out.symm
    · exact ⟨(RE2.out.keptS KP (fun k hk => by omega)).imp (fun b _ hb => by omega), (RG2.out.keptS KP (fun k hk => by omega)).imp (fun b _ hb => by omega), (RC2.out.keptS KP (fun k hk => by omega)).imp (fun b _ hb => by omega)⟩
 exact bodyPost_ret (v := agV x q) (by simp [results, Tryz.results29, go_sem, y0, y1, y2, y3, y4, y5, y6, y7, y8, y9, y10]) rfl P
def agQ (n : Nat) (L : List Tk) : tV -> tV
 | .bad p e => .bad (jK n L p) e
 | .ok a => .ok a
theorem vT {X : World} {p : Addr} {v : Option Value} (h : X.cell? p = v) : X.drew.cell? p = v := h
theorem Er {X : World} {B : Nat} {v : Option Obj} (h : X.heap[B]? = v) : X.drew.heap[B]? = v := h
theorem BK {B : Nat} {w w' : World} (h : Below B w w') : Below B w w'.drew := ⟨h.os, h.tape, h.output, h.size, h.block⟩
section
variable {w : World} {ts : List Tk} {rb ab : Nat} {a : Option Addr} {c : Nat} {x : AG} {p : PA} {qs : List QC} {s : RS} {V : World}
theorem Gu : ∃ i z, Tryz.prog.info? 90 = some i /\ i.zero = some z /\ i.size = 9 /\ i.bytes = 144 /\ z.cells.size = 9 := by
 have h : (Tryz.prog.info? 90).map (fun i => (i.zero.map (fun z => z.cells.size), i.size, i.bytes)) = some (some 9, 9, 144) := by kernel_rfl
 cases hx : Tryz.prog.info? 90 with
 | none => rw [hx] at h; cases h
 | some i =>
   rw [hx] at h;simp only [Option.map_some, Option.some.injEq, Prod.mk.injEq] at h;obtain ⟨h1, h2, h3⟩ := h;cases hz : i.zero with
   | none => rw [hz] at h1; cases h1
   | some z =>
     rw [hz] at h1;exact ⟨i, z, rfl, hz, h2, h3, by simpa using h1⟩
theorem sN (W : World) (d : CD) (q : QC) : ∀ j u, (eM d q)[j]? = some u -> (W.alloc (.cells #[.string d.op, .string d.a.op, .string d.a.nm, .int .i64 d.a.n, .slice q.a1 d.a.ks.len q.c1, .string d.b.op, .string d.b.nm, .int .i64 d.b.n, .slice q.a2 d.b.ks.len q.c2] 90)).cell? ((⟨W.heap.size, 0, none⟩ : Addr).add j) = some u := fun j u hu => by
 obtain ⟨p0, p1, p2, p3, p4, p5, p6, p7, p8⟩ := jY (heap_alloc_new W (cdO d q.a1 q.c1 q.a2 q.c2));rw [Addr.add_lit]
 match j, hu with
 | 0, h => cases h; exact p0
 | 1, h => cases h; exact p1
 | 2, h => cases h; exact p2
 | 3, h => cases h; exact p3
 | 4, h => cases h; exact p4
 | 5, h => cases h; exact p5
 | 6, h => cases h; exact p6
 | 7, h => cases h; exact p7
 | 8, h => cases h; exact p8
 | n + 9, h => simp at h
theorem Kb {w1 : World} {n m : Nat} {a : Option Addr} {c : Nat} {ts : List Tk} (h : gA w1 a ts) (hq : ∀ q, (Value.slice a m c).ownBlock = some q -> n < q) : ts = [] \/ ∃ b off, a = some ⟨b, off, none⟩ /\ n < b := by
 rcases h with h | ⟨b, off, e, -, -⟩
 · exact .inl h
 · exact .inr ⟨b, off, e, hq b (by rw [e]; rfl)⟩
end
end
end Go.Proofs.YtapcjnoaofmmiaaGreatDoor
