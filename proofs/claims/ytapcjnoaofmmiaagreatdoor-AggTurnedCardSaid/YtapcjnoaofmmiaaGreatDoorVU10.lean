/-
 No statement: what AggTurnedCard needs, of the texts OE12.
-/
import Derived.Test.YtapcjnoaofmmiaaGreatDoorVU9
namespace Go.Proofs.YtapcjnoaofmmiaaGreatDoor
section
section
open Go.RowKit
def kL : F -> List TN
 | .nil => []
 | .cons o m n k r => ⟨o, m, n, k⟩ :: kL r
theorem Bc : ∀ f : F, (kL f).length = f.len
 | .nil => rfl
 | .cons o m n k r => by rw [kL, List.length_cons, Bc r, F.len]
theorem Jf : ∀ {f : F} {j : Nat} {t : TN}, f.at j = some t -> (kL f)[j]? = some t
 | .nil, _, _, h => by cases h
 | .cons o m n k r, 0, t, h => by
   have : (⟨o, m, n, k⟩ : TN) = t := Option.some.inj h;rw [kL, <- this]; rfl
 | .cons o m n k r, j + 1, t, h => Jf (f := r) h
theorem IJ {f : F} {k : Nat} {t : TN} (h : f.at k = some t) : (kL f).take (k + 1) = (kL f).take k ++ [t] := by
 have h1 := Jf h;obtain ⟨hlt, e⟩ := List.getElem?_eq_some_iff.1 h1;rw [List.take_succ_eq_append_getElem hlt, e]
theorem Ag {G : Nat -> Prop} {w : World} {t : TN} {p : Option Addr × Nat} : ∀ {l : List TN} {q : List (Option Addr × Nat)}, DnK G w l q -> aG G w p.1 t.ks -> DnK G w (l ++ [t]) (q ++ [p])
 | [], [], _, h => ⟨h, trivial⟩
 | _ :: _, _ :: _, h, h2 => ⟨h.1, Ag h.2 h2⟩
 | [], _ :: _, h, _ => h.elim
 | _ :: _, [], h, _ => h.elim
theorem qL {G : Nat -> Prop} {w : World} {g : Nat} (hG : G g) (hlt : g < w.heap.size) : ∀ {f : F} {q : List (Option Addr × Nat)} {off : Nat}, (∀ j u, (dW (kL f) q)[j]? = some u -> w.cell? ⟨g, off + j, none⟩ = some u) -> DnK G w (kL f) q -> dZ G w f g off
 | .nil, _, _, _, _ => trivial
 | .cons o m n k r, [], _, _, hd => hd.elim
 | .cons o m n k r, p :: q, off, hc, hd => by
   refine mM (t := ⟨o, m, n, k⟩) (q := p) hG hlt (fun j u hj => ?_) hd.1 (qL hG hlt (q := q) (off := off + 4) (fun j u hj => ?_) hd.2)
   · have hj4 : j < 4 := (List.getElem?_eq_some_iff.1 hj).1
     refine hc j u ?_;rw [kL, dW, List.getElem?_append_left (by exact hj4)];exact hj
   · have h := hc (4 + j) u (by
      rw [kL, dW, List.getElem?_append_right (by show 4 <= _; omega), show 4 + j - (ndL ⟨o, m, n, k⟩ p).length = j by show 4 + j - 4 = j; omega];exact hj)
     rw [<- Nat.add_assoc] at h;exact h
def Hg (t : TN) : Prop := ∀ (G : Nat -> Prop) (w : World) (a : Option Addr) (c : Nat), aM t <= 1000 -> aG G w a t.ks -> Calls Tryz.prog 41 #[bW t.op t.nm t.n a t.ks.len c] w fun e w' => ∃ a2 c2, e = .returned (bW t.op t.nm t.n a2 t.ks.len c2) /\ bY w.heap.size w' a2 t.ks /\ Below w.heap.size w w'
theorem Ie : (Tryz.prog.info? 34).map (fun i => (i.zero, i.size, i.bytes)) = some (some (.agg #[.string ⟨#[]⟩, .string ⟨#[]⟩, .int .i64 0, .slice none 0 0]), 4, 64) := by kernel_rfl
theorem Jw (w : World) (t : TN) (a : Option Addr) (c : Nat) : ∀ j u, (ndL t (a, c))[j]? = some u -> (w.alloc (ndO t.op t.nm t.n a t.ks.len c)).cell? ((⟨w.heap.size, 0, none⟩ : Addr).add j) = some u := fun j u hj => by
 have e : ndL t (a, c) = (#[.string t.op, .string t.nm, .int .i64 t.n, .slice a t.ks.len c] : Array Value).toList := rfl;rw [e] at hj;rw [Addr.add_lit, Nat.zero_add, cell_of_row _ _ _ _ _ (0, 0) (heap_alloc_new w _)];simpa using hj
theorem Bm {W : World} {B : Nat} {x0 x1 x2 x3 : Value} {t : TypeId} (h : W.heap[B]? = some (.cells #[x0, x1, x2, x3] t (0, 0))) (u : Value) : (W.setCell ⟨B, 3, none⟩ u).heap[B]? = some (.cells #[x0, x1, x2, u] t (0, 0)) := by
 have := heap_setCell_same W B 3 _ t u h;simpa using this
structure LO (w : World) (t : TN) (a : Option Addr) (c : Nat) (k : Nat) (va : Option Addr) (vc : Nat) (q : List (Option Addr × Nat)) (V : World) : Prop where
 b : Below w.heap.size w V
 bx : V.heap[w.heap.size]? = some (ndG t.op t.nm t.n a t.ks.len c)
 rs : V.heap[w.heap.size + 1]? = some (ndO ⟨#[]⟩ ⟨#[]⟩ 0 none 0 0)
 x : V.heap[w.heap.size + 2]? = some (ndO t.op t.nm t.n va k vc)
 o : V.ownsRow (w.heap.size + 3) 34 4 (.slice va k vc) k (dW ((kL t.ks).take k) q)
 ql : q.length = k
 d : DnK (fun b => w.heap.size + 3 <= b /\ (Value.slice va k vc).ownBlock ≠ some b) V ((kL t.ks).take k) q
 z : w.heap.size + 3 <= V.heap.size
set_option maxHeartbeats 8000000 in
set_option maxRecDepth 100000 in
theorem F6 (t : TN) (ih : dM Hg t.ks) : Hg t := by
 intro G w a c hs hr;obtain ⟨i0, hi, hz0, hz1, hz2⟩ := info_parts Ie;have und : Tryz.prog.underlying 32 = some (.slice 34) := Tryz.underlying32;have hlen := j0 t.ks;have hsz : aM t = 1 + bK t.ks := rfl;have IH := aA ih;have R := aA hr;have B1 := (Below.refl w.heap.size w).alloc (Nat.le_refl _) (ndG t.op t.nm t.n a t.ks.len c);have N1 := heap_alloc_new w (ndG t.op t.nm t.n a t.ks.len c);have s1 : (w.alloc (ndG t.op t.nm t.n a t.ks.len c)).heap.size = w.heap.size + 1 := World.size_alloc _ _;generalize hV1 : w.alloc (ndG t.op t.nm t.n a t.ks.len c) = V1 at B1 N1 s1;have B2 := (Below.refl V1.heap.size V1).alloc (Nat.le_refl _) (ndO ⟨#[]⟩ ⟨#[]⟩ 0 none 0 0);have N2 := heap_alloc_new V1 (ndO ⟨#[]⟩ ⟨#[]⟩ 0 none 0 0);have s2 : (V1.alloc (ndO ⟨#[]⟩ ⟨#[]⟩ 0 none 0 0)).heap.size = w.heap.size + 2 := by rw [World.size_alloc]; omega
 generalize hV2 : V1.alloc (ndO ⟨#[]⟩ ⟨#[]⟩ 0 none 0 0) = V2 at B2 N2 s2;have B3 := (Below.refl V2.heap.size V2).alloc (Nat.le_refl _) (ndO t.op t.nm t.n none 0 0);have N3 := heap_alloc_new V2 (ndO t.op t.nm t.n none 0 0);have s3 : (V2.alloc (ndO t.op t.nm t.n none 0 0)).heap.size = w.heap.size + 3 := by rw [World.size_alloc]; omega
 generalize hV3 : V2.alloc (ndO t.op t.nm t.n none 0 0) = V3 at B3 N3 s3;rw [s1] at N2;rw [s2] at N3;have L0 := aA (show LO w t a c 0 none 0 [] V3 from ⟨(B1.trans (B2.mono (by omega))).trans (B3.mono (by omega)), (B3.block _ (by omega)).trans ((B2.block _ (by omega)).trans N1), (B3.block _ (by omega)).trans N2, N3, World.ownsRow_nil _ _ _ _, rfl, trivial, by omega⟩);have HV1 := aA hV1;have HV2 := aA hV2;have HV3 := aA hV3;have HZ2 := aA s2;obtain ⟨⟨m0, m1, m2, m3⟩, -⟩ := aK ((B2.block _ (by omega)).trans N1);clear hV1 hV2 hV3 B1 B2 B3 N1 N2 N3 hr ih s1 s2 s3
 go_enter Tryz.func41, Tryz.ntmps41
 go_upto_region 1 with fail
 rw [HV1.out, HV2.out]
 go_upto_region 2 with fail
 rw [HV3.out, HZ2.out];clear m0 m1 m2 m3
 go_wp2_with fail
 go_loopw [4] (fun i wr => ∃ (k : Nat) (va : Option Addr) (vc : Nat) (q : List (Option Addr × Nat)), i = .int .i64 k /\ k <= t.ks.len /\ Hid (LO w t a c k va vc q wr)) (fun i _ => t.ks.len - (intOf i).toNat)
 case atStart => exact ⟨0, none, 0, [], rfl, Nat.zero_le _, L0⟩
 case round =>
  obtain ⟨k, va, vc, q, rfl, hk, hL⟩ := hrel;obtain ⟨⟨m0, m1, m2, m3⟩, -⟩ := aK hL.out.bx;obtain ⟨⟨x0, x1, x2, x3⟩, y0, y1, y2, y3⟩ := aK hL.out.x
  by_cases hlt : k < t.ks.len
  · obtain ⟨t2, hat, -⟩ := cW hlt
    have hsd := jS hat;have hdl := eR t.ks k;obtain ⟨b, off, a2, c2, ha, hGb, hbl, ⟨p0, p1, p2, p3⟩, hr2⟩ := cD (R.out.kept hL.out.b) hat;subst ha;have CI := aA ((dM.at IH.out hat) G wr.drew a2 c2 (by omega) (hr2.kept ⟨rfl, rfl, rfl, Nat.le_refl _, fun _ _ => rfl⟩));have HT := aA (IJ hat);have HTL : ((kL t.ks).take k).length = k := by rw [List.length_take, Bc]; omega
    have a1 : (k : Int) < (t.ks.len : Int) := by omega
    have a2' : (0 : Int) <= (k : Int) := by omega
    have a3 : ((k : Int)).toNat = k := by omega
    have hk9 : k + 1 <= 1000 := by omega
    clear hat hr2 hGb
    go_wp2_with fail
    go_region_law (first
     | (go_simp
        go_at_call 41
        refine CI.out.mono ?_;rintro e w2 ⟨a4, c4, rfl, hr4, hb4⟩;have hb5 : Below wr.heap.size wr w2 := ⟨hb4.os, hb4.tape, hb4.output, hb4.size, hb4.block⟩;have hz4 : w.heap.size + 3 <= w2.heap.size := Nat.le_trans hL.out.z hb4.size;have X2 := (hb5.block _ (Array.getElem?_eq_some_iff.1 hL.out.x).1).trans hL.out.x;have HB5 := aA hb5;have HR4 := aA hr4;have O2 := aA ((bH hL.out.o hb5).alloc (ndO t2.op t2.nm t2.n a4 t2.ks.len c4));clear x0 x1 x2 x3 y0 y1 y2 y3 hb4 hr4 hb5;obtain ⟨⟨x0, x1, x2, x3⟩, y0, y1, y2, y3⟩ := aK X2;have X2a := (((Below.refl w2.heap.size w2).alloc (Nat.le_refl _) (.cells #[.string t2.op, .string t2.nm, .int .i64 t2.n, .slice a4 t2.ks.len c4] 34)).block _ (Array.getElem?_eq_some_iff.1 X2).1).trans X2;obtain ⟨⟨u0, u1, u2, u3⟩, -⟩ := aK X2a;clear X2 X2a)
     | (refine cE rfl (.tmp 20) (.tmp 27) 32 rfl (base := w.heap.size + 3) und hi hz0 hz1 hz2 rfl (by decide) (.slice va k vc) k 1 (dW ((kL t.ks).take k) q) (ndL t2 (a4, c4)) ⟨w2.heap.size, 0, none⟩ 1 (by first | (simp [Act.eval]; done) | (simp [Act.eval, Act.put]; done) | fail) (by first | (simp [Act.eval]; done) | (simp [Act.eval, Act.put]; done) | fail) O2.out rfl (Jw w2 t2 a4 c4) (jE _ _) (by unfold maxLen; omega) (by omega) (by rw [World.size_alloc]; omega) ?_
        intro v3 w3 ho3 hg3 hq3;obtain ⟨va3, vc3, rfl⟩ := eX ho3;have kg : aF (fun b => (Value.slice va k vc).ownBlock = some b) w2 w3 := ((aF.refl _ w2).alloc _).grown hg3 (fun q hq => .inl hq);have hov : ∀ b, (Value.slice va k vc).ownBlock = some b -> w.heap.size + 3 <= b /\ b < w2.heap.size := fun b hb => by have h1 := (hL.out.o.lt b hb); have := HB5.out.size; omega
        have X3 := kg.heap ((HB5.out.block _ (Array.getElem?_eq_some_iff.1 hL.out.x).1).trans hL.out.x) (fun e => by have := hov _ e; omega);have ks := (aF.refl (· = w.heap.size + 2) w3).setCell (p := ⟨w.heap.size + 2, 3, none⟩) (.inl rfl) (.slice va3 (k + 1) vc3)
        have hnb : ∀ b, b < w2.heap.size -> (Value.slice va k vc).ownBlock ≠ some b -> (Value.slice va3 (k + 1) vc3).ownBlock ≠ some b := fun b hb hne e => by
         rcases hq3 b e with h1 | h1
         · exact hne h1
         · rw [World.size_alloc] at h1; omega
        have D2 : DnK (fun b => (w.heap.size + 3 <= b /\ (Value.slice va k vc).ownBlock ≠ some b) /\ (Value.slice va3 (k + 1) vc3).ownBlock ≠ some b) w2 ((kL t.ks).take k ++ [t2]) (q ++ [(a4, c4)]) := Ag ((hL.out.d.keptS (aE HB5.out (fun _ => False)) (fun _ h => h.elim)).imp (fun b hb hg => ⟨hg, hnb b hb hg.2⟩)) (HR4.out.imp (fun b hb hg => by
         have hg' : wr.heap.size <= b := hg;have hz := hL.out.z;have hne : (Value.slice va k vc).ownBlock ≠ some b := fun e => by have := (hL.out.o.lt b e).2; omega
         exact ⟨⟨by omega, hne⟩, hnb b hb hne⟩))
        have D3 := ((D2.keptS kg (fun b hb hg => hg.1.2 hb)).keptS ks (fun b hb hg => by have := hg.1.1; omega)).imp (H := fun b => w.heap.size + 3 <= b /\ (Value.slice va3 (k + 1) vc3).ownBlock ≠ some b) (fun b _ hg => ⟨hg.1.1, hg.2⟩)
        have L3 := aA (show LO w t (some ⟨b, off, none⟩) c (k + 1) va3 vc3 (q ++ [(a4, c4)]) (w3.setCell ⟨w.heap.size + 2, 3, none⟩ (.slice va3 (k + 1) vc3)) from ⟨
         (hL.out.b.trans (HB5.out.mono (by have := hL.out.z; omega))).trans ((kg.mono (T := fun b => w.heap.size <= b) (fun i hi _ => by have := hov i hi; omega)).below (fun _ h => h) (by omega) |>.trans (ks.below (B := w.heap.size) (fun i hi => by omega) (by have := kg.size; omega))),
         ks.heap (kg.heap ((HB5.out.block _ (Array.getElem?_eq_some_iff.1 hL.out.bx).1).trans hL.out.bx) (fun e => by have := hov _ e; omega)) (by omega),
         ks.heap (kg.heap ((HB5.out.block _ (Array.getElem?_eq_some_iff.1 hL.out.rs).1).trans hL.out.rs) (fun e => by have := hov _ e; omega)) (by omega),
         Bm X3 _,
         by
          rw [HT.out, sP _ _ _ _ (by rw [hL.out.ql, HTL])];have e : dW [t2] [(a4, c4)] = ndL t2 (a4, c4) := by simp [dW]
          rw [e];exact gF ho3 (by omega) _ _,
         by rw [List.length_append, hL.out.ql]; rfl,
         by rw [HT.out]; exact D3,
         by rw [World.size_setCell]; have := kg.size; omega⟩)
        obtain ⟨-, y0', y1', y2', y3'⟩ := aK X3;obtain ⟨⟨x0', x1', x2', x3'⟩, -⟩ := aK X3;clear ho3 hg3 hq3 kg hov X3 ks hnb D2 D3 x0 x1 x2 x3 y0 y1 y2 y3)
     | fail)
    all_goals
     go_wp2_with fail
     go_roundw
     case rel => exact ⟨k + 1, va3, vc3, q ++ [(a4, c4)], by go_num, by omega, L3⟩
     case measure => simp [intOf]; omega
  · obtain rfl : k = t.ks.len := by omega
    have htk : (kL t.ks).take t.ks.len = kL t.ks := List.take_of_length_le (by rw [Bc]; exact Nat.le_refl _)
    have P := aA (show aG (fun b => w.heap.size + 3 <= b) wr va t.ks by
     have ho := hL.out.o;have hd := hL.out.d;rw [htk] at ho hd
     by_cases h0 : t.ks = .nil
     · exact .inl h0
     · have hne : t.ks.len ≠ 0 := fun e => h0 (sQ e)
       obtain ⟨g, cc, hv, -, -, hc⟩ := cU ho hne;simp only [Value.slice.injEq, true_and] at hv;obtain ⟨rfl, rfl⟩ := hv;have hg := ho.lt g rfl;exact .inr ⟨g, 0, rfl, qL (G := fun b => w.heap.size + 3 <= b) hg.1 hg.2 (fun j u hj => by rw [Nat.zero_add]; exact hc j u hj) (hd.imp (fun b _ hg => hg.1))⟩)
    obtain ⟨⟨r0, r1, r2, r3⟩, z0, z1, z2, z3⟩ := aK hL.out.rs;have a1 : ¬ (t.ks.len : Int) < (t.ks.len : Int) := by omega
    clear htk
    go_wp2_with fail
    have KP := pU wr (w.heap.size + 1) t.op t.nm t.n va t.ks.len vc;obtain ⟨⟨d0, d1, d2, d3⟩, -⟩ := aK (aS hL.out.rs (.string t.op) (.string t.nm) (.int .i64 t.n) (.slice va t.ks.len vc))
    exact bodyPost_ret (v := bW t.op t.nm t.n va t.ks.len vc) (by simp [results, Tryz.results41, go_sem, d0, d1, d2, d3]) rfl
     ⟨va, ⟨vc, rfl⟩, (P.out.keptS KP (fun b hb hg => by omega)).imp (fun b _ hg => by omega), hL.out.b.trans (KP.below (B := w.heap.size) (fun b hb => by omega) (by have := hL.out.z; omega))⟩
theorem rC (t : TN) : Hg t := jC F6 t
end
section
open Go.RowKit
def qJ (o m : ByteArray) : Bool := decide (100 < (m.size : Int)) || decide (20 < (o.size : Int))
def eA : F -> Int -> Int
 | .nil, l => l
 | .cons o m _ ks r, l => if l < 0 then l else eA r (if qJ o m = true then -1 else eA ks (l - 1))
def iU (t : TN) (l : Int) : Int := if qJ t.op t.nm = true then -1 else eA t.ks (l - 1)
theorem uY {f : F} {t : TN} {r : F} {l : Int} (h : f = .cons t.op t.nm t.n t.ks r) : eA f l = if l < 0 then l else eA r (iU t l) := by
 rw [h, eA]; rfl
theorem mT : ∀ (f : F) (l : Int), eA f l <= l \/ eA f l = -1
 | .nil, _ => .inl (Int.le_refl _)
 | .cons o m _ ks r, l => by
   rw [eA]
   split
   · exact .inl (Int.le_refl _)
   · rename_i h0
     have h1 := mT r (if qJ o m = true then -1 else eA ks (l - 1));have h2 := mT ks (l - 1)
     split at h1
     · rename_i h
       rw [if_pos h];omega
     · rename_i h
       rw [if_neg h];omega
theorem wQ : ∀ (f : F) (l : Int), -1 <= l -> -1 <= eA f l
 | .nil, _, h => h
 | .cons o m _ ks r, l, h => by
   rw [eA]
   split
   · exact h
   · refine wQ r _ ?_
     split
     · exact Int.le_refl _
     · exact wQ ks _ (by omega)
abbrev ndP (o m : ByteArray) (n : Int) (a : Option Addr) (l c : Nat) : Obj := .cells #[.string o, .string m, .int .i64 n, .slice a l c] 25
def BT (t : TN) : Prop := ∀ (G : Nat -> Prop) (w : World) (a : Option Addr) (c : Nat) (l : Int), 0 <= l -> l <= 1000 -> mB t.f -> aG G w a t.ks -> Calls Tryz.prog 94 #[bW t.op t.nm t.n a t.ks.len c, .int .i64 l] w fun e w' => e = .returned (.int .i64 (iU t l)) /\ Below w.heap.size w w'
set_option maxHeartbeats 4000000 in
theorem DX (t : TN) (ih : dM BT t.ks) : BT t := by
 intro G w a c l hl0 hl1 hL hr;have R := aA hr;have IH := aA ih;obtain ⟨hm, hL2, -⟩ := hL;have LK := aA hL2;obtain ⟨r, hR⟩ : ∃ r, iU t l = r := ⟨_, rfl⟩;rw [hR];unfold iU qJ at hR;have NB := aA (heap_alloc_new w (ndP t.op t.nm t.n a t.ks.len c));have B0 := aA ((Below.refl w.heap.size w).alloc (Nat.le_refl _) (ndP t.op t.nm t.n a t.ks.len c));clear hr ih hL2
 by_cases h1 : (100 : Int) < t.nm.size
 · have RR := aA (show (-1 : Int) = r by rw [<- hR, decide_eq_true h1]; rfl)
   clear hR
   go_enter Tryz.func94, Tryz.ntmps94
   go_wp2_with fail
   go_ret;rw [RR.out];exact ⟨rfl, B0.out⟩
 · by_cases h2 : (20 : Int) < t.op.size
   · have RR := aA (show (-1 : Int) = r by rw [<- hR, decide_eq_true h2, Bool.or_true]; rfl)
     clear hR
     go_enter Tryz.func94, Tryz.ntmps94
     go_wp2_with fail
     go_ret;rw [RR.out];exact ⟨rfl, B0.out⟩
   · have H0 := aA (show eA (t.ks.drop 0) (l - 1) = r by rw [F.drop_zero, <- hR, decide_eq_false h1, decide_eq_false h2]; rfl)
     clear hR
     go_enter Tryz.func94, Tryz.ntmps94
     go_wp2_with fail
     generalize w.alloc (ndP t.op t.nm t.n a t.ks.len c) = W at NB B0 |-
     go_loopw [1, 5] (fun v i wr => ∃ (k : Nat) (x : Int), i = .int .i64 k /\ v = .int .i64 x /\ k <= t.ks.len /\ -1 <= x /\ x <= 1000 /\ Hid (eA (t.ks.drop k) x = r) /\ Hid (Below w.heap.size w wr) /\ Hid (wr.heap[w.heap.size]? = some (ndP t.op t.nm t.n a t.ks.len c))) (fun _ i _ => t.ks.len - (intOf i).toNat)
     case atStart => exact ⟨0, l - 1, rfl, rfl, Nat.zero_le _, by omega, by omega, H0, B0, NB⟩
     case round =>
      obtain ⟨k, x, rfl, rfl, hk, hx0, hx1, hE, hB, hN⟩ := hrel;obtain ⟨⟨m0, m1, m2, m3⟩, -⟩ := aK hN.out
      by_cases hlt : k < t.ks.len
      · obtain ⟨t2, hat, hdr⟩ := cW hlt
        by_cases hx : x < 0
        · have RR := aA (show x = r by rw [<- hE.out, uY hdr, if_pos hx])
          have g0 : ¬ (0 : Int) <= x := by omega
          clear hat hdr hx
          go_wp2_with fail
          go_ret;rw [RR.out];exact ⟨rfl, hB.out⟩
        · have g0 : (0 : Int) <= x := by omega
          obtain ⟨b, off, a2, c2, ha, hG, hbl, ⟨p0, p1, p2, p3⟩, hr2⟩ := cD (R.out.kept hB.out) hat;have EN := aA (show eA (t.ks.drop (k + 1)) (iU t2 x) = r by rw [<- hE.out, uY hdr, if_neg hx]);have C := aA ((dM.at IH.out hat) G wr a2 c2 x g0 hx1 (LK.out.at hat) hr2)
          have h3 : -1 <= iU t2 x := by
           unfold iU
           split
           · exact Int.le_refl _
           · exact wQ _ _ (by omega)
          have h4 : iU t2 x <= 1000 := by
           unfold iU
           split
           · omega
           · have := mT t2.ks (x - 1); omega
          subst ha;obtain ⟨y, hy⟩ : ∃ y, iU t2 x = y := ⟨_, rfl⟩;rw [hy] at C EN h3 h4;clear hat hdr hx hr2 hy
          go_wp2_with fail
          refine C.out.mono ?_;rintro e w1 ⟨rfl, hb⟩;have hz := hB.out.size;have B1 := aA (hB.out.trans (hb.mono hz));have N1 := aA ((hb.block _ (aC hN.out)).trans hN.out);clear hb C m0 m1 m2 m3
          go_wp2_with fail
          go_roundw
          case rel => exact ⟨k + 1, y, by go_num, rfl, by omega, h3, h4, EN, B1, N1⟩
          case measure => simp [intOf]; omega
      · have RR := aA (show x = r by rw [<- hE.out, F.drop_len _ _ (by omega)]; rfl)
        go_wp2_with fail
        go_ret;rw [RR.out];exact ⟨rfl, hB.out⟩
theorem Gd (t : TN) : BT t := jC DX t
set_option maxHeartbeats 4000000 in
theorem rD {G : Nat -> Prop} {w : World} {a : Option Addr} {t : TN} (c : Nat) (hL : mB t.f) (hr : aG G w a t.ks) : Calls Tryz.prog 43 #[bW t.op t.nm t.n a t.ks.len c] w fun e w' => e = .returned (.bool (decide (0 <= iU t 60))) /\ Below w.heap.size w w' := by
 have C := aA (fun V (hV : Below w.heap.size w V) => Gd t G V a c 60 (by decide) (by decide) hL (hr.kept hV));have B0 := aA ((Below.refl w.heap.size w).alloc (Nat.le_refl _) (ndP t.op t.nm t.n a t.ks.len c));have NB := aA (heap_alloc_new w (ndP t.op t.nm t.n a t.ks.len c));obtain ⟨x, hx⟩ : ∃ x, iU t 60 = x := ⟨_, rfl⟩;rw [hx] at C |-
 clear hx hL hr
 go_enter Tryz.func43, Tryz.ntmps43
 go_wp2_with fail
 generalize w.alloc (ndP t.op t.nm t.n a t.ks.len c) = W at NB B0 |-
 obtain ⟨⟨m0, m1, m2, m3⟩, -⟩ := aK NB.out
 go_wp2_with fail
 refine (C.out W B0.out).mono ?_;rintro e w1 ⟨rfl, hb⟩;have B1 := aA (B0.out.trans (hb.mono B0.out.size));clear hb
 go_wp2_with fail
 go_ret;exact ⟨rfl, B1.out⟩
end
section
open Go.RowKit
theorem bJ (t : TN) : aI t = 0 ↔ OkT t /\ aM t <= 32 := by
 unfold aI OkT;have h := CU t
 by_cases k : f8 t.ks 31 < 0
 · rw [if_pos k]
   exact ⟨fun e => absurd e (by decide), fun e => by have := h.1 k; omega⟩
 · rw [if_neg k]
   exact ⟨fun e => ⟨e, by have : ¬ 32 < aM t := fun x => k (h.2 x); omega⟩, fun e => e.1⟩
end
section
open Go.RowKit
def dB (x : Int) : Int := if x < -9223372036854775808 then -9223372036854775808 else if 9223372036854775807 < x then 9223372036854775807 else x
theorem kE (x : Int) : aW (dB x) := by unfold aW dB; split; omega; split <;> omega
theorem l9 {x : Int} (h : aW x) : dB x = x := by unfold aW at h; unfold dB; rw [if_neg (by omega), if_neg (by omega)]
theorem Ak {x : Int} (h : 9223372036854775807 < x) : dB x = 9223372036854775807 := by unfold dB; rw [if_neg (by omega), if_pos h]
theorem Aj {x : Int} (h : x < -9223372036854775808) : dB x = -9223372036854775808 := by unfold dB; rw [if_pos h]
theorem BZ {x : Int} (h : 9223372036854775807 < x) (h' : x <= 18446744073709551615) : wrap64 x = x - 18446744073709551616 := by unfold wrap64; omega
theorem uE {x : Int} (h : x < -9223372036854775808) (h' : -18446744073709551616 <= x) : wrap64 x = x + 18446744073709551616 := by unfold wrap64; omega
theorem oE {x : Int} (h : aW x) : wrap64 x = x := by unfold aW at h; unfold wrap64; omega
theorem Jd {a b : Int} {c : Bool} (h : a = b) : Ending.returned (.tuple #[.int .i64 a, .bool c]) = .returned (.tuple #[.int .i64 b, .bool c]) := by rw [h]
theorem cF {a b : Int} (h : a = b) : Ending.returned (.int .i64 a) = .returned (.int .i64 b) := by rw [h]
theorem oJ {a b : Int} (ha : aW a) (h0 : ¬ b = 0) (h : a = -9223372036854775808 -> ¬ b = -1) : aW (a.tdiv b) := by
 unfold aW at *;have e : (a.tdiv b).natAbs = a.natAbs / b.natAbs := Int.natAbs_tdiv a b
 by_cases h1 : b = 1
 · rw [h1, Int.tdiv_one]; exact ha
 by_cases h2 : b = -1
 · rw [h2, Int.tdiv_neg, Int.tdiv_one]
   have : ¬ a = -9223372036854775808 := fun x => h x h2
   omega
 have hb : 2 <= b.natAbs := by omega
 have hle : a.natAbs / b.natAbs <= a.natAbs / 2 := Nat.div_le_div_left hb (by decide);rw [<- e] at hle;omega
theorem uJ {a b : Int} (ha : a = -9223372036854775808) (hb : b = -1) : (9223372036854775807 : Int) = dB (a.tdiv b) := by
 rw [ha, hb]; decide
theorem yJ {a b : Int} (ha : a = -9223372036854775808) (h0 : ¬ b = 0) (h : (b == -1) = false) : wrap64 (-Int.tdiv 9223372036854775808 b) = dB (a.tdiv b) := by
 have hi := oJ (a := a) (b := b) ⟨by omega, by omega⟩ h0 (fun _ => by simpa using h);have e : -Int.tdiv 9223372036854775808 b = a.tdiv b := by rw [ha, Int.neg_tdiv]
 rw [l9 hi, e, oE hi]
set_option maxHeartbeats 400000 in
theorem iJ (b : Bool) (w : World) : Calls Tryz.prog 109 #[.bool b] w fun e w' => e = .returned (.int .i64 (if b then -9223372036854775808 else 9223372036854775807)) /\ w = w' := by
 cases b
 all_goals
  go_enter Tryz.func109, Tryz.ntmps109
  go_wp2_with fail
  go_ret;exact ⟨rfl, rfl⟩
set_option maxHeartbeats 1000000 in
theorem xX (a b : Int) (w : World) (ha : aW a) (hb : aW b) : Calls Tryz.prog 62 #[.int .i64 a, .int .i64 b] w fun e w' => e = .returned (.int .i64 (dB (a + b))) /\ w = w' := by
 obtain ⟨a1, a2⟩ := ha;obtain ⟨b1, b2⟩ := hb;obtain ⟨s, hs⟩ : ∃ s, wrap64 (a + b) = s := ⟨_, rfl⟩
 by_cases hi : 9223372036854775807 < a + b
 · have h1 : decide (a < 0) = false := by simp; omega
   have h2 : decide (b < 0) = false := by simp; omega
   have h3 : decide (s < 0) = true := by rw [<- hs, BZ hi (by omega)]; simp; omega
   rw [Ak hi];clear hi a1 a2 b1 b2
   go_enter Tryz.func62, Tryz.ntmps62
   go_wp2_with (go_at_call 109; refine (iJ _ _).mono ?_; rintro e w' ⟨rfl, rfl⟩)
   go_ret;exact ⟨rfl, rfl⟩
 by_cases lo : a + b < -9223372036854775808
 · have h1 : decide (a < 0) = true := by simp; omega
   have h2 : decide (b < 0) = true := by simp; omega
   have h3 : decide (s < 0) = false := by rw [<- hs, uE lo (by omega)]; simp; omega
   rw [Aj lo];clear hi lo a1 a2 b1 b2
   go_enter Tryz.func62, Tryz.ntmps62
   go_wp2_with (go_at_call 109; refine (iJ _ _).mono ?_; rintro e w' ⟨rfl, rfl⟩)
   go_ret;exact ⟨rfl, rfl⟩
 have hc : aW (a + b) := ⟨by omega, by omega⟩;obtain rfl : a + b = s := (oE hc).symm.trans hs;rw [l9 hc];clear hs;obtain ⟨c1, c2⟩ := hc
 by_cases x : a < 0 <;> by_cases y : b < 0 <;> by_cases z : a + b < 0
 all_goals first | (exfalso; omega) | skip
 all_goals
  go_enter Tryz.func62, Tryz.ntmps62
  go_wp2_with fail
  go_ret;exact ⟨rfl, rfl⟩
set_option maxHeartbeats 1000000 in
theorem xU (a b : Int) (w : World) (ha : aW a) (hb : aW b) : Calls Tryz.prog 198 #[.int .i64 a, .int .i64 b] w fun e w' => e = .returned (.int .i64 (dB (a - b))) /\ w = w' := by
 obtain ⟨a1, a2⟩ := ha;obtain ⟨b1, b2⟩ := hb;obtain ⟨s, hs⟩ : ∃ s, wrap64 (a - b) = s := ⟨_, rfl⟩
 by_cases hi : 9223372036854775807 < a - b
 · have h1 : decide (a < 0) = false := by simp; omega
   have h2 : decide (b < 0) = true := by simp; omega
   have h3 : decide (s < 0) = true := by rw [<- hs, BZ hi (by omega)]; simp; omega
   rw [Ak hi];clear hi a1 a2 b1 b2
   go_enter Tryz.func198, Tryz.ntmps198
   go_wp2_with (go_at_call 109; refine (iJ _ _).mono ?_; rintro e w' ⟨rfl, rfl⟩)
   go_ret;exact ⟨rfl, rfl⟩
 by_cases lo : a - b < -9223372036854775808
 · have h1 : decide (a < 0) = true := by simp; omega
   have h2 : decide (b < 0) = false := by simp; omega
   have h3 : decide (s < 0) = false := by rw [<- hs, uE lo (by omega)]; simp; omega
   rw [Aj lo];clear hi lo a1 a2 b1 b2
   go_enter Tryz.func198, Tryz.ntmps198
   go_wp2_with (go_at_call 109; refine (iJ _ _).mono ?_; rintro e w' ⟨rfl, rfl⟩)
   go_ret;exact ⟨rfl, rfl⟩
 have hc : aW (a - b) := ⟨by omega, by omega⟩;obtain rfl : a - b = s := (oE hc).symm.trans hs;rw [l9 hc];clear hs;obtain ⟨c1, c2⟩ := hc
 by_cases x : a < 0 <;> by_cases y : b < 0 <;> by_cases z : a - b < 0
 all_goals first | (exfalso; omega) | skip
 all_goals
  go_enter Tryz.func198, Tryz.ntmps198
  go_wp2_with fail
  go_ret;exact ⟨rfl, rfl⟩
set_option maxHeartbeats 1000000 in
theorem xW (a : Int) (w : World) : Calls Tryz.prog 222 #[.int .i64 a, .int .i64 0] w fun e w' => e = .returned (.tuple #[.int .i64 0, .bool false]) /\ w = w' := by
 go_enter Tryz.func222, Tryz.ntmps222
 go_wp2_with fail
 go_ret2;exact ⟨rfl, rfl⟩
set_option maxHeartbeats 1000000 in
theorem Fp (a b : Int) (w : World) (ha : aW a) (hb : aW b) (h0 : ¬ b = 0) : Calls Tryz.prog 222 #[.int .i64 a, .int .i64 b] w fun e w' => e = .returned (.tuple #[.int .i64 (dB (a.tdiv b)), .bool true]) /\ w = w' := by
 obtain ⟨a1, a2⟩ := ha;obtain ⟨b1, b2⟩ := hb;have h0' : (b == 0) = false := by simpa using h0
 go_enter Tryz.func222, Tryz.ntmps222
 go_wp2_with fail
 all_goals
  go_ret2;refine ⟨Jd ?_, rfl⟩
  first
   | rfl
   | exact uJ ‹_› (by have h : (b == -1) = true := ‹_›; simpa using h)
   | exact yJ ‹_› h0 ‹_›
   | (rw [l9 (oJ ⟨by omega, by omega⟩ h0 (fun h => absurd h ‹_›))]
      exact oE (oJ ⟨by omega, by omega⟩ h0 (fun h => absurd h ‹_›)))
   | (obtain rfl : b = -1 := by have h : (b == -1) = true := ‹_›; simpa using h
      rw [Int.tmod_neg, Int.tmod_one])
   | trace_state
set_option maxHeartbeats 1000000 in
theorem xV (a : Int) (w : World) : Calls Tryz.prog 223 #[.int .i64 a, .int .i64 0] w fun e w' => e = .returned (.tuple #[.int .i64 0, .bool false]) /\ w = w' := by
 go_enter Tryz.func223, Tryz.ntmps223
 go_wp2_with fail
 go_ret2;exact ⟨rfl, rfl⟩
set_option maxHeartbeats 1000000 in
theorem Fo (a b : Int) (w : World) (ha : aW a) (hb : aW b) (h0 : ¬ b = 0) : Calls Tryz.prog 223 #[.int .i64 a, .int .i64 b] w fun e w' => e = .returned (.tuple #[.int .i64 (a.tmod b), .bool true]) /\ w = w' := by
 obtain ⟨a1, a2⟩ := ha;obtain ⟨b1, b2⟩ := hb;have h0' : (b == 0) = false := by simpa using h0
 go_enter Tryz.func223, Tryz.ntmps223
 go_wp2_with fail
 all_goals
  go_ret2;refine ⟨Jd ?_, rfl⟩
  first
   | rfl
   | exact uJ ‹_› (by have h : (b == -1) = true := ‹_›; simpa using h)
   | exact yJ ‹_› h0 ‹_›
   | (rw [l9 (oJ ⟨by omega, by omega⟩ h0 (fun h => absurd h ‹_›))]
      exact oE (oJ ⟨by omega, by omega⟩ h0 (fun h => absurd h ‹_›)))
   | (obtain rfl : b = -1 := by have h : (b == -1) = true := ‹_›; simpa using h
      rw [Int.tmod_neg, Int.tmod_one])
   | trace_state
theorem zB {a b : Int} (h : a = b) : Ending.returned (.int .u64 a) = .returned (.int .u64 b) := by rw [h]
theorem Ji {a : Int} (h : a < 0) (a1 : -9223372036854775808 <= a) : IntKind.u64.wrap (-IntKind.u64.wrap a) = (a.natAbs : Nat) := by
 simp only [IntKind.wrap, IntKind.signed, IntKind.bits];simp;omega
set_option maxHeartbeats 1000000 in
theorem yR (a : Int) (w : World) (ha : aW a) : Calls Tryz.prog 237 #[.int .i64 a] w fun e w' => e = .returned (.int .u64 (a.natAbs : Nat)) /\ w = w' := by
 obtain ⟨a1, a2⟩ := ha
 by_cases h : a < 0
 · go_enter Tryz.func237, Tryz.ntmps237
   go_wp2_with fail
   go_ret;exact ⟨zB (Ji h a1), rfl⟩
 · go_enter Tryz.func237, Tryz.ntmps237
   go_wp2_with fail
   go_ret;exact ⟨zB (by omega), rfl⟩
end
section
open Go.RowKit
theorem DN (x y : Nat) (hx : x < 18446744073709551616) (hy : y < 18446744073709551616) (H L : Int) (hH : ((x * y / 18446744073709551616 : Nat) : Int) = H) (hL : ((x * y % 18446744073709551616 : Nat) : Int) = L) (w : World) :
 Calls Tryz.prog 236 #[.int .u64 x, .int .u64 y] w fun e w' => e = .returned (.tuple #[.int .u64 H, .int .u64 L]) /\ w = w' := by
 subst hH; subst hL;exact (Tryz.bits_Mul64 x y hx hy w).mono fun e w' ⟨h, k⟩ => ⟨h, k.symm⟩
theorem A7 (a b : Int) : a * b = if a < 0 then (if b < 0 then ((a.natAbs * b.natAbs : Nat) : Int) else -((a.natAbs * b.natAbs : Nat) : Int)) else (if b < 0 then -((a.natAbs * b.natAbs : Nat) : Int) else ((a.natAbs * b.natAbs : Nat) : Int)) := by
 rw [Int.natCast_mul]
 split <;> split
 · rw [show (a.natAbs : Int) = -a by omega, show (b.natAbs : Int) = -b by omega, Int.neg_mul_neg]
 · rw [show (a.natAbs : Int) = -a by omega, show (b.natAbs : Int) = b by omega, Int.neg_mul, Int.neg_neg]
 · rw [show (a.natAbs : Int) = a by omega, show (b.natAbs : Int) = -b by omega, Int.mul_neg, Int.neg_neg]
 · rw [show (a.natAbs : Int) = a by omega, show (b.natAbs : Int) = b by omega]
theorem uM {a b : Int} (h : a < 0 /\ b < 0 \/ 0 <= a /\ 0 <= b) : decide (a < 0) = decide (b < 0) := by
 rcases h with ⟨h, k⟩ | ⟨h, k⟩
 · rw [decide_eq_true h, decide_eq_true k]
 · rw [decide_eq_false (by omega), decide_eq_false (by omega)]
theorem sJ {a b : Int} (h : a < 0 /\ 0 <= b \/ 0 <= a /\ b < 0) : ¬ decide (a < 0) = decide (b < 0) := by
 rcases h with ⟨h, k⟩ | ⟨h, k⟩
 · rw [decide_eq_true h, decide_eq_false (by omega)]; decide
 · rw [decide_eq_false (by omega), decide_eq_true k]; decide
set_option maxHeartbeats 1000000 in
theorem Fn (a b : Int) (w : World) (ha : aW a) (hb : aW b) : Calls Tryz.prog 221 #[.int .i64 a, .int .i64 b] w fun e w' => e = .returned (.int .i64 (dB (a * b))) /\ w = w' := by
 have hm := A7 a b;have hx : a.natAbs < 18446744073709551616 := by unfold aW at ha; omega
 have hy : b.natAbs < 18446744073709551616 := by unfold aW at hb; omega
 have hb' : a.natAbs * b.natAbs <= 9223372036854775808 * 9223372036854775808 := Nat.mul_le_mul (by unfold aW at ha; omega) (by unfold aW at hb; omega);obtain ⟨N, hN⟩ : ∃ N : Nat, a.natAbs * b.natAbs = N := ⟨_, rfl⟩;rw [hN] at hm hb';obtain ⟨H, hH⟩ : ∃ H : Int, ((a.natAbs * b.natAbs / 18446744073709551616 : Nat) : Int) = H := ⟨_, rfl⟩;obtain ⟨L, hL⟩ : ∃ L : Int, ((a.natAbs * b.natAbs % 18446744073709551616 : Nat) : Int) = L := ⟨_, rfl⟩;have hH' : ((N / 18446744073709551616 : Nat) : Int) = H := by rw [<- hN]; exact hH
 have hL' : ((N % 18446744073709551616 : Nat) : Int) = L := by rw [<- hN]; exact hL
 have C := fun w => DN a.natAbs b.natAbs hx hy H L hH hL w
 have A := fun w => yR a w ha
 have B := fun w => yR b w hb
 have R : dB (a * b) = if N <= 9223372036854775807 then (if decide (a < 0) = decide (b < 0) then L else -L) else (if decide (a < 0) = decide (b < 0) then 9223372036854775807 else -9223372036854775808) := by
  rw [hm]
  by_cases a0 : a < 0 <;> by_cases b0 : b < 0 <;> simp only [a0, b0, if_true, if_false, decide_true, decide_false, Bool.false_eq_true, Bool.true_eq_false] <;> unfold dB <;> (repeat' split) <;> omega
 have c1 : N <= 9223372036854775807 -> H = 0 /\ 0 <= L /\ L <= 9223372036854775807 := by omega
 have c2 : ¬ N <= 9223372036854775807 -> H = 0 -> 9223372036854775807 < L := by omega
 have H0 : 0 <= H := by omega
 have H1 : H < 18446744073709551616 := by omega
 have L0 : 0 <= L := by omega
 have L1 : L < 18446744073709551616 := by omega
 have A1 := aA A;have B1 := aA B;have C1 := aA C;have R1 := aA R;clear A B C R hm hN hH hL hH' hL' ha hb;clear hb' hx hy
 by_cases hn : N <= 9223372036854775807
 · obtain ⟨rfl, -, k2⟩ := c1 hn
   clear c1 c2
   by_cases a0 : a < 0 <;> by_cases b0 : b < 0
   all_goals
    go_enter Tryz.func221, Tryz.ntmps221
    go_wp2_with (first | (go_at_call 237; first | ((with_reducible refine (A1.out _).mono ?_); rintro e w' ⟨rfl, rfl⟩) | ((with_reducible refine (B1.out _).mono ?_); rintro e w' ⟨rfl, rfl⟩)) | (go_at_call 236; refine (C1.out _).mono ?_; rintro e w' ⟨rfl, rfl⟩) | (go_at_call 109; refine (iJ _ _).mono ?_; rintro e w' ⟨rfl, rfl⟩))
    go_ret;refine ⟨cF ?_, rfl⟩;rw [R1.out, if_pos hn];clear R1 A1 B1 C1
    first
     | (rw [if_pos (uM (by omega))]; done)
     | (rw [if_neg (sJ (by omega))]; done)
 · replace c2 := c2 hn
   clear c1
   by_cases a0 : a < 0 <;> by_cases b0 : b < 0 <;> by_cases h0 : H = 0
   all_goals
    first
     | (have L2 := c2 h0
        subst h0)
     | (have h2 : (H == 0) = false := by simpa using h0
        have h3 : (H != 0) = true := by simpa using h0)
    clear c2
    go_enter Tryz.func221, Tryz.ntmps221
    go_wp2_with (first | (go_at_call 237; first | ((with_reducible refine (A1.out _).mono ?_); rintro e w' ⟨rfl, rfl⟩) | ((with_reducible refine (B1.out _).mono ?_); rintro e w' ⟨rfl, rfl⟩)) | (go_at_call 236; refine (C1.out _).mono ?_; rintro e w' ⟨rfl, rfl⟩) | (go_at_call 109; refine (iJ _ _).mono ?_; rintro e w' ⟨rfl, rfl⟩))
    go_ret;refine ⟨cF ?_, rfl⟩;rw [R1.out, if_neg hn];clear R1 A1 B1 C1
    first
     | (rw [if_pos (uM (by omega))]; done)
     | (rw [if_neg (sJ (by omega))]; done)
end
section
open Go.RowKit
end
section
open Go.RowKit
theorem gL {n : Int} (h : (Lit.int .i64 n).wf = true) : aW n := by
 simp [Lit.wf, IntKind.min, IntKind.max, IntKind.bits, IntKind.signed] at h;exact ⟨by omega, by omega⟩
end
section
open Go.RowKit
end
section
open Go.RowKit
def Hl (t : TN) : Prop := ∀ (G : Nat -> Prop) (lb : Nat) (w : World) (a : Option Addr) (c l : Nat), l <= 1000 -> Hf t -> (∀ b, G b -> b ≠ lb) -> WdE lb w -> aG G w a t.ks -> w.heap[lb]? = some (.cells #[.int .i64 l] 3 (0, 0)) ->
 Calls Tryz.prog 167 #[.pointer (some ⟨lb, 0, none⟩), bW t.op t.nm t.n a t.ks.len c, .func (.func 141) #[] #[]] w fun e w' => aF (· = lb) w w' /\
  (aM t <= l -> ∃ v, e = .returned (.tuple #[v, .bool true]) /\ lR (fun b => w.heap.size <= b) w' t v) /\
  (aM t <= l -> w'.heap[lb]? = some (.cells #[.int .i64 ((l - aM t : Nat) : Int)] 3 (0, 0))) /\
  (¬ aM t <= l -> e = .returned (.tuple #[.int .i64 0, .bool false]))
set_option maxHeartbeats 8000000 in
set_option maxRecDepth 100000 in
theorem Bp (t : TN) (ih : dM Hl t.ks) : Hl t := by
 intro G lb w a c l hl hpre hG hwd hr hlb;obtain ⟨i0, hi, hz0, hz1, hz2⟩ := info_parts Ko;have und : Tryz.prog.underlying 231 = some (.slice 29) := Tryz.underlying231;have hlt := (Array.getElem?_eq_some_iff.1 hlb).1;have IH := aA ih;have R := aA hr;have PRE := aA hpre;have HG := aA hG;have WD := aA hwd;have BA := (Below.refl w.heap.size w).alloc (Nat.le_refl _) (ndG t.op t.nm t.n a t.ks.len c);have NB := heap_alloc_new w (ndG t.op t.nm t.n a t.ks.len c);have LB1 := (BA.block lb hlt).trans hlb;have hs0 : (w.alloc (ndG t.op t.nm t.n a t.ks.len c)).heap.size = w.heap.size + 1 := World.size_alloc _ _;generalize hW : w.alloc (ndG t.op t.nm t.n a t.ks.len c) = W at BA NB LB1 hs0;have HW := aA hW;have hsize : aM t = 1 + bK t.ks := rfl;have hlen := j0 t.ks;have K1 := (aE BA (· = lb)).setCell (p := ⟨lb, 0, none⟩) (.inl rfl) (.int .i64 ((l : Int) - 1));have LB2 := wN LB1 (.int .i64 ((l : Int) - 1));have NB2 := ((aF.refl (· = lb) W).setCell (p := ⟨lb, 0, none⟩) (.inl rfl) (.int .i64 ((l : Int) - 1))).heap NB (by omega);have hs1 : (W.setCell ⟨lb, 0, none⟩ (.int .i64 ((l : Int) - 1))).heap.size = w.heap.size + 1 := by rw [World.size_setCell]; exact hs0
 obtain ⟨lc, lf⟩ := fN LB1
 by_cases hstop : (l : Int) - 1 < (t.ks.len : Int)
 · have P := aA (show ¬ aM t <= l by omega)
   generalize hV : W.setCell ⟨lb, 0, none⟩ (.int .i64 ((l : Int) - 1)) = V at K1 LB2 NB2 hs1;have HV := aA hV;obtain ⟨lc2, -⟩ := fN LB2;obtain ⟨⟨m0, m1, m2, m3⟩, -⟩ := aK NB2;have HK1 := aA K1;clear hr hpre hG ih hwd hlb hW hV K1 LB1 LB2 NB NB2 BA hsize
   go_enter Tryz.func167, Tryz.ntmps167
   go_upto_region 2 with fail
   rw [HW.out]
   go_upto_region 3 with fail
   rw [HV.out]
   go_wp2_with (go_quiet (fail))
   go_ret2;exact ⟨HK1.out.drewN _, fun h => absurd h P.out, fun h => absurd h P.out, fun _ => rfl⟩
 · obtain ⟨l', rfl⟩ : ∃ l', l = l' + 1 := ⟨l - 1, by omega⟩
   have hcast : (((l' + 1 : Nat) : Int) - 1) = (l' : Int) := by omega
   rw [hcast] at K1 LB2 NB2 hs1 hstop;generalize hV : W.setCell ⟨lb, 0, none⟩ (.int .i64 (l' : Int)) = V at K1 LB2 NB2 hs1;have HV := aA hV;obtain ⟨lc2, -⟩ := fN LB2;obtain ⟨⟨m0, m1, m2, m3⟩, -⟩ := aK NB2;have HK1 := aA K1;have HLB := aA LB2;have HNB := aA NB2;have hll : t.ks.len <= l' := by omega
   have b9 : ¬ (l' : Int) < (t.ks.len : Int) := hstop;clear hr hpre hG ih hwd hlb hW hV K1 LB1 LB2 NB NB2 BA hstop hcast
   go_enter Tryz.func167, Tryz.ntmps167
   go_upto_region 2 with fail
   rw [HW.out]
   go_upto_region 3 with fail
   rw [HV.out]
   go_upto_region 5 with (go_quiet (fail))
   have HK2 := aA (HK1.out.drewN nq);have HLB2 := aA (show (V.drewN nq).heap[lb]? = _ from HLB.out);have HNB2 := aA (show (V.drewN nq).heap[w.heap.size]? = _ from HNB.out);have hsV : (V.drewN nq).heap.size = w.heap.size + 1 := hs1;have n3 : (V.drewN nq).cell? ⟨w.heap.size, 3, none⟩ = some (.slice a t.ks.len c) := m3;generalize V.drewN nq = U at HK2 HLB2 HNB2 hsV n3 |-
   clear m0 m1 m2 m3 lc lf lc2 HW HV HK1 HLB HNB
   go_wp2_with fail
   go_loopw [9, 30] (fun kv i wr => ∃ (k x : Nat) (va : Option Addr) (vc : Nat) (vs : List Value), kv = .slice va k vc /\ i = .int .i64 k /\ k <= t.ks.len /\ x + bK t.ks = l' + bK (t.ks.drop k) /\ Hid (wr.ownsRow (w.heap.size + 1) 29 1 (.slice va k vc) k vs) /\
    Hid (∀ j t2, j < k -> t.ks.at j = some t2 -> ∃ v, vs[j]? = some v /\ lR (fun b => w.heap.size + 1 <= b /\ (Value.slice va k vc).ownBlock ≠ some b) wr t2 v) /\ Hid (wr.heap[lb]? = some (.cells #[.int .i64 x] 3 (0, 0))) /\ Hid (aF (· = lb) w wr) /\ Hid (wr.heap[w.heap.size]? = some (ndG t.op t.nm t.n a t.ks.len c))) (fun _ i _ => t.ks.len - (intOf i).toNat)
   case atStart => exact ⟨0, l', none, 0, [], rfl, rfl, Nat.zero_le _, by rw [F.drop_zero], aA (World.ownsRow_nil _ _ _ _), aA (fun _ _ h => absurd h (Nat.not_lt_zero _)), HLB2, HK2, HNB2⟩
   case round =>
    obtain ⟨k, x, va, vc, vs, rfl, rfl, hk, hx, hO, hV, hL, hK, hN⟩ := hrel;clear n3;obtain ⟨⟨m0, m1, m2, m3⟩, -⟩ := aK hN.out;have hz := hK.out.size
    by_cases hkl : k < t.ks.len
    · obtain ⟨t2, hat, -⟩ := cW hkl
      have hsd := jS hat;have hdl := eR t.ks k;obtain ⟨b, off, a2, c2, ha, hGb, hbl, ⟨p0, p1, p2, p3⟩, hr2⟩ := cD (R.out.keptS hK.out (fun q hq hg => HG.out q hg hq)) hat;subst ha;have hN1 : w.heap.size < wr.heap.size := (Array.getElem?_eq_some_iff.1 hN.out).1;have BA := (Below.refl wr.heap.size wr).alloc (Nat.le_refl _) (ndG t2.op t2.nm t2.n a2 t2.ks.len c2);have NB := heap_alloc_new wr (ndG t2.op t2.nm t2.n a2 t2.ks.len c2);have hs2 : (wr.alloc (ndG t2.op t2.nm t2.n a2 t2.ks.len c2)).heap.size = wr.heap.size + 1 := World.size_alloc _ _;generalize hX : wr.alloc (ndG t2.op t2.nm t2.n a2 t2.ks.len c2) = Z at BA NB hs2;have HX := aA hX;have CF := aA ((dM.at IH.out hat) G lb Z a2 c2 x (by omega) (Kg PRE.out hat) HG.out (wdE WD.out (hK.out.trans (aE BA (· = lb)) (fun _ h _ => h))) (hr2.kept BA) ((BA.block lb (by omega)).trans hL.out));have HAT := aA hat;have HBA := aA BA;have OZ := aA (bH hO.out BA);obtain ⟨⟨z0, z1, z2, z3⟩, -⟩ := aK NB;clear hX BA NB hr2 hat hGb
      go_upto_region 9 with fail
      rw [HX.out];clear p0 p1 p2 p3 m0 m1 m2 m3
      go_wp2_with fail
      refine CF.out.mono ?_;rintro e w2 ⟨k2, hA1, hA2, hB⟩;have hzk2 := k2.size;have K2 := aA (hK.out.trans ((aE HBA.out (· = lb)).trans k2 (fun _ h _ => h)) (fun _ h _ => h));have N2 := aA (k2.heap ((HBA.out.block w.heap.size (by omega)).trans hN.out) (by omega))
      by_cases hfit : aM t2 <= x
      · obtain ⟨v, rfl, hv⟩ := hA1 hfit
        obtain ⟨z, rfl⟩ := Jq hv;have L2 := aA (hA2 hfit);have O2 := aA (dO (row := some lb) OZ.out (k2.mono (fun i hi _ => by rw [hi])) (fun q hq e => by have := (OZ.out.lt q hq).1; have := Option.some.inj e; omega));have HVV := aA hv;have hx2 : (x - aM t2) + bK t.ks = l' + bK (t.ks.drop (k + 1)) := by omega
        have hksz : k + 1 <= 1000 := by omega
        have vone : ∀ u ∈ [(Value.int .i64 z)], u.oneCell' = true := fun u hu => by rw [List.mem_singleton.1 hu]; exact Kz hv
        clear CF hA1 hA2 hB hv hfit z0 z1 z2 z3
        go_upto_region 12 with fail
        have BN := (Below.refl w2.heap.size w2).alloc (Nat.le_refl _) (.cells #[(Value.int .i64 z)] 29)
        have F2 := aA (show ∀ j u, [(Value.int .i64 z)][j]? = some u -> (w2.alloc (.cells #[(Value.int .i64 z)] 29)).cell? ((⟨w2.heap.size, 0, none⟩ : Addr).add j) = some u from fun j u hj => by
         rw [Addr.add_lit, Nat.zero_add, cell_of_row _ _ _ _ _ (0, 0) (heap_alloc_new w2 _)];simpa using hj)
        have HBN := aA BN;clear BN
        go_wp2_with (at_builtin; refine aQ rfl _ _ 231 rfl und hi hz0 hz1 hz2 rfl (by decide) (.slice va k vc) k 1 1 ⟨w2.heap.size, 0, none⟩ vs [(Value.int .i64 z)] rfl rfl (bH O2.out HBN.out) rfl F2.out vone (by unfold maxLen; omega) (by omega) (by rw [World.size_alloc]; omega) ?_)
        intro v3 w3 ho hg hq;obtain ⟨va3, vc3, rfl⟩ := eX ho;have kg : aF (fun b => (Value.slice va k vc).ownBlock = some b) w2 w3 := ((aF.refl _ w2).alloc _).grown hg (fun q hq => .inl hq);have hov : ∀ q, (Value.slice va k vc).ownBlock = some q -> w.heap.size + 1 <= q /\ q < w2.heap.size := fun q hq => by have := O2.out.lt q hq; omega
        have O3 := aA ho;have L3 := aA (kg.heap L2.out (fun e => by have := hov lb e; omega));have K3 := aA (K2.out.trans (kg.mono (T := fun b => w.heap.size + 1 <= b) (fun i hi _ => (hov i hi).1)) (fun i hi hlt => by omega));have N3 := aA (kg.heap N2.out (fun e => by have := hov _ e; omega))
        have hnewb : ∀ b, b < w2.heap.size -> (Value.slice va k vc).ownBlock ≠ some b -> (Value.slice va3 (k + 1) vc3).ownBlock ≠ some b := fun b hb hne e => by
         rcases hq b e with h1 | h1
         · exact hne h1
         · omega
        have V3 := aA (show ∀ j t3, j < k + 1 -> t.ks.at j = some t3 -> ∃ u, (vs ++ [(Value.int .i64 z)])[j]? = some u /\ lR (fun b => w.heap.size + 1 <= b /\ (Value.slice va3 (k + 1) vc3).ownBlock ≠ some b) w3 t3 u from fun j t3 hj hjt => by
         have hvl : vs.length = k := by have := hO.out.1; rwa [Nat.mul_one] at this
         by_cases hjk : j < k
         · obtain ⟨u, hu, hru⟩ := hV.out j t3 hjk hjt
           refine ⟨u, by rw [List.getElem?_append_left (by omega)]; exact hu, ?_⟩;have r1 := kT (kT hru (aE HBA.out (fun _ => False)) (fun _ h => h.elim)) k2 (fun q hq hg => by have := hg.1; omega);have r2 := jX (H := fun b => (w.heap.size + 1 <= b /\ (Value.slice va k vc).ownBlock ≠ some b) /\ (Value.slice va3 (k + 1) vc3).ownBlock ≠ some b) r1 (fun b hb hg => ⟨hg, hnewb b hb hg.2⟩);exact jX (kT r2 kg (fun q hq hg => hg.1.2 hq)) (fun b hb hg => ⟨hg.1.1, hg.2⟩)
         · obtain rfl : j = k := by omega
           have : t3 = t2 := by rw [HAT.out] at hjt; exact (Option.some.inj hjt).symm
           subst this;refine ⟨_, by rw [List.getElem?_append_right (by omega), hvl, Nat.sub_self]; rfl, ?_⟩
           have r2 := jX (H := fun b => (w.heap.size + 1 <= b /\ (Value.slice va j vc).ownBlock ≠ some b) /\ (Value.slice va3 (j + 1) vc3).ownBlock ≠ some b) HVV.out (fun b hb hg => by
            have hne : (Value.slice va j vc).ownBlock ≠ some b := fun e => by have := (OZ.out.lt b e).2; omega
            exact ⟨⟨by omega, hne⟩, hnewb b hb hne⟩)
           exact jX (kT r2 kg (fun q hq hg => hg.1.2 hq)) (fun b hb hg => ⟨hg.1.1, hg.2⟩))
        clear ho hg hq kg hov hnewb
        go_wp2_with fail
        go_roundw
        case rel => exact ⟨k + 1, x - aM t2, va3, vc3, vs ++ [(Value.int .i64 z)], rfl, by go_num, by omega, hx2, O3, V3, L3, K3, N3⟩
        case measure => simp [intOf]; omega
      · obtain rfl := hB hfit
        have P := aA (show ¬ aM t <= l' + 1 by omega);clear CF hA1 hA2 hB hfit z0 z1 z2 z3
        go_wp2_with fail
        go_ret2;exact ⟨K2.out, fun h => absurd h P.out, fun h => absurd h P.out, fun _ => rfl⟩
    · obtain rfl : k = t.ks.len := by omega
      have hx2 : x + bK t.ks = l' := by rw [hx, F.drop_len _ _ (Nat.le_refl _)]; rfl
      have CO := aA (It t wr G a c va vc vs (w.heap.size + 1) PRE.out (wdE WD.out hK.out) (R.out.keptS hK.out (fun q hq hg => HG.out q hg hq)) hO.out (fun j t2 hj => hV.out j t2 (G7 hj) hj))
      go_wp2_with fail
      refine CO.out.mono ?_;rintro e w2 ⟨v, rfl, hv, hb⟩
      have P := aA (show aF (· = lb) w w2 /\ lR (fun b => w.heap.size <= b) w2 t v /\ w2.heap[lb]? = some (.cells #[.int .i64 ((l' + 1 - aM t : Nat) : Int)] 3 (0, 0)) /\ aM t <= l' + 1 from
       ⟨hK.out.trans (aE hb (· = lb)) (fun _ h _ => h), jX hv (fun b _ hg => by omega), by rw [hb.block lb (by omega), hL.out, show x = l' + 1 - aM t by omega], by omega⟩)
      clear hv hb CO m0 m1 m2 m3
      go_wp2_with fail
      go_ret2;exact ⟨P.out.1, fun _ => ⟨v, rfl, P.out.2.1⟩, fun _ => P.out.2.2.1, fun h => absurd P.out.2.2.2 h⟩
theorem Ez (t : TN) : Hl t := jC Bp t
set_option maxHeartbeats 4000000 in
set_option maxRecDepth 100000 in
theorem Ey (t : TN) (G : Nat -> Prop) (w : World) (a : Option Addr) (c : Nat) (hpre : Hf t) (hwd : ∀ lb, w.heap.size <= lb -> WdE lb w) (hr : aG G w a t.ks) :
 Calls Tryz.prog 140 #[bW t.op t.nm t.n a t.ks.len c, .func (.func 141) #[] #[]] w fun e w' => Below w.heap.size w w' /\
  (aM t <= 32 -> ∃ v, e = .returned (.tuple #[v, .bool true]) /\ lR (fun b => w.heap.size <= b) w' t v) /\ (¬ aM t <= 32 -> e = .returned (.tuple #[.int .i64 0, .bool false])) := by
 have BA := (Below.refl w.heap.size w).alloc (Nat.le_refl _) (ndG t.op t.nm t.n a t.ks.len c);have NB := heap_alloc_new w (ndG t.op t.nm t.n a t.ks.len c);have hs0 : (w.alloc (ndG t.op t.nm t.n a t.ks.len c)).heap.size = w.heap.size + 1 := World.size_alloc _ _;generalize hW : w.alloc (ndG t.op t.nm t.n a t.ks.len c) = W at BA NB hs0;have BB := (Below.refl W.heap.size W).alloc (Nat.le_refl _) (.cells #[.int .i64 32] 3);have NC := heap_alloc_new W (.cells #[.int .i64 32] 3);have hs1 : (W.alloc (.cells #[.int .i64 32] 3)).heap.size = w.heap.size + 2 := by rw [World.size_alloc]; omega
 generalize hV : W.alloc (.cells #[.int .i64 32] 3) = V at BB NC hs1;rw [hs0] at NC;have BV := BA.trans (BB.mono (by omega));have N2 := (BB.block w.heap.size (by omega)).trans NB;have hGlt := hr.imp (H := fun b => G b /\ b < w.heap.size) (fun b hb hg => ⟨hg, hb⟩);have CF := aA (Ez t (fun b => G b /\ b < w.heap.size) (w.heap.size + 1) V a c 32 (by omega) hpre (fun b hg => by omega) (wdE (hwd (w.heap.size + 1) (by omega)) (aE BV (fun _ => False) |>.mono (fun _ h _ => h.elim) : aF (· = w.heap.size + 1) w V)) (hGlt.keptS (aE BV (fun _ => False)) (fun _ h => h.elim)) NC);have HW := aA hW;have HV := aA hV;have HB := aA BV;obtain ⟨⟨m0, m1, m2, m3⟩, -⟩ := aK N2;clear hW hV BA NB BB NC BV N2 hGlt hr hpre hwd
 go_enter Tryz.func140, Tryz.ntmps140
 go_upto_region 1 with fail
 rw [HW.out]
 go_upto_region 2 with fail
 rw [HV.out]
 go_wp2_with fail
 refine CF.out.mono ?_;rintro e w2 ⟨k2, hA, -, hB⟩;have B2 := aA (HB.out.trans (aF.below k2 (B := w.heap.size) (fun q hq => by omega) (by omega)))
 by_cases h32 : aM t <= 32
 · obtain ⟨v, rfl, hv⟩ := hA h32
   have HR := aA (jX hv (H := fun b => w.heap.size <= b) (fun b _ hg => by omega));have H32 := aA h32;clear k2 hA hB hv h32 CF m0 m1 m2 m3
   go_wp2_with fail
   go_ret2;exact ⟨B2.out, fun _ => ⟨v, rfl, HR.out⟩, fun h => absurd H32.out h⟩
 · obtain rfl := hB h32
   have H32 := aA h32;clear k2 hA hB h32 CF m0 m1 m2 m3
   go_wp2_with fail
   go_ret2;exact ⟨B2.out, fun h => absurd h H32.out, fun _ => rfl⟩
end
end
end Go.Proofs.YtapcjnoaofmmiaaGreatDoor
