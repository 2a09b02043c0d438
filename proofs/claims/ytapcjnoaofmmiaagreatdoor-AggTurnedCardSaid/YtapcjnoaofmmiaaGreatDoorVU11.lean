/-
 No statement: what AggTurnedCard needs, of the texts OE13, HMath.
-/
import Derived.Test.YtapcjnoaofmmiaaGreatDoorVU10
namespace Go.Proofs.YtapcjnoaofmmiaaGreatDoor
section
section
open Go.RowKit
def Hj (t : TN) : Prop := ∀ (G : Nat -> Prop) (lb : Nat) (w : World) (a : Option Addr) (c l : Nat), l <= 1000 -> He t -> (∀ b, G b -> b ≠ lb) -> WdT lb w -> aG G w a t.ks -> w.heap[lb]? = some (.cells #[.int .i64 l] 3 (0, 0)) ->
 Calls Tryz.prog 146 #[.pointer (some ⟨lb, 0, none⟩), bW t.op t.nm t.n a t.ks.len c, .func (.func 102) #[] #[]] w fun e w' => aF (· = lb) w w' /\
  (aM t <= l -> ∃ v, e = .returned (.tuple #[v, .bool true]) /\ lQ (fun b => w.heap.size <= b) w' t v) /\
  (aM t <= l -> w'.heap[lb]? = some (.cells #[.int .i64 ((l - aM t : Nat) : Int)] 3 (0, 0))) /\
  (¬ aM t <= l -> e = .returned (.tuple #[.string ⟨#[]⟩, .bool false]))
set_option maxHeartbeats 8000000 in
set_option maxRecDepth 100000 in
theorem Bn (t : TN) (ih : dM Hj t.ks) : Hj t := by
 intro G lb w a c l hl hpre hG hwd hr hlb;obtain ⟨i0, hi, hz0, hz1, hz2⟩ := info_parts Kl;have und : Tryz.prog.underlying 118 = some (.slice 9) := Tryz.underlying118;have hlt := (Array.getElem?_eq_some_iff.1 hlb).1;have IH := aA ih;have R := aA hr;have PRE := aA hpre;have HG := aA hG;have WD := aA hwd;have BA := (Below.refl w.heap.size w).alloc (Nat.le_refl _) (ndG t.op t.nm t.n a t.ks.len c);have NB := heap_alloc_new w (ndG t.op t.nm t.n a t.ks.len c);have LB1 := (BA.block lb hlt).trans hlb;have hs0 : (w.alloc (ndG t.op t.nm t.n a t.ks.len c)).heap.size = w.heap.size + 1 := World.size_alloc _ _;generalize hW : w.alloc (ndG t.op t.nm t.n a t.ks.len c) = W at BA NB LB1 hs0;have HW := aA hW;have hsize : aM t = 1 + bK t.ks := rfl;have hlen := j0 t.ks;have K1 := (aE BA (· = lb)).setCell (p := ⟨lb, 0, none⟩) (.inl rfl) (.int .i64 ((l : Int) - 1));have LB2 := wN LB1 (.int .i64 ((l : Int) - 1));have NB2 := ((aF.refl (· = lb) W).setCell (p := ⟨lb, 0, none⟩) (.inl rfl) (.int .i64 ((l : Int) - 1))).heap NB (by omega);have hs1 : (W.setCell ⟨lb, 0, none⟩ (.int .i64 ((l : Int) - 1))).heap.size = w.heap.size + 1 := by rw [World.size_setCell]; exact hs0
 obtain ⟨lc, lf⟩ := fN LB1
 by_cases hstop : (l : Int) - 1 < (t.ks.len : Int)
 · have P := aA (show ¬ aM t <= l by omega)
   generalize hV : W.setCell ⟨lb, 0, none⟩ (.int .i64 ((l : Int) - 1)) = V at K1 LB2 NB2 hs1;have HV := aA hV;obtain ⟨lc2, -⟩ := fN LB2;obtain ⟨⟨m0, m1, m2, m3⟩, -⟩ := aK NB2;have HK1 := aA K1;clear hr hpre hG ih hwd hlb hW hV K1 LB1 LB2 NB NB2 BA hsize
   go_enter Tryz.func146, Tryz.ntmps146
   go_upto_region 2 with fail
   rw [HW.out]
   go_upto_region 3 with fail
   rw [HV.out]
   go_wp2_with (go_quiet (fail))
   go_ret2;exact ⟨HK1.out.drewN _, fun h => absurd h P.out, fun h => absurd h P.out, fun _ => rfl⟩
 · obtain ⟨l', rfl⟩ : ∃ l', l = l' + 1 := ⟨l - 1, by omega⟩
   have hcast : (((l' + 1 : Nat) : Int) - 1) = (l' : Int) := by omega
   rw [hcast] at K1 LB2 NB2 hs1 hstop;generalize hV : W.setCell ⟨lb, 0, none⟩ (.int .i64 (l' : Int)) = V at K1 LB2 NB2 hs1;have HV := aA hV;obtain ⟨lc2, -⟩ := fN LB2;obtain ⟨⟨m0, m1, m2, m3⟩, -⟩ := aK NB2;have HK1 := aA K1;have HLB := aA LB2;have HNB := aA NB2;have hll : t.ks.len <= l' := by omega
   have b9 : ¬ (l' : Int) < (t.ks.len : Int) := hstop;clear hr hpre hG ih hwd hlb hW hV K1 LB1 LB2 NB NB2 BA hstop hcast
   go_enter Tryz.func146, Tryz.ntmps146
   go_upto_region 2 with fail
   rw [HW.out]
   go_upto_region 3 with fail
   rw [HV.out]
   go_upto_region 5 with (go_quiet (fail))
   have HK2 := aA (HK1.out.drewN nq);have HLB2 := aA (show (V.drewN nq).heap[lb]? = _ from HLB.out);have HNB2 := aA (show (V.drewN nq).heap[w.heap.size]? = _ from HNB.out);have hsV : (V.drewN nq).heap.size = w.heap.size + 1 := hs1;have n3 : (V.drewN nq).cell? ⟨w.heap.size, 3, none⟩ = some (.slice a t.ks.len c) := m3;generalize V.drewN nq = U at HK2 HLB2 HNB2 hsV n3 |-
   clear m0 m1 m2 m3 lc lf lc2 HW HV HK1 HLB HNB
   go_wp2_with fail
   go_loopw [9, 30] (fun kv i wr => ∃ (k x : Nat) (va : Option Addr) (vc : Nat) (vs : List Value), kv = .slice va k vc /\ i = .int .i64 k /\ k <= t.ks.len /\ x + bK t.ks = l' + bK (t.ks.drop k) /\ Hid (wr.ownsRow (w.heap.size + 1) 9 1 (.slice va k vc) k vs) /\
    Hid (∀ j t2, j < k -> t.ks.at j = some t2 -> ∃ v, vs[j]? = some v /\ lQ (fun b => w.heap.size + 1 <= b /\ (Value.slice va k vc).ownBlock ≠ some b) wr t2 v) /\ Hid (wr.heap[lb]? = some (.cells #[.int .i64 x] 3 (0, 0))) /\ Hid (aF (· = lb) w wr) /\ Hid (wr.heap[w.heap.size]? = some (ndG t.op t.nm t.n a t.ks.len c))) (fun _ i _ => t.ks.len - (intOf i).toNat)
   case atStart => exact ⟨0, l', none, 0, [], rfl, rfl, Nat.zero_le _, by rw [F.drop_zero], aA (World.ownsRow_nil _ _ _ _), aA (fun _ _ h => absurd h (Nat.not_lt_zero _)), HLB2, HK2, HNB2⟩
   case round =>
    obtain ⟨k, x, va, vc, vs, rfl, rfl, hk, hx, hO, hV, hL, hK, hN⟩ := hrel;clear n3;obtain ⟨⟨m0, m1, m2, m3⟩, -⟩ := aK hN.out;have hz := hK.out.size
    by_cases hkl : k < t.ks.len
    · obtain ⟨t2, hat, -⟩ := cW hkl
      have hsd := jS hat;have hdl := eR t.ks k;obtain ⟨b, off, a2, c2, ha, hGb, hbl, ⟨p0, p1, p2, p3⟩, hr2⟩ := cD (R.out.keptS hK.out (fun q hq hg => HG.out q hg hq)) hat;subst ha;have hN1 : w.heap.size < wr.heap.size := (Array.getElem?_eq_some_iff.1 hN.out).1;have BA := (Below.refl wr.heap.size wr).alloc (Nat.le_refl _) (ndG t2.op t2.nm t2.n a2 t2.ks.len c2);have NB := heap_alloc_new wr (ndG t2.op t2.nm t2.n a2 t2.ks.len c2);have hs2 : (wr.alloc (ndG t2.op t2.nm t2.n a2 t2.ks.len c2)).heap.size = wr.heap.size + 1 := World.size_alloc _ _;generalize hX : wr.alloc (ndG t2.op t2.nm t2.n a2 t2.ks.len c2) = Z at BA NB hs2;have HX := aA hX;have CF := aA ((dM.at IH.out hat) G lb Z a2 c2 x (by omega) (Ke PRE.out hat) HG.out (wdT WD.out (hK.out.trans (aE BA (· = lb)) (fun _ h _ => h))) (hr2.kept BA) ((BA.block lb (by omega)).trans hL.out));have HAT := aA hat;have HBA := aA BA;have OZ := aA (bH hO.out BA);obtain ⟨⟨z0, z1, z2, z3⟩, -⟩ := aK NB;clear hX BA NB hr2 hat hGb
      go_upto_region 9 with fail
      rw [HX.out];clear p0 p1 p2 p3 m0 m1 m2 m3
      go_wp2_with fail
      refine CF.out.mono ?_;rintro e w2 ⟨k2, hA1, hA2, hB⟩;have hzk2 := k2.size;have K2 := aA (hK.out.trans ((aE HBA.out (· = lb)).trans k2 (fun _ h _ => h)) (fun _ h _ => h));have N2 := aA (k2.heap ((HBA.out.block w.heap.size (by omega)).trans hN.out) (by omega))
      by_cases hfit : aM t2 <= x
      · obtain ⟨v, rfl, hv⟩ := hA1 hfit
        obtain ⟨z, rfl⟩ := Jo hv;have L2 := aA (hA2 hfit);have O2 := aA (dO (row := some lb) OZ.out (k2.mono (fun i hi _ => by rw [hi])) (fun q hq e => by have := (OZ.out.lt q hq).1; have := Option.some.inj e; omega));have HVV := aA hv;have hx2 : (x - aM t2) + bK t.ks = l' + bK (t.ks.drop (k + 1)) := by omega
        have hksz : k + 1 <= 1000 := by omega
        have vone : ∀ u ∈ [(Value.string z)], u.oneCell' = true := fun u hu => by rw [List.mem_singleton.1 hu]; exact Kx hv
        clear CF hA1 hA2 hB hv hfit z0 z1 z2 z3
        go_upto_region 12 with fail
        have BN := (Below.refl w2.heap.size w2).alloc (Nat.le_refl _) (.cells #[(Value.string z)] 9)
        have F2 := aA (show ∀ j u, [(Value.string z)][j]? = some u -> (w2.alloc (.cells #[(Value.string z)] 9)).cell? ((⟨w2.heap.size, 0, none⟩ : Addr).add j) = some u from fun j u hj => by
         rw [Addr.add_lit, Nat.zero_add, cell_of_row _ _ _ _ _ (0, 0) (heap_alloc_new w2 _)];simpa using hj)
        have HBN := aA BN;clear BN
        go_wp2_with (at_builtin; refine aQ rfl _ _ 118 rfl und hi hz0 hz1 hz2 rfl (by decide) (.slice va k vc) k 1 1 ⟨w2.heap.size, 0, none⟩ vs [(Value.string z)] rfl rfl (bH O2.out HBN.out) rfl F2.out vone (by unfold maxLen; omega) (by omega) (by rw [World.size_alloc]; omega) ?_)
        intro v3 w3 ho hg hq;obtain ⟨va3, vc3, rfl⟩ := eX ho;have kg : aF (fun b => (Value.slice va k vc).ownBlock = some b) w2 w3 := ((aF.refl _ w2).alloc _).grown hg (fun q hq => .inl hq);have hov : ∀ q, (Value.slice va k vc).ownBlock = some q -> w.heap.size + 1 <= q /\ q < w2.heap.size := fun q hq => by have := O2.out.lt q hq; omega
        have O3 := aA ho;have L3 := aA (kg.heap L2.out (fun e => by have := hov lb e; omega));have K3 := aA (K2.out.trans (kg.mono (T := fun b => w.heap.size + 1 <= b) (fun i hi _ => (hov i hi).1)) (fun i hi hlt => by omega));have N3 := aA (kg.heap N2.out (fun e => by have := hov _ e; omega))
        have hnewb : ∀ b, b < w2.heap.size -> (Value.slice va k vc).ownBlock ≠ some b -> (Value.slice va3 (k + 1) vc3).ownBlock ≠ some b := fun b hb hne e => by
         rcases hq b e with h1 | h1
         · exact hne h1
         · omega
        have V3 := aA (show ∀ j t3, j < k + 1 -> t.ks.at j = some t3 -> ∃ u, (vs ++ [(Value.string z)])[j]? = some u /\ lQ (fun b => w.heap.size + 1 <= b /\ (Value.slice va3 (k + 1) vc3).ownBlock ≠ some b) w3 t3 u from fun j t3 hj hjt => by
         have hvl : vs.length = k := by have := hO.out.1; rwa [Nat.mul_one] at this
         by_cases hjk : j < k
         · obtain ⟨u, hu, hru⟩ := hV.out j t3 hjk hjt
           refine ⟨u, by rw [List.getElem?_append_left (by omega)]; exact hu, ?_⟩;have r1 := kR (kR hru (aE HBA.out (fun _ => False)) (fun _ h => h.elim)) k2 (fun q hq hg => by have := hg.1; omega);have r2 := jV (H := fun b => (w.heap.size + 1 <= b /\ (Value.slice va k vc).ownBlock ≠ some b) /\ (Value.slice va3 (k + 1) vc3).ownBlock ≠ some b) r1 (fun b hb hg => ⟨hg, hnewb b hb hg.2⟩);exact jV (kR r2 kg (fun q hq hg => hg.1.2 hq)) (fun b hb hg => ⟨hg.1.1, hg.2⟩)
         · obtain rfl : j = k := by omega
           have : t3 = t2 := by rw [HAT.out] at hjt; exact (Option.some.inj hjt).symm
           subst this;refine ⟨_, by rw [List.getElem?_append_right (by omega), hvl, Nat.sub_self]; rfl, ?_⟩
           have r2 := jV (H := fun b => (w.heap.size + 1 <= b /\ (Value.slice va j vc).ownBlock ≠ some b) /\ (Value.slice va3 (j + 1) vc3).ownBlock ≠ some b) HVV.out (fun b hb hg => by
            have hne : (Value.slice va j vc).ownBlock ≠ some b := fun e => by have := (OZ.out.lt b e).2; omega
            exact ⟨⟨by omega, hne⟩, hnewb b hb hne⟩)
           exact jV (kR r2 kg (fun q hq hg => hg.1.2 hq)) (fun b hb hg => ⟨hg.1.1, hg.2⟩))
        clear ho hg hq kg hov hnewb
        go_wp2_with fail
        go_roundw
        case rel => exact ⟨k + 1, x - aM t2, va3, vc3, vs ++ [(Value.string z)], rfl, by go_num, by omega, hx2, O3, V3, L3, K3, N3⟩
        case measure => simp [intOf]; omega
      · obtain rfl := hB hfit
        have P := aA (show ¬ aM t <= l' + 1 by omega);clear CF hA1 hA2 hB hfit z0 z1 z2 z3
        go_wp2_with fail
        go_ret2;exact ⟨K2.out, fun h => absurd h P.out, fun h => absurd h P.out, fun _ => rfl⟩
    · obtain rfl : k = t.ks.len := by omega
      have hx2 : x + bK t.ks = l' := by rw [hx, F.drop_len _ _ (Nat.le_refl _)]; rfl
      have CO := aA (Ir t wr G a c va vc vs (w.heap.size + 1) PRE.out (wdT WD.out hK.out) (R.out.keptS hK.out (fun q hq hg => HG.out q hg hq)) hO.out (fun j t2 hj => hV.out j t2 (G7 hj) hj))
      go_wp2_with fail
      refine CO.out.mono ?_;rintro e w2 ⟨v, rfl, hv, hb⟩
      have P := aA (show aF (· = lb) w w2 /\ lQ (fun b => w.heap.size <= b) w2 t v /\ w2.heap[lb]? = some (.cells #[.int .i64 ((l' + 1 - aM t : Nat) : Int)] 3 (0, 0)) /\ aM t <= l' + 1 from
       ⟨hK.out.trans (aE hb (· = lb)) (fun _ h _ => h), jV hv (fun b _ hg => by omega), by rw [hb.block lb (by omega), hL.out, show x = l' + 1 - aM t by omega], by omega⟩)
      clear hv hb CO m0 m1 m2 m3
      go_wp2_with fail
      go_ret2;exact ⟨P.out.1, fun _ => ⟨v, rfl, P.out.2.1⟩, fun _ => P.out.2.2.1, fun h => absurd P.out.2.2.2 h⟩
theorem Ew (t : TN) : Hj t := jC Bn t
set_option maxHeartbeats 4000000 in
set_option maxRecDepth 100000 in
theorem Ev (t : TN) (G : Nat -> Prop) (w : World) (a : Option Addr) (c : Nat) (hpre : He t) (hwd : ∀ lb, w.heap.size <= lb -> WdT lb w) (hr : aG G w a t.ks) :
 Calls Tryz.prog 101 #[bW t.op t.nm t.n a t.ks.len c, .func (.func 102) #[] #[]] w fun e w' => Below w.heap.size w w' /\
  (aM t <= 32 -> ∃ v, e = .returned (.tuple #[v, .bool true]) /\ lQ (fun b => w.heap.size <= b) w' t v) /\ (¬ aM t <= 32 -> e = .returned (.tuple #[.string ⟨#[]⟩, .bool false])) := by
 have BA := (Below.refl w.heap.size w).alloc (Nat.le_refl _) (ndG t.op t.nm t.n a t.ks.len c);have NB := heap_alloc_new w (ndG t.op t.nm t.n a t.ks.len c);have hs0 : (w.alloc (ndG t.op t.nm t.n a t.ks.len c)).heap.size = w.heap.size + 1 := World.size_alloc _ _;generalize hW : w.alloc (ndG t.op t.nm t.n a t.ks.len c) = W at BA NB hs0;have BB := (Below.refl W.heap.size W).alloc (Nat.le_refl _) (.cells #[.int .i64 32] 3);have NC := heap_alloc_new W (.cells #[.int .i64 32] 3);have hs1 : (W.alloc (.cells #[.int .i64 32] 3)).heap.size = w.heap.size + 2 := by rw [World.size_alloc]; omega
 generalize hV : W.alloc (.cells #[.int .i64 32] 3) = V at BB NC hs1;rw [hs0] at NC;have BV := BA.trans (BB.mono (by omega));have N2 := (BB.block w.heap.size (by omega)).trans NB;have hGlt := hr.imp (H := fun b => G b /\ b < w.heap.size) (fun b hb hg => ⟨hg, hb⟩);have CF := aA (Ew t (fun b => G b /\ b < w.heap.size) (w.heap.size + 1) V a c 32 (by omega) hpre (fun b hg => by omega) (wdT (hwd (w.heap.size + 1) (by omega)) (aE BV (fun _ => False) |>.mono (fun _ h _ => h.elim) : aF (· = w.heap.size + 1) w V)) (hGlt.keptS (aE BV (fun _ => False)) (fun _ h => h.elim)) NC);have HW := aA hW;have HV := aA hV;have HB := aA BV;obtain ⟨⟨m0, m1, m2, m3⟩, -⟩ := aK N2;clear hW hV BA NB BB NC BV N2 hGlt hr hpre hwd
 go_enter Tryz.func101, Tryz.ntmps101
 go_upto_region 1 with fail
 rw [HW.out]
 go_upto_region 2 with fail
 rw [HV.out]
 go_wp2_with fail
 refine CF.out.mono ?_;rintro e w2 ⟨k2, hA, -, hB⟩;have B2 := aA (HB.out.trans (aF.below k2 (B := w.heap.size) (fun q hq => by omega) (by omega)))
 by_cases h32 : aM t <= 32
 · obtain ⟨v, rfl, hv⟩ := hA h32
   have HR := aA (jV hv (H := fun b => w.heap.size <= b) (fun b _ hg => by omega));have H32 := aA h32;clear k2 hA hB hv h32 CF m0 m1 m2 m3
   go_wp2_with fail
   go_ret2;exact ⟨B2.out, fun _ => ⟨v, rfl, HR.out⟩, fun h => absurd H32.out h⟩
 · obtain rfl := hB h32
   have H32 := aA h32;clear k2 hA hB h32 CF m0 m1 m2 m3
   go_wp2_with fail
   go_ret2;exact ⟨B2.out, fun h => absurd h H32.out, fun _ => rfl⟩
end
section
open Go.RowKit
set_option maxHeartbeats 4000000 in
theorem fX (t : TN) (G : Nat -> Prop) (w : World) (a : Option Addr) (c : Nat) (hS : SzF t.f) (hr : aG G w a t.ks) :
 Calls Tryz.prog 96 #[bW t.op t.nm t.n a t.ks.len c] w fun e w' => e = .returned (.int .i64 (aI t)) /\ Below w.heap.size w w' := by
 have BA := (Below.refl w.heap.size w).alloc (Nat.le_refl _) (ndG t.op t.nm t.n a t.ks.len c);have NB := heap_alloc_new w (ndG t.op t.nm t.n a t.ks.len c);have CF := Ey t G (w.alloc (ndG t.op t.nm t.n a t.ks.len c)) a c hS (fun _ _ => trivial) (hr.kept BA);have hz : w.heap.size <= (w.alloc (ndG t.op t.nm t.n a t.ks.len c)).heap.size := BA.size;generalize hW : w.alloc (ndG t.op t.nm t.n a t.ks.len c) = W at BA NB CF hz;have HCF := aA CF;have HB := aA BA;have HW := aA hW;have HI := aA (CU t);obtain ⟨⟨m0, m1, m2, m3⟩, -⟩ := aK NB;clear hW BA NB CF hr hS
 go_enter Tryz.func96, Tryz.ntmps96
 go_upto_region 1 with fail
 rw [HW.out]
 go_wp2_with fail
 refine HCF.out.mono ?_;rintro e w2 ⟨hb, hA, hB⟩;have B2 := aA (HB.out.trans (hb.mono hz))
 by_cases h32 : aM t <= 32
 · obtain ⟨v, rfl, hv⟩ := hA h32
   unfold lR at hv;subst hv;have E := aA (show aI t = aU t.f by unfold aI; rw [if_neg (fun h => by have := HI.out.1 h; omega)]);clear hb hA hB h32
   go_wp2_with fail
   go_ret;rw [E.out];exact ⟨rfl, B2.out⟩
 · obtain rfl := hB h32
   have E := aA (show aI t = 4 by unfold aI; rw [if_pos (HI.out.2 (by omega))]);clear hb hA hB h32
   go_wp2_with fail
   go_ret;rw [E.out];exact ⟨rfl, B2.out⟩
set_option maxHeartbeats 4000000 in
theorem mO (t : TN) (G : Nat -> Prop) (w : World) (a : Option Addr) (c : Nat) (ho : OkT t) (hn : dU t.f) (hs : aM t <= 32) (hl : jI w) (hr : aG G w a t.ks) :
 Calls Tryz.prog 52 #[bW t.op t.nm t.n a t.ks.len c] w fun e w' => e = .returned (.string ⟨(bI t).toArray⟩) /\ Below w.heap.size w w' := by
 have BA := (Below.refl w.heap.size w).alloc (Nat.le_refl _) (ndG t.op t.nm t.n a t.ks.len c);have NB := heap_alloc_new w (ndG t.op t.nm t.n a t.ks.len c)
 have LT : jI (w.alloc (ndG t.op t.nm t.n a t.ks.len c)) := by
  obtain ⟨t', f, h1⟩ := hl;exact ⟨t', f, (BA.block _ (Array.getElem?_eq_some_iff.1 h1).1).trans h1⟩
 have CF := Ev t G (w.alloc (ndG t.op t.nm t.n a t.ks.len c)) a c ⟨AV t ho hn, by have := yG t ho hn; omega⟩ (fun lb hlb => ⟨LT, fun e => by
  obtain ⟨t', f, h1⟩ := LT;have := (Array.getElem?_eq_some_iff.1 h1).1;omega⟩) (hr.kept BA)
 have hz : w.heap.size <= (w.alloc (ndG t.op t.nm t.n a t.ks.len c)).heap.size := BA.size;generalize hW : w.alloc (ndG t.op t.nm t.n a t.ks.len c) = W at BA NB CF hz LT;have HCF := aA CF;have HB := aA BA;have HW := aA hW;have H32 := aA hs;obtain ⟨⟨m0, m1, m2, m3⟩, -⟩ := aK NB;clear hW BA NB CF hr hs LT hl ho hn
 go_enter Tryz.func52, Tryz.ntmps52
 go_upto_region 1 with fail
 rw [HW.out]
 go_wp2_with fail
 refine HCF.out.mono ?_;rintro e w2 ⟨hb, hA, -⟩;have B2 := aA (HB.out.trans (hb.mono hz));obtain ⟨v, rfl, hv⟩ := hA H32.out;unfold lQ at hv;subst hv;clear hb hA
 go_wp2_with fail
 go_ret;exact ⟨rfl, B2.out⟩
end
section
open Go.RowKit
def Hk (t : TN) : Prop := ∀ (G : Nat -> Prop) (lb : Nat) (w : World) (a : Option Addr) (c l : Nat), l <= 1000 -> BR t -> (∀ b, G b -> b ≠ lb) -> WdL lb w -> aG G w a t.ks -> w.heap[lb]? = some (.cells #[.int .i64 l] 3 (0, 0)) ->
 Calls Tryz.prog 148 #[.pointer (some ⟨lb, 0, none⟩), bW t.op t.nm t.n a t.ks.len c, .func (.func 104) #[] #[]] w fun e w' => aF (· = lb) w w' /\
  (aM t <= l -> ∃ v, e = .returned (.tuple #[v, .bool true]) /\ lL (fun b => w.heap.size <= b) w' t v) /\
  (aM t <= l -> w'.heap[lb]? = some (.cells #[.int .i64 ((l - aM t : Nat) : Int)] 3 (0, 0))) /\
  (¬ aM t <= l -> e = .returned (.tuple #[.slice none 0 0, .bool false]))
set_option maxHeartbeats 8000000 in
set_option maxRecDepth 100000 in
theorem Bo (t : TN) (ih : dM Hk t.ks) : Hk t := by
 intro G lb w a c l hl hpre hG hwd hr hlb;obtain ⟨i0, hi, hz0, hz1, hz2⟩ := info_parts Kn;have und : Tryz.prog.underlying 215 = some (.slice 23) := Tryz.underlying215;have hlt := (Array.getElem?_eq_some_iff.1 hlb).1;have IH := aA ih;have R := aA hr;have PRE := aA hpre;have HG := aA hG;have WD := aA hwd;have BA := (Below.refl w.heap.size w).alloc (Nat.le_refl _) (ndG t.op t.nm t.n a t.ks.len c);have NB := heap_alloc_new w (ndG t.op t.nm t.n a t.ks.len c);have LB1 := (BA.block lb hlt).trans hlb;have hs0 : (w.alloc (ndG t.op t.nm t.n a t.ks.len c)).heap.size = w.heap.size + 1 := World.size_alloc _ _;generalize hW : w.alloc (ndG t.op t.nm t.n a t.ks.len c) = W at BA NB LB1 hs0;have HW := aA hW;have hsize : aM t = 1 + bK t.ks := rfl;have hlen := j0 t.ks;have K1 := (aE BA (· = lb)).setCell (p := ⟨lb, 0, none⟩) (.inl rfl) (.int .i64 ((l : Int) - 1));have LB2 := wN LB1 (.int .i64 ((l : Int) - 1));have NB2 := ((aF.refl (· = lb) W).setCell (p := ⟨lb, 0, none⟩) (.inl rfl) (.int .i64 ((l : Int) - 1))).heap NB (by omega);have hs1 : (W.setCell ⟨lb, 0, none⟩ (.int .i64 ((l : Int) - 1))).heap.size = w.heap.size + 1 := by rw [World.size_setCell]; exact hs0
 obtain ⟨lc, lf⟩ := fN LB1
 by_cases hstop : (l : Int) - 1 < (t.ks.len : Int)
 · have P := aA (show ¬ aM t <= l by omega)
   generalize hV : W.setCell ⟨lb, 0, none⟩ (.int .i64 ((l : Int) - 1)) = V at K1 LB2 NB2 hs1;have HV := aA hV;obtain ⟨lc2, -⟩ := fN LB2;obtain ⟨⟨m0, m1, m2, m3⟩, -⟩ := aK NB2;have HK1 := aA K1;clear hr hpre hG ih hwd hlb hW hV K1 LB1 LB2 NB NB2 BA hsize
   go_enter Tryz.func148, Tryz.ntmps148
   go_upto_region 2 with fail
   rw [HW.out]
   go_upto_region 3 with fail
   rw [HV.out]
   go_wp2_with (go_quiet (fail))
   go_ret2;exact ⟨HK1.out.drewN _, fun h => absurd h P.out, fun h => absurd h P.out, fun _ => rfl⟩
 · obtain ⟨l', rfl⟩ : ∃ l', l = l' + 1 := ⟨l - 1, by omega⟩
   have hcast : (((l' + 1 : Nat) : Int) - 1) = (l' : Int) := by omega
   rw [hcast] at K1 LB2 NB2 hs1 hstop;generalize hV : W.setCell ⟨lb, 0, none⟩ (.int .i64 (l' : Int)) = V at K1 LB2 NB2 hs1;have HV := aA hV;obtain ⟨lc2, -⟩ := fN LB2;obtain ⟨⟨m0, m1, m2, m3⟩, -⟩ := aK NB2;have HK1 := aA K1;have HLB := aA LB2;have HNB := aA NB2;have hll : t.ks.len <= l' := by omega
   have b9 : ¬ (l' : Int) < (t.ks.len : Int) := hstop;clear hr hpre hG ih hwd hlb hW hV K1 LB1 LB2 NB NB2 BA hstop hcast
   go_enter Tryz.func148, Tryz.ntmps148
   go_upto_region 2 with fail
   rw [HW.out]
   go_upto_region 3 with fail
   rw [HV.out]
   go_upto_region 5 with (go_quiet (fail))
   have HK2 := aA (HK1.out.drewN nq);have HLB2 := aA (show (V.drewN nq).heap[lb]? = _ from HLB.out);have HNB2 := aA (show (V.drewN nq).heap[w.heap.size]? = _ from HNB.out);have hsV : (V.drewN nq).heap.size = w.heap.size + 1 := hs1;have n3 : (V.drewN nq).cell? ⟨w.heap.size, 3, none⟩ = some (.slice a t.ks.len c) := m3;generalize V.drewN nq = U at HK2 HLB2 HNB2 hsV n3 |-
   clear m0 m1 m2 m3 lc lf lc2 HW HV HK1 HLB HNB
   go_wp2_with fail
   go_loopw [9, 30] (fun kv i wr => ∃ (k x : Nat) (va : Option Addr) (vc : Nat) (vs : List Value), kv = .slice va k vc /\ i = .int .i64 k /\ k <= t.ks.len /\ x + bK t.ks = l' + bK (t.ks.drop k) /\ Hid (wr.ownsRow (w.heap.size + 1) 23 1 (.slice va k vc) k vs) /\
    Hid (∀ j t2, j < k -> t.ks.at j = some t2 -> ∃ v, vs[j]? = some v /\ lL (fun b => w.heap.size + 1 <= b /\ (Value.slice va k vc).ownBlock ≠ some b) wr t2 v) /\ Hid (wr.heap[lb]? = some (.cells #[.int .i64 x] 3 (0, 0))) /\ Hid (aF (· = lb) w wr) /\ Hid (wr.heap[w.heap.size]? = some (ndG t.op t.nm t.n a t.ks.len c))) (fun _ i _ => t.ks.len - (intOf i).toNat)
   case atStart => exact ⟨0, l', none, 0, [], rfl, rfl, Nat.zero_le _, by rw [F.drop_zero], aA (World.ownsRow_nil _ _ _ _), aA (fun _ _ h => absurd h (Nat.not_lt_zero _)), HLB2, HK2, HNB2⟩
   case round =>
    obtain ⟨k, x, va, vc, vs, rfl, rfl, hk, hx, hO, hV, hL, hK, hN⟩ := hrel;clear n3;obtain ⟨⟨m0, m1, m2, m3⟩, -⟩ := aK hN.out;have hz := hK.out.size
    by_cases hkl : k < t.ks.len
    · obtain ⟨t2, hat, -⟩ := cW hkl
      have hsd := jS hat;have hdl := eR t.ks k;obtain ⟨b, off, a2, c2, ha, hGb, hbl, ⟨p0, p1, p2, p3⟩, hr2⟩ := cD (R.out.keptS hK.out (fun q hq hg => HG.out q hg hq)) hat;subst ha;have hN1 : w.heap.size < wr.heap.size := (Array.getElem?_eq_some_iff.1 hN.out).1;have BA := (Below.refl wr.heap.size wr).alloc (Nat.le_refl _) (ndG t2.op t2.nm t2.n a2 t2.ks.len c2);have NB := heap_alloc_new wr (ndG t2.op t2.nm t2.n a2 t2.ks.len c2);have hs2 : (wr.alloc (ndG t2.op t2.nm t2.n a2 t2.ks.len c2)).heap.size = wr.heap.size + 1 := World.size_alloc _ _;generalize hX : wr.alloc (ndG t2.op t2.nm t2.n a2 t2.ks.len c2) = Z at BA NB hs2;have HX := aA hX;have CF := aA ((dM.at IH.out hat) G lb Z a2 c2 x (by omega) (Kf PRE.out hat) HG.out (wdL WD.out (hK.out.trans (aE BA (· = lb)) (fun _ h _ => h))) (hr2.kept BA) ((BA.block lb (by omega)).trans hL.out));have HAT := aA hat;have HBA := aA BA;have OZ := aA (bH hO.out BA);obtain ⟨⟨z0, z1, z2, z3⟩, -⟩ := aK NB;clear hX BA NB hr2 hat hGb
      go_upto_region 9 with fail
      rw [HX.out];clear p0 p1 p2 p3 m0 m1 m2 m3
      go_wp2_with fail
      refine CF.out.mono ?_;rintro e w2 ⟨k2, hA1, hA2, hB⟩;have hzk2 := k2.size;have K2 := aA (hK.out.trans ((aE HBA.out (· = lb)).trans k2 (fun _ h _ => h)) (fun _ h _ => h));have N2 := aA (k2.heap ((HBA.out.block w.heap.size (by omega)).trans hN.out) (by omega))
      by_cases hfit : aM t2 <= x
      · obtain ⟨v, rfl, hv⟩ := hA1 hfit
        obtain ⟨za, zn, zc, rfl⟩ := Jp hv;have L2 := aA (hA2 hfit);have O2 := aA (dO (row := some lb) OZ.out (k2.mono (fun i hi _ => by rw [hi])) (fun q hq e => by have := (OZ.out.lt q hq).1; have := Option.some.inj e; omega));have HVV := aA hv;have hx2 : (x - aM t2) + bK t.ks = l' + bK (t.ks.drop (k + 1)) := by omega
        have hksz : k + 1 <= 1000 := by omega
        have vone : ∀ u ∈ [(Value.slice za zn zc)], u.oneCell' = true := fun u hu => by rw [List.mem_singleton.1 hu]; exact Ky hv
        clear CF hA1 hA2 hB hv hfit z0 z1 z2 z3
        go_upto_region 12 with fail
        have BN := (Below.refl w2.heap.size w2).alloc (Nat.le_refl _) (.cells #[(Value.slice za zn zc)] 23)
        have F2 := aA (show ∀ j u, [(Value.slice za zn zc)][j]? = some u -> (w2.alloc (.cells #[(Value.slice za zn zc)] 23)).cell? ((⟨w2.heap.size, 0, none⟩ : Addr).add j) = some u from fun j u hj => by
         rw [Addr.add_lit, Nat.zero_add, cell_of_row _ _ _ _ _ (0, 0) (heap_alloc_new w2 _)];simpa using hj)
        have HBN := aA BN;clear BN
        go_wp2_with (at_builtin; refine aQ rfl _ _ 215 rfl und hi hz0 hz1 hz2 rfl (by decide) (.slice va k vc) k 1 1 ⟨w2.heap.size, 0, none⟩ vs [(Value.slice za zn zc)] rfl rfl (bH O2.out HBN.out) rfl F2.out vone (by unfold maxLen; omega) (by omega) (by rw [World.size_alloc]; omega) ?_)
        intro v3 w3 ho hg hq;obtain ⟨va3, vc3, rfl⟩ := eX ho;have kg : aF (fun b => (Value.slice va k vc).ownBlock = some b) w2 w3 := ((aF.refl _ w2).alloc _).grown hg (fun q hq => .inl hq);have hov : ∀ q, (Value.slice va k vc).ownBlock = some q -> w.heap.size + 1 <= q /\ q < w2.heap.size := fun q hq => by have := O2.out.lt q hq; omega
        have O3 := aA ho;have L3 := aA (kg.heap L2.out (fun e => by have := hov lb e; omega));have K3 := aA (K2.out.trans (kg.mono (T := fun b => w.heap.size + 1 <= b) (fun i hi _ => (hov i hi).1)) (fun i hi hlt => by omega));have N3 := aA (kg.heap N2.out (fun e => by have := hov _ e; omega))
        have hnewb : ∀ b, b < w2.heap.size -> (Value.slice va k vc).ownBlock ≠ some b -> (Value.slice va3 (k + 1) vc3).ownBlock ≠ some b := fun b hb hne e => by
         rcases hq b e with h1 | h1
         · exact hne h1
         · omega
        have V3 := aA (show ∀ j t3, j < k + 1 -> t.ks.at j = some t3 -> ∃ u, (vs ++ [(Value.slice za zn zc)])[j]? = some u /\ lL (fun b => w.heap.size + 1 <= b /\ (Value.slice va3 (k + 1) vc3).ownBlock ≠ some b) w3 t3 u from fun j t3 hj hjt => by
         have hvl : vs.length = k := by have := hO.out.1; rwa [Nat.mul_one] at this
         by_cases hjk : j < k
         · obtain ⟨u, hu, hru⟩ := hV.out j t3 hjk hjt
           refine ⟨u, by rw [List.getElem?_append_left (by omega)]; exact hu, ?_⟩;have r1 := iN (iN hru (aE HBA.out (fun _ => False)) (fun _ h => h.elim)) k2 (fun q hq hg => by have := hg.1; omega);have r2 := jW (H := fun b => (w.heap.size + 1 <= b /\ (Value.slice va k vc).ownBlock ≠ some b) /\ (Value.slice va3 (k + 1) vc3).ownBlock ≠ some b) r1 (fun b hb hg => ⟨hg, hnewb b hb hg.2⟩);exact jW (iN r2 kg (fun q hq hg => hg.1.2 hq)) (fun b hb hg => ⟨hg.1.1, hg.2⟩)
         · obtain rfl : j = k := by omega
           have : t3 = t2 := by rw [HAT.out] at hjt; exact (Option.some.inj hjt).symm
           subst this;refine ⟨_, by rw [List.getElem?_append_right (by omega), hvl, Nat.sub_self]; rfl, ?_⟩
           have r2 := jW (H := fun b => (w.heap.size + 1 <= b /\ (Value.slice va j vc).ownBlock ≠ some b) /\ (Value.slice va3 (j + 1) vc3).ownBlock ≠ some b) HVV.out (fun b hb hg => by
            have hne : (Value.slice va j vc).ownBlock ≠ some b := fun e => by have := (OZ.out.lt b e).2; omega
            exact ⟨⟨by omega, hne⟩, hnewb b hb hne⟩)
           exact jW (iN r2 kg (fun q hq hg => hg.1.2 hq)) (fun b hb hg => ⟨hg.1.1, hg.2⟩))
        clear ho hg hq kg hov hnewb
        go_wp2_with fail
        go_roundw
        case rel => exact ⟨k + 1, x - aM t2, va3, vc3, vs ++ [(Value.slice za zn zc)], rfl, by go_num, by omega, hx2, O3, V3, L3, K3, N3⟩
        case measure => simp [intOf]; omega
      · obtain rfl := hB hfit
        have P := aA (show ¬ aM t <= l' + 1 by omega);clear CF hA1 hA2 hB hfit z0 z1 z2 z3
        go_wp2_with fail
        go_ret2;exact ⟨K2.out, fun h => absurd h P.out, fun h => absurd h P.out, fun _ => rfl⟩
    · obtain rfl : k = t.ks.len := by omega
      have hx2 : x + bK t.ks = l' := by rw [hx, F.drop_len _ _ (Nat.le_refl _)]; rfl
      have CO := aA (Is t wr G a c va vc vs (w.heap.size + 1) PRE.out (wdL WD.out hK.out) (R.out.keptS hK.out (fun q hq hg => HG.out q hg hq)) hO.out (fun j t2 hj => hV.out j t2 (G7 hj) hj))
      go_wp2_with fail
      refine CO.out.mono ?_;rintro e w2 ⟨v, rfl, hv, hb⟩
      have P := aA (show aF (· = lb) w w2 /\ lL (fun b => w.heap.size <= b) w2 t v /\ w2.heap[lb]? = some (.cells #[.int .i64 ((l' + 1 - aM t : Nat) : Int)] 3 (0, 0)) /\ aM t <= l' + 1 from
       ⟨hK.out.trans (aE hb (· = lb)) (fun _ h _ => h), jW hv (fun b _ hg => by omega), by rw [hb.block lb (by omega), hL.out, show x = l' + 1 - aM t by omega], by omega⟩)
      clear hv hb CO m0 m1 m2 m3
      go_wp2_with fail
      go_ret2;exact ⟨P.out.1, fun _ => ⟨v, rfl, P.out.2.1⟩, fun _ => P.out.2.2.1, fun h => absurd P.out.2.2.2 h⟩
theorem Ex (t : TN) : Hk t := jC Bo t
set_option maxHeartbeats 4000000 in
set_option maxRecDepth 100000 in
theorem vH (t : TN) (G : Nat -> Prop) (w : World) (a : Option Addr) (c : Nat) (hpre : BR t) (hwd : ∀ lb, w.heap.size <= lb -> WdL lb w) (hr : aG G w a t.ks) :
 Calls Tryz.prog 103 #[bW t.op t.nm t.n a t.ks.len c, .func (.func 104) #[] #[]] w fun e w' => Below w.heap.size w w' /\
  (aM t <= 32 -> ∃ v, e = .returned (.tuple #[v, .bool true]) /\ lL (fun b => w.heap.size <= b) w' t v) /\ (¬ aM t <= 32 -> e = .returned (.tuple #[.slice none 0 0, .bool false])) := by
 have BA := (Below.refl w.heap.size w).alloc (Nat.le_refl _) (ndG t.op t.nm t.n a t.ks.len c);have NB := heap_alloc_new w (ndG t.op t.nm t.n a t.ks.len c);have hs0 : (w.alloc (ndG t.op t.nm t.n a t.ks.len c)).heap.size = w.heap.size + 1 := World.size_alloc _ _;generalize hW : w.alloc (ndG t.op t.nm t.n a t.ks.len c) = W at BA NB hs0;have BB := (Below.refl W.heap.size W).alloc (Nat.le_refl _) (.cells #[.int .i64 32] 3);have NC := heap_alloc_new W (.cells #[.int .i64 32] 3);have hs1 : (W.alloc (.cells #[.int .i64 32] 3)).heap.size = w.heap.size + 2 := by rw [World.size_alloc]; omega
 generalize hV : W.alloc (.cells #[.int .i64 32] 3) = V at BB NC hs1;rw [hs0] at NC;have BV := BA.trans (BB.mono (by omega));have N2 := (BB.block w.heap.size (by omega)).trans NB;have hGlt := hr.imp (H := fun b => G b /\ b < w.heap.size) (fun b hb hg => ⟨hg, hb⟩);have CF := aA (Ex t (fun b => G b /\ b < w.heap.size) (w.heap.size + 1) V a c 32 (by omega) hpre (fun b hg => by omega) (wdL (hwd (w.heap.size + 1) (by omega)) (aE BV (fun _ => False) |>.mono (fun _ h _ => h.elim) : aF (· = w.heap.size + 1) w V)) (hGlt.keptS (aE BV (fun _ => False)) (fun _ h => h.elim)) NC);have HW := aA hW;have HV := aA hV;have HB := aA BV;obtain ⟨⟨m0, m1, m2, m3⟩, -⟩ := aK N2;clear hW hV BA NB BB NC BV N2 hGlt hr hpre hwd
 go_enter Tryz.func103, Tryz.ntmps103
 go_upto_region 1 with fail
 rw [HW.out]
 go_upto_region 2 with fail
 rw [HV.out]
 go_wp2_with fail
 refine CF.out.mono ?_;rintro e w2 ⟨k2, hA, -, hB⟩;have B2 := aA (HB.out.trans (aF.below k2 (B := w.heap.size) (fun q hq => by omega) (by omega)))
 by_cases h32 : aM t <= 32
 · obtain ⟨v, rfl, hv⟩ := hA h32
   have HR := aA (jW hv (H := fun b => w.heap.size <= b) (fun b _ hg => by omega));have H32 := aA h32;clear k2 hA hB hv h32 CF m0 m1 m2 m3
   go_wp2_with fail
   go_ret2;exact ⟨B2.out, fun _ => ⟨v, rfl, HR.out⟩, fun h => absurd H32.out h⟩
 · obtain rfl := hB h32
   have H32 := aA h32;clear k2 hA hB h32 CF m0 m1 m2 m3
   go_wp2_with fail
   go_ret2;exact ⟨B2.out, fun h => absurd h H32.out, fun _ => rfl⟩
end
section
open Go.RowKit
set_option maxHeartbeats 4000000 in
theorem Fh (x y : TN) (qa qb : Option Addr × Nat) (w : World) :
 Calls Tryz.prog 106 #[bW x.op x.nm x.n qa.1 x.ks.len qa.2, bW y.op y.nm y.n qb.1 y.ks.len qb.2] w fun e w' => e = .returned (.bool (lK x y)) /\ Below w.heap.size w w' := by
 have BA := aA (((Below.refl w.heap.size w).alloc (Nat.le_refl _) (ndG x.op x.nm x.n qa.1 x.ks.len qa.2)).alloc (by rw [World.size_alloc]; omega) (ndG y.op y.nm y.n qb.1 y.ks.len qb.2));unfold lK;rw [<- Lib.toList_data, <- Lib.toList_data];cases h0 : (x.op.toList == y.op.toList) with
 | false =>
   have b0 : (x.op.toList != y.op.toList) = true := by rw [bne, h0]; rfl
   rw [Bool.false_and]
   go_enter Tryz.func106, Tryz.ntmps106
   go_wp2_with fail
   go_ret;exact ⟨rfl, BA.out⟩
 | true =>
   have b0 : (x.op.toList != y.op.toList) = false := by rw [bne, h0]; rfl
   rw [Bool.true_and];cases h1 : bM x.op with
   | true =>
     have g1 := bV h1;unfold lJ at g1;rw [if_pos rfl];clear h1
     go_enter Tryz.func106, Tryz.ntmps106
     go_wp2_with fail
     go_ret;exact ⟨rfl, BA.out⟩
   | false =>
     have g1 := aH h1;unfold lJ at g1;rw [if_neg (by decide)];cases h2 : bE x.op with
     | true =>
       have g2 := bV h2;unfold gW at g2;rw [if_pos rfl, <- Lib.toList_data, <- Lib.toList_data];clear h1 h2
       go_enter Tryz.func106, Tryz.ntmps106
       go_wp2_with fail
       go_ret;exact ⟨rfl, BA.out⟩
     | false =>
       have g2 := aH h2;unfold gW at g2;rw [if_neg (by decide)]
       have E := aA (show ((x.ks.len : Int) == (y.ks.len : Int)) = (x.ks.len == y.ks.len) by
        by_cases h : x.ks.len = y.ks.len
        · rw [h, beq_self_eq_true, beq_self_eq_true]
        · have : (x.ks.len : Int) ≠ y.ks.len := by omega
          rw [beq_eq_false_iff_ne.2 h, beq_eq_false_iff_ne.2 this])
       clear h1 h2
       go_enter Tryz.func106, Tryz.ntmps106
       go_wp2_with fail
       go_ret;exact ⟨congrArg (fun b => Ending.returned (.bool b)) E.out, BA.out⟩
theorem Co : ∀ (l : List TN) (q : List (Option Addr × Nat)) {k : Nat} (_ : q.length = l.length) (hk : k < l.length), ∃ p, q[k]? = some p /\ ∀ i u, (ndL l[k] p)[i]? = some u -> i < 4 -> (dW l q)[k * 4 + i]? = some u
 | [], _, _, _, hk => by simp at hk
 | _ :: _, [], _, h, _ => by simp at h
 | t :: r, q :: s, 0, _, _ => ⟨q, rfl, fun i u hu hi => by
     rw [dW, Nat.zero_mul, Nat.zero_add, List.getElem?_append_left (by exact hi)]; exact hu⟩
 | t :: r, q :: s, k + 1, h, hk => by
   obtain ⟨p, h1, h2⟩ := Co r s (k := k) (by simpa using h) (by simpa using hk);refine ⟨p, h1, fun i u hu hi => ?_⟩;rw [dW, List.getElem?_append_right (by show 4 <= _; omega), show (k + 1) * 4 + i - (ndL t q).length = k * 4 + i by show (k + 1) * 4 + i - 4 = _; omega];exact h2 i u hu hi
def qU (w : World) (b off : Nat) (l : List TN) : Prop := b < w.heap.size /\ ∃ qs : List (Option Addr × Nat), qs.length = l.length /\ ∀ j u, (dW l qs)[j]? = some u -> w.cell? ⟨b, off + j, none⟩ = some u
theorem qU.below {w w' : World} {b off : Nat} {l : List TN} (h : qU w b off l) (hb : Below w.heap.size w w') : qU w' b off l :=
 ⟨Nat.lt_of_lt_of_le h.1 hb.size, h.2.imp fun _ hq => ⟨hq.1, fun j u hj => (hb.cell (p := ⟨b, off + j, none⟩) h.1).trans (hq.2 j u hj)⟩⟩
theorem qU.node {w : World} {b off : Nat} {l : List TN} (h : qU w b off l) {k : Nat} (hk : k < l.length) : ∃ p : Option Addr × Nat, w.cell? ⟨b, off + k * 4, none⟩ = some (.string l[k].op) /\ w.cell? ⟨b, off + k * 4 + 1, none⟩ = some (.string l[k].nm) /\ w.cell? ⟨b, off + k * 4 + 2, none⟩ = some (.int .i64 l[k].n) /\ w.cell? ⟨b, off + k * 4 + 3, none⟩ = some (.slice p.1 l[k].ks.len p.2) := by
 obtain ⟨hb, qs, hq, hc⟩ := h;obtain ⟨p, _, h2⟩ := Co l qs hq hk;exact ⟨p, hc (k * 4) _ (h2 0 _ rfl (by omega)), hc (k * 4 + 1) _ (h2 1 _ rfl (by omega)), hc (k * 4 + 2) _ (h2 2 _ rfl (by omega)), hc (k * 4 + 3) _ (h2 3 _ rfl (by omega))⟩
theorem all_cons {a b : TN} {x y : List TN} : dI (a :: x) (b :: y) = (lK a b && dI x y) := rfl
theorem G9 : ∀ {x y : List TN}, x.length ≠ y.length -> dI x y = false
 | [], [], h => absurd rfl h
 | [], _ :: _, _ => rfl
 | _ :: _, [], _ => rfl
 | a :: x, b :: y, h => by rw [all_cons, G9 (by simpa using h), Bool.and_false]
set_option maxHeartbeats 8000000 in
theorem jN (la lb : List TN) (b1 o1 c1 b2 o2 c2 : Nat) (hla : la.length <= 1000) (w : World) (h1 : qU w b1 o1 la) (h2 : qU w b2 o2 lb) :
 Calls Tryz.prog 105 #[.slice (some ⟨b1, o1, none⟩) la.length c1, .slice (some ⟨b2, o2, none⟩) lb.length c2, .func (.func 106) #[] #[]] w fun e w' => e = .returned (.bool (dI la lb)) /\ Below w.heap.size w w' := by
 have H1 := aA h1;have H2 := aA h2;have B0 := aA (Below.refl w.heap.size w);clear h1 h2
 by_cases hl : la.length = lb.length
 · have a1 : ((la.length : Int) != (lb.length : Int)) = false := by rw [hl]; simp
   obtain ⟨r, hr⟩ : ∃ r, dI la lb = r := ⟨_, rfl⟩;rw [hr];have HRr := aA hr;have HL := aA hl;have hlb : lb.length <= 1000 := by omega
   clear hr hl
   go_enter Tryz.func105, Tryz.ntmps105
   go_wp2_with fail
   go_loopw [17] (fun i wr => ∃ k : Nat, i = .int .i64 k /\ k <= la.length /\ Hid (dI (la.drop k) (lb.drop k) = r) /\ Hid (Below w.heap.size w wr)) (fun i _ => la.length - (intOf i).toNat)
   case atStart => exact ⟨0, rfl, Nat.zero_le _, HRr, B0⟩
   case round =>
    obtain ⟨k, rfl, hk, hD, hB⟩ := hrel
    by_cases hlt : k < la.length
    · have hlt2 : k < lb.length := by have := HL.out; omega
      obtain ⟨pa, x0, x1, x2, x3⟩ := (H1.out.below hB.out).node hlt;have hz := hB.out.size;have BA1 := (Below.refl wr.heap.size wr).alloc (Nat.le_refl _) (ndG la[k].op la[k].nm la[k].n pa.1 la[k].ks.len pa.2);have NB1 := heap_alloc_new wr (ndG la[k].op la[k].nm la[k].n pa.1 la[k].ks.len pa.2);have hs1 : (wr.alloc (ndG la[k].op la[k].nm la[k].n pa.1 la[k].ks.len pa.2)).heap.size = wr.heap.size + 1 := World.size_alloc _ _;generalize hV : wr.alloc (ndG la[k].op la[k].nm la[k].n pa.1 la[k].ks.len pa.2) = V at BA1 NB1 hs1;have HBV := hB.out.trans (BA1.mono (by omega));obtain ⟨pb, y0, y1, y2, y3⟩ := (H2.out.below HBV).node hlt2;have BA2 := (Below.refl V.heap.size V).alloc (Nat.le_refl _) (ndG lb[k].op lb[k].nm lb[k].n pb.1 lb[k].ks.len pb.2);have NB2 := heap_alloc_new V (ndG lb[k].op lb[k].nm lb[k].n pb.1 lb[k].ks.len pb.2);have hs2 : (V.alloc (ndG lb[k].op lb[k].nm lb[k].n pb.1 lb[k].ks.len pb.2)).heap.size = wr.heap.size + 2 := by rw [World.size_alloc]; omega
      generalize hU : V.alloc (ndG lb[k].op lb[k].nm lb[k].n pb.1 lb[k].ks.len pb.2) = U at BA2 NB2 hs2;rw [hs1] at NB2;have N1 := (BA2.block wr.heap.size (by omega)).trans NB1;have HBU := aA (HBV.trans (BA2.mono (by omega)));have HV := aA hV;have HU := aA hU;have CA := aA (Fh la[k] lb[k] pa pb U);have HD2 := aA (show (lK la[k] lb[k] && dI (la.drop (k + 1)) (lb.drop (k + 1))) = r by rw [<- hD.out, List.drop_eq_getElem_cons hlt, List.drop_eq_getElem_cons hlt2, all_cons]);have a2 : (k : Int) < (la.length : Int) := by omega
      have a3 : (k : Int) < (lb.length : Int) := by omega
      have a4 : (0 : Int) <= (k : Int) := by omega
      have a5 : ((k : Int)).toNat = k := by omega
      generalize la[k] = ta at x0 x1 x2 x3 CA HD2 N1 HV HU;generalize lb[k] = tb at y0 y1 y2 y3 CA HD2 NB2 HU;obtain ⟨⟨m0, m1, m2, m3⟩, -⟩ := aK N1;obtain ⟨⟨n0, n1, n2, n3⟩, -⟩ := aK NB2;obtain ⟨z, hz2⟩ : ∃ z, lK ta tb = z := ⟨_, rfl⟩;rw [hz2] at CA HD2;clear hV hU NB1 NB2 N1 BA1 BA2 HBV hz2
      go_upto_region 6 with fail
      rw [HV.out]
      go_upto_region 7 with fail
      rw [HU.out];clear x0 x1 x2 x3 y0 y1 y2 y3
      go_wp2_with fail
      refine CA.out.mono ?_;rintro e w3 ⟨rfl, hb3⟩;have B3 := aA (HBU.out.trans (hb3.mono (by omega)));clear hb3 CA m0 m1 m2 m3 n0 n1 n2 n3;cases z with
      | true =>
        have D3 := aA (show dI (la.drop (k + 1)) (lb.drop (k + 1)) = r by have := HD2.out; rwa [Bool.true_and] at this)
        go_wp2_with fail
        go_roundw
        case rel => exact ⟨k + 1, by go_num, by omega, D3, B3⟩
        case measure => simp [intOf]; omega
      | false =>
        have D3 := aA (show r = false by have := HD2.out; rw [Bool.false_and] at this; exact this.symm)
        go_wp2_with fail
        go_ret;rw [D3.out];exact ⟨rfl, B3.out⟩
    · obtain rfl : k = la.length := by omega
      have D3 := aA (show r = true by rw [<- hD.out, List.drop_of_length_le (Nat.le_refl _), List.drop_of_length_le (by rw [HL.out]; exact Nat.le_refl _)]; rfl)
      go_wp2_with fail
      go_ret;rw [D3.out];exact ⟨rfl, hB.out⟩
 · have a1 : ((la.length : Int) != (lb.length : Int)) = true := by rw [bne_iff_ne]; omega
   rw [G9 hl]
   go_enter Tryz.func105, Tryz.ntmps105
   go_wp2_with fail
   go_ret;exact ⟨rfl, B0.out⟩
theorem lL.lst {G : Nat -> Prop} {w : World} {t : TN} {v : Value} (h : lL G w t v) : ∃ b off c, v = .slice (some ⟨b, off, none⟩) (bN t.f).length c /\ qU w b off (bN t.f) := by
 obtain ⟨b, off, c, qs, h1, _, h3, h4, h5⟩ := h.h;exact ⟨b, off, c, h1, h3, qs, h4, h5⟩
set_option maxHeartbeats 8000000 in
theorem mP (x y : TN) (G G' : Nat -> Prop) (w : World) (a a' : Option Addr) (c c' : Nat) (hx : OkT x) (hnx : dU x.f) (hsx : aM x <= 32) (hy : OkT y) (hny : dU y.f) (hsy : aM y <= 32) (hrx : aG G w a x.ks) (hry : aG G' w a' y.ks) :
 Calls Tryz.prog 54 #[bW x.op x.nm x.n a x.ks.len c, bW y.op y.nm y.n a' y.ks.len c'] w fun e w' => e = .returned (.bool (dH x y)) /\ Below w.heap.size w w' := by
 have BA := (Below.refl w.heap.size w).alloc (Nat.le_refl _) (ndG x.op x.nm x.n a x.ks.len c);have NB := heap_alloc_new w (ndG x.op x.nm x.n a x.ks.len c);have hs0 : (w.alloc (ndG x.op x.nm x.n a x.ks.len c)).heap.size = w.heap.size + 1 := World.size_alloc _ _;generalize hV : w.alloc (ndG x.op x.nm x.n a x.ks.len c) = V at BA NB hs0;have BB := (Below.refl V.heap.size V).alloc (Nat.le_refl _) (ndG y.op y.nm y.n a' y.ks.len c');have NC := heap_alloc_new V (ndG y.op y.nm y.n a' y.ks.len c');have hs1 : (V.alloc (ndG y.op y.nm y.n a' y.ks.len c')).heap.size = w.heap.size + 2 := by rw [World.size_alloc]; omega
 generalize hU : V.alloc (ndG y.op y.nm y.n a' y.ks.len c') = U at BB NC hs1;rw [hs0] at NC;have N1 := (BB.block w.heap.size (by omega)).trans NB;have BU := BA.trans (BB.mono (by omega));have PX : BR x := ⟨AV x hx hnx, by omega⟩;have PY : BR y := ⟨AV y hy hny, by omega⟩;have C1 := aA (vH x G U a c PX (fun _ _ => trivial) (hrx.kept BU));have RY := aA (hry.kept BU);have HPY := aA PY;have HS := aA (DC hx hy);have hpl : (bN x.f).length <= 1000 := by have := oO x.f; rw [nW] at this; omega
 have HX := aA hsx;have HY := aA hsy;have HV := aA hV;have HU := aA hU;have HB := aA BU;have HNC := aA NC;obtain ⟨⟨m0, m1, m2, m3⟩, -⟩ := aK N1;clear hV hU BA NB BB NC N1 BU PX PY hx hnx hy hny hrx hry hsx hsy
 go_enter Tryz.func54, Tryz.ntmps54
 go_upto_region 1 with fail
 rw [HV.out, HU.out]
 go_wp2_with fail
 refine C1.out.mono ?_;rintro e w2 ⟨hb2, hA, -⟩;obtain ⟨v, rfl, hv⟩ := hA HX.out;obtain ⟨b1, o1, c1, rfl, L1⟩ := hv.lst;have HL1 := aA L1;have hz2 := hb2.size;have B2 := aA (HB.out.trans (hb2.mono (by omega)));have C2 := aA (vH y G' w2 a' c' HPY.out (fun _ _ => trivial) (RY.out.kept hb2));have N2 := (hb2.block _ (by omega)).trans HNC.out;clear m0 m1 m2 m3;obtain ⟨⟨m0, m1, m2, m3⟩, -⟩ := aK N2;clear hb2 hA hv L1 C1 N2
 go_wp2_with fail
 refine C2.out.mono ?_;rintro e w3 ⟨hb3, hA, -⟩;obtain ⟨v, rfl, hv⟩ := hA HY.out;obtain ⟨b2, o2, c2, rfl, L2⟩ := hv.lst;have hz3 := hb3.size;have B3 := aA (B2.out.trans (hb3.mono (by omega)));have CE := aA (jN (bN x.f) (bN y.f) b1 o1 c1 b2 o2 c2 hpl w3 (HL1.out.below hb3) L2);rw [HS.out] at CE;clear hb3 hA hv L2 C2 m0 m1 m2 m3
 go_wp2_with fail
 refine CE.out.mono ?_;rintro e w4 ⟨rfl, hb4⟩;have B4 := aA (B3.out.trans (hb4.mono (by omega)));clear hb4 CE
 go_wp2_with fail
 go_ret;exact ⟨rfl, B4.out⟩
end
section
open Go.RowKit
def t9 : TN := jJ [43] (d9 [97]) (jJ [42] (sL 2) (t7 (jJ [45] (d9 [98]) (sL 1))))
def mC (w : World) : Prop := gP w /\ jI w
theorem jI.step {w w' : World} (h : jI w) (hb : Below w.heap.size w w') : jI w' := by
 obtain ⟨t, f, h1⟩ := h;exact ⟨t, f, (hb.block _ (Array.getElem?_eq_some_iff.1 h1).1).trans h1⟩
theorem mC.step {w w' : World} (h : mC w) (hb : Below w.heap.size w w') : mC w' := ⟨h.1.step hb, h.2.step hb⟩
structure K9 (w : World) (n : Nat) (a : Option Addr) (c : Nat) (V : World) : Prop where
 b : Below w.heap.size w V
 n : V.heap[n]? = some (ndG ⟨#[43]⟩ ⟨#[]⟩ 0 a 2 c)
 r : bY w.heap.size V a t9.ks
 l : mC V
 z : w.heap.size <= V.heap.size
end
section
open Go.RowKit
def sB (i : Nat) : UInt8 := if i = 0 then 43 else if i = 1 then 45 else if i = 2 then 42 else if i = 3 then 47 else 37
def Jy (i j : Nat) : Bool := decide (i < 2) && decide (2 <= j)
def nR (i j : Nat) : TN := jJ [sB i] (d9 [97]) (jJ [sB j] (d9 [98]) (d9 [99]))
def nL (i j : Nat) : TN := jJ [sB j] (jJ [sB i] (d9 [97]) (d9 [98])) (d9 [99])
def n1 (i j : Nat) : TN := if Jy i j = true then nR i j else nL i j
end
section
open Go.RowKit
abbrev Bd (B b : Nat) (bs : List Value) (w : World) : Prop := Lib.IsBuilder 112 5 B b bs w
end
def oD (o : ByteArray) (a b : Int) : Option Int :=
 if o.data.toList == [43] then some (dB (a + b))
 else if o.data.toList == [45] then some (dB (a - b))
 else if o.data.toList == [42] then some (dB (a * b))
 else if o.data.toList == [47] then (if b = 0 then none else some (dB (a.tdiv b)))
 else (if b = 0 then none else some (a.tmod b))
def evN (g : ByteArray -> Option Int) (o m : ByteArray) (n : Int) (vs : List (Option Int)) : Option Int :=
 if bM o then some n else if bE o then g m else if eZ o then (vs.getD 0 none).map (fun a => dB (0 - a))
 else match vs.getD 0 none, vs.getD 1 none with
  | some a, some b => oD o a b
  | _, _ => none
def evF (g : ByteArray -> Option Int) : F -> List (Option Int)
 | .nil => []
 | .cons o m n ks r => evN g o m n (evF g ks) :: evF g r
def evT (g : ByteArray -> Option Int) (t : TN) : Option Int := evN g t.op t.nm t.n (evF g t.ks)
theorem GQ (g : ByteArray -> Option Int) {o m : ByteArray} {n : Int} {ks : F} (h : bM o = true) : evT g ⟨o, m, n, ks⟩ = some n := by
 unfold evT evN; rw [if_pos h]
theorem Cy (g : ByteArray -> Option Int) {o m : ByteArray} {n : Int} {ks : F} (h : bM o = false) (h2 : bE o = true) : evT g ⟨o, m, n, ks⟩ = g m := by
 unfold evT evN; rw [if_neg (by simp [h]), if_pos h2]
theorem GR (g : ByteArray -> Option Int) {o m : ByteArray} {n : Int} (a : TN) (h : bM o = false) (h2 : bE o = false) (h3 : eZ o = true) : evT g ⟨o, m, n, a.f⟩ = (evT g a).map (fun x => dB (0 - x)) := by
 unfold evT evN; rw [if_neg (by simp [h]), if_neg (by simp [h2]), if_pos h3]; rfl
theorem GO (g : ByteArray -> Option Int) {o m : ByteArray} {n : Int} (a b : TN) (h : bM o = false) (h2 : bE o = false) (h3 : eZ o = false) :
 evT g ⟨o, m, n, .cons a.op a.nm a.n a.ks b.f⟩ = match evT g a, evT g b with | some x, some y => oD o x y | _, _ => none := by
 unfold evT evN; rw [if_neg (by simp [h]), if_neg (by simp [h2]), if_neg (by simp [h3])]; rfl
theorem yE {c b : Int} (h : 0 <= c) : 0 <= c.tmod b /\ c.tmod b <= c := by
 refine ⟨Int.tmod_nonneg b h, ?_⟩;have h1 : (c.tmod b).natAbs <= c.natAbs := by rw [Int.natAbs_tmod]; exact Nat.mod_le _ _
 have h2 := Int.tmod_nonneg b h;omega
theorem Hv {a : Int} (b : Int) (ha : aW a) : aW (a.tmod b) := by
 unfold aW at ha |-
 rcases Int.le_total 0 a with h | h
 · have := yE (b := b) h
   omega
 · have h1 := yE (c := -a) (b := b) (by omega)
   rw [Int.neg_tmod] at h1;omega
theorem G8 {o : ByteArray} {a b v : Int} (ha : aW a) (h : oD o a b = some v) : aW v := by
 unfold oD at h
 split at h
 · cases h; exact kE _
 split at h
 · cases h; exact kE _
 split at h
 · cases h; exact kE _
 split at h
 · split at h
   · cases h
   · cases h; exact kE _
 · split at h
   · cases h
   · cases h; exact Hv b ha
end
end Go.Proofs.YtapcjnoaofmmiaaGreatDoor
