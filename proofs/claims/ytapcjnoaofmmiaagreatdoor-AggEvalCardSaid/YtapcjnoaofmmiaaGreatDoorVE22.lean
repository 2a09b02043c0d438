/-
 No statement: what AggEvalCard needs, of the texts OIter, OAll, OBase, InsL, DelL, SearchL.
-/
import Derived.Test.YtapcjnoaofmmiaaGreatDoorVE21
import Derived.RangeFuncKeeps
namespace Go.Proofs.YtapcjnoaofmmiaaGreatDoor
section
open Go.RowKit Go.Shelf
attribute [local go_sem] Oper.semAt_some
def fY (x : AG) (gs : List (ByteArray -> Option Int)) : List (Int × Int) := gs.filterMap (jC x)
theorem Dy (x : AG) (gs : List (ByteArray -> Option Int)) (g : ByteArray -> Option Int) : fY x (gs ++ [g]) = fY x gs ++ (match jC x g with | none => [] | some q => [q]) := by
 unfold fY;rw [List.filterMap_append]
 congr 1
 simp only [List.filterMap_cons, List.filterMap_nil];cases jC x g <;> rfl
theorem zD (x : AG) {gs : List (ByteArray -> Option Int)} (k : Nat) : fY x (gs.take k) <+: fY x gs := by
 unfold fY;exact ((List.take_prefix k gs).filterMap _)
theorem dB {w w' : World} {a : Option Addr} {rs : List RW} (h : aS w a rs) (hb : Below w.heap.size w w') : aS w' a rs :=
 h.imp id fun ⟨b, off, e, hlt, hc⟩ => ⟨b, off, e, Nat.lt_of_lt_of_le hlt hb.size, fun j r hj => by
  obtain ⟨y, cy, c0, rd⟩ := hc j r hj;exact ⟨y, cy, (hb.cell (p := ⟨b, off + j, none⟩) hlt).trans c0, rd.kept hb⟩⟩
structure OkX (x : AG) : Prop where
 e : eP x.fn.data.toList = true -> OkE x.e
 g : bP x.fn.data.toList = true -> OkE x.g
 c : ∀ d ∈ x.wh, OkE d.a /\ OkE d.b
 l : x.wh.length <= 1000
theorem zE {x : AG} (h : OkX x) {A : Nat -> Wr.AD} {n : Nat} {g : ByteArray -> Option Int} (U : dU A n g) {q : Int × Int} (hq : jC x g = some q) : aN q.1 /\ aN q.2 := by
 have z : aN 0 := by unfold aN; omega
 unfold jC at hq;have hE : eP x.fn.data.toList = true -> ∀ v, evT g x.e = some v -> aN v := fun he => (wW U x.e ((aX _).1 (h.e he).c).1 (h.e he).n).2
 have hG : bP x.fn.data.toList = true -> ∀ v, evT g x.g = some v -> aN v := fun he => (wW U x.g ((aX _).1 (h.g he).c).1 (h.g he).n).2
 generalize bB g x.wh = tk at hq;generalize evT g x.e = oe at hq hE;generalize evT g x.g = ob at hq hG;generalize eP x.fn.data.toList = ee at hq hE;generalize bP x.fn.data.toList = bb at hq hG;cases tk <;> cases ee <;> cases bb <;> cases oe <;> cases ob <;> simp only [Iu, AW, Option.some.injEq, reduceCtorEq] at hq <;> subst hq <;> refine ⟨?_, ?_⟩ <;> first | exact z | exact hE rfl _ rfl | exact hG rfl _ rfl
abbrev rwO (ya : Option Addr) (l yc : Nat) : Obj := .cells #[.slice ya l yc] 49
set_option maxRecDepth 100000 in
set_option maxHeartbeats 8000000 in
theorem F0 (n l bl ba bp : Nat) (x : AG) (p : PA) (rs : List RW) (ya : Option Addr) (yc : Nat) (W0 : World) (hX : OkX x) (hU : ∀ r ∈ rs, dU r.A r.n r.g) (hl : rs.length <= 1000)
 (hr : aI (fun b => b < W0.heap.size) W0 x p) (hy : aS W0 ya rs) (hbl : W0.heap[bl]? = some (rwO ya rs.length yc)) (hba : W0.heap[ba]? = some (agP x p))
 (hbp : W0.heap[bp]? = some (ptO (kP x.fn.data.toList) (eP x.fn.data.toList) (bP x.fn.data.toList))) (J Jx : List (Int × Int) -> World -> Prop) (W : World) (hJ : AbidesFrom W.heap.size J)
 (hY : ∀ pre q W1, aN q.1 -> aN q.2 -> J pre W1 -> pre.length < (fY x (rs.map RW.g)).length -> YieldAt Fence.wide n Tryz.prog l #[jU q] W1 fun e W' => (e = .returned (.bool true) /\ J (pre ++ [q]) W' /\ Below W0.heap.size W1 W') \/ (e = .returned (.bool false) /\ Jx (pre ++ [q]) W'))
 (hW : Below W0.heap.size W0 W) (h0 : J [] W) :
 CallsIn Fence.wide (n + 1) Tryz.prog 107 #[.func (.yield l) #[] #[], .pointer (some ⟨bl, 0, none⟩), .pointer (some ⟨ba, 0, none⟩), .pointer (some ⟨bp, 0, none⟩)] W fun e W' =>
  (∃ v, e = .returned v) /\ ((∃ ys, ys = fY x (rs.map RW.g) /\ J ys W') \/ (∃ pre, pre <+: fY x (rs.map RW.g) /\ Jx pre W')) := by
 refine callsIn_of_wp Tryz.func107 rfl trivial ?_ rfl;simp only [Tryz.ntmps107, List.size_toArray, List.length_cons, List.length_nil, Nat.reduceAdd, Nat.reduceSub, Array.replicate_succ, Array.replicate_zero, List.push_toArray, List.append_toArray, List.nil_append, List.cons_append]
 have cl : W.cell? ⟨bl, 0, none⟩ = some (.slice ya rs.length yc) := by
  have := (hW.block bl (aC hbl)).trans hbl;simp [World.cell?, this]
 gi_wp2
 clear cl
 gi_loopw [6, 7, 8, 11] (fun v6 v7 v8 i wr => ∃ (k : Nat) (y6 y7 y8 : Value), v6 = y6 /\ v7 = y7 /\ v8 = y8 /\ i = .int .i64 k /\ k <= rs.length /\ Below W0.heap.size W0 wr /\ W.heap.size <= wr.heap.size /\ J (fY x ((rs.map RW.g).take k)) wr) (fun _ _ _ i _ => rs.length - (intOf i).toNat)
 case atStart => exact ⟨0, _, _, _, rfl, rfl, rfl, rfl, Nat.zero_le _, hW, Nat.le_refl _, h0⟩
 case round =>
  obtain ⟨k, y6, y7, y8, rfl, rfl, rfl, rfl, hk, hb, hz, hJs⟩ := hrel
  by_cases hlt : k < rs.length
  · obtain ⟨r, hrk⟩ : ∃ r, rs[k]? = some r := ⟨_, List.getElem?_eq_getElem hlt⟩
    have hne : ¬ rs = [] := fun e => by rw [e] at hlt; simp at hlt
    obtain ⟨b, off, rfl, hbs, hcc⟩ := (dB hy hb).resolve_left hne;obtain ⟨yr, cyr, c0, rd⟩ := hcc k r hrk;have hba1 := (hb.block ba (aC hba)).trans hba;have hbp1 := (hb.block bp (aC hbp)).trans hbp;obtain ⟨m0, m1, m2, m3, m4, m5, m6, m7, m8, m9, m10⟩ := aD hba1;obtain ⟨q0, q1, q2⟩ := cS hbp1;have hrA : aI (fun b => b < W0.heap.size) wr x p := hr.kept hb;have TK := aA (Dx (hU r (List.mem_of_getElem? hrk)) x p yr cyr wr hX.e hX.g hX.c hX.l hrA rd)
    have hgs : (rs.map RW.g).take (k + 1) = (rs.map RW.g).take k ++ [r.g] := by
     rw [List.take_add_one];simp [hrk]
    have hsn := Dy x ((rs.map RW.g).take k) r.g;rw [<- hgs] at hsn;have hgr : ∀ W3, Below wr.heap.size wr W3 -> wr.grownBy W3 none := fun W3 h => ⟨h.os, h.tape, h.output, h.size, fun k hk _ => h.block k hk⟩
    cases htk : jC x r.g with
    | none =>
      rw [htk] at TK hsn
      gi_wp2_with (refine ⟨trivial, ?_⟩; gi_at_call 108; refine (callsIn_wide.2 TK.out).mono ?_; rintro e w1 ⟨u, v, rfl, hsay, hb1⟩)
      refine ⟨fun _ h => (by cases h), ?_⟩
      gi_wp2
      go_roundw
      case rel => exact ⟨k + 1, _, _, _, rfl, rfl, rfl, by go_num, hlt, (hb.trans (hb1.mono hb.size)).alloc (Nat.le_trans hb.size hb1.size) _, by have := hb1.size; simp; omega, by
       rw [hsn, List.append_nil];exact hJ _ _ _ _ (hJ _ _ _ _ hJs (hgr _ hb1) (fun r e => by cases e)) (World.grownBy_alloc _ _ none) (fun r e => by cases e)⟩
      case measure => simp [intOf]; omega
    | some q =>
      rw [htk] at TK hsn;have hin := zE hX (hU r (List.mem_of_getElem? hrk)) htk
      have hlen : (fY x ((rs.map RW.g).take k)).length < (fY x (rs.map RW.g)).length := by
       have h1 := (zD x (gs := rs.map RW.g) (k + 1)).length_le;rw [hsn, List.length_append] at h1;simp at h1;omega
      have hyl := fun w1 (hb1 : Below wr.heap.size wr w1) => hY (fY x ((rs.map RW.g).take k)) q (w1.alloc (aL q.1 q.2)) hin.1 hin.2 (hJ _ _ _ _ (hJ _ _ _ _ hJs (hgr _ hb1) (fun r e => by cases e)) (World.grownBy_alloc _ _ none) (fun r e => by cases e)) hlen
      gi_wp2_with (refine ⟨trivial, ?_⟩; gi_at_call 108; refine (callsIn_wide.2 TK.out).mono ?_; rintro e w1 ⟨u, v, rfl, hsay, hb1⟩; obtain rfl := hsay _ rfl; obtain ⟨fn, tmps, assign, body, hyy, hR⟩ := hyl w1 hb1; dsimp only at hyy)
      refine hR.mono ?_;clear hR;rintro e W3 (⟨rfl, hJ3, hk3⟩ | ⟨rfl, hJx3⟩)
      · gi_wp2
        go_roundw
        case rel => exact ⟨k + 1, _, _, _, rfl, rfl, rfl, by go_num, hlt, ((hb.trans (hb1.mono hb.size)).alloc (Nat.le_trans hb.size hb1.size) _).trans hk3, by have := hb1.size; have := hk3.size; simp at this; omega, by rw [hsn]; exact hJ3⟩
        case measure => simp [intOf]; omega
      · gi_wp2
        refine bodyPost_ret (results_none rfl _ _ _) rfl ?_;exact ⟨⟨_, rfl⟩, .inr ⟨fY x ((rs.map RW.g).take (k + 1)), zD x _, by rw [hsn]; exact hJx3⟩⟩
  · obtain rfl : k = rs.length := by omega
    rw [List.take_of_length_le (by simp)] at hJs
    gi_wp2
    go_end0
    exact ⟨⟨_, rfl⟩, .inl ⟨_, rfl, hJs⟩⟩
end
section
open Go.RowKit Go.Shelf
abbrev Q64 : Type := { q : Int × Int // aN q.1 /\ aN q.2 }
abbrev tkE (q : Q64) : Array Value := #[jU q.1]
theorem jG : ∀ (l : List (Int × Int)), (∀ q ∈ l, aN q.1 /\ aN q.2) -> ∃ L : List Q64, L.map Subtype.val = l
 | [], _ => ⟨[], rfl⟩
 | q :: l, h => by
   obtain ⟨L, rfl⟩ := jG l (fun z hz => h z (List.mem_cons_of_mem _ hz));exact ⟨⟨q, h q (List.mem_cons_self ..)⟩ :: L, rfl⟩
theorem mV {x : AG} (h : OkX x) {rs : List RW} (hU : ∀ r ∈ rs, dU r.A r.n r.g) : ∀ q ∈ fY x (rs.map RW.g), aN q.1 /\ aN q.2 := by
 intro q hq;unfold fY at hq;rw [List.mem_filterMap] at hq;obtain ⟨g, hg, hz⟩ := hq;rw [List.mem_map] at hg;obtain ⟨r, hr, rfl⟩ := hg;exact zE h (hU r hr) hz
structure yH (B : Nat) (W : World) (x : AG) (p : PA) (rs : List RW) (ya : Option Addr) (yc bl ba bp : Nat) : Prop where
 l : W.heap[bl]? = some (rwO ya rs.length yc)
 a : W.heap[ba]? = some (agP x p)
 q : W.heap[bp]? = some (ptO (kP x.fn.data.toList) (eP x.fn.data.toList) (bP x.fn.data.toList))
 rd : aI (fun b => b < W.heap.size) W x p
 ry : aS W ya rs
abbrev tkF (bl ba bp : Nat) : Array Value := #[.pointer (some ⟨bl, 0, none⟩), .pointer (some ⟨ba, 0, none⟩), .pointer (some ⟨bp, 0, none⟩)]
theorem qY {l m : List Q64} (h : l.map Subtype.val = m.map Subtype.val) : l = m := (List.map_inj_right (fun _ _ e => Subtype.ext e)).1 h
theorem fQ (n : Nat) {B bl ba bp yc : Nat} {x : AG} {p : PA} {rs : List RW} {ya : Option Addr} {w : World} (hX : OkX x) (hU : ∀ r ∈ rs, dU r.A r.n r.g) (hl : rs.length <= 1000) (h : yH B w x p rs ya yc bl ba bp)
 (L : List Q64) (hL : L.map Subtype.val = fY x (rs.map RW.g)) :
 SeqStopsK Fence.wide (n + 1) Tryz.prog 107 (tkF bl ba bp) tkE (Below w.heap.size) (fun ys => ys = L) (fun pre => pre <+: L) L.length w := fun l J Jx W hW hJ _ hY h0 => by
 refine (F0 n l bl ba bp x p rs ya yc w hX hU hl h.rd h.ry h.l h.a h.q (fun pre V => ∃ pre', pre'.map Subtype.val = pre /\ J pre' V) (fun pre V => ∃ pre', pre'.map Subtype.val = pre /\ Jx pre' V) W ?_ ?_ hW ⟨[], rfl, h0⟩).mono ?_
 · rintro s X Y row ⟨s', e, hs⟩ hg hr
   exact ⟨s', e, hJ s' X Y row hs hg hr⟩
 · rintro pre q W1 h1 h2 ⟨pre', rfl, hj⟩ hlen
   rw [<- hL, List.length_map, List.length_map] at hlen;refine (hY pre' ⟨q, h1, h2⟩ W1 hj hlen).mono ?_;rintro e W' (⟨he, hj', hk⟩ | ⟨he, hj'⟩)
   · exact .inl ⟨he, ⟨_, by simp, hj'⟩, hk⟩
   · exact .inr ⟨he, ⟨_, by simp, hj'⟩⟩
 · rintro e W' ⟨hv, (⟨ys, rfl, pre', e', hj⟩ | ⟨pre, hp, pre', rfl, hj⟩)⟩
   · exact ⟨hv, .inl ⟨pre', qY (e'.trans hL.symm), hj⟩⟩
   · refine ⟨hv, .inr ⟨pre', ?_, hj⟩⟩
     rw [<- hL] at hp;show pre' <+: L;rw [List.prefix_iff_eq_take] at hp |-
     rw [List.length_map, <- List.map_take] at hp;exact qY hp
theorem zA {w : World} {x : AG} {p : PA} {rs : List RW} {ya : Option Addr} {yc : Nat} {G : Nat -> Prop} (hr : aI G w x p) (hy : aS w ya rs) {V : World} (hV : Below ((w.alloc (agP x p)).alloc (rwO ya rs.length yc)).heap.size ((w.alloc (agP x p)).alloc (rwO ya rs.length yc)) V) :
 yH w.heap.size (V.alloc (ptO (kP x.fn.data.toList) (eP x.fn.data.toList) (bP x.fn.data.toList))) x p rs ya yc (w.heap.size + 1) w.heap.size V.heap.size /\ Below w.heap.size w (V.alloc (ptO (kP x.fn.data.toList) (eP x.fn.data.toList) (bP x.fn.data.toList))) := by
 have B1 := (Below.refl w.heap.size w).alloc (Nat.le_refl _) (agP x p);have N1 := heap_alloc_new w (agP x p);have hs1 : (w.alloc (agP x p)).heap.size = w.heap.size + 1 := World.size_alloc _ _;generalize w.alloc (agP x p) = W1 at *;have B2 := (Below.refl W1.heap.size W1).alloc (Nat.le_refl _) (rwO ya rs.length yc);have N2 := heap_alloc_new W1 (rwO ya rs.length yc);have hs2 : (W1.alloc (rwO ya rs.length yc)).heap.size = W1.heap.size + 1 := World.size_alloc _ _;generalize W1.alloc (rwO ya rs.length yc) = W2 at *;have B3 := (Below.refl V.heap.size V).alloc (Nat.le_refl _) (ptO (kP x.fn.data.toList) (eP x.fn.data.toList) (bP x.fn.data.toList));have N3 := heap_alloc_new V (ptO (kP x.fn.data.toList) (eP x.fn.data.toList) (bP x.fn.data.toList));generalize V.alloc (ptO (kP x.fn.data.toList) (eP x.fn.data.toList) (bP x.fn.data.toList)) = W3 at *;have hz := hV.size;have hz3 := B3.size;have B13 : Below W1.heap.size W1 W3 := B2.trans ((hV.trans (B3.mono hz)).mono (by omega));have B03 : Below w.heap.size w W3 := B1.trans (B13.mono (by omega));rw [hs1] at N2;refine ⟨⟨?_, ?_, N3, (hr.kept B03).imp (fun b hb _ => ?_), dB hy B03⟩, B03⟩
 · exact ((hV.trans (B3.mono hz)).block _ (by omega)).trans N2
 · exact (B13.block _ (by omega)).trans N1
 · exact hb
set_option maxHeartbeats 4000000 in
set_option maxRecDepth 100000 in
theorem fR {G : Nat -> Prop} (x : AG) (p : PA) (rs : List RW) (ya : Option Addr) (yc : Nat) (w : World) (hr : aI G w x p) (hy : aS w ya rs) :
 Calls Tryz.prog 57 #[agV x p, .slice ya rs.length yc] w fun e w' => ∃ bl ba bp, e = .returned (.func (.func 107) #[] (tkF bl ba bp)) /\ yH w.heap.size w' x p rs ya yc bl ba bp /\ Below w.heap.size w w' := by
 have TN := aA (fun V hV => zA (yc := yc) (V := V) hr hy hV);have hs0 : ((w.alloc (agP x p)).alloc (rwO ya rs.length yc)).heap.size = w.heap.size + 2 := by simp
 have B1 := (Below.refl w.heap.size w).alloc (Nat.le_refl _) (agP x p)
 have N0 : ((w.alloc (agP x p)).alloc (rwO ya rs.length yc)).heap[w.heap.size]? = some (agP x p) := by
  have h1 := heap_alloc_new w (agP x p);exact (((Below.refl _ (w.alloc (agP x p))).alloc (Nat.le_refl _) (rwO ya rs.length yc)).block _ (by simp)).trans h1
 have CP := aA (i6 x.fn ((w.alloc (agP x p)).alloc (rwO ya rs.length yc)));generalize hW : (w.alloc (agP x p)).alloc (rwO ya rs.length yc) = W at *;have HW := aA hW;obtain ⟨m0, m1, m2, m3, m4, m5, m6, m7, m8, m9, m10⟩ := aD N0;unfold ptV at CP;clear hr hy B1 hW N0
 go_enter Tryz.func57, Tryz.ntmps57
 go_upto_region 1 with fail
 rw [show (w.alloc (.cells #[.string x.fn, .int .i64 x.k, .string x.e.op, .string x.e.nm, .int .i64 x.e.n, .slice p.ea x.e.ks.len p.ec, .string x.g.op, .string x.g.nm, .int .i64 x.g.n, .slice p.ga x.g.ks.len p.gc, .slice p.wa x.wh.length p.wc] 28)).alloc (.cells #[.slice ya rs.length yc] 49) = W from HW.out]
 go_wp2_with fail
 refine CP.out.mono ?_;rintro e w1 ⟨rfl, hb⟩
 go_wp2_with fail
 go_ret;obtain ⟨T1, T2⟩ := TN.out w1 hb;exact ⟨_, _, _, rfl, T1, T2⟩
theorem lL {w : World} {e : TypeId} {v : Value} {n : Nat} {xs : List Value} (h : w.ownsRow 0 e 1 v n xs) :
 (v = .slice none 0 0 /\ n = 0 /\ xs = []) \/
 ∃ g cap cur, v = .slice (some ⟨g, 0, none⟩) n cap /\ v.ownBlock = some g /\ w.heap[g]? = some (.cells cur e (0, 0)) /\ n <= cap /\ cap <= maxLen /\ cur.size = cap /\ cur.toList.take n = xs /\ xs.length = n /\ g < w.heap.size := by
 obtain ⟨h1, h2⟩ := h;rw [Nat.mul_one] at h1
 rcases h2 with ⟨rfl, rfl⟩ | ⟨g, cap, cur, rfl, _, hg, a, b, c, d⟩
 · exact .inl ⟨rfl, rfl, List.length_eq_zero_iff.1 h1⟩
 · rw [Nat.mul_one] at c d
   exact .inr ⟨g, cap, cur, rfl, rfl, hg, a, b, c, d, h1, lt_of_block hg⟩
theorem rL {w : World} {e : TypeId} {g cap n : Nat} {cur : Array Value} {xs : List Value} (hg : w.heap[g]? = some (.cells cur e (0, 0))) (hn : n <= cap) (hm : cap <= maxLen) (hs : cur.size = cap) (ht : cur.toList.take n = xs) :
 w.ownsRow 0 e 1 (.slice (some ⟨g, 0, none⟩) n cap) n xs := by
 refine ⟨?_, .inr ⟨g, cap, cur, rfl, Nat.zero_le _, hg, hn, hm, by rw [Nat.mul_one]; exact hs, by rw [Nat.mul_one]; exact ht⟩⟩;rw [<- ht, List.length_take, Array.length_toList, Nat.mul_one]; omega
theorem dG (b : Nat) : ∀ (vs : List Value) (o : Nat) (w : World), aG (· = b) w (w.setCells b o vs)
 | [], _, w => aG.refl _ w
 | v :: r, o, w => ((aG.refl (fun i => i = b) w).setCell (p := ⟨b, o, none⟩) (Or.inl rfl) v).trans (dG b r (o + 1) _) (fun _ h _ => h)
def nU (w w' : World) (E : TypeId) (v : Value) (xs : List Value) (e : Ending) : Prop :=
 ∃ v', e = .returned v' /\ w'.ownsRow 0 E 1 v' xs.length xs /\ w.grownBy w' v.ownBlock /\ (v'.ownBlock = v.ownBlock \/ ∃ b, v'.ownBlock = some b /\ w.heap.size <= b)
theorem uJ {w : World} {e : TypeId} {g cap n i : Nat} {cur : Array Value} {xs : List Value} {x : Value} (hg : w.heap[g]? = some (.cells cur e (0, 0))) (hs : cur.size = cap) (ht : cur.toList.take n = xs)
 (hx : xs.length = n) (hi : i < n) (hr : n + 1 <= cap) (hm : cap <= maxLen) (e' : Ending) (he : e' = .returned (.slice (some ⟨g, 0, none⟩) (n + 1) cap)) :
 nU w ((w.drew.setCells g (i + 1) (xs.drop i)).setCells g i [x]) e (.slice (some ⟨g, 0, none⟩) n cap) (xs.take i ++ x :: xs.drop i) e' := by
 obtain ⟨c1, h1, t1⟩ := cT g e (xs.drop i) (i + 1) w.drew cur hg (by rw [List.length_drop]; omega)
 have s1 : c1.size = cap := by
  rw [<- Array.length_toList, t1]; simp [List.length_take]; omega
 obtain ⟨c2, h2, t2⟩ := cT g e [x] i _ c1 h1 (by simp; omega)
 have s2 : c2.size = cap := by
  rw [<- Array.length_toList, t2]; simp [List.length_take]; omega
 have hl : (xs.take i ++ x :: xs.drop i).length = n + 1 := by simp [List.length_take]; omega
 refine ⟨_, he, ?_, dL (S := (· = g)) (((aG.refl (· = g) w).drew.trans (dG g _ _ _) (fun _ h _ => h)).trans (dG g _ _ _) (fun _ h _ => h)) (fun k hk => by subst hk; rfl), Or.inl rfl⟩;rw [hl];refine rL h2 hr hm s2 ?_;rw [t2, t1]
 have e1 : (cur.toList.take (i + 1) ++ xs.drop i ++ cur.toList.drop (i + 1 + (xs.drop i).length)).take i = xs.take i := by
  rw [List.append_assoc, List.take_append_of_le_length (by rw [List.length_take, Array.length_toList]; omega), List.take_take, <- ht, List.take_take]
  congr 1; omega
 have e2 : (cur.toList.take (i + 1) ++ xs.drop i ++ cur.toList.drop (i + 1 + (xs.drop i).length)).drop (i + [x].length) = xs.drop i ++ cur.toList.drop (n + 1) := by
  rw [List.append_assoc, List.drop_append_of_le_length (by rw [List.length_take, Array.length_toList]; simp; omega), List.drop_take];have : i + 1 + (xs.drop i).length = n + 1 := by rw [List.length_drop]; omega
  rw [this]; simp
 rw [e1, e2];have e3 : xs.take i ++ [x] ++ (xs.drop i ++ cur.toList.drop (n + 1)) = (xs.take i ++ x :: xs.drop i) ++ cur.toList.drop (n + 1) := by simp
 rw [e3, <- hl, List.take_append_of_le_length (Nat.le_refl _), List.take_length]
theorem xK {w : World} {e : TypeId} {g cap n : Nat} {cur : Array Value} {xs : List Value} {x : Value} (hg : w.heap[g]? = some (.cells cur e (0, 0))) (hs : cur.size = cap) (ht : cur.toList.take n = xs)
 (hx : xs.length = n) (hr : n + 1 <= cap) (hm : cap <= maxLen) (e' : Ending) (he : e' = .returned (.slice (some ⟨g, 0, none⟩) (n + 1) cap)) :
 nU w (w.setCells g n [x]) e (.slice (some ⟨g, 0, none⟩) n cap) (xs.take n ++ x :: xs.drop n) e' := by
 obtain ⟨c2, h2, t2⟩ := cT g e [x] n w cur hg (by simp; omega)
 have s2 : c2.size = cap := by
  rw [<- Array.length_toList, t2]; simp [List.length_take]; omega
 have hl : (xs.take n ++ x :: xs.drop n).length = n + 1 := by simp [List.length_take]; omega
 refine ⟨_, he, ?_, dL (S := (· = g)) (dG g _ _ _) (fun k hk => by subst hk; rfl), Or.inl rfl⟩;rw [hl];refine rL h2 hr hm s2 ?_;rw [t2, ht, List.take_of_length_le (by omega : xs.length <= n), List.drop_of_length_le (by omega : xs.length <= n), List.take_append_of_le_length (by simp; omega), List.take_of_length_le (by simp; omega)]
theorem q9 {w w' : World} {e : TypeId} {G n i : Nat} {v : Value} {ROW : Array Value} {xs : List Value} {x : Value} (hx : xs.length = n) (hi : i <= n) (hG : n + 1 <= G) (hm : G <= maxLen)
 (hw : aG (fun _ => False) w w') (hrow : w'.heap[w.heap.size]? = some (.cells ROW e (0, 0))) (hs : ROW.size = G) (ht : ROW.toList.take (n + 1) = xs.take i ++ x :: xs.drop i) (e' : Ending) (he : e' = .returned (.slice (some ⟨w.heap.size, 0, none⟩) (n + 1) G)) :
 nU w w' e v (xs.take i ++ x :: xs.drop i) e' := by
 have hl : (xs.take i ++ x :: xs.drop i).length = n + 1 := by simp [List.length_take]; omega
 refine ⟨_, he, ?_, dL hw (fun _ h => h.elim), Or.inr ⟨_, rfl, Nat.le_refl _⟩⟩;rw [hl];exact rL hrow hG hm hs ht
theorem rA {w : World} {e : TypeId} {G n : Nat} {v : Value} {Z : Array Value} {xs : List Value} {x : Value} (hx : xs.length = n) (hG : n + 1 <= G) (hm : G <= maxLen) (hZ : Z.size = G - (n + 1))
 (e' : Ending) (he : e' = .returned (.slice (some ⟨w.heap.size, 0, none⟩) (n + 1) G)) :
 nU w (w.drew.alloc (.cells ((xs ++ [x]).toArray ++ Z) e)) e v (xs.take n ++ x :: xs.drop n) e' := by
 refine q9 (i := n) (ROW := (xs ++ [x]).toArray ++ Z) hx (Nat.le_refl _) hG hm ((aG.refl _ w).drew.alloc _) (heap_alloc_new w.drew _) (by simp; omega) ?_ e' he;rw [Array.toList_append, List.take_append_of_le_length (by simp; omega), List.take_of_length_le (by simp; omega), List.take_of_length_le (by omega : xs.length <= n), List.drop_of_length_le (by omega : xs.length <= n)]
theorem xL {w : World} {e : TypeId} {G n i : Nat} {v : Value} {Y Z : Array Value} {xs : List Value} {x : Value} (hx : xs.length = n) (hi : i < n) (hG : n + 1 <= G) (hm : G <= maxLen) (hY : Y.size = n + 1 - i) (hZ : Z.size = G - (n + 1))
 (e' : Ending) (he : e' = .returned (.slice (some ⟨w.heap.size, 0, none⟩) (n + 1) G)) :
 nU w ((((w.alloc (.cells ((xs.take i).toArray ++ Y ++ Z) e)).drew.setCells w.heap.size i [x]).drew).setCells w.heap.size (i + 1) (xs.drop i)) e v (xs.take i ++ x :: xs.drop i) e' := by
 have hti : (xs.take i).length = i := by rw [List.length_take]; omega
 have h0 : ((w.alloc (.cells ((xs.take i).toArray ++ Y ++ Z) e)).drew).heap[w.heap.size]? = some (.cells ((xs.take i).toArray ++ Y ++ Z) e (0, 0)) := heap_alloc_new w _;have s0 : ((xs.take i).toArray ++ Y ++ Z).size = G := by simp [List.length_take]; omega
 obtain ⟨c1, h1, t1⟩ := cT w.heap.size e [x] i _ _ h0 (by rw [s0]; simp; omega)
 have s1 : c1.size = G := by
  rw [<- Array.length_toList, t1]; simp [List.length_take]; omega
 obtain ⟨c2, h2, t2⟩ := cT w.heap.size e (xs.drop i) (i + 1) (((w.alloc (.cells ((xs.take i).toArray ++ Y ++ Z) e)).drew.setCells w.heap.size i [x]).drew) c1 h1 (by rw [s1, List.length_drop]; omega)
 have s2 : c2.size = G := by
  rw [<- Array.length_toList, t2]; simp [List.length_take]; omega
 have k0 : aG (fun k => k = w.heap.size) w ((((w.alloc (.cells ((xs.take i).toArray ++ Y ++ Z) e)).drew.setCells w.heap.size i [x]).drew).setCells w.heap.size (i + 1) (xs.drop i)) :=
  ((((aG.refl (fun k => k = w.heap.size) w).alloc _).drew.trans (dG w.heap.size _ _ _) (fun _ h _ => h)).drew).trans (dG w.heap.size _ _ _) (fun _ h _ => h)
 refine q9 (ROW := c2) hx (Nat.le_of_lt hi) hG hm (k0.mono (fun k hk hl => by omega)) h2 s2 ?_ e' he;rw [t2, t1]
 have e1 : ((((xs.take i).toArray ++ Y ++ Z).toList.take i ++ [x] ++ ((xs.take i).toArray ++ Y ++ Z).toList.drop (i + [x].length))).take (i + 1) = xs.take i ++ [x] := by
  have e0 : ((xs.take i).toArray ++ Y ++ Z).toList.take i = xs.take i := by
   rw [Array.toList_append, Array.toList_append, List.append_assoc, List.take_append_of_le_length (by simp [List.length_take]; omega)];exact List.take_of_length_le (by simp [List.length_take]; omega)
  rw [e0, List.take_append_of_le_length (by simp [List.length_take]; omega), List.take_of_length_le (by simp [List.length_take]; omega)]
 have hl : (xs.take i ++ x :: xs.drop i).length = n + 1 := by simp [List.length_take]; omega
 rw [e1];have e3 : ∀ R : List Value, xs.take i ++ [x] ++ xs.drop i ++ R = (xs.take i ++ x :: xs.drop i) ++ R := fun R => by simp
 rw [e3, <- hl, List.take_append_of_le_length (Nat.le_refl _), List.take_length]
def yI (w w' : World) (E : TypeId) (v : Value) (xs : List Value) (e : Ending) : Prop :=
 ∃ v', e = .returned v' /\ w'.ownsRow 0 E 1 v' xs.length xs /\ w.grownBy w' v.ownBlock /\ v'.ownBlock = v.ownBlock
theorem JG {w : World} {e : TypeId} {g cap n i : Nat} {cur : Array Value} {xs : List Value} {z : Value} (hg : w.heap[g]? = some (.cells cur e (0, 0))) (hs : cur.size = cap) (ht : cur.toList.take n = xs)
 (hx : xs.length = n) (hi : i < n) (hn : n <= cap) (hm : cap <= maxLen) (e' : Ending) (he : e' = .returned (.slice (some ⟨g, 0, none⟩) (n - 1) cap)) :
 yI w ((w.drew.setCells g i (xs.drop (i + 1))).setCells g (n - 1) [z]) e (.slice (some ⟨g, 0, none⟩) n cap) (xs.eraseIdx i) e' := by
 obtain ⟨c1, h1, t1⟩ := cT g e (xs.drop (i + 1)) i w.drew cur hg (by rw [List.length_drop]; omega)
 have s1 : c1.size = cap := by
  rw [<- Array.length_toList, t1]; simp [List.length_take]; omega
 obtain ⟨c2, h2, t2⟩ := cT g e [z] (n - 1) _ c1 h1 (by simp; omega)
 have s2 : c2.size = cap := by
  rw [<- Array.length_toList, t2]; simp [List.length_take]; omega
 have hl : (xs.eraseIdx i).length = n - 1 := by rw [List.length_eraseIdx, if_pos (by omega), hx]
 refine ⟨_, he, ?_, dL (S := (· = g)) (((aG.refl (· = g) w).drew.trans (dG g _ _ _) (fun _ h _ => h)).trans (dG g _ _ _) (fun _ h _ => h)) (fun k hk => by subst hk; rfl), rfl⟩;rw [hl];refine rL h2 (by omega) hm s2 ?_
 have hte : cur.toList.take i = xs.take i := by
  rw [<- ht, List.take_take]; congr 1; omega
 have hti : (xs.take i).length = i := by rw [List.length_take]; omega
 rw [t2, t1, hte, List.eraseIdx_eq_take_drop_succ];have hb : (xs.take i ++ xs.drop (i + 1)).length = n - 1 := by rw [List.length_append, hti, List.length_drop]; omega
 rw [List.append_assoc, List.take_append_of_le_length (by simp [List.length_take]; omega), List.take_take, Nat.min_self, <- hb, List.take_append_of_le_length (Nat.le_refl _), List.take_length]
section
variable {K : Type} {less : K -> K -> Bool}
variable [DecidableEq K]
end
end
section
open Go.RowKit Go.Lib
theorem nN : (Tryz.prog.info? 2).map (fun i => (i.zero, i.size, i.bytes)) = some (some (Value.int .i64 0), 1, 8) := by kernel_rfl
theorem EF (w : World) : (Go.sizeOf 2).run Tryz.prog w = .ok 1 w := by kernel_rfl
theorem G6 : Tryz.prog.underlying 3 = some (.int .i64) := by kernel_rfl
theorem fH : Tryz.prog.underlying 51 = some (.slice 2) := by kernel_rfl
set_option maxHeartbeats 4000000 in
set_option maxRecDepth 100000 in
theorem By (b n c i vb : Nat) (cur : Array Value) (cs : List Value) (x : Value) (w : World) (hi : i < n) (hroom : n + 1 <= c) (hc63 : c <= 9223372036854775807) (hvb : vb ≠ b)
 (hb : w.heap[b]? = some (.cells cur 2 (0, 0))) (hcur : cur.size = c) (hcl : cs.length = n) (ht : cur.toList.take n = cs) (hv : w.heap[vb]? = some (.cells #[x] 2 (0, 0))) (h1c : ∀ v ∈ cs, v.oneCell' = true) (h1v : x.oneCell' = true) :
 Calls Tryz.prog 111 #[.slice (some ⟨b, 0, none⟩) n c, .int .i64 i, .slice (some ⟨vb, 0, none⟩) 1 1] w fun e w' =>
  e = .returned (.slice (some ⟨b, 0, none⟩) (n + 1) c) /\ w' = (w.drew.setCells b (i + 1) (cs.drop i)).setCells b i [x] := by
 have hcs : ∀ j v, cs[j]? = some v -> w.cell? ⟨b, j, none⟩ = some v := fun j v h => eM hb ht h
 have hsp : ∀ j, j < n + 1 -> (w.cell? ⟨b, j, none⟩).isSome = true := fun j h => by
  rw [cell_of_row w b j cur _ (0, 0) hb, Array.getElem?_eq_getElem (by omega)]; rfl
 have hfz : ∀ j, w.frozen? ⟨b, j, none⟩ = false := fun j => frozen_of_row w b j cur _ hb
 have hvs : ∀ j v, [x][j]? = some v -> w.cell? ⟨vb, j, none⟩ = some v := fun j v h => eM (n := 1) hv rfl h
 have hz2 : ¬ ((i : Int) = (n : Int)) := by omega
 have hsz : (Tryz.prog.info? 2).map (·.size) = some 1 := by
  obtain ⟨i0, hi0, h0, h1, h2⟩ := info_parts nN;rw [hi0]; simp [h1]
 have hsa : w.shape? vb = some (2, 1) := by simp [World.shape?, hv]
 have hsb : w.shape? b = some (2, c) := by simp [World.shape?, hb, hcur]
 have hov : ∀ lb cb, (callFunc 154 #[.slice (some ⟨vb, 0, none⟩) 1 1, .slice (some ⟨b, i + 1, none⟩) lb cb]).run Tryz.prog w = .ok (.value (.bool false)) w := fun lb cb => by
  rw [run_callFunc_extern Tryz.func154 (by kernel_rfl) (by kernel_rfl) (by kernel_rfl) (e := Extern.SlicesOverlaps.overlaps #[51, 51] #[4]) (by kernel_rfl),
   Lib.run_overlaps_apart w 51 4 2 fH 1 EF ⟨vb, 0, none⟩ ⟨b, i + 1, none⟩ 1 1 lb cb hvb 2 2 1 c hsa hsb (by omega) (frozen_of_row w vb 0 _ _ hv) (frozen_of_row w vb 1 _ _ hv)]
  rfl
 have hdl : (cs.drop i).length = n - i := by rw [List.length_drop, hcl]
 have hw1 : IntKind.i64.wrap ((i : Int) + 1) = (i : Int) + 1 := by rw [IntKind.wrap_i64]; omega
 have hin : i <= n := by omega
 have hb1 : (0 : Int) <= (i : Int) + 1 := by omega
 have htn : ((i : Int) + 1).toNat = i + 1 := by omega
 have hb3 : (i : Int) <= (n : Int) + 1 := by omega
 have hb2 : ¬ (c = i + 1) := by omega
 have hb4 : ¬ (c = i) := by omega
 have hcp1 : ∀ ty dc sc, (Builtin.copy_ #[51, 51] ty #[.slice (some ⟨b, i + 1, none⟩) (n - i) dc, .slice (some ⟨b, i, none⟩) (n + 1 - i) sc]).run Tryz.prog w.drew = .ok (goInt (cs.drop i).length) (w.drew.setCells b (i + 1) (cs.drop i)) := fun ty dc sc =>
  run_copy_cells w.drew _ _ ty 2 b (i + 1) (n - i) dc ⟨b, i, none⟩ (n + 1 - i) sc (cs.drop i) fH hsz (by rw [hdl]; simp only [Nat.min_def]; split <;> omega)
   (fun j v hj => by rw [Addr.add_lit]; exact hcs (i + j) v (by rwa [List.getElem?_drop] at hj))
   (fun j hj => hsp _ (by omega)) (fun j hj => hfz _) (fun v hv => h1c v (List.mem_of_mem_drop hv))
 obtain ⟨W1, hW1⟩ : ∃ W1, W1 = w.drew.setCells b (i + 1) (cs.drop i) := ⟨_, rfl⟩
 have hsp1 : ∀ k, k < n + 1 -> (W1.cell? ⟨b, k, none⟩).isSome = true := fun k hk => by
  rw [hW1];exact isSome_setCells b (cs.drop i) (i + 1) w.drew (fun j hj => hsp _ (by omega)) _ (hsp k hk)
 have hcp2 : ∀ (W : World), (∀ x, W.cell? x = W1.cell? x) -> (∀ x, W.frozen? x = W1.frozen? x) -> ∀ ty dc, (Builtin.copy_ #[51, 51] ty #[.slice (some ⟨b, i, none⟩) (n + 1 - i) dc, .slice (some ⟨vb, 0, none⟩) 1 1]).run Tryz.prog W = .ok (goInt [x].length) (W.setCells b i [x]) := fun W hWc hWf ty dc =>
  run_copy_cells W _ _ ty 2 b i (n + 1 - i) dc ⟨vb, 0, none⟩ 1 1 [x] fH hsz (by simp only [List.length_singleton, Nat.min_def]; split <;> omega)
   (fun j v hj => by
    rw [Addr.add_lit, Nat.zero_add, hWc, hW1, World.cell?_setCells_out b _ _ _ _ (fun h _ => absurd h hvb)];exact hvs j v hj)
   (fun j hj => by rw [hWc]; exact hsp1 _ (by simp at hj; omega)) (fun j hj => by rw [hWf, hW1, World.frozen?_setCells]; exact hfz _) (by simpa using h1v)
 rw [<- hW1] at hcp1;clear hcs hsp hfz hvs hsz hsa hsb hdl hsp1 hb hcur ht hv h1c h1v
 go_enter Tryz.func111, Tryz.ntmps111
 go_wp2_with (simp only [hov])
 go_region_law (refine step_copy_runI rfl _ _ 51 51 rfl _ _ (by simp [Act.eval, Act.put]) (by simp [Act.eval, Act.put]) (hcp1 _ _ _) ?_)
 go_wp2_with (at_builtin; refine wpList_copy_runI _ rfl _ _ 51 51 rfl _ _ rfl rfl (hcp2 _ (fun _ => rfl) (fun _ => rfl) _ _) ?_)
 go_ret
 first | exact ⟨rfl, rfl⟩ | exact ⟨rfl, by rw [hW1]⟩
set_option maxHeartbeats 4000000 in
set_option maxRecDepth 100000 in
theorem EG (b n c vb : Nat) (cur : Array Value) (x : Value) (w : World) (hroom : n + 1 <= c) (hc63 : c <= 9223372036854775807)
 (hb : w.heap[b]? = some (.cells cur 2 (0, 0))) (hcur : cur.size = c) (hv : w.heap[vb]? = some (.cells #[x] 2 (0, 0))) (h1v : x.oneCell' = true) :
 Calls Tryz.prog 111 #[.slice (some ⟨b, 0, none⟩) n c, .int .i64 n, .slice (some ⟨vb, 0, none⟩) 1 1] w fun e w' =>
  e = .returned (.slice (some ⟨b, 0, none⟩) (n + 1) c) /\ w' = w.setCells b n [x] := by
 have hsrc : Src Tryz.prog 1 51 (.slice (some ⟨vb, 0, none⟩) 1 1) 1 [x] w := Src.ofSlice w fH ⟨vb, 0, none⟩ 1 1 [x] rfl (fun j u hj => by rw [Addr.add_lit, Nat.zero_add]; exact eM (n := 1) hv rfl hj) (by simpa using h1v)
 have hsp : ∀ j, j < 1 -> (w.cell? ⟨b, 0 + n + j, none⟩).isSome = true := fun j h => by
  rw [cell_of_row w b _ cur _ (0, 0) hb, Array.getElem?_eq_getElem (by omega)]; rfl
 have hfz : ∀ j, j < 1 -> w.frozen? ⟨b, 0 + n + j, none⟩ = false := fun j _ => frozen_of_row w b _ cur _ hb
 clear hb hcur hv h1v
 go_enter Tryz.func111, Tryz.ntmps111
 go_wp2_with (at_builtin; refine wpList_append_room1 _ rfl _ _ 51 51 rfl 2 _ _ fH nN b 0 n c rfl _ rfl 1 [x] hsrc hroom hsp hfz ?_)
 go_ret;exact ⟨rfl, rfl⟩
set_option maxHeartbeats 4000000 in
set_option maxRecDepth 100000 in
theorem Au (base : Option Addr) (n c vb : Nat) (cs : List Value) (x : Value) (w : World) (hnc : n <= c) (hroom : c < n + 1) (hbig : (n + 1) * 8 <= 140737488355328)
 (hcl : cs.length = n) (hnil : base = none -> n = 0) (hcs : ∀ a, base = some a -> ∀ j v, cs[j]? = some v -> w.cell? (a.add j) = some v) (hv : w.heap[vb]? = some (.cells #[x] 2 (0, 0))) (h1v : x.oneCell' = true) :
 Calls Tryz.prog 111 #[.slice base n c, .int .i64 n, .slice (some ⟨vb, 0, none⟩) 1 1] w fun e w' =>
  e = .returned (.slice (some ⟨w.heap.size, 0, none⟩) (n + 1) (grownCap w (n + 1) c 2)) /\
  w' = w.drew.alloc (.cells ((cs ++ [x]).toArray ++ Builtin.zeroCells (Value.int .i64 0).cells (grownCap w (n + 1) c 2 - (n + 1))) 2) := by
 obtain ⟨i0, hi0, hz0, hzs, hzb⟩ := info_parts nN
 have hsrc : Src Tryz.prog i0.size 51 (.slice (some ⟨vb, 0, none⟩) 1 1) 1 [x] w := by
  rw [hzs];exact Src.ofSlice w fH ⟨vb, 0, none⟩ 1 1 [x] rfl (fun j u hj => by rw [Addr.add_lit, Nat.zero_add]; exact eM (n := 1) hv rfl hj) (by simpa using h1v)
 have hold : (Builtin.firstCells i0.size n (.slice base n c)).run Tryz.prog w.drew = .ok cs.toArray w.drew := by
  rw [hzs];cases base with
  | none =>
    have h0 := hnil rfl;subst h0;rw [List.length_eq_zero_iff.1 hcl];exact run_firstCells_none w.drew 1 0 0 c
  | some a => exact run_firstCells_some w.drew 1 n a n c cs (by omega) (fun j v hj => hcs a rfl j v hj)
 have hrun : ∀ ty, (Builtin.append_ #[51, 51] ty #[.slice base n c, .slice (some ⟨vb, 0, none⟩) 1 1]).run Tryz.prog w = _ := fun ty =>
  run_append_grow_src w 51 51 ty 2 i0 _ fH hi0 hz0 base n c cs hold _ 1 [x] hsrc hroom (by omega) (by rw [hzb]; exact growslice_fits hroom hbig)
 clear hv h1v hcs hold hsrc
 go_enter Tryz.func111, Tryz.ntmps111
 cases base with
 | none =>
   have h0 := hnil rfl;subst h0
   go_wp2_with (at_builtin; refine Lib.wpList_append_run _ rfl _ _ _ _ rfl _ _ rfl rfl _ _ (hrun _) ?_)
   go_ret;exact ⟨rfl, rfl⟩
 | some a =>
   obtain ⟨ab, ao, asp⟩ := a
   go_wp2_with (at_builtin; refine Lib.wpList_append_run _ rfl _ _ _ _ rfl _ _ rfl rfl _ _ (hrun _) ?_)
   all_goals (go_ret; exact ⟨rfl, rfl⟩)
set_option maxHeartbeats 4000000 in
set_option maxRecDepth 100000 in
theorem EH (b n c i vb : Nat) (cur : Array Value) (cs : List Value) (x : Value) (w : World) (hi : i < n) (hnc : n <= c) (hroom : c < n + 1) (hbig : (n + 1) * 8 <= 140737488355328)
 (hb : w.heap[b]? = some (.cells cur 2 (0, 0))) (hcl : cs.length = n) (ht : cur.toList.take n = cs) (hv : w.heap[vb]? = some (.cells #[x] 2 (0, 0))) (h1c : ∀ v ∈ cs, v.oneCell' = true) (h1v : x.oneCell' = true) :
 Calls Tryz.prog 111 #[.slice (some ⟨b, 0, none⟩) n c, .int .i64 i, .slice (some ⟨vb, 0, none⟩) 1 1] w fun e w' =>
  e = .returned (.slice (some ⟨w.heap.size, 0, none⟩) (n + 1) (grownCap w (n + 1) c 2)) /\
  w' = (((w.alloc (.cells ((cs.take i).toArray ++ Builtin.zeroCells (Value.int .i64 0).cells (n + 1 - i) ++ Builtin.zeroCells (Value.int .i64 0).cells (grownCap w (n + 1) c 2 - (n + 1))) 2)).drew.setCells w.heap.size i [x]).drew).setCells w.heap.size (i + 1) (cs.drop i) := by
 have hcs : ∀ j v, cs[j]? = some v -> w.cell? ⟨b, j, none⟩ = some v := fun j v h => eM hb ht h
 have hvs : ∀ j v, [x][j]? = some v -> w.cell? ⟨vb, j, none⟩ = some v := fun j v h => eM (n := 1) hv rfl h
 obtain ⟨i0, hi0, hz0, hzs, hzb⟩ := info_parts nN;have hz2 : ¬ ((i : Int) = (n : Int)) := by omega
 have hz3 : (c : Int) < (n : Int) + 1 := by omega
 have hsz : (Tryz.prog.info? 2).map (·.size) = some 1 := by rw [hi0]; simp [hzs]
 have hbw : b < w.heap.size := lt_of_block hb;have hvw : vb < w.heap.size := lt_of_block hv;have hkk : (n : Int) + 1 - (i : Int) = ((n + 1 - i : Nat) : Int) := by omega
 have hik : i + (n + 1 - i) = n + 1 := by omega
 have hold : (Builtin.firstCells i0.size i (.slice (some ⟨b, 0, none⟩) i c)).run Tryz.prog w.drew = .ok (cs.take i).toArray w.drew := by
  rw [hzs]
  exact run_firstCells_some w.drew 1 i ⟨b, 0, none⟩ i c (cs.take i) (by rw [List.length_take]; omega) (fun j v hj => by
   rw [Addr.add_lit, Nat.zero_add];rw [List.getElem?_take] at hj
   split at hj
   · exact hcs j v hj
   · cases hj)
 have hrz : ∀ ty, (Builtin.append_ #[51, 3] ty #[.slice (some ⟨b, 0, none⟩) i c, .int .i64 ((n : Int) + 1 - (i : Int))]).run Tryz.prog w =
  .ok (.slice (some ⟨w.heap.size, 0, none⟩) (n + 1) (grownCap w (n + 1) c 2)) (w.drew.alloc (.cells ((cs.take i).toArray ++ Builtin.zeroCells (Value.int .i64 0).cells (n + 1 - i) ++ Builtin.zeroCells (Value.int .i64 0).cells (grownCap w (n + 1) c 2 - (n + 1))) 2)) := fun ty => by
  have h := Lib.run_append_grow_zeros w 51 3 ty 2 i0 _ .i64 .i64 fH G6 hi0 hz0 (some ⟨b, 0, none⟩) i c (cs.take i) hold (n + 1 - i) (by omega) (by omega) (by omega) (by omega) (by rw [hzb]; omega) (by rw [hzb, hik]; exact growslice_fits hroom hbig);rw [hik] at h;rw [hkk];exact h
 obtain ⟨G, hG⟩ : ∃ G, G = grownCap w (n + 1) c 2 := ⟨_, rfl⟩;obtain ⟨ROW, hROW⟩ : ∃ ROW : Array Value, ROW = (cs.take i).toArray ++ Builtin.zeroCells (Value.int .i64 0).cells (n + 1 - i) ++ Builtin.zeroCells (Value.int .i64 0).cells (G - (n + 1)) := ⟨_, rfl⟩;rw [<- hG] at hrz |-
 rw [<- hROW] at hrz |-
 have hRl : n + 1 <= ROW.size := by
  rw [hROW];simp [Builtin.zeroCells, Value.cells];omega
 obtain ⟨W1, hW1⟩ : ∃ W1, W1 = w.drew.alloc (.cells ROW 2) := ⟨_, rfl⟩;rw [<- hW1] at hrz
 have hN : ∀ j, j < n + 1 -> (W1.cell? ⟨w.heap.size, j, none⟩).isSome = true := fun j hj => by
  rw [hW1, World.cell?_alloc_at (w := w.drew) ROW _ w.heap.size j rfl, Array.getElem?_eq_getElem (by omega)]; rfl
 have hNf : ∀ j, W1.frozen? ⟨w.heap.size, j, none⟩ = false := fun j => by rw [hW1]; exact World.frozen?_alloc_at (w := w.drew) ROW _ w.heap.size j rfl
 have hOb : ∀ j v, w.cell? ⟨b, j, none⟩ = some v -> W1.cell? ⟨b, j, none⟩ = some v := fun j v h => by rw [hW1, World.cell?_alloc_past (w := w.drew) _ b j hbw]; exact h
 have hOv : ∀ j v, w.cell? ⟨vb, j, none⟩ = some v -> W1.cell? ⟨vb, j, none⟩ = some v := fun j v h => by rw [hW1, World.cell?_alloc_past (w := w.drew) _ vb j hvw]; exact h
 have hcpA : ∀ (W : World), (∀ x, W.cell? x = W1.cell? x) -> (∀ x, W.frozen? x = W1.frozen? x) -> ∀ ty dc, (Builtin.copy_ #[51, 51] ty #[.slice (some ⟨w.heap.size, i, none⟩) (n + 1 - i) dc, .slice (some ⟨vb, 0, none⟩) 1 1]).run Tryz.prog W = .ok (goInt [x].length) (W.setCells w.heap.size i [x]) := fun W hWc hWf ty dc =>
  run_copy_cells W _ _ ty 2 w.heap.size i (n + 1 - i) dc ⟨vb, 0, none⟩ 1 1 [x] fH hsz (by simp only [List.length_singleton, Nat.min_def]; split <;> omega)
   (fun j v hj => by rw [Addr.add_lit, Nat.zero_add, hWc]; exact hOv _ v (hvs j v hj))
   (fun j hj => by rw [hWc]; exact hN _ (by simp at hj; omega)) (fun j hj => by rw [hWf]; exact hNf _) (by simpa using h1v)
 have hGn : n + 1 <= G := by rw [hG]; exact grownCap_ge w _ _ _
 have hG63 : G <= 9223372036854775807 := by
  have := grownCap_le_maxLen w (n + 1) c 2 (by unfold maxLen; omega);rw [<- hG] at this;unfold maxLen at this;omega
 have hGi : ¬ (G = i) := by omega
 have hGim : ¬ (G = i + 1) := by omega
 have hci : ¬ (c = i) := by omega
 have hbN : b ≠ w.heap.size := by omega
 have hdl : (cs.drop i).length = n - i := by rw [List.length_drop, hcl]
 have hcpB : ∀ (W : World), (∀ y, W.cell? y = (W1.setCells w.heap.size i [x]).cell? y) -> (∀ y, W.frozen? y = (W1.setCells w.heap.size i [x]).frozen? y) -> ∀ ty dc sc, (Builtin.copy_ #[51, 51] ty #[.slice (some ⟨w.heap.size, i + 1, none⟩) (n - i) dc, .slice (some ⟨b, i, none⟩) (n - i) sc]).run Tryz.prog W = .ok (goInt (cs.drop i).length) (W.setCells w.heap.size (i + 1) (cs.drop i)) := fun W hWc hWf ty dc sc =>
  run_copy_cells W _ _ ty 2 w.heap.size (i + 1) (n - i) dc ⟨b, i, none⟩ (n - i) sc (cs.drop i) fH hsz (by rw [hdl]; simp only [Nat.min_def]; split <;> omega)
   (fun j v hj => by
    rw [Addr.add_lit, hWc, World.cell?_setCells_out _ _ _ _ _ (fun h _ => absurd h hbN)];exact hOb _ v (hcs (i + j) v (by rwa [List.getElem?_drop] at hj)))
   (fun j hj => by rw [hWc]; exact isSome_setCells _ [x] i W1 (fun t ht => hN _ (by simp at ht; omega)) _ (hN _ (by omega)))
   (fun j hj => by rw [hWf, World.frozen?_setCells]; exact hNf _) (fun v hv => h1c v (List.mem_of_mem_drop hv))
 subst hW1;have hE1 : ∀ x, ((w.alloc (.cells ROW 2)).drew).cell? x = (w.drew.alloc (.cells ROW 2)).cell? x := fun x => rfl
 have hE2 : ∀ x, ((w.alloc (.cells ROW 2)).drew).frozen? x = (w.drew.alloc (.cells ROW 2)).frozen? x := fun x => rfl
 have hF1 : ∀ y, (((w.alloc (.cells ROW 2)).drew.setCells w.heap.size i [x]).drew).cell? y = ((w.drew.alloc (.cells ROW 2)).setCells w.heap.size i [x]).cell? y := fun y => rfl
 have hF2 : ∀ y, (((w.alloc (.cells ROW 2)).drew.setCells w.heap.size i [x]).drew).frozen? y = ((w.drew.alloc (.cells ROW 2)).setCells w.heap.size i [x]).frozen? y := fun y => rfl
 have hw1 : IntKind.i64.wrap ((i : Int) + 1) = (i : Int) + 1 := by rw [IntKind.wrap_i64]; omega
 have hb1 : (0 : Int) <= (i : Int) + 1 := by omega
 have hin : i <= n := by omega
 have htn : ((i : Int) + 1).toNat = i + 1 := by omega
 have hb3 : (i : Int) <= (n : Int) := by omega
 have hb5 : (i : Int) <= (n : Int) + 1 := by omega
 clear hkk hik hold hROW hG hRl hb ht hv h1c h1v hcs hvs hN hNf hOb hOv
 go_enter Tryz.func111, Tryz.ntmps111
 go_wp2_with (first
  | (at_builtin; refine Lib.wpList_append_run _ rfl _ _ _ _ rfl _ _ rfl rfl _ _ (hrz _) ?_)
  | (at_builtin; refine wpList_copy_runI _ rfl _ _ 51 51 rfl _ _ rfl rfl (hcpA _ hE1 hE2 _ _) ?_)
  | (at_builtin; refine wpList_copy_runI _ rfl _ _ 51 51 rfl _ _ rfl rfl (hcpB _ (fun _ => rfl) (fun _ => rfl) _ _ _) ?_))
 go_region_law (refine step_copy_runI rfl _ _ 51 51 rfl (.slice (some ⟨w.heap.size, i + 1, none⟩) (n - i) (G - (i + 1))) (.slice (some ⟨b, i, none⟩) (n - i) (c - i)) (by simp [Act.eval, Act.put]) (by simp [Act.eval, Act.put]) (hcpB _ hF1 hF2 3 (G - (i + 1)) (c - i)) ?_)
 go_wp2
 go_ret;exact ⟨rfl, rfl⟩
theorem Lw (v : Value) (n i vb : Nat) (xs : List Value) (x : Value) (w : World) (hn : n <= 1000000) (hi : i <= n) (ho : w.ownsRow 0 2 1 v n xs) (hv : w.heap[vb]? = some (.cells #[x] 2 (0, 0))) (hne : v.ownBlock ≠ some vb)
 (h1c : ∀ u ∈ xs, u.oneCell' = true) (h1v : x.oneCell' = true) :
 Calls Tryz.prog 111 #[v, .int .i64 i, .slice (some ⟨vb, 0, none⟩) 1 1] w fun e w' => nU w w' 2 v (xs.take i ++ x :: xs.drop i) e := by
 rcases lL ho with ⟨rfl, rfl, rfl⟩ | ⟨g, cap, cur, rfl, hob, hg, hnc, hm, hs, ht, hx, _⟩
 · obtain rfl : i = 0 := by omega
   refine (Au none 0 0 vb [] x w (Nat.le_refl _) (by omega) (by omega) rfl (fun _ => rfl) (fun a h => by cases h) hv h1v).mono fun e w' ⟨he, hw⟩ => ?_
   subst hw;exact rA (xs := []) rfl (grownCap_ge w (0 + 1) 0 2) (grownCap_le_maxLen w (0 + 1) 0 2 (by unfold maxLen; omega)) (by simp [Builtin.zeroCells, Value.cells]) e he
 · have hne' : vb ≠ g := fun h => hne (by rw [hob, h])
   have hm' : cap <= 9223372036854775807 := by unfold maxLen at hm; omega
   by_cases hr : n + 1 <= cap
   · by_cases hin : i = n
     · subst hin
       refine (EG g i cap vb cur x w hr hm' hg hs hv h1v).mono fun e w' ⟨he, hw⟩ => ?_
       subst hw;exact xK hg hs ht hx hr hm e he
     · refine (By g n cap i vb cur xs x w (by omega) hr hm' hne' hg hs hx ht hv h1c h1v).mono fun e w' ⟨he, hw⟩ => ?_
       subst hw;exact uJ hg hs ht hx (by omega) hr hm e he
   · have hG1 := grownCap_ge w (n + 1) cap 2
     have hG2 := grownCap_le_maxLen w (n + 1) cap 2 (by unfold maxLen; omega)
     by_cases hin : i = n
     · subst hin
       refine (Au (some ⟨g, 0, none⟩) i cap vb xs x w hnc (by omega) (by omega) hx (fun h => by cases h) (fun a ha j u hj => by cases ha; rw [Addr.add_lit, Nat.zero_add]; exact eM hg ht hj) hv h1v).mono fun e w' ⟨he, hw⟩ => ?_
       subst hw;exact rA hx hG1 hG2 (by simp [Builtin.zeroCells, Value.cells]) e he
     · refine (EH g n cap i vb cur xs x w (by omega) hnc (by omega) (by omega) hg hx ht hv h1c h1v).mono fun e w' ⟨he, hw⟩ => ?_
       subst hw;exact xL hx (by omega) hG1 hG2 (by simp [Builtin.zeroCells, Value.cells]) (by simp [Builtin.zeroCells, Value.cells]) e he
end
section
open Go.RowKit Go.Lib
theorem Fn : (Tryz.prog.info? 2).map (fun i => (i.zero, i.size, i.bytes)) = some (some (Value.int .i64 0), 1, 8) := by kernel_rfl
theorem AB : Tryz.prog.underlying 51 = some (.slice 2) := by kernel_rfl
theorem Fk (w : World) : (zeroValue 2).run Tryz.prog w = .ok (Value.int .i64 0) w := by kernel_rfl
set_option maxHeartbeats 4000000 in
set_option maxRecDepth 1000000 in
theorem Fl (g n cap i : Nat) (cur : Array Value) (xs : List Value) (w : World) (hi : i < n) (hn : n <= cap) (_ : cap <= 9223372036854775807)
 (hg : w.heap[g]? = some (.cells cur 2 (0, 0))) (hs : cur.size = cap) (hx : xs.length = n) (ht : cur.toList.take n = xs) (h1 : ∀ v ∈ xs, v.oneCell' = true) :
 Calls Tryz.prog 112 #[.slice (some ⟨g, 0, none⟩) n cap, .int .i64 i, .int .i64 ((i : Int) + 1)] w fun e w' =>
  e = .returned (.slice (some ⟨g, 0, none⟩) (n - 1) cap) /\ w' = (w.drew.setCells g i (xs.drop (i + 1))).setCells g (n - 1) [Value.int .i64 0] := by
 obtain ⟨i0, hi0, hz0, hz1, hz2⟩ := info_parts Fn;obtain ⟨news, hnews⟩ : ∃ news, news = xs.drop (i + 1) := ⟨_, rfl⟩;have hlen : news.length = n - (i + 1) := by rw [hnews, List.length_drop, hx]
 have hcs : ∀ j v, xs[j]? = some v -> w.cell? ⟨g, j, none⟩ = some v := fun j v h => eM hg ht h
 have hsp : ∀ j, j < cap -> (w.cell? ⟨g, j, none⟩).isSome = true := fun j h => by
  rw [cell_of_row w g j cur _ (0, 0) hg, Array.getElem?_eq_getElem (by omega)]; rfl
 have hfz : ∀ j, w.frozen? ⟨g, j, none⟩ = false := fun j => frozen_of_row w g j cur _ hg
 obtain ⟨A, hA, hsrc⟩ : ∃ A : Addr, (if cap = i + 1 then some (⟨g, 0, none⟩ : Addr) else some ⟨g, i + 1, none⟩) = some A /\ Hid (∀ t u, news[t]? = some u -> w.drew.cell? (A.add t) = some u) := by
  by_cases h : cap = i + 1
  · refine ⟨⟨g, 0, none⟩, by simp [h], fun t u hu => ?_⟩
    have h0 : news.length = 0 := by rw [hlen]; omega
    rw [List.length_eq_zero_iff.1 h0] at hu;simp at hu
  · refine ⟨⟨g, i + 1, none⟩, by simp [h], fun t u hu => ?_⟩
    rw [hnews, List.getElem?_drop] at hu;rw [Addr.add_lit];exact hcs _ _ hu
 have s1 : Hid (news.length = (n - (i + 1)) * 1) := by rw [Nat.mul_one]; exact hlen
 have s2 : Hid (∀ u ∈ news, u.oneCell' = true) := fun u hu => h1 u (by rw [hnews] at hu; exact List.mem_of_mem_drop hu)
 have s3 : Hid (∀ t, t < news.length -> (w.drew.cell? ⟨g, 0 + i * 1 + t, none⟩).isSome = true /\ w.drew.frozen? ⟨g, 0 + i * 1 + t, none⟩ = false) := fun t ht => by
  rw [hlen] at ht;exact ⟨hsp _ (by omega), hfz _⟩
 obtain ⟨W1, hW1⟩ : ∃ W1, W1 = w.drew.setCells g (0 + i * 1) news := ⟨_, rfl⟩
 have hsp1 : ∀ j, j < cap -> (W1.cell? ⟨g, j, none⟩).isSome = true := fun j hj => by
  rw [hW1];obtain ⟨c1, q1, t1⟩ := cT g 2 news (0 + i * 1) w.drew cur hg (by omega);rw [cell_of_row _ g j c1 _ (0, 0) q1, Array.getElem?_eq_getElem (by rw [<- Array.length_toList, t1]; simp [List.length_take]; omega)]; rfl
 have hfz1 : ∀ j, W1.frozen? ⟨g, j, none⟩ = false := fun j => by rw [hW1, World.frozen?_setCells]; exact hfz j
 have e1 : n - (i + (n - (i + 1))) = 1 := by omega
 have hcl : ∀ ty, (Builtin.clear_ #[51] ty #[.slice (some ⟨g, i + (n - (i + 1)), none⟩) (n - (i + (n - (i + 1)))) (cap - (i + (n - (i + 1))))]).run Tryz.prog W1 = .ok (.tuple #[]) (W1.setCells g (i + (n - (i + 1))) (List.replicate (n - (i + (n - (i + 1)))) (Value.int .i64 0))) :=
  fun ty => Lib.run_clear_slice W1 _ _ ty _ AB Fk rfl rfl g (i + (n - (i + 1))) _ _ (by omega) (fun t ht => hsp1 _ (by omega)) (fun t ht => hfz1 _)
 have X : Hid (W1 = w.drew.setCells g i news) := by
  show W1 = _;rw [hW1, Nat.zero_add, Nat.mul_one]
 have hW : Hid (W1 = w.drew.setCells g (0 + i * 1) news) := hW1;have N : Hid (news = xs.drop (i + 1)) := hnews;have hic : i <= cap := by omega
 have hjc : i + 1 <= cap := by omega
 have hb1 : (0 : Int) <= (i : Int) + 1 := by omega
 have hb2 : (i : Int) + 1 <= (n : Int) := by omega
 have E1 : Hid (n - (i + (n - (i + 1))) = 1) := e1;clear e1 hW1 hsp hsp1 hfz hfz1 hcs hnews hlen hg hs hx ht h1
 go_enter Tryz.func112, Tryz.ntmps112
 go_wp2_with fail
 go_region_law (refine step_append_room rfl (.tmp 22) (.tmp 25) 51 rfl 2 i0 1 AB hi0 hz1 g 0 i cap (by simp [Act.eval, Act.put]) A (n - (i + 1)) (cap - (i + 1)) news (by simp [Act.eval, Act.put]) s1.out hsrc.out s2.out (by omega) s3.out ?_; rw [<- hW.out])
 go_wp2
 go_ret;refine ⟨by rw [show n - 1 = i + (n - (i + 1)) by omega]; rfl, ?_⟩;rw [E1.out, X.out, N.out, show n - 1 = i + (n - (i + 1)) by omega];rfl
theorem Lz (v : Value) (n i : Nat) (xs : List Value) (w : World) (hn : n <= 1000000) (hi : i < n) (ho : w.ownsRow 0 2 1 v n xs) (h1 : ∀ u ∈ xs, u.oneCell' = true) :
 Calls Tryz.prog 112 #[v, .int .i64 i, .int .i64 ((i : Int) + 1)] w fun e w' => yI w w' 2 v (xs.eraseIdx i) e := by
 rcases lL ho with ⟨rfl, rfl, rfl⟩ | ⟨g, cap, cur, rfl, hob, hg, hnc, hm, hs, ht, hx, _⟩
 · omega
 · refine (Fl g n cap i cur xs w hi hnc (by unfold maxLen at hm; omega) hg hs hx ht h1).mono fun e w' ⟨he, hw⟩ => ?_
   subst hw;exact JG hg hs ht hx hi hnc hm e he
set_option maxHeartbeats 1000000 in
theorem JJ (x : Int) (w : World) : Calls Tryz.prog 176 #[.int .i64 x] w fun e w' => e = .returned (.bool false) /\ w = w' := by
 go_enter Tryz.func176, Tryz.ntmps176
 go_wp2
 go_ret;exact ⟨by simp, rfl⟩
set_option maxHeartbeats 1000000 in
theorem oW (x : Int) (w : World) : Calls Tryz.prog 153 #[.int .i64 x] w fun e w' => e = .returned (.bool false) /\ w = w' := by
 go_enter Tryz.func153, Tryz.ntmps153
 go_wp2
 go_ret;exact ⟨by simp, rfl⟩
set_option maxHeartbeats 1000000 in
theorem JU (x y : Int) (b : Bool) (h : lsL x y = b) (w : World) : Calls Tryz.prog 152 #[.int .i64 x, .int .i64 y] w fun e w' => e = .returned (.bool b) /\ w = w' := by
 subst h
 go_enter Tryz.func152, Tryz.ntmps152
 go_wp2_with (go_at_call 176; refine (JJ _ _).mono ?_; rintro e w' ⟨rfl, rfl⟩)
 go_ret;exact ⟨rfl, rfl⟩
theorem Ly {ks : List Int} (hr : bQ lsL ks) {x y : Int} {p : Nat} (hp : pos lsL ks x = p) (hy : ks[p]? = some y) (b : Bool) (hb : decide (y = x) = b) : b = has ks x := by
 rw [qH eO hr hp hy, hb]
set_option maxHeartbeats 4000000 in
set_option maxRecDepth 1000000 in
/-- At a row that rises, of at least one element. -/
theorem wN (g n cap : Nat) (ks : List Int) (x : Int) (w : World) (hn : n <= 1000000) (hl : ks.length = n) (hr : bQ lsL ks) (hc : ∀ j v, (ks.map (Value.int .i64))[j]? = some v -> w.cell? ⟨g, j, none⟩ = some v) :
 Calls Tryz.prog 110 #[.slice (some ⟨g, 0, none⟩) n cap, .int .i64 x] w fun e w' =>
  e = .returned (.tuple #[.int .i64 (pos lsL ks x : Nat), .bool (has ks x)]) /\ ∃ q, w' = w.drewN q := by
 have hS := sC eO hr x;rw [hl] at hS;obtain ⟨I, hI⟩ : ∃ I, pos lsL ks x = I := ⟨_, rfl⟩;obtain ⟨B, hB⟩ : ∃ B, B = has ks x := ⟨_, rfl⟩;have hIn : I <= n := by rw [<- hI, <- hl]; exact pY _ _
 rw [hI] at hS;rw [hI, <- hB];have HE := aA (p := ∀ y b, ks[I]? = some y -> decide (y = x) = b -> b = B) (fun y b hy hb => by rw [hB]; exact Ly hr hI hy b hb);have HN := aA (p := n <= I -> false = B) (fun h => by rw [hB]; exact (oO eO hr hI (by omega)).symm);have HC := aA (p := ∀ t, t < n -> w.cell? ⟨g, t, none⟩ = some (.int .i64 (ks.getD t x))) (fun t ht => hc t _ (by rw [List.getElem?_map, List.getD_eq_getElem?_getD, List.getElem?_eq_getElem (by omega)]; rfl));have HG := aA (p := ∀ t, t < n -> ks[t]? = some (ks.getD t x)) (fun t ht => by rw [List.getD_eq_getElem?_getD, List.getElem?_eq_getElem (by omega)]; rfl);have HS := aA hS;clear hS hI hB hc hr hl
 go_enter Tryz.func110, Tryz.ntmps110
 go_wp2
 go_loopg [7, 8] n (fun g s7 s8 wr => ∃ lo hi q : Nat, s7 = .int .i64 lo /\ s8 = .int .i64 hi /\ lo <= hi /\ hi <= n /\ hi - lo <= g /\ wr = w.drewN q /\ Hid (Lib.bsGo (fun t => lsL (ks.getD t x) x) g lo hi = I))
 case atStart => exact ⟨0, n, 0, rfl, rfl, Nat.zero_le _, Nat.le_refl _, by omega, rfl, HS⟩
 case round =>
  obtain ⟨lo, hi, q, rfl, rfl, hlh, hin, hg, rfl, hb⟩ := hrel
  by_cases hlt : lo < hi
  · have cm := HC.out ((lo + hi) / 2) (by omega)
    obtain ⟨g', rfl⟩ : ∃ g', gk = g' + 1 := ⟨gk - 1, by omega⟩;have hb1 := hb.out;clear hb;simp only [Lib.bsGo, hlt, if_true] at hb1;obtain ⟨y, hy⟩ : ∃ y, ks.getD ((lo + hi) / 2) x = y := ⟨_, rfl⟩;rw [hy] at cm;simp only [hy] at hb1;clear hy;cases hyx : lsL y x <;> simp only [hyx, if_true, Bool.false_eq_true, if_false] at hb1
    · have HB := aA hb1
      have HY := aA hyx;clear hb1 hyx
      go_wp2_with (first | (go_at_call 152; refine (JU _ _ _ HY.out _).mono ?_; rintro e w' ⟨rfl, rfl⟩) | (go_at_call 153; refine (oW _ _).mono ?_; rintro e w' ⟨rfl, rfl⟩))
      go_roundg ((lo + hi) / 2 - lo)
      case measure => omega
      case rel => exact ⟨lo, (lo + hi) / 2, _, rfl, by rw [show ((lo : Int) + (hi : Int)) / 2 = (((lo + hi) / 2 : Nat) : Int) by omega], by omega, by omega, Nat.le_refl _, rfl, aA (by rw [<- HB.out]; exact Lib.bsGo_fuel _ _ _ _ _ (Nat.le_refl _) (by omega))⟩
    · have HB := aA hb1
      have HY := aA hyx;clear hb1 hyx
      go_wp2_with (first | (go_at_call 152; refine (JU _ _ _ HY.out _).mono ?_; rintro e w' ⟨rfl, rfl⟩) | (go_at_call 153; refine (oW _ _).mono ?_; rintro e w' ⟨rfl, rfl⟩))
      go_roundg (hi - ((lo + hi) / 2 + 1))
      case measure => omega
      case rel => exact ⟨(lo + hi) / 2 + 1, hi, _, by rw [show ((lo : Int) + (hi : Int)) / 2 + 1 = (((lo + hi) / 2 + 1 : Nat) : Int) by omega], rfl, by omega, hin, Nat.le_refl _, rfl, aA (by rw [<- HB.out]; exact Lib.bsGo_fuel _ _ _ _ _ (Nat.le_refl _) (by omega))⟩
  · obtain rfl : hi = lo := by omega
    obtain rfl : hi = I := by
     rw [<- hb.out];cases gk <;> simp [Lib.bsGo]
    clear hb HS
    by_cases hn : hi < n
    · have cl := HC.out hi hn
      have hy := HG.out hi hn;obtain ⟨y, hyd⟩ : ∃ y, ks.getD hi x = y := ⟨_, rfl⟩;rw [hyd] at cl hy;clear hyd;have HY := aA hy;clear hy
      by_cases hyx : y = x
      · subst hyx
        have HB := HE.out y true HY.out (by simp);subst HB;clear HE HN HC HG
        go_wp2_with (first | (go_at_call 153; refine (oW _ _).mono ?_; rintro e w' ⟨rfl, rfl⟩))
        go_ret2;exact ⟨rfl, _, rfl⟩
      · have hne : (y == x) = false := by simpa using hyx
        have HB := HE.out y false HY.out (by simpa using hyx);subst HB;have HX := aA hyx;clear HE HN HC HG hyx
        go_wp2_with (first | (go_at_call 153; refine (oW _ _).mono ?_; rintro e w' ⟨rfl, rfl⟩))
        all_goals (go_ret2; exact ⟨rfl, _, rfl⟩)
    · have HB := HN.out (by omega)
      subst HB;clear HE HN HC HG
      go_wp2_with (first | (go_at_call 153; refine (oW _ _).mono ?_; rintro e w' ⟨rfl, rfl⟩))
      go_ret2;exact ⟨rfl, _, rfl⟩
set_option maxHeartbeats 1000000 in
set_option maxRecDepth 1000000 in
theorem wO (x : Int) (w : World) :
 Calls Tryz.prog 110 #[.slice none 0 0, .int .i64 x] w fun e w' => e = .returned (.tuple #[.int .i64 (0 : Nat), .bool false]) /\ w' = w := by
 go_enter Tryz.func110, Tryz.ntmps110
 go_wp2
 go_loop [7, 8] (fun s7 s8 => s7 = .int .i64 0 /\ s8 = .int .i64 0) (fun _ _ => 0)
 case atStart => exact ⟨rfl, rfl⟩
 case round =>
  obtain ⟨rfl, rfl⟩ := hrel
  go_wp2
  go_ret2;exact ⟨rfl, rfl⟩
theorem Iy (v : Value) (n : Nat) (ks : List Int) (x : Int) (w : World) (hn : n <= 1000000) (ho : w.ownsRow 0 2 1 v n (ks.map (Value.int .i64))) (hr : bQ lsL ks) :
 Calls Tryz.prog 110 #[v, .int .i64 x] w fun e w' =>
  e = .returned (.tuple #[.int .i64 (pos lsL ks x : Nat), .bool (has ks x)]) /\ ∃ q, w' = w.drewN q := by
 rcases lL ho with ⟨rfl, rfl, hx⟩ | ⟨g, cap, cur, rfl, hob, hg, hnc, hm, hs, ht, hx, _⟩
 · obtain rfl : ks = [] := List.map_eq_nil_iff.1 hx
   refine (wO x w).mono fun e w' ⟨he, hw⟩ => ⟨he, 0, hw⟩
 · exact wN g n cap ks x w hn (by simpa using hx) hr (fun j v hj => eM hg ht hj)
end
end Go.Proofs.YtapcjnoaofmmiaaGreatDoor
