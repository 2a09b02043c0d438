/-
 No statement: what AggEvalCard needs, of the texts HEvalT, HCalc, QTakes, OHold.
-/
import Derived.Test.YtapcjnoaofmmiaaGreatDoorVE18
namespace Go.Proofs.YtapcjnoaofmmiaaGreatDoor
section
open Go.RowKit
structure dU (A : Nat -> Wr.AD) (n : Nat) (g : ByteArray -> Option Int) : Prop where
 ok : wI A n g
 ri : Wr.RiseA A n
 few : n <= 1000
 sm : ∀ j, j < n -> (A j).len <= 1000000
def PEv (A : Nat -> Wr.AD) (n : Nat) (g : ByteArray -> Option Int) (t : TN) : Prop := ∀ (G : Nat -> Prop) (w : World) (a : Option Addr) (c : Nat) (y : Option Addr) (cy : Nat), aH G w a t.ks -> Wr.ReadsA w y n A ->
 Calls Tryz.prog 175 #[cH t.op t.nm t.n a t.ks.len c, .slice y n cy] w fun e w' => e = .returned (.tuple #[.int .i64 ((evT g t).getD 0), .bool (evT g t).isSome]) /\ Below w.heap.size w w'
variable {A : Nat -> Wr.AD} {n : Nat} {g : ByteArray -> Option Int}
set_option maxHeartbeats 4000000 in
theorem IX (o m : ByteArray) (v : Int) (h1 : bH o = true) : PEv A n g ⟨o, m, v, .nil⟩ := by
 intro G w a c y cy hr hA;rw [xS g h1];clear hr hA;dsimp only;have g1 := bG h1;unfold gP at g1;have NB := aA (heap_alloc_new w (ndG o m v a F.nil.len c));have B0 := aA ((Below.refl w.heap.size w).alloc (Nat.le_refl _) (ndG o m v a F.nil.len c));clear h1
 go_enter Tryz.func175, Tryz.ntmps175
 go_wp2_with fail
 go_ret2;exact ⟨rfl, B0.out⟩
set_option maxHeartbeats 4000000 in
theorem Gs (U : dU A n g) (o m : ByteArray) (v : Int) (h1 : bH o = false) (h2 : a8 o = true) : PEv A n g ⟨o, m, v, .nil⟩ := by
 intro G w a c y cy hr hA;rw [rP g h1 h2];dsimp only;have g1 := aE h1;have g2 := bG h2;unfold gP at g1;unfold eY at g2;have B0 := aA ((Below.refl w.heap.size w).alloc (Nat.le_refl _) (ndG o m v a F.nil.len c));have C := aA (Bl U.ok U.ri U.few U.sm y cy m (w.alloc (ndG o m v a F.nil.len c)) (hA.kept B0.out));obtain ⟨q, hq⟩ : ∃ q, g m = q := ⟨_, rfl⟩;rw [hq] at C |-
 clear h1 h2 hr hA hq
 go_enter Tryz.func175, Tryz.ntmps175
 go_wp2_with fail
 refine C.out.mono ?_;rintro e w1 ⟨rfl, hb⟩;have B1 := aA (B0.out.trans (hb.mono B0.out.size));clear hb
 go_wp2_with fail
 go_ret2;exact ⟨rfl, B1.out⟩
set_option maxHeartbeats 8000000 in
theorem IY (o m : ByteArray) (v : Int) (t : TN) (h1 : bH o = false) (h2 : a8 o = false) (h3 : dO o = true) (hi : ∀ x, evT g t = some x -> aN x) (ih : PEv A n g t) : PEv A n g ⟨o, m, v, t.f⟩ := by
 intro G w a c y cy hr hA;rw [xT g t h1 h2 h3];dsimp only at hr |-
 rw [show t.f.len = 1 from rfl];have g1 := aE h1;have g2 := aE h2;have g3 := bG h3;unfold gP at g1;unfold eY at g2;unfold fE at g3;have NB := aA (heap_alloc_new w (ndG o m v a 1 c));have B0 := aA ((Below.refl w.heap.size w).alloc (Nat.le_refl _) (ndG o m v a 1 c));obtain ⟨b, off, a2, c2, ha, hG, hbl, ⟨p0, p1, p2, p3⟩, hr2⟩ := bI (hr.kept B0.out) (show t.f.at 0 = some t from rfl);have C := aA (ih G (w.alloc (ndG o m v a 1 c)) a2 c2 y cy hr2 (hA.kept B0.out));rw [Nat.zero_mul, Nat.add_zero] at p0 p1 p2 p3;subst ha;have SB := aA (fun (x : Int) (h : aN x) (V : World) => yL 0 x V (by unfold aN; omega) h)
 have HI : aN ((evT g t).getD 0) := by
  cases hE : evT g t with
  | none => show aN 0; unfold aN; omega
  | some x => exact hi x hE
 have RS : (Option.map (fun x => cG (0 - x)) (evT g t)).getD 0 = cG (0 - (evT g t).getD 0) /\ (Option.map (fun x => cG (0 - x)) (evT g t)).isSome = (evT g t).isSome := by
  cases evT g t with
  | none => exact ⟨by decide, rfl⟩
  | some x => exact ⟨rfl, rfl⟩
 rw [RS.1, RS.2];obtain ⟨q, hq⟩ : ∃ q, (evT g t).getD 0 = q := ⟨_, rfl⟩;obtain ⟨z, hz⟩ : ∃ z, (evT g t).isSome = z := ⟨_, rfl⟩;rw [hq] at C HI |-
 rw [hz] at C |-
 have S1 := aA (SB.out q HI);rw [Int.zero_sub];clear h1 h2 h3 hr hA ih hr2 hq hz RS HI hi SB
 go_enter Tryz.func175, Tryz.ntmps175
 go_wp2_with fail
 generalize w.alloc (ndG o m v (some ⟨b, off, none⟩) 1 c) = W at NB B0 C hbl p0 p1 p2 p3 |-
 obtain ⟨⟨m0, m1, m2, m3⟩, -⟩ := aJ NB.out
 go_wp2_with fail
 refine C.out.mono ?_;rintro e w1 ⟨rfl, hb⟩;have B1 := aA (B0.out.trans (hb.mono B0.out.size));clear hb
 go_wp2_with fail
 refine (S1.out _).mono ?_;rintro e w2 ⟨rfl, rfl⟩
 go_wp2_with fail
 go_ret2;exact ⟨rfl, B1.out⟩
set_option maxHeartbeats 8000000 in
theorem IW (o m : ByteArray) (v : Int) (t u : TN) (h1 : bH o = false) (h2 : a8 o = false) (h3 : dO o = false) (h4 : jN o = true) (hi : ∀ x, evT g t = some x -> aN x) (hj : ∀ x, evT g u = some x -> aN x) (ih : PEv A n g t) (iu : PEv A n g u) : PEv A n g ⟨o, m, v, .cons t.op t.nm t.n t.ks u.f⟩ := by
 intro G w a c y cy hr hA;rw [lU g t u h1 h2 h3];dsimp only at hr |-
 rw [show (F.cons t.op t.nm t.n t.ks u.f).len = 2 from rfl];have g1 := aE h1;have g2 := aE h2;have g3 := aE h3;unfold gP at g1;unfold eY at g2;unfold fE at g3;have NB := aA (heap_alloc_new w (ndG o m v a 2 c));have B0 := aA ((Below.refl w.heap.size w).alloc (Nat.le_refl _) (ndG o m v a 2 c));obtain ⟨b, off, a2, c2, ha, hG, hbl, ⟨p0, p1, p2, p3⟩, hr2⟩ := bI (hr.kept B0.out) (show (F.cons t.op t.nm t.n t.ks u.f).at 0 = some t from rfl);obtain ⟨b', off', a3, c3, ha', hG', hbl', ⟨q0, q1, q2, q3⟩, hr3⟩ := bI (hr.kept B0.out) (show (F.cons t.op t.nm t.n t.ks u.f).at 1 = some u from rfl);subst ha;cases ha';have C := aA (ih G (w.alloc (ndG o m v (some ⟨b, off, none⟩) 2 c)) a2 c2 y cy hr2 (hA.kept B0.out));have D := aA (fun V (hV : Below (w.alloc (ndG o m v (some ⟨b, off, none⟩) 2 c)).heap.size (w.alloc (ndG o m v (some ⟨b, off, none⟩) 2 c)) V) => iu G V a3 c3 y cy (hr3.kept hV) ((hA.kept B0.out).kept hV));have AP := aA (fun (p q : Int) (hp : aN p) (hq : aN q) (V : World) => Bi o p q hp hq h4 V);rw [Nat.zero_mul, Nat.add_zero] at p0 p1 p2 p3;rw [Nat.one_mul] at q0 q1 q2 q3;clear h1 h2 h3 h4 hr hA ih iu hr2 hr3;cases hT : evT g t with
 | none =>
   rw [hT] at C;simp only [Option.getD_none, Option.isSome_none] at C |-
   clear hT hi hj D AP
   go_enter Tryz.func175, Tryz.ntmps175
   go_wp2_with fail
   generalize w.alloc (ndG o m v (some ⟨b, off, none⟩) 2 c) = W at NB B0 C hbl p0 p1 p2 p3 |-
   obtain ⟨⟨m0, m1, m2, m3⟩, -⟩ := aJ NB.out
   go_wp2_with fail
   refine C.out.mono ?_;rintro e w1 ⟨rfl, hb⟩;have B1 := aA (B0.out.trans (hb.mono B0.out.size));clear hb
   go_wp2_with fail
   go_ret2;exact ⟨rfl, B1.out⟩
 | some p =>
   rw [hT] at C;simp only [Option.getD_some, Option.isSome_some] at C;have HP := aA (hi p hT);cases hU : evT g u with
   | none =>
     rw [hU] at D;simp only [Option.getD_none, Option.isSome_none] at D |-
     clear hT hi hj hU AP
     go_enter Tryz.func175, Tryz.ntmps175
     go_wp2_with fail
     generalize w.alloc (ndG o m v (some ⟨b, off, none⟩) 2 c) = W at NB B0 C D hbl hbl' p0 p1 p2 p3 q0 q1 q2 q3 |-
     obtain ⟨⟨m0, m1, m2, m3⟩, -⟩ := aJ NB.out
     go_wp2_with fail
     refine C.out.mono ?_;rintro e w1 ⟨rfl, hb⟩;have D1 := aA (D.out w1 hb);have B1 := aA (B0.out.trans (hb.mono B0.out.size));have s0 := (hb.cell hbl').trans q0;have s1 := (hb.cell hbl').trans q1;have s2 := (hb.cell hbl').trans q2;have s3 := (hb.cell hbl').trans q3;have s4 := (hb.cell (aC NB.out)).trans m3;have s5 := (hb.cell (aC NB.out)).trans m0;clear hb p0 p1 p2 p3 q0 q1 q2 q3 m0 m1 m2 m3 C D
     go_wp2_with fail
     refine D1.out.mono ?_;rintro e w2 ⟨rfl, hb⟩;have B2 := aA (B1.out.trans (hb.mono B1.out.size));clear hb
     go_wp2_with fail
     go_ret2;exact ⟨rfl, B2.out⟩
   | some q =>
     rw [hU] at D;simp only [Option.getD_some, Option.isSome_some] at D |-
     have A1 := aA (AP.out p q HP.out (hj q hU));clear hT hi hj hU AP HP
     go_enter Tryz.func175, Tryz.ntmps175
     go_wp2_with fail
     generalize w.alloc (ndG o m v (some ⟨b, off, none⟩) 2 c) = W at NB B0 C D hbl hbl' p0 p1 p2 p3 q0 q1 q2 q3 |-
     obtain ⟨⟨m0, m1, m2, m3⟩, -⟩ := aJ NB.out
     go_wp2_with fail
     refine C.out.mono ?_;rintro e w1 ⟨rfl, hb⟩;have D1 := aA (D.out w1 hb);have B1 := aA (B0.out.trans (hb.mono B0.out.size));have s0 := (hb.cell hbl').trans q0;have s1 := (hb.cell hbl').trans q1;have s2 := (hb.cell hbl').trans q2;have s3 := (hb.cell hbl').trans q3;have N1 := aA ((hb.block _ (aC NB.out)).trans NB.out);have s4 := (hb.cell (aC NB.out)).trans m3;have s5 := (hb.cell (aC NB.out)).trans m0;clear hb p0 p1 p2 p3 q0 q1 q2 q3 m0 m1 m2 m3 C D
     go_wp2_with fail
     refine D1.out.mono ?_;rintro e w2 ⟨rfl, hb⟩;have B2 := aA (B1.out.trans (hb.mono B1.out.size));have s6 := (hb.cell (aC N1.out)).trans s5;clear hb s0 s1 s2 s3 s4 s5
     go_wp2_with fail
     refine (A1.out _).mono ?_;rintro e w3 ⟨rfl, rfl⟩
     go_wp2_with fail
     go_ret2;exact ⟨rfl, B2.out⟩
theorem wW (U : dU A n g) (t : TN) (h : OkT t) (hn : d9 t.f) : PEv A n g t /\ ∀ x, evT g t = some x -> aN x :=
 iU (P := fun t => PEv A n g t /\ ∀ x, evT g t = some x -> aN x)
  (fun o m v a b d => ⟨IX o m v a, fun x hx => by rw [xS g a] at hx; cases hx; unfold aN; omega⟩)
  (fun o m v a b _ => ⟨Gs U o m v a b, fun x hx => by rw [rP g a b] at hx; exact U.ok.fit _ _ hx⟩)
  (fun o m v t a b c ih => ⟨IY o m v t a b c ih.2 ih.1, fun x hx => by
   rw [xT g t a b c, Option.map_eq_some_iff] at hx;obtain ⟨z, _, rfl⟩ := hx;exact iH _⟩)
  (fun o m v t u a b c d ih iu => ⟨IW o m v t u a b c d ih.2 iu.2 ih.1 iu.1, fun x hx => by
   rw [lU g t u a b c] at hx
   split at hx
   · rename_i p q hp hq
     exact AJ (ih.2 _ hp) hx
   · cases hx⟩) t h hn
set_option maxHeartbeats 4000000 in
theorem nF (U : dU A n g) (t : TN) (h : aK t = 0) (hn : d9 t.f) (hS : SzF t.f) (G : Nat -> Prop) (w : World) (a : Option Addr) (c : Nat) (y : Option Addr) (cy : Nat) (hr : aH G w a t.ks) (hA : Wr.ReadsA w y n A) :
 Calls Tryz.prog 151 #[cH t.op t.nm t.n a t.ks.len c, .slice y n cy] w fun e w' => e = .returned (.tuple #[.int .i64 ((evT g t).getD 0), .bool (evT g t).isSome]) /\ Below w.heap.size w w' := by
 have B0 := (Below.refl w.heap.size w).alloc (Nat.le_refl _) (ndG t.op t.nm t.n a t.ks.len c);have N0 := heap_alloc_new w (ndG t.op t.nm t.n a t.ks.len c);have R0 := hr.kept B0;have A0 := hA.kept B0;generalize hW : w.alloc (ndG t.op t.nm t.n a t.ks.len c) = W at B0 N0 R0 A0;have HW := aA hW;have HB := aA B0;have CK := aA (gJ t G W a c hS R0);rw [h] at CK;have EV := aA (fun V (hV : Below W.heap.size W V) => (wW U t ((aX t).1 h).1 hn).1 G V a c y cy (R0.kept hV) (A0.kept hV));obtain ⟨q, hq⟩ : ∃ q, (evT g t).getD 0 = q := ⟨_, rfl⟩;obtain ⟨z, hz⟩ : ∃ z, (evT g t).isSome = z := ⟨_, rfl⟩;rw [hq, hz] at EV |-
 have HN := aA N0;clear hr hA B0 N0 R0 A0 hW hq hz h;obtain ⟨⟨m0, m1, m2, m3⟩, -⟩ := aJ HN.out
 go_enter Tryz.func151, Tryz.ntmps151
 go_upto_region 1 with fail
 rw [HW.out]
 go_wp2_with fail
 refine CK.out.mono ?_;rintro e w1 ⟨rfl, hb⟩;have E1 := aA (EV.out w1 hb);have B1 := aA (HB.out.trans (hb.mono HB.out.size));have N1 := (hb.block _ (aC HN.out)).trans HN.out;clear hb m0 m1 m2 m3 EV CK;obtain ⟨⟨m0, m1, m2, m3⟩, -⟩ := aJ N1;clear N1
 go_wp2_with fail
 refine E1.out.mono ?_;rintro e w2 ⟨rfl, hb⟩;have B2 := aA (B1.out.trans (hb.mono B1.out.size));clear hb
 go_wp2_with fail
 go_ret2;exact ⟨rfl, B2.out⟩
def REv (A : Nat -> Wr.AD) (n : Nat) (g : ByteArray -> Option Int) (t : TN) : Prop := ∀ (G : Nat -> Prop) (w : World) (a : Option Addr) (c : Nat) (y : Option Addr) (cy : Nat), aH G w a t.ks -> Wr.ReadsA w y n A ->
 Calls Tryz.prog 69 #[cH t.op t.nm t.n a t.ks.len c, .slice y n cy] w fun e w' => e = .returned (.tuple #[.int .i64 ((evT g t).getD 0), .bool (evT g t).isSome]) /\ Below w.heap.size w w'
variable {A : Nat -> Wr.AD} {n : Nat} {g : ByteArray -> Option Int}
theorem EU (hg : wI A n g) (x : ByteArray) : ¬ has (Wr.nmA A n) x = true -> g x = none := fun h => hg.no x fun _ hj e => h (Wr.nmA_has hj e)
set_option maxHeartbeats 4000000 in
theorem IF (o m : ByteArray) (v : Int) (h1 : bH o = true) : REv A n g ⟨o, m, v, .nil⟩ := by
 intro G w a c y cy hr hA;rw [xS g h1];clear hr hA;dsimp only;have g1 := bG h1;unfold gP at g1;have B0 := aA ((Below.refl w.heap.size w).alloc (Nat.le_refl _) (ndO o m v a F.nil.len c));clear h1
 go_enter Tryz.func69, Tryz.ntmps69
 go_wp2_with fail
 go_ret2;exact ⟨rfl, B0.out⟩
set_option maxHeartbeats 8000000 in
theorem Gh (hg : wI A n g) (hn : n <= 1000) (o m : ByteArray) (v : Int) (h1 : bH o = false) (h2 : a8 o = true) : REv A n g ⟨o, m, v, .nil⟩ := by
 intro G w a c y cy hr hA;rw [rP g h1 h2];dsimp only;have g1 := aE h1;have g2 := bG h2;unfold gP at g1;unfold eY at g2;have B0 := aA ((Below.refl w.heap.size w).alloc (Nat.le_refl _) (ndO o m v a F.nil.len c));have C := aA (Wr.rGet_any y n cy A m hn (w.alloc (ndO o m v a F.nil.len c)) (hA.kept B0.out));clear h1 h2 hr hA
 by_cases hh : has (Wr.nmA A n) m = true
 · have C1 := aA (p := Calls Tryz.prog 116 #[.slice y n cy, .string m] (w.alloc (ndO o m v a F.nil.len c)) fun e w' => (∃ (k N : Int) (Z : ByteArray) (a : Option Addr) (L c : Nat), g m = (if k = 1 then some N else none) /\ e = .returned (.tuple #[.agg #[.int .i64 k, .int .i64 N, .string Z, .slice a L c], .bool true])) /\ Below (w.alloc (ndO o m v a F.nil.len c)).heap.size (w.alloc (ndO o m v a F.nil.len c)) w') (C.out.mono fun e w' ⟨he, hb⟩ => by
    rw [if_pos hh] at he;obtain ⟨j, y2, c2, hj, rfl, he, -⟩ := he;exact ⟨⟨_, _, _, y2, _, c2, hg.yes j hj, he⟩, hb⟩)
   clear C hh
   go_enter Tryz.func69, Tryz.ntmps69
   go_wp2_with fail
   refine C1.out.mono ?_;rintro e w1 ⟨⟨k, N, Z, a2, L, c2, hv, rfl⟩, hb⟩;have B1 := aA (B0.out.trans (hb.mono B0.out.size));have HV := aA hv;clear hb hv C1;have B2 := aA (B1.out.trans (((Below.refl w1.heap.size w1).alloc (Nat.le_refl _) (.cells #[.int .i64 k, .int .i64 N, .string Z, .slice a2 L c2] 56)).mono B1.out.size))
   by_cases h1 : k = 1
   · subst h1
     have HG := aA (show g m = some N by rw [HV.out, if_pos rfl]);clear HV
     go_wp2_with fail
     go_ret2;exact ⟨by rw [HG.out]; rfl, B2.out⟩
   · have HG := aA (show g m = none by rw [HV.out, if_neg h1])
     have e1 : (k == 1) = false := by simpa using h1
     have e2 : (k != 1) = true := by simpa using h1
     clear HV
     go_wp2_with fail
     go_ret2;exact ⟨by rw [HG.out]; rfl, B2.out⟩
 · have HG := aA (EU hg m hh)
   have C1 := aA (p := Calls Tryz.prog 116 #[.slice y n cy, .string m] (w.alloc (ndO o m v a F.nil.len c)) fun e w' => e = .returned (.tuple #[.agg #[.int .i64 0, .int .i64 0, .string ⟨#[]⟩, .slice none 0 0], .bool false]) /\ Below (w.alloc (ndO o m v a F.nil.len c)).heap.size (w.alloc (ndO o m v a F.nil.len c)) w') (C.out.mono fun e w' ⟨he, hb⟩ => by
    rw [if_neg hh] at he;exact ⟨he, hb⟩)
   clear C hh
   go_enter Tryz.func69, Tryz.ntmps69
   go_wp2_with fail
   refine C1.out.mono ?_;rintro e w1 ⟨rfl, hb⟩;have B1 := aA (B0.out.trans (hb.mono B0.out.size));have B2 := aA (B1.out.trans (((Below.refl w1.heap.size w1).alloc (Nat.le_refl _) (.cells #[.int .i64 0, .int .i64 0, .string ⟨#[]⟩, .slice none 0 0] 56)).mono B1.out.size));clear hb C1
   go_wp2_with fail
   go_ret2;exact ⟨by rw [HG.out]; rfl, B2.out⟩
set_option maxHeartbeats 8000000 in
theorem IG (o m : ByteArray) (v : Int) (t : TN) (h1 : bH o = false) (h2 : a8 o = false) (h3 : dO o = true) (hi : ∀ x, evT g t = some x -> aN x) (ih : REv A n g t) : REv A n g ⟨o, m, v, t.f⟩ := by
 intro G w a c y cy hr hA;rw [xT g t h1 h2 h3];dsimp only at hr |-
 rw [show t.f.len = 1 from rfl];have g1 := aE h1;have g2 := aE h2;have g3 := bG h3;unfold gP at g1;unfold eY at g2;unfold fE at g3;have NB := aA (heap_alloc_new w (ndO o m v a 1 c));have B0 := aA ((Below.refl w.heap.size w).alloc (Nat.le_refl _) (ndO o m v a 1 c));obtain ⟨b, off, a2, c2, ha, hG, hbl, ⟨p0, p1, p2, p3⟩, hr2⟩ := bI (hr.kept B0.out) (show t.f.at 0 = some t from rfl);have C := aA (ih G (w.alloc (ndO o m v a 1 c)) a2 c2 y cy hr2 (hA.kept B0.out));rw [Nat.zero_mul, Nat.add_zero] at p0 p1 p2 p3;subst ha;have SB := aA (fun (x : Int) (h : aN x) (V : World) => zU 0 x V (by unfold aN; omega) h);clear h1 h2 h3 hr hA ih hr2;cases hT : evT g t with
 | none =>
   rw [hT] at C;simp only [Option.getD_none, Option.isSome_none, Option.map_none] at C |-
   clear hT hi SB
   go_enter Tryz.func69, Tryz.ntmps69
   go_wp2_with fail
   generalize w.alloc (ndO o m v (some ⟨b, off, none⟩) 1 c) = W at NB B0 C hbl p0 p1 p2 p3 |-
   obtain ⟨⟨m0, m1, m2, m3⟩, -⟩ := aJ NB.out
   go_wp2_with fail
   refine C.out.mono ?_;rintro e w1 ⟨rfl, hb⟩;have B1 := aA (B0.out.trans (hb.mono B0.out.size));clear hb
   go_wp2_with fail
   go_ret2;exact ⟨rfl, B1.out⟩
 | some q =>
   rw [hT] at C;simp only [Option.getD_some, Option.isSome_some, Option.map_some] at C |-
   have S1 := aA (SB.out q (hi q hT));rw [Int.zero_sub];clear hT hi SB
   go_enter Tryz.func69, Tryz.ntmps69
   go_wp2_with fail
   generalize w.alloc (ndO o m v (some ⟨b, off, none⟩) 1 c) = W at NB B0 C hbl p0 p1 p2 p3 |-
   obtain ⟨⟨m0, m1, m2, m3⟩, -⟩ := aJ NB.out
   go_wp2_with fail
   refine C.out.mono ?_;rintro e w1 ⟨rfl, hb⟩;have B1 := aA (B0.out.trans (hb.mono B0.out.size));clear hb
   go_wp2_with fail
   refine (S1.out _).mono ?_;rintro e w2 ⟨rfl, rfl⟩
   go_wp2_with fail
   go_ret2;exact ⟨rfl, B1.out⟩
set_option maxHeartbeats 8000000 in
theorem Gg (o m : ByteArray) (v : Int) (t u : TN) (h1 : bH o = false) (h2 : a8 o = false) (h3 : dO o = false) (hno : ¬ ∃ p q, evT g t = some p /\ evT g u = some q) (ih : REv A n g t) (iu : REv A n g u) : REv A n g ⟨o, m, v, .cons t.op t.nm t.n t.ks u.f⟩ := by
 intro G w a c y cy hr hA;rw [lU g t u h1 h2 h3];dsimp only at hr |-
 rw [show (F.cons t.op t.nm t.n t.ks u.f).len = 2 from rfl];have g1 := aE h1;have g2 := aE h2;have g3 := aE h3;unfold gP at g1;unfold eY at g2;unfold fE at g3;have NB := aA (heap_alloc_new w (ndO o m v a 2 c));have B0 := aA ((Below.refl w.heap.size w).alloc (Nat.le_refl _) (ndO o m v a 2 c));obtain ⟨b, off, a2, c2, ha, hG, hbl, ⟨p0, p1, p2, p3⟩, hr2⟩ := bI (hr.kept B0.out) (show (F.cons t.op t.nm t.n t.ks u.f).at 0 = some t from rfl);obtain ⟨b', off', a3, c3, ha', hG', hbl', ⟨q0, q1, q2, q3⟩, hr3⟩ := bI (hr.kept B0.out) (show (F.cons t.op t.nm t.n t.ks u.f).at 1 = some u from rfl);subst ha;cases ha';have C := aA (ih G (w.alloc (ndO o m v (some ⟨b, off, none⟩) 2 c)) a2 c2 y cy hr2 (hA.kept B0.out));have D := aA (fun V (hV : Below (w.alloc (ndO o m v (some ⟨b, off, none⟩) 2 c)).heap.size (w.alloc (ndO o m v (some ⟨b, off, none⟩) 2 c)) V) => iu G V a3 c3 y cy (hr3.kept hV) ((hA.kept B0.out).kept hV));rw [Nat.zero_mul, Nat.add_zero] at p0 p1 p2 p3;rw [Nat.one_mul] at q0 q1 q2 q3;clear h1 h2 h3 hr hA ih iu hr2 hr3;cases hT : evT g t with
 | none =>
   rw [hT] at C;simp only [Option.getD_none, Option.isSome_none] at C |-
   obtain ⟨q, hq⟩ : ∃ q, (evT g u).getD 0 = q := ⟨_, rfl⟩;obtain ⟨z, hz⟩ : ∃ z, (evT g u).isSome = z := ⟨_, rfl⟩;rw [hq, hz] at D;clear hT hno hq hz
   go_enter Tryz.func69, Tryz.ntmps69
   go_wp2_with fail
   generalize w.alloc (ndO o m v (some ⟨b, off, none⟩) 2 c) = W at NB B0 C D hbl hbl' p0 p1 p2 p3 q0 q1 q2 q3 |-
   obtain ⟨⟨m0, m1, m2, m3⟩, -⟩ := aJ NB.out
   go_wp2_with fail
   refine C.out.mono ?_;rintro e w1 ⟨rfl, hb⟩;have D1 := aA (D.out w1 hb);have B1 := aA (B0.out.trans (hb.mono B0.out.size));have s0 := (hb.cell hbl').trans q0;have s1 := (hb.cell hbl').trans q1;have s2 := (hb.cell hbl').trans q2;have s3 := (hb.cell hbl').trans q3;have N1 := aA ((hb.block _ (aC NB.out)).trans NB.out);have s4 := (hb.cell (aC NB.out)).trans m3;have s5 := (hb.cell (aC NB.out)).trans m0;clear hb p0 p1 p2 p3 q0 q1 q2 q3 m0 m1 m2 m3 C D
   go_wp2_with fail
   refine D1.out.mono ?_;rintro e w2 ⟨rfl, hb⟩;have B2 := aA (B1.out.trans (hb.mono B1.out.size));have s6 := (hb.cell (aC N1.out)).trans s5;clear hb s0 s1 s2 s3 s4 s5
   go_wp2_with fail
   go_ret2;exact ⟨rfl, B2.out⟩
 | some p =>
   rw [hT] at C
   have hU : evT g u = none := by
    cases hU : evT g u with
    | none => rfl
    | some q => exact absurd ⟨p, q, hT, hU⟩ hno
   rw [hU] at D |-
   simp only [Option.getD_none, Option.isSome_none, Option.getD_some, Option.isSome_some] at C D |-
   clear hT hno hU
   go_enter Tryz.func69, Tryz.ntmps69
   go_wp2_with fail
   generalize w.alloc (ndO o m v (some ⟨b, off, none⟩) 2 c) = W at NB B0 C D hbl hbl' p0 p1 p2 p3 q0 q1 q2 q3 |-
   obtain ⟨⟨m0, m1, m2, m3⟩, -⟩ := aJ NB.out
   go_wp2_with fail
   refine C.out.mono ?_;rintro e w1 ⟨rfl, hb⟩;have D1 := aA (D.out w1 hb);have B1 := aA (B0.out.trans (hb.mono B0.out.size));have s0 := (hb.cell hbl').trans q0;have s1 := (hb.cell hbl').trans q1;have s2 := (hb.cell hbl').trans q2;have s3 := (hb.cell hbl').trans q3;have N1 := aA ((hb.block _ (aC NB.out)).trans NB.out);have s4 := (hb.cell (aC NB.out)).trans m3;have s5 := (hb.cell (aC NB.out)).trans m0;clear hb p0 p1 p2 p3 q0 q1 q2 q3 m0 m1 m2 m3 C D
   go_wp2_with fail
   refine D1.out.mono ?_;rintro e w2 ⟨rfl, hb⟩;have B2 := aA (B1.out.trans (hb.mono B1.out.size));have s6 := (hb.cell (aC N1.out)).trans s5;clear hb s0 s1 s2 s3 s4 s5
   go_wp2_with fail
   go_ret2;exact ⟨rfl, B2.out⟩
set_option maxHeartbeats 8000000 in
theorem IM (o m : ByteArray) (v : Int) (t u : TN) (h1 : bH o = false) (h2 : a8 o = false) (h3 : dO o = false) (hob : o.data.toList = [43]) {p q : Int} (hT : evT g t = some p) (hU : evT g u = some q) (hp : aN p) (hq : aN q) (ih : REv A n g t) (iu : REv A n g u) : REv A n g ⟨o, m, v, .cons t.op t.nm t.n t.ks u.f⟩ := by
 intro G w a c y cy hr hA;rw [lU g t u h1 h2 h3];dsimp only at hr |-
 rw [show (F.cons t.op t.nm t.n t.ks u.f).len = 2 from rfl];have g1 := aE h1;have g2 := aE h2;have g3 := aE h3;unfold gP at g1;unfold eY at g2;unfold fE at g3;have NB := aA (heap_alloc_new w (ndO o m v a 2 c));have B0 := aA ((Below.refl w.heap.size w).alloc (Nat.le_refl _) (ndO o m v a 2 c));obtain ⟨b, off, a2, c2, ha, hG, hbl, ⟨p0, p1, p2, p3⟩, hr2⟩ := bI (hr.kept B0.out) (show (F.cons t.op t.nm t.n t.ks u.f).at 0 = some t from rfl);obtain ⟨b', off', a3, c3, ha', hG', hbl', ⟨q0, q1, q2, q3⟩, hr3⟩ := bI (hr.kept B0.out) (show (F.cons t.op t.nm t.n t.ks u.f).at 1 = some u from rfl);subst ha;cases ha';have C := aA (ih G (w.alloc (ndO o m v (some ⟨b, off, none⟩) 2 c)) a2 c2 y cy hr2 (hA.kept B0.out));have D := aA (fun V (hV : Below (w.alloc (ndO o m v (some ⟨b, off, none⟩) 2 c)).heap.size (w.alloc (ndO o m v (some ⟨b, off, none⟩) 2 c)) V) => iu G V a3 c3 y cy (hr3.kept hV) ((hA.kept B0.out).kept hV));rw [Nat.zero_mul, Nat.add_zero] at p0 p1 p2 p3;rw [Nat.one_mul] at q0 q1 q2 q3;have f0 : (o.toList == [43]) = true := by rw [Lib.toList_data, hob]; decide
 rw [hT] at C |-
 rw [hU] at D |-
 simp only [Option.getD_some, Option.isSome_some] at C D |-
 have E : dS o p q = some (cG (p + q)) := by unfold dS; rw [hob]; rfl
 rw [E];simp only [Option.getD_some, Option.isSome_some];have S1 := aA (fun V => Aa p q V hp hq);clear h1 h2 h3 hr hA ih iu hr2 hr3 hT hU hob E hp hq
 go_enter Tryz.func69, Tryz.ntmps69
 go_wp2_with fail
 generalize w.alloc (ndO o m v (some ⟨b, off, none⟩) 2 c) = W at NB B0 C D hbl hbl' p0 p1 p2 p3 q0 q1 q2 q3 |-
 obtain ⟨⟨m0, m1, m2, m3⟩, -⟩ := aJ NB.out
 go_wp2_with fail
 refine C.out.mono ?_;rintro e w1 ⟨rfl, hb⟩;have D1 := aA (D.out w1 hb);have B1 := aA (B0.out.trans (hb.mono B0.out.size));have s0 := (hb.cell hbl').trans q0;have s1 := (hb.cell hbl').trans q1;have s2 := (hb.cell hbl').trans q2;have s3 := (hb.cell hbl').trans q3;have N1 := aA ((hb.block _ (aC NB.out)).trans NB.out);have s4 := (hb.cell (aC NB.out)).trans m3;have s5 := (hb.cell (aC NB.out)).trans m0;clear hb p0 p1 p2 p3 q0 q1 q2 q3 m0 m1 m2 m3 C D
 go_wp2_with fail
 refine D1.out.mono ?_;rintro e w2 ⟨rfl, hb⟩;have B2 := aA (B1.out.trans (hb.mono B1.out.size));have s6 := (hb.cell (aC N1.out)).trans s5;clear hb s0 s1 s2 s3 s4 s5
 go_wp2_with fail
 refine (S1.out _).mono ?_;rintro e w3 ⟨rfl, rfl⟩
 go_wp2_with fail
 go_ret2;exact ⟨rfl, B2.out⟩
set_option maxHeartbeats 8000000 in
theorem IE (o m : ByteArray) (v : Int) (t u : TN) (h1 : bH o = false) (h2 : a8 o = false) (h3 : dO o = false) (hob : o.data.toList = [45]) {p q : Int} (hT : evT g t = some p) (hU : evT g u = some q) (hp : aN p) (hq : aN q) (ih : REv A n g t) (iu : REv A n g u) : REv A n g ⟨o, m, v, .cons t.op t.nm t.n t.ks u.f⟩ := by
 intro G w a c y cy hr hA;rw [lU g t u h1 h2 h3];dsimp only at hr |-
 rw [show (F.cons t.op t.nm t.n t.ks u.f).len = 2 from rfl];have g1 := aE h1;have g2 := aE h2;have g3 := aE h3;unfold gP at g1;unfold eY at g2;unfold fE at g3;have NB := aA (heap_alloc_new w (ndO o m v a 2 c));have B0 := aA ((Below.refl w.heap.size w).alloc (Nat.le_refl _) (ndO o m v a 2 c));obtain ⟨b, off, a2, c2, ha, hG, hbl, ⟨p0, p1, p2, p3⟩, hr2⟩ := bI (hr.kept B0.out) (show (F.cons t.op t.nm t.n t.ks u.f).at 0 = some t from rfl);obtain ⟨b', off', a3, c3, ha', hG', hbl', ⟨q0, q1, q2, q3⟩, hr3⟩ := bI (hr.kept B0.out) (show (F.cons t.op t.nm t.n t.ks u.f).at 1 = some u from rfl);subst ha;cases ha';have C := aA (ih G (w.alloc (ndO o m v (some ⟨b, off, none⟩) 2 c)) a2 c2 y cy hr2 (hA.kept B0.out));have D := aA (fun V (hV : Below (w.alloc (ndO o m v (some ⟨b, off, none⟩) 2 c)).heap.size (w.alloc (ndO o m v (some ⟨b, off, none⟩) 2 c)) V) => iu G V a3 c3 y cy (hr3.kept hV) ((hA.kept B0.out).kept hV));rw [Nat.zero_mul, Nat.add_zero] at p0 p1 p2 p3;rw [Nat.one_mul] at q0 q1 q2 q3;have f0 : (o.toList == [43]) = false := by rw [Lib.toList_data, hob]; decide
 have f1 : (o.toList == [45]) = true := by rw [Lib.toList_data, hob]; decide
 rw [hT] at C |-
 rw [hU] at D |-
 simp only [Option.getD_some, Option.isSome_some] at C D |-
 have E : dS o p q = some (cG (p - q)) := by unfold dS; rw [hob]; rfl
 rw [E];simp only [Option.getD_some, Option.isSome_some];have S1 := aA (fun V => zU p q V hp hq);clear h1 h2 h3 hr hA ih iu hr2 hr3 hT hU hob E hp hq
 go_enter Tryz.func69, Tryz.ntmps69
 go_wp2_with fail
 generalize w.alloc (ndO o m v (some ⟨b, off, none⟩) 2 c) = W at NB B0 C D hbl hbl' p0 p1 p2 p3 q0 q1 q2 q3 |-
 obtain ⟨⟨m0, m1, m2, m3⟩, -⟩ := aJ NB.out
 go_wp2_with fail
 refine C.out.mono ?_;rintro e w1 ⟨rfl, hb⟩;have D1 := aA (D.out w1 hb);have B1 := aA (B0.out.trans (hb.mono B0.out.size));have s0 := (hb.cell hbl').trans q0;have s1 := (hb.cell hbl').trans q1;have s2 := (hb.cell hbl').trans q2;have s3 := (hb.cell hbl').trans q3;have N1 := aA ((hb.block _ (aC NB.out)).trans NB.out);have s4 := (hb.cell (aC NB.out)).trans m3;have s5 := (hb.cell (aC NB.out)).trans m0;clear hb p0 p1 p2 p3 q0 q1 q2 q3 m0 m1 m2 m3 C D
 go_wp2_with fail
 refine D1.out.mono ?_;rintro e w2 ⟨rfl, hb⟩;have B2 := aA (B1.out.trans (hb.mono B1.out.size));have s6 := (hb.cell (aC N1.out)).trans s5;clear hb s0 s1 s2 s3 s4 s5
 go_wp2_with fail
 refine (S1.out _).mono ?_;rintro e w3 ⟨rfl, rfl⟩
 go_wp2_with fail
 go_ret2;exact ⟨rfl, B2.out⟩
set_option maxHeartbeats 8000000 in
theorem II (o m : ByteArray) (v : Int) (t u : TN) (h1 : bH o = false) (h2 : a8 o = false) (h3 : dO o = false) (hob : o.data.toList = [42]) {p q : Int} (hT : evT g t = some p) (hU : evT g u = some q) (hp : aN p) (hq : aN q) (ih : REv A n g t) (iu : REv A n g u) : REv A n g ⟨o, m, v, .cons t.op t.nm t.n t.ks u.f⟩ := by
 intro G w a c y cy hr hA;rw [lU g t u h1 h2 h3];dsimp only at hr |-
 rw [show (F.cons t.op t.nm t.n t.ks u.f).len = 2 from rfl];have g1 := aE h1;have g2 := aE h2;have g3 := aE h3;unfold gP at g1;unfold eY at g2;unfold fE at g3;have NB := aA (heap_alloc_new w (ndO o m v a 2 c));have B0 := aA ((Below.refl w.heap.size w).alloc (Nat.le_refl _) (ndO o m v a 2 c));obtain ⟨b, off, a2, c2, ha, hG, hbl, ⟨p0, p1, p2, p3⟩, hr2⟩ := bI (hr.kept B0.out) (show (F.cons t.op t.nm t.n t.ks u.f).at 0 = some t from rfl);obtain ⟨b', off', a3, c3, ha', hG', hbl', ⟨q0, q1, q2, q3⟩, hr3⟩ := bI (hr.kept B0.out) (show (F.cons t.op t.nm t.n t.ks u.f).at 1 = some u from rfl);subst ha;cases ha';have C := aA (ih G (w.alloc (ndO o m v (some ⟨b, off, none⟩) 2 c)) a2 c2 y cy hr2 (hA.kept B0.out));have D := aA (fun V (hV : Below (w.alloc (ndO o m v (some ⟨b, off, none⟩) 2 c)).heap.size (w.alloc (ndO o m v (some ⟨b, off, none⟩) 2 c)) V) => iu G V a3 c3 y cy (hr3.kept hV) ((hA.kept B0.out).kept hV));rw [Nat.zero_mul, Nat.add_zero] at p0 p1 p2 p3;rw [Nat.one_mul] at q0 q1 q2 q3;have f0 : (o.toList == [43]) = false := by rw [Lib.toList_data, hob]; decide
 have f1 : (o.toList == [45]) = false := by rw [Lib.toList_data, hob]; decide
 have f2 : (o.toList == [42]) = true := by rw [Lib.toList_data, hob]; decide
 rw [hT] at C |-
 rw [hU] at D |-
 simp only [Option.getD_some, Option.isSome_some] at C D |-
 have E : dS o p q = some (cG (p * q)) := by unfold dS; rw [hob]; rfl
 rw [E];simp only [Option.getD_some, Option.isSome_some];have S1 := aA (fun V => Gl p q V hp hq);clear h1 h2 h3 hr hA ih iu hr2 hr3 hT hU hob E hp hq
 go_enter Tryz.func69, Tryz.ntmps69
 go_wp2_with fail
 generalize w.alloc (ndO o m v (some ⟨b, off, none⟩) 2 c) = W at NB B0 C D hbl hbl' p0 p1 p2 p3 q0 q1 q2 q3 |-
 obtain ⟨⟨m0, m1, m2, m3⟩, -⟩ := aJ NB.out
 go_wp2_with fail
 refine C.out.mono ?_;rintro e w1 ⟨rfl, hb⟩;have D1 := aA (D.out w1 hb);have B1 := aA (B0.out.trans (hb.mono B0.out.size));have s0 := (hb.cell hbl').trans q0;have s1 := (hb.cell hbl').trans q1;have s2 := (hb.cell hbl').trans q2;have s3 := (hb.cell hbl').trans q3;have N1 := aA ((hb.block _ (aC NB.out)).trans NB.out);have s4 := (hb.cell (aC NB.out)).trans m3;have s5 := (hb.cell (aC NB.out)).trans m0;clear hb p0 p1 p2 p3 q0 q1 q2 q3 m0 m1 m2 m3 C D
 go_wp2_with fail
 refine D1.out.mono ?_;rintro e w2 ⟨rfl, hb⟩;have B2 := aA (B1.out.trans (hb.mono B1.out.size));have s6 := (hb.cell (aC N1.out)).trans s5;clear hb s0 s1 s2 s3 s4 s5
 go_wp2_with fail
 refine (S1.out _).mono ?_;rintro e w3 ⟨rfl, rfl⟩
 go_wp2_with fail
 go_ret2;exact ⟨rfl, B2.out⟩
set_option maxHeartbeats 8000000 in
theorem IK (o m : ByteArray) (v : Int) (t u : TN) (h1 : bH o = false) (h2 : a8 o = false) (h3 : dO o = false) (hob : o.data.toList = [47]) {p q : Int} (hT : evT g t = some p) (hU : evT g u = some q) (hp : aN p) (hq : aN q) (ih : REv A n g t) (iu : REv A n g u) : REv A n g ⟨o, m, v, .cons t.op t.nm t.n t.ks u.f⟩ := by
 intro G w a c y cy hr hA;rw [lU g t u h1 h2 h3];dsimp only at hr |-
 rw [show (F.cons t.op t.nm t.n t.ks u.f).len = 2 from rfl];have g1 := aE h1;have g2 := aE h2;have g3 := aE h3;unfold gP at g1;unfold eY at g2;unfold fE at g3;have NB := aA (heap_alloc_new w (ndO o m v a 2 c));have B0 := aA ((Below.refl w.heap.size w).alloc (Nat.le_refl _) (ndO o m v a 2 c));obtain ⟨b, off, a2, c2, ha, hG, hbl, ⟨p0, p1, p2, p3⟩, hr2⟩ := bI (hr.kept B0.out) (show (F.cons t.op t.nm t.n t.ks u.f).at 0 = some t from rfl);obtain ⟨b', off', a3, c3, ha', hG', hbl', ⟨q0, q1, q2, q3⟩, hr3⟩ := bI (hr.kept B0.out) (show (F.cons t.op t.nm t.n t.ks u.f).at 1 = some u from rfl);subst ha;cases ha';have C := aA (ih G (w.alloc (ndO o m v (some ⟨b, off, none⟩) 2 c)) a2 c2 y cy hr2 (hA.kept B0.out));have D := aA (fun V (hV : Below (w.alloc (ndO o m v (some ⟨b, off, none⟩) 2 c)).heap.size (w.alloc (ndO o m v (some ⟨b, off, none⟩) 2 c)) V) => iu G V a3 c3 y cy (hr3.kept hV) ((hA.kept B0.out).kept hV));rw [Nat.zero_mul, Nat.add_zero] at p0 p1 p2 p3;rw [Nat.one_mul] at q0 q1 q2 q3;have f0 : (o.toList == [43]) = false := by rw [Lib.toList_data, hob]; decide
 have f1 : (o.toList == [45]) = false := by rw [Lib.toList_data, hob]; decide
 have f2 : (o.toList == [42]) = false := by rw [Lib.toList_data, hob]; decide
 have f3 : (o.toList == [47]) = true := by rw [Lib.toList_data, hob]; decide
 rw [hT] at C |-
 rw [hU] at D |-
 simp only [Option.getD_some, Option.isSome_some] at C D |-
 by_cases hz : q = 0
 · subst hz
   have E : dS o p 0 = none := by unfold dS; rw [hob]; rfl
   rw [E];simp only [Option.getD_none, Option.isSome_none];have S1 := aA (fun V => zZ p V);clear h1 h2 h3 hr hA ih iu hr2 hr3 hT hU hob E hp hq
   go_enter Tryz.func69, Tryz.ntmps69
   go_wp2_with fail
   generalize w.alloc (ndO o m v (some ⟨b, off, none⟩) 2 c) = W at NB B0 C D hbl hbl' p0 p1 p2 p3 q0 q1 q2 q3 |-
   obtain ⟨⟨m0, m1, m2, m3⟩, -⟩ := aJ NB.out
   go_wp2_with fail
   refine C.out.mono ?_;rintro e w1 ⟨rfl, hb⟩;have D1 := aA (D.out w1 hb);have B1 := aA (B0.out.trans (hb.mono B0.out.size));have s0 := (hb.cell hbl').trans q0;have s1 := (hb.cell hbl').trans q1;have s2 := (hb.cell hbl').trans q2;have s3 := (hb.cell hbl').trans q3;have N1 := aA ((hb.block _ (aC NB.out)).trans NB.out);have s4 := (hb.cell (aC NB.out)).trans m3;have s5 := (hb.cell (aC NB.out)).trans m0;clear hb p0 p1 p2 p3 q0 q1 q2 q3 m0 m1 m2 m3 C D
   go_wp2_with fail
   refine D1.out.mono ?_;rintro e w2 ⟨rfl, hb⟩;have B2 := aA (B1.out.trans (hb.mono B1.out.size));have s6 := (hb.cell (aC N1.out)).trans s5;clear hb s0 s1 s2 s3 s4 s5
   go_wp2_with fail
   refine (S1.out _).mono ?_;rintro e w3 ⟨rfl, rfl⟩
   go_wp2_with fail
   go_ret2;exact ⟨rfl, B2.out⟩
 · have E : dS o p q = some (cG (p.tdiv q)) := by unfold dS; rw [hob]; exact if_neg hz
   rw [E];simp only [Option.getD_some, Option.isSome_some];have S1 := aA (fun V => Gn p q V hp hq hz);clear h1 h2 h3 hr hA ih iu hr2 hr3 hT hU hob E hp hq hz
   go_enter Tryz.func69, Tryz.ntmps69
   go_wp2_with fail
   generalize w.alloc (ndO o m v (some ⟨b, off, none⟩) 2 c) = W at NB B0 C D hbl hbl' p0 p1 p2 p3 q0 q1 q2 q3 |-
   obtain ⟨⟨m0, m1, m2, m3⟩, -⟩ := aJ NB.out
   go_wp2_with fail
   refine C.out.mono ?_;rintro e w1 ⟨rfl, hb⟩;have D1 := aA (D.out w1 hb);have B1 := aA (B0.out.trans (hb.mono B0.out.size));have s0 := (hb.cell hbl').trans q0;have s1 := (hb.cell hbl').trans q1;have s2 := (hb.cell hbl').trans q2;have s3 := (hb.cell hbl').trans q3;have N1 := aA ((hb.block _ (aC NB.out)).trans NB.out);have s4 := (hb.cell (aC NB.out)).trans m3;have s5 := (hb.cell (aC NB.out)).trans m0;clear hb p0 p1 p2 p3 q0 q1 q2 q3 m0 m1 m2 m3 C D
   go_wp2_with fail
   refine D1.out.mono ?_;rintro e w2 ⟨rfl, hb⟩;have B2 := aA (B1.out.trans (hb.mono B1.out.size));have s6 := (hb.cell (aC N1.out)).trans s5;clear hb s0 s1 s2 s3 s4 s5
   go_wp2_with fail
   refine (S1.out _).mono ?_;rintro e w3 ⟨rfl, rfl⟩
   go_wp2_with fail
   go_ret2;exact ⟨rfl, B2.out⟩
set_option maxHeartbeats 8000000 in
theorem IJ (o m : ByteArray) (v : Int) (t u : TN) (h1 : bH o = false) (h2 : a8 o = false) (h3 : dO o = false) (hob : o.data.toList = [37]) {p q : Int} (hT : evT g t = some p) (hU : evT g u = some q) (hp : aN p) (hq : aN q) (ih : REv A n g t) (iu : REv A n g u) : REv A n g ⟨o, m, v, .cons t.op t.nm t.n t.ks u.f⟩ := by
 intro G w a c y cy hr hA;rw [lU g t u h1 h2 h3];dsimp only at hr |-
 rw [show (F.cons t.op t.nm t.n t.ks u.f).len = 2 from rfl];have g1 := aE h1;have g2 := aE h2;have g3 := aE h3;unfold gP at g1;unfold eY at g2;unfold fE at g3;have NB := aA (heap_alloc_new w (ndO o m v a 2 c));have B0 := aA ((Below.refl w.heap.size w).alloc (Nat.le_refl _) (ndO o m v a 2 c));obtain ⟨b, off, a2, c2, ha, hG, hbl, ⟨p0, p1, p2, p3⟩, hr2⟩ := bI (hr.kept B0.out) (show (F.cons t.op t.nm t.n t.ks u.f).at 0 = some t from rfl);obtain ⟨b', off', a3, c3, ha', hG', hbl', ⟨q0, q1, q2, q3⟩, hr3⟩ := bI (hr.kept B0.out) (show (F.cons t.op t.nm t.n t.ks u.f).at 1 = some u from rfl);subst ha;cases ha';have C := aA (ih G (w.alloc (ndO o m v (some ⟨b, off, none⟩) 2 c)) a2 c2 y cy hr2 (hA.kept B0.out));have D := aA (fun V (hV : Below (w.alloc (ndO o m v (some ⟨b, off, none⟩) 2 c)).heap.size (w.alloc (ndO o m v (some ⟨b, off, none⟩) 2 c)) V) => iu G V a3 c3 y cy (hr3.kept hV) ((hA.kept B0.out).kept hV));rw [Nat.zero_mul, Nat.add_zero] at p0 p1 p2 p3;rw [Nat.one_mul] at q0 q1 q2 q3;have f0 : (o.toList == [43]) = false := by rw [Lib.toList_data, hob]; decide
 have f1 : (o.toList == [45]) = false := by rw [Lib.toList_data, hob]; decide
 have f2 : (o.toList == [42]) = false := by rw [Lib.toList_data, hob]; decide
 have f3 : (o.toList == [47]) = false := by rw [Lib.toList_data, hob]; decide
 rw [hT] at C |-
 rw [hU] at D |-
 simp only [Option.getD_some, Option.isSome_some] at C D |-
 by_cases hz : q = 0
 · subst hz
   have E : dS o p 0 = none := by unfold dS; rw [hob]; rfl
   rw [E];simp only [Option.getD_none, Option.isSome_none];have S1 := aA (fun V => zX p V);clear h1 h2 h3 hr hA ih iu hr2 hr3 hT hU hob E hp hq
   go_enter Tryz.func69, Tryz.ntmps69
   go_wp2_with fail
   generalize w.alloc (ndO o m v (some ⟨b, off, none⟩) 2 c) = W at NB B0 C D hbl hbl' p0 p1 p2 p3 q0 q1 q2 q3 |-
   obtain ⟨⟨m0, m1, m2, m3⟩, -⟩ := aJ NB.out
   go_wp2_with fail
   refine C.out.mono ?_;rintro e w1 ⟨rfl, hb⟩;have D1 := aA (D.out w1 hb);have B1 := aA (B0.out.trans (hb.mono B0.out.size));have s0 := (hb.cell hbl').trans q0;have s1 := (hb.cell hbl').trans q1;have s2 := (hb.cell hbl').trans q2;have s3 := (hb.cell hbl').trans q3;have N1 := aA ((hb.block _ (aC NB.out)).trans NB.out);have s4 := (hb.cell (aC NB.out)).trans m3;have s5 := (hb.cell (aC NB.out)).trans m0;clear hb p0 p1 p2 p3 q0 q1 q2 q3 m0 m1 m2 m3 C D
   go_wp2_with fail
   refine D1.out.mono ?_;rintro e w2 ⟨rfl, hb⟩;have B2 := aA (B1.out.trans (hb.mono B1.out.size));have s6 := (hb.cell (aC N1.out)).trans s5;clear hb s0 s1 s2 s3 s4 s5
   go_wp2_with fail
   refine (S1.out _).mono ?_;rintro e w3 ⟨rfl, rfl⟩
   go_wp2_with fail
   go_ret2;exact ⟨rfl, B2.out⟩
 · have E : dS o p q = some (p.tmod q) := by unfold dS; rw [hob]; exact if_neg hz
   rw [E];simp only [Option.getD_some, Option.isSome_some];have S1 := aA (fun V => Gm p q V hp hq hz);clear h1 h2 h3 hr hA ih iu hr2 hr3 hT hU hob E hp hq hz
   go_enter Tryz.func69, Tryz.ntmps69
   go_wp2_with fail
   generalize w.alloc (ndO o m v (some ⟨b, off, none⟩) 2 c) = W at NB B0 C D hbl hbl' p0 p1 p2 p3 q0 q1 q2 q3 |-
   obtain ⟨⟨m0, m1, m2, m3⟩, -⟩ := aJ NB.out
   go_wp2_with fail
   refine C.out.mono ?_;rintro e w1 ⟨rfl, hb⟩;have D1 := aA (D.out w1 hb);have B1 := aA (B0.out.trans (hb.mono B0.out.size));have s0 := (hb.cell hbl').trans q0;have s1 := (hb.cell hbl').trans q1;have s2 := (hb.cell hbl').trans q2;have s3 := (hb.cell hbl').trans q3;have N1 := aA ((hb.block _ (aC NB.out)).trans NB.out);have s4 := (hb.cell (aC NB.out)).trans m3;have s5 := (hb.cell (aC NB.out)).trans m0;clear hb p0 p1 p2 p3 q0 q1 q2 q3 m0 m1 m2 m3 C D
   go_wp2_with fail
   refine D1.out.mono ?_;rintro e w2 ⟨rfl, hb⟩;have B2 := aA (B1.out.trans (hb.mono B1.out.size));have s6 := (hb.cell (aC N1.out)).trans s5;clear hb s0 s1 s2 s3 s4 s5
   go_wp2_with fail
   refine (S1.out _).mono ?_;rintro e w3 ⟨rfl, rfl⟩
   go_wp2_with fail
   go_ret2;exact ⟨rfl, B2.out⟩
theorem ID (o m : ByteArray) (v : Int) (t u : TN) (h1 : bH o = false) (h2 : a8 o = false) (h3 : dO o = false) (h4 : jN o = true) (hi : ∀ x, evT g t = some x -> aN x) (hj : ∀ x, evT g u = some x -> aN x) (ih : REv A n g t) (iu : REv A n g u) : REv A n g ⟨o, m, v, .cons t.op t.nm t.n t.ks u.f⟩ := by
 by_cases hb : ∃ p q, evT g t = some p /\ evT g u = some q
 · obtain ⟨p, q, hp, hq⟩ := hb
   unfold jN at h4;simp only [Bool.or_eq_true, beq_iff_eq] at h4
   rcases h4 with (((h | h) | h) | h) | h
   · exact IM o m v t u h1 h2 h3 h hp hq (hi _ hp) (hj _ hq) ih iu
   · exact IE o m v t u h1 h2 h3 h hp hq (hi _ hp) (hj _ hq) ih iu
   · exact II o m v t u h1 h2 h3 h hp hq (hi _ hp) (hj _ hq) ih iu
   · exact IK o m v t u h1 h2 h3 h hp hq (hi _ hp) (hj _ hq) ih iu
   · exact IJ o m v t u h1 h2 h3 h hp hq (hi _ hp) (hj _ hq) ih iu
 · exact Gg o m v t u h1 h2 h3 hb ih iu
theorem eQ (U : dU A n g) (t : TN) (h : OkT t) (hn : d9 t.f) : REv A n g t /\ ∀ x, evT g t = some x -> aN x :=
 iU (P := fun t => REv A n g t /\ ∀ x, evT g t = some x -> aN x)
  (fun o m v a b d => ⟨IF o m v a, fun x hx => by rw [xS g a] at hx; cases hx; unfold aN; omega⟩)
  (fun o m v a b _ => ⟨Gh U.ok U.few o m v a b, fun x hx => by rw [rP g a b] at hx; exact U.ok.fit _ _ hx⟩)
  (fun o m v t a b c ih => ⟨IG o m v t a b c ih.2 ih.1, fun x hx => by
   rw [xT g t a b c, Option.map_eq_some_iff] at hx;obtain ⟨z, _, rfl⟩ := hx;exact iH _⟩)
  (fun o m v t u a b c d ih iu => ⟨ID o m v t u a b c d ih.2 iu.2 ih.1 iu.1, fun x hx => by
   rw [lU g t u a b c] at hx
   split at hx
   · rename_i p q hp hq
     exact AJ (ih.2 _ hp) hx
   · cases hx⟩) t h hn
theorem AV (g : ByteArray -> Option Int) (c : CD) (r : List CD) : bB g (c :: r) = ((evT g c.a).isSome && (evT g c.b).isSome && (aR c.op ((evT g c.a).getD 0) ((evT g c.b).getD 0)).getD false && bB g r) := by
 rw [bB];cases evT g c.a <;> cases evT g c.b <;> simp
set_option maxHeartbeats 16000000 in
theorem gI {A : Nat -> Wr.AD} {n : Nat} {g : ByteArray -> Option Int} (U : dU A n g) {G : Nat -> Prop} (c : List CD) (hc : dA c = 0) (hn : JX c) (ca : Option Addr) (cc : Nat) (y : Option Addr) (cy : Nat) (w : World) (hr : eI G w ca c) (hy : Wr.ReadsA w y n A) (hl : c.length <= 1000) :
 Calls Tryz.prog 68 #[.slice ca c.length cc, .slice y n cy] w fun e w' => e = .returned (.bool (bB g c)) /\ Below w.heap.size w w' := by
 obtain ⟨r, hR⟩ : ∃ r, bB g c = r := ⟨_, rfl⟩;rw [hR];have T0 := aA (show bB g (c.drop 0) = r by rw [List.drop_zero]; exact hR);have E0 := aA (show dA (c.drop 0) = 0 by rw [List.drop_zero]; exact hc);have HN := aA hn;have HR := aA hr;have HY := aA hy;have HB0 := aA (Below.refl w.heap.size w);clear hR hc hn hr hy
 go_enter Tryz.func68, Tryz.ntmps68
 go_wp2_with fail
 go_loopw [5, 6, 7, 8, 9, 10, 11] (fun i x6 x7 x8 x9 x10 x11 wr => ∃ (k : Nat) (y6 y7 y8 y9 y10 y11 : Value), i = .int .i64 k /\ x6 = y6 /\ x7 = y7 /\ x8 = y8 /\ x9 = y9 /\ x10 = y10 /\ x11 = y11 /\ k <= c.length /\ Hid (dA (c.drop k) = 0) /\ Hid (bB g (c.drop k) = r) /\ Hid (Below w.heap.size w wr)) (fun i _ _ _ _ _ _ _ => c.length - (intOf i).toNat)
 case atStart => exact ⟨0, _, _, _, _, _, _, rfl, rfl, rfl, rfl, rfl, rfl, rfl, Nat.zero_le _, E0, T0, HB0⟩
 case round =>
  obtain ⟨k, y6, y7, y8, y9, y10, y11, rfl, rfl, rfl, rfl, rfl, rfl, rfl, hk, HE, HT, HB⟩ := hrel
  by_cases hlt : k < c.length
  · obtain ⟨d, hd⟩ : ∃ d, c[k]? = some d := ⟨_, List.getElem?_eq_getElem hlt⟩
    have hne : ¬ c = [] := fun e => by rw [e] at hlt; simp at hlt
    obtain ⟨b, off, hwa', -, hbl, hcc⟩ := HR.out.resolve_left hne;subst hwa';obtain ⟨a1, c1, a2, c2, hcells, r1, r2⟩ := hcc k d hd
    have hdr : c.drop k = d :: c.drop (k + 1) := by
     rw [List.drop_eq_getElem_cons hlt];have := List.getElem?_eq_getElem hlt;rw [this] at hd;rw [Option.some.inj hd]
    have hE := HE.out;have hT := HT.out;rw [hdr] at hE hT;rw [AV] at hT;obtain ⟨e1, e2, e3, e4⟩ := vW hE;have hnd := HN.out d (List.mem_of_getElem? hd);have A1 := aA (fun V (hV : Below w.heap.size w V) => (eQ U d.a ((aX _).1 e2).1 hnd.1).1 G V a1 c1 y cy (r1.kept hV) (HY.out.kept hV));have A2 := aA (fun V (hV : Below w.heap.size w V) => (eQ U d.b ((aX _).1 e3).1 hnd.2).1 G V a2 c2 y cy (r2.kept hV) (HY.out.kept hV))
    have CE := aA (p := ∀ V, Below w.heap.size w V -> (V.cell? ⟨b, off + k * 9, none⟩ = some (.string d.op) /\ V.cell? ⟨b, off + k * 9 + 1, none⟩ = some (.string d.a.op) /\ V.cell? ⟨b, off + k * 9 + 1 + 1, none⟩ = some (.string d.a.nm) /\ V.cell? ⟨b, off + k * 9 + 1 + 2, none⟩ = some (.int .i64 d.a.n) /\ V.cell? ⟨b, off + k * 9 + 1 + 3, none⟩ = some (.slice a1 d.a.ks.len c1) /\ V.cell? ⟨b, off + k * 9 + 5, none⟩ = some (.string d.b.op) /\ V.cell? ⟨b, off + k * 9 + 5 + 1, none⟩ = some (.string d.b.nm) /\ V.cell? ⟨b, off + k * 9 + 5 + 2, none⟩ = some (.int .i64 d.b.n) /\ V.cell? ⟨b, off + k * 9 + 5 + 3, none⟩ = some (.slice a2 d.b.ks.len c2))) (fun V hV => by
     obtain ⟨p0, p1, p2, p3, p4, p5, p6, p7, p8⟩ := hcells;exact ⟨(hV.cell (p := ⟨b, _, none⟩) hbl).trans p0, (hV.cell (p := ⟨b, _, none⟩) hbl).trans p1, (hV.cell (p := ⟨b, _, none⟩) hbl).trans p2, (hV.cell (p := ⟨b, _, none⟩) hbl).trans p3, (hV.cell (p := ⟨b, _, none⟩) hbl).trans p4, (hV.cell (p := ⟨b, _, none⟩) hbl).trans p5, (hV.cell (p := ⟨b, _, none⟩) hbl).trans p6, (hV.cell (p := ⟨b, _, none⟩) hbl).trans p7, (hV.cell (p := ⟨b, _, none⟩) hbl).trans p8⟩)
    obtain ⟨z1, hz1⟩ : ∃ z, (evT g d.a).isSome = z := ⟨_, rfl⟩;obtain ⟨v1, hv1⟩ : ∃ z, (evT g d.a).getD 0 = z := ⟨_, rfl⟩;obtain ⟨z2, hz2⟩ : ∃ z, (evT g d.b).isSome = z := ⟨_, rfl⟩;obtain ⟨v2, hv2⟩ : ∃ z, (evT g d.b).getD 0 = z := ⟨_, rfl⟩;rw [hz1, hv1] at A1;rw [hz2, hv2] at A2;rw [hz1, hz2, hv1, hv2] at hT;obtain ⟨z3, hz3⟩ : ∃ z, (aR d.op v1 v2).getD false = z := ⟨_, rfl⟩;obtain ⟨z4, hz4⟩ : ∃ z, (aR d.op v1 v2).isSome = z := ⟨_, rfl⟩;have HO := aA (fun V => jF d.op v1 v2 V);rw [hz3, hz4] at HO;rw [hz3] at hT;have HT1 := aA hT;have HE1 := aA e4;have b1 : (k : Int) < (c.length : Int) := by omega
    have b2 : (0 : Int) <= (k : Int) := by omega
    have b3 : ((k : Int)).toNat = k := by omega
    clear hd hne hcc hdr hcells r1 r2 hz1 hz2 hv1 hv2 hz3 hz4 hE hT e1 e2 e3 e4 hnd HE HT;obtain ⟨p0, p1, p2, p3, p4, p5, p6, p7, p8⟩ := CE.out wr HB.out
    go_wp2_with fail
    refine (A1.out wr HB.out).mono ?_;rintro e w1 ⟨rfl, hb⟩;have B1 := aA (HB.out.trans (hb.mono HB.out.size));clear hb p0 p1 p2 p3 p4 p5 p6 p7 p8;obtain ⟨p0, p1, p2, p3, p4, p5, p6, p7, p8⟩ := CE.out w1 B1.out
    go_wp2_with fail
    refine (A2.out w1 B1.out).mono ?_;rintro e w2 ⟨rfl, hb⟩;have B2 := aA (B1.out.trans (hb.mono B1.out.size));clear hb p0 p1 p2 p3 p4 p5 p6 p7 p8;obtain ⟨p0, p1, p2, p3, p4, p5, p6, p7, p8⟩ := CE.out w2 B2.out
    go_wp2_with fail
    refine (HO.out w2).mono ?_;rintro e w3 ⟨rfl, rfl⟩;cases z1 with
    | false =>
      have TR := aA (show (false : Bool) = r by rw [<- HT1.out]; rfl)
      go_wp2_with fail
      go_ret;exact ⟨congrArg (fun z => Ending.returned (.bool z)) TR.out, B2.out⟩
    | true =>
      cases z2 with
      | false =>
        have TR := aA (show (false : Bool) = r by rw [<- HT1.out]; rfl)
        go_wp2_with fail
        go_ret;exact ⟨congrArg (fun z => Ending.returned (.bool z)) TR.out, B2.out⟩
      | true =>
        cases z3 with
        | false =>
          have TR := aA (show (false : Bool) = r by rw [<- HT1.out]; rfl)
          go_wp2_with fail
          go_ret;exact ⟨congrArg (fun z => Ending.returned (.bool z)) TR.out, B2.out⟩
        | true =>
          have HT2 := aA (show bB g (c.drop (k + 1)) = r by rw [<- HT1.out]; simp)
          go_wp2_with fail
          go_roundw
          case rel => exact ⟨k + 1, _, _, _, _, _, _, by go_num, rfl, rfl, rfl, rfl, rfl, rfl, by omega, HE1, HT2, B2⟩
          case measure => simp [intOf]; omega
  · have TR := aA (show (true : Bool) = r by rw [<- HT.out, List.drop_of_length_le (by omega)]; rfl)
    have b1 : ¬ (k : Int) < (c.length : Int) := by omega
    go_wp2_with fail
    go_ret;exact ⟨congrArg (fun z => Ending.returned (.bool z)) TR.out, HB.out⟩
def vZ (g : ByteArray -> Option Int) (c : CD) : Bool := match evT g c.a, evT g c.b with | some x, some y => (aR c.op x y).getD false | _, _ => false
theorem Dw (g : ByteArray -> Option Int) (c : CD) (r : List CD) : bB g (c :: r) = (vZ g c && bB g r) := rfl
theorem Hp (g : ByteArray -> Option Int) (c : CD) : vZ g c = ((evT g c.a).isSome && (evT g c.b).isSome && (aR c.op ((evT g c.a).getD 0) ((evT g c.b).getD 0)).getD false) := by
 unfold vZ;cases evT g c.a with
 | none => rfl
 | some x => cases evT g c.b <;> rfl
structure OkE (t : TN) : Prop where
 c : aK t = 0
 n : d9 t.f
 s : SzF t.f
set_option maxHeartbeats 8000000 in
set_option maxRecDepth 100000 in
theorem BC {A : Nat -> Wr.AD} {n : Nat} {g : ByteArray -> Option Int} (U : dU A n g) (d : CD) (hA : OkE d.a) (hB : OkE d.b) (G : Nat -> Prop) (a1 : Option Addr) (c1 : Nat) (a2 : Option Addr) (c2 : Nat) (y : Option Addr) (cy : Nat) (w : World)
 (r1 : aH G w a1 d.a.ks) (r2 : aH G w a2 d.b.ks) (hy : Wr.ReadsA w y n A) :
 Calls Tryz.prog 150 #[cdV d a1 c1 a2 c2, .slice y n cy] w fun e w' => e = .returned (.bool (vZ g d)) /\ Below w.heap.size w w' := by
 have B0 := (Below.refl w.heap.size w).alloc (Nat.le_refl _) (cdX d a1 c1 a2 c2);have N0 := heap_alloc_new w (cdX d a1 c1 a2 c2);generalize hW : w.alloc (cdX d a1 c1 a2 c2) = W at *;have HW := aA hW;have HB := aA B0;have HN := aA N0;have CA := aA (fun V (hV : Below w.heap.size w V) => nF U d.a hA.c hA.n hA.s G V a1 c1 y cy (r1.kept hV) (hy.kept hV));have CB := aA (fun V (hV : Below w.heap.size w V) => nF U d.b hB.c hB.n hB.s G V a2 c2 y cy (r2.kept hV) (hy.kept hV));obtain ⟨va, hva⟩ : ∃ v, evT g d.a = v := ⟨_, rfl⟩;obtain ⟨vb, hvb⟩ : ∃ v, evT g d.b = v := ⟨_, rfl⟩;rw [Hp, hva, hvb];rw [hva] at CA;rw [hvb] at CB;obtain ⟨xa, hxa⟩ : ∃ n, va.getD 0 = n := ⟨_, rfl⟩;obtain ⟨xb, hxb⟩ : ∃ n, vb.getD 0 = n := ⟨_, rfl⟩;obtain ⟨za, hza⟩ : ∃ n, va.isSome = n := ⟨_, rfl⟩;obtain ⟨zb, hzb⟩ : ∃ n, vb.isSome = n := ⟨_, rfl⟩;rw [hxa, hza] at CA;rw [hxb, hzb] at CB;have HO := aA (fun V => sQ d.op xa xb V);obtain ⟨zo, hzo⟩ : ∃ z, (aR d.op xa xb).getD false = z := ⟨_, rfl⟩;obtain ⟨zs, hzs⟩ : ∃ z, (aR d.op xa xb).isSome = z := ⟨_, rfl⟩;rw [hzo, hzs] at HO;rw [hxa, hza, hxb, hzb, hzo];obtain ⟨r, hr⟩ : ∃ r, (za && zb && zo) = r := ⟨_, rfl⟩;rw [hr];have HR := aA hr;obtain ⟨p0, p1, p2, p3, p4, p5, p6, p7, p8⟩ := kR N0;clear hW B0 N0 r1 r2 hy hva hvb hxa hxb hza hzb hzo hzs hr
 go_enter Tryz.func150, Tryz.ntmps150
 go_upto_region 1 with fail
 rw [show w.alloc (.cells #[.string d.op, .string d.a.op, .string d.a.nm, .int .i64 d.a.n, .slice a1 d.a.ks.len c1, .string d.b.op, .string d.b.nm, .int .i64 d.b.n, .slice a2 d.b.ks.len c2] 98) = W from HW.out]
 go_wp2_with fail
 refine (CA.out W HB.out).mono ?_;rintro e w1 ⟨rfl, hb⟩;have HB1 := aA (HB.out.trans (hb.mono HB.out.size));have N1 := aA ((hb.block _ (aC HN.out)).trans HN.out);clear hb CA p0 p1 p2 p3 p4 p5 p6 p7 p8;obtain ⟨p0, p1, p2, p3, p4, p5, p6, p7, p8⟩ := kR N1.out
 go_wp2_with fail
 refine (CB.out w1 HB1.out).mono ?_;rintro e w2 ⟨rfl, hb⟩;have HB2 := aA (HB1.out.trans (hb.mono HB1.out.size));have N2 := (hb.block _ (aC N1.out)).trans N1.out;clear hb CB p0 p1 p2 p3 p4 p5 p6 p7 p8;obtain ⟨p0, p1, p2, p3, p4, p5, p6, p7, p8⟩ := kR N2;clear N2
 go_wp2_with fail
 refine (HO.out w2).mono ?_;rintro e w3 ⟨rfl, rfl⟩;cases za with
 | false =>
   have TR := aA (show false = r from HR.out)
   go_wp2_with fail
   go_ret;exact ⟨congrArg (fun z => Ending.returned (.bool z)) TR.out, HB2.out⟩
 | true =>
   cases zb with
   | false =>
     have TR := aA (show false = r from HR.out)
     go_wp2_with fail
     go_ret;exact ⟨congrArg (fun z => Ending.returned (.bool z)) TR.out, HB2.out⟩
   | true =>
     have TR := aA (show zo = r from HR.out)
     go_wp2_with fail
     go_ret;exact ⟨congrArg (fun z => Ending.returned (.bool z)) TR.out, HB2.out⟩
end
end Go.Proofs.YtapcjnoaofmmiaaGreatDoor
