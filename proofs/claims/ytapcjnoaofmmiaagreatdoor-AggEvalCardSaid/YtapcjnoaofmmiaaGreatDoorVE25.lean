/-
 No statement: what AggEvalCard needs, of the texts OEv, OBuild, OText.
-/
import Derived.Test.YtapcjnoaofmmiaaGreatDoorVE24
namespace Go.Proofs.YtapcjnoaofmmiaaGreatDoor
section
open Go.RowKit
structure EPW (w : World) (x : AG) (p : PA) (V : World) : Prop where
 k : KP9 (fun b => b < w.heap.size) w x p V
 o : V.heap[w.heap.size + 1]? = some (vlA 0 0 none 0 0)
theorem EPW.step {w V V' : World} {x : AG} {p : PA} (h : EPW w x p V) (hb : Below V.heap.size V V') : EPW w x p V' :=
 ⟨h.k.step hb, (hb.block _ (aC h.o)).trans h.o⟩
theorem nT {w : World} {x : AG} {p : PA} (hr : aI (fun b => b < w.heap.size) w x p) : EPW w x p ((w.alloc (agP x p)).alloc (vlA 0 0 none 0 0)) := by
 have hz : (w.alloc (agP x p)).heap.size = w.heap.size + 1 := World.size_alloc _ _;have n2 := heap_alloc_new (w.alloc (agP x p)) (vlA 0 0 none 0 0);rw [hz] at n2;exact ⟨(lR hr).step ((Below.refl _ _).alloc (Nat.le_refl _) _), n2⟩
theorem EPW.put {w V : World} {x : AG} {p : PA} (h : EPW w x p V) (u0 u1 u2 u3 : Value) :
 Below w.heap.size w ((((V.setCell ⟨w.heap.size + 1, 0, none⟩ u0).setCell ⟨w.heap.size + 1, 1, none⟩ u1).setCell ⟨w.heap.size + 1, 2, none⟩ u2).setCell ⟨w.heap.size + 1, 3, none⟩ u3) :=
 h.k.b.trans ((((((aG.refl (· = w.heap.size + 1) V).setCell (p := ⟨w.heap.size + 1, 0, none⟩) (.inl rfl) _).setCell (p := ⟨w.heap.size + 1, 1, none⟩) (.inl rfl) _).setCell (p := ⟨w.heap.size + 1, 2, none⟩) (.inl rfl) _).setCell (p := ⟨w.heap.size + 1, 3, none⟩) (.inl rfl) _).below (fun b hb => by omega) h.k.z)
theorem Ls {V w : World} {B : Nat} {T : List Int} {ta : Option Addr} {tc : Nat} (hB : w.heap.size + 1 < B) (ho : V.ownsRow B 2 1 (.slice ta T.length tc) T.length (ivK T)) {u0 u1 u2 u3 : Value} : T = [] \/ ∃ b off, ta = some ⟨b, off, none⟩ /\ w.heap.size <= b /\ b < ((((V.setCell ⟨w.heap.size + 1, 0, none⟩ u0).setCell ⟨w.heap.size + 1, 1, none⟩ u1).setCell ⟨w.heap.size + 1, 2, none⟩ u2).setCell ⟨w.heap.size + 1, 3, none⟩ u3).heap.size /\ ∀ j n, T[j]? = some n -> ((((V.setCell ⟨w.heap.size + 1, 0, none⟩ u0).setCell ⟨w.heap.size + 1, 1, none⟩ u1).setCell ⟨w.heap.size + 1, 2, none⟩ u2).setCell ⟨w.heap.size + 1, 3, none⟩ u3).cell? ⟨b, off + j, none⟩ = some (.int .i64 n) := by
 cases T with
 | nil => exact .inl rfl
 | cons t T =>
   right;obtain ⟨g, hg, c0⟩ := cV ho (show (ivK (t :: T))[0]? = some (.int .i64 t) from rfl);have hlt := (ho.lt g (by rw [hg]; rfl));refine ⟨g, 0, hg, by have := hlt.1; omega, by simp only [World.size_setCell]; exact hlt.2, fun j n hj => ?_⟩;obtain ⟨g', hg', c⟩ := cV ho (show (ivK (t :: T))[j]? = some (.int .i64 n) by rw [List.getElem?_map, hj]; rfl);rw [hg] at hg';cases hg';rw [Nat.zero_add]
   exact (((((aG.refl (· = w.heap.size + 1) V).setCell (p := ⟨w.heap.size + 1, 0, none⟩) (.inl rfl) u0).setCell (p := ⟨w.heap.size + 1, 1, none⟩) (.inl rfl) u1).setCell (p := ⟨w.heap.size + 1, 2, none⟩) (.inl rfl) u2).setCell (p := ⟨w.heap.size + 1, 3, none⟩) (.inl rfl) u3).cell c (fun e => by
    have h1 := hlt.1;simp only at e;omega)
theorem wE {f : Nat} {args : Array Value} {w : World} {Q : Ending -> World -> Prop} (h : CallsIn Fence.wide 4 Tryz.prog f args w Q) : Calls Tryz.prog f args w Q := callsIn_wide.1 h
set_option maxHeartbeats 8000000 in
set_option maxRecDepth 100000 in
theorem DY {G : Nat -> Prop} (x : AG) (p : PA) (rs : List RW) (ya : Option Addr) (yc : Nat) (w : World) (h : fO x = 0) (hn : fD x) (hS : SzG x) (hU : ∀ r ∈ rs, dU r.A r.n r.g) (hl : rs.length <= 1000) (hr : aI G w x p) (hy : aS w ya rs) (hc : x.fn.data.toList = aO) :
 Calls Tryz.prog 20 #[agV x p, .slice ya rs.length yc] w (fP (evG x (rs.map RW.g)) w) := by
 have hX := p9 h hn hS;have gCount : (x.fn.toList == [99, 111, 117, 110, 116]) = true := bG (by rw [hc]; decide);have gSum : (x.fn.toList == [115, 117, 109]) = false := aE (by rw [hc]; decide);have gTop : (x.fn.toList == [116, 111, 112]) = false := aE (by rw [hc]; decide);have gMin : (x.fn.toList == [109, 105, 110]) = false := aE (by rw [hc]; decide);have gMax : (x.fn.toList == [109, 97, 120]) = false := aE (by rw [hc]; decide);have gFirst : (x.fn.toList == [102, 105, 114, 115, 116]) = false := aE (by rw [hc]; decide);have hr' : aI (fun b => b < w.heap.size) w x p := hr.imp (fun b hb _ => hb);have E0 := nT hr';have K1 := hX.l;obtain ⟨L, hL⟩ := jG _ (mV hX hU)
 have hLl : L.length <= 1000 := by
  have h1 : (fY x (rs.map RW.g)).length <= (rs.map RW.g).length := List.length_filterMap_le ..;rw [<- hL, List.length_map, List.length_map] at h1;omega
 have hcl := vV hc (rs.map RW.g)
 rw [show ((fX x (rs.map RW.g)).length : Int) = (L.length : Int) by
  have h1 := congrArg List.length (hL.trans (AX hc _));rw [List.length_map, List.length_map] at h1;rw [h1]] at hcl
 rw [hcl];have HX := aA hX;have HU := aA hU;have HL := aA hL;have HLl := aA hLl;have HY := aA (fun V (hV : Below w.heap.size w V) => dB hy hV);have CK := aA (fun V (rd : aI (fun b => b < w.heap.size) V x p) => dQ x p V hS (by omega) rd);rw [h] at CK;generalize hW1 : w.alloc (agP x p) = W1 at E0;generalize hW : W1.alloc (vlA 0 0 none 0 0) = W at E0;have HW1 := aA hW1;have HW := aA hW;have HK := aA E0;clear hW1 hW E0 h hn hS hU hr hr' hy hX hL hLl hcl;obtain ⟨m0, m1, m2, m3, m4, m5, m6, m7, m8, m9, m10⟩ := aD HK.out.k.n
 go_enter Tryz.func20, Tryz.ntmps20
 go_upto_region 1 with fail
 rw [show w.alloc (.cells #[.string x.fn, .int .i64 x.k, .string x.e.op, .string x.e.nm, .int .i64 x.e.n, .slice p.ea x.e.ks.len p.ec, .string x.g.op, .string x.g.nm, .int .i64 x.g.n, .slice p.ga x.g.ks.len p.gc, .slice p.wa x.wh.length p.wc] 28) = W1 from HW1.out, show W1.alloc (.cells #[.int .i64 0, .int .i64 0, .string ⟨#[]⟩, .slice none 0 0] 53) = W from HW.out]
 go_wp2_with fail
 refine (CK.out _ HK.out.k.r).mono ?_;rintro e w1 ⟨rfl, hb1⟩;have K1 := aA (HK.out.step hb1);clear hb1 m0 m1 m2 m3 m4 m5 m6 m7 m8 m9 m10;obtain ⟨m0, m1, m2, m3, m4, m5, m6, m7, m8, m9, m10⟩ := aD K1.out.k.n;have TO := aA (fR x p rs ya yc w1 K1.out.k.r (HY.out _ K1.out.k.b))
 go_wp2_with fail
 refine TO.out.mono ?_;rintro e w2 ⟨bl, ba, bp, rfl, ta, hb2⟩;have TA := aA ta;have K2 := aA (K1.out.step hb2);clear hb2 ta TO m0 m1 m2 m3 m4 m5 m6 m7 m8 m9 m10;obtain ⟨m0, m1, m2, m3, m4, m5, m6, m7, m8, m9, m10⟩ := aD K2.out.k.n
 have FD := aA (wE (Hf bl ba bp L w2 w2 HLl.out (fQ 2 HX.out HU.out (by omega) TA.out L HL.out) (Below.refl _ _) (fun pre : List Q64 => (pre.length : Int)) rfl (fun pre q V hlt => by
  have h9 := HLl.out;refine (DD (pre.length : Int) q.1.1 q.1.2 V (by omega) (by omega)).mono ?_;rintro e V' ⟨rfl, hb⟩;exact ⟨by simp, hb⟩)))
 go_wp2_with fail
 refine FD.out.mono ?_;rintro e w3 ⟨rfl, hb3⟩;have K3 := aA (K2.out.step hb3);clear hb3 FD m0 m1 m2 m3 m4 m5 m6 m7 m8 m9 m10;obtain ⟨m0, m1, m2, m3, m4, m5, m6, m7, m8, m9, m10⟩ := aD K3.out.k.n;have NU := aA (fun V => iA ((L.length : Int)) V)
 go_wp2_with fail
 refine (NU.out _).mono ?_;rintro e w4 ⟨rfl, hb4⟩;have K4 := aA (K3.out.step hb4);clear hb4 NU m0 m1 m2 m3 m4 m5 m6 m7 m8 m9 m10;obtain ⟨⟨o0, o1, o2, o3⟩, z0, z1, z2, z3⟩ := aJ K4.out.o
 go_wp2_with fail
 obtain ⟨⟨y0, y1, y2, y3⟩, -⟩ := aJ (aP K4.out.o (.int .i64 1) (.int .i64 ((L.length : Int))) (.string ⟨#[]⟩) (.slice none 0 0));exact bodyPost_ret (v := .tuple #[vlV 1 ((L.length : Int)) none 0 0, .bool true]) (by simp [results, Tryz.results20, go_sem, y0, y1, y2, y3]) rfl ⟨K4.out.put _ _ _ _, rfl⟩
set_option maxHeartbeats 8000000 in
set_option maxRecDepth 100000 in
theorem Cz {G : Nat -> Prop} (x : AG) (p : PA) (rs : List RW) (ya : Option Addr) (yc : Nat) (w : World) (h : fO x = 0) (hn : fD x) (hS : SzG x) (hU : ∀ r ∈ rs, dU r.A r.n r.g) (hl : rs.length <= 1000) (hr : aI G w x p) (hy : aS w ya rs) (hc : x.fn.data.toList = gF) :
 Calls Tryz.prog 20 #[agV x p, .slice ya rs.length yc] w (fP (evG x (rs.map RW.g)) w) := by
 have hX := p9 h hn hS;have gCount : (x.fn.toList == [99, 111, 117, 110, 116]) = false := aE (by rw [hc]; decide);have gSum : (x.fn.toList == [115, 117, 109]) = true := bG (by rw [hc]; decide);have gTop : (x.fn.toList == [116, 111, 112]) = false := aE (by rw [hc]; decide);have gMin : (x.fn.toList == [109, 105, 110]) = false := aE (by rw [hc]; decide);have gMax : (x.fn.toList == [109, 97, 120]) = false := aE (by rw [hc]; decide);have gFirst : (x.fn.toList == [102, 105, 114, 115, 116]) = false := aE (by rw [hc]; decide);have hr' : aI (fun b => b < w.heap.size) w x p := hr.imp (fun b hb _ => hb);have E0 := nT hr';have K1 := hX.l;obtain ⟨L, hL⟩ := jG _ (mV hX hU)
 have hLl : L.length <= 1000 := by
  have h1 : (fY x (rs.map RW.g)).length <= (rs.map RW.g).length := List.length_filterMap_le ..;rw [<- hL, List.length_map, List.length_map] at h1;omega
 have hcl := Dg hc (rs.map RW.g);rw [<- J7 (xP (hL.trans (wL (by rw [hc]; decide) (by rw [hc]; decide) _)))] at hcl;rw [hcl];have HX := aA hX;have HU := aA hU;have HL := aA hL;have HLl := aA hLl;have HY := aA (fun V (hV : Below w.heap.size w V) => dB hy hV);have CK := aA (fun V (rd : aI (fun b => b < w.heap.size) V x p) => dQ x p V hS (by omega) rd);rw [h] at CK;generalize hW1 : w.alloc (agP x p) = W1 at E0;generalize hW : W1.alloc (vlA 0 0 none 0 0) = W at E0;have HW1 := aA hW1;have HW := aA hW;have HK := aA E0;clear hW1 hW E0 h hn hS hU hr hr' hy hX hL hLl hcl;obtain ⟨m0, m1, m2, m3, m4, m5, m6, m7, m8, m9, m10⟩ := aD HK.out.k.n
 go_enter Tryz.func20, Tryz.ntmps20
 go_upto_region 1 with fail
 rw [show w.alloc (.cells #[.string x.fn, .int .i64 x.k, .string x.e.op, .string x.e.nm, .int .i64 x.e.n, .slice p.ea x.e.ks.len p.ec, .string x.g.op, .string x.g.nm, .int .i64 x.g.n, .slice p.ga x.g.ks.len p.gc, .slice p.wa x.wh.length p.wc] 28) = W1 from HW1.out, show W1.alloc (.cells #[.int .i64 0, .int .i64 0, .string ⟨#[]⟩, .slice none 0 0] 53) = W from HW.out]
 go_wp2_with fail
 refine (CK.out _ HK.out.k.r).mono ?_;rintro e w1 ⟨rfl, hb1⟩;have K1 := aA (HK.out.step hb1);clear hb1 m0 m1 m2 m3 m4 m5 m6 m7 m8 m9 m10;obtain ⟨m0, m1, m2, m3, m4, m5, m6, m7, m8, m9, m10⟩ := aD K1.out.k.n;have TO := aA (fR x p rs ya yc w1 K1.out.k.r (HY.out _ K1.out.k.b))
 go_wp2_with fail
 refine TO.out.mono ?_;rintro e w2 ⟨bl, ba, bp, rfl, ta, hb2⟩;have TA := aA ta;have K2 := aA (K1.out.step hb2);clear hb2 ta TO m0 m1 m2 m3 m4 m5 m6 m7 m8 m9 m10;obtain ⟨m0, m1, m2, m3, m4, m5, m6, m7, m8, m9, m10⟩ := aD K2.out.k.n
 have FD := aA (wE (He bl ba bp L w2 w2 HLl.out (fQ 2 HX.out HU.out (by omega) TA.out L HL.out) (Below.refl _ _) uD rfl (fun pre q V _ => by
  refine (DC (uD pre) q.1.1 q.1.2 V (Iv pre) q.2.1).mono ?_;rintro e V' ⟨rfl, hb⟩;exact ⟨by rw [Dz], hb⟩)))
 go_wp2_with fail
 refine FD.out.mono ?_;rintro e w3 ⟨rfl, hb3⟩;have K3 := aA (K2.out.step hb3);clear hb3 FD m0 m1 m2 m3 m4 m5 m6 m7 m8 m9 m10;obtain ⟨m0, m1, m2, m3, m4, m5, m6, m7, m8, m9, m10⟩ := aD K3.out.k.n;have NU := aA (fun V => iA (uD L) V)
 go_wp2_with fail
 refine (NU.out _).mono ?_;rintro e w4 ⟨rfl, hb4⟩;have K4 := aA (K3.out.step hb4);clear hb4 NU m0 m1 m2 m3 m4 m5 m6 m7 m8 m9 m10;obtain ⟨⟨o0, o1, o2, o3⟩, z0, z1, z2, z3⟩ := aJ K4.out.o
 go_wp2_with fail
 obtain ⟨⟨y0, y1, y2, y3⟩, -⟩ := aJ (aP K4.out.o (.int .i64 1) (.int .i64 (uD L)) (.string ⟨#[]⟩) (.slice none 0 0));exact bodyPost_ret (v := .tuple #[vlV 1 (uD L) none 0 0, .bool true]) (by simp [results, Tryz.results20, go_sem, y0, y1, y2, y3]) rfl ⟨K4.out.put _ _ _ _, rfl⟩
set_option maxHeartbeats 8000000 in
set_option maxRecDepth 100000 in
theorem Cy {G : Nat -> Prop} (x : AG) (p : PA) (rs : List RW) (ya : Option Addr) (yc : Nat) (w : World) (h : fO x = 0) (hn : fD x) (hS : SzG x) (hU : ∀ r ∈ rs, dU r.A r.n r.g) (hl : rs.length <= 1000) (hr : aI G w x p) (hy : aS w ya rs) (hc : x.fn.data.toList = dN) :
 Calls Tryz.prog 20 #[agV x p, .slice ya rs.length yc] w (fP (evG x (rs.map RW.g)) w) := by
 have hX := p9 h hn hS;have gCount : (x.fn.toList == [99, 111, 117, 110, 116]) = false := aE (by rw [hc]; decide);have gSum : (x.fn.toList == [115, 117, 109]) = false := aE (by rw [hc]; decide);have gTop : (x.fn.toList == [116, 111, 112]) = true := bG (by rw [hc]; decide);have gMin : (x.fn.toList == [109, 105, 110]) = false := aE (by rw [hc]; decide);have gMax : (x.fn.toList == [109, 97, 120]) = false := aE (by rw [hc]; decide);have gFirst : (x.fn.toList == [102, 105, 114, 115, 116]) = false := aE (by rw [hc]; decide);have hr' : aI (fun b => b < w.heap.size) w x p := hr.imp (fun b hb _ => hb);have E0 := nT hr';have K1 := hX.l;obtain ⟨L, hL⟩ := jG _ (mV hX hU)
 have hLl : L.length <= 1000 := by
  have h1 : (fY x (rs.map RW.g)).length <= (rs.map RW.g).length := List.length_filterMap_le ..;rw [<- hL, List.length_map, List.length_map] at h1;omega
 obtain ⟨hk1, hk2⟩ := (cQ h).2.1 hc;obtain ⟨most, hK⟩ : ∃ most : Nat, x.k = (most : Int) := ⟨x.k.toNat, by omega⟩;have hcl := Df hc (rs.map RW.g);rw [show x.k.toNat = most by omega] at hcl;have hto := J3 (xP (hL.trans (wL (by rw [hc]; decide) (by rw [hc]; decide) _))) most;unfold iD at hto;rw [<- hto] at hcl;obtain ⟨T, hT⟩ : ∃ T, pV most L = T := ⟨_, rfl⟩;rw [hT] at hcl;obtain ⟨R, hR⟩ : ∃ R, evG x (rs.map RW.g) = R := ⟨_, rfl⟩;rw [hR] at hcl |-
 have HR := aA hcl;have HKK := aA hK;have HT := aA hT;have HK1 := aA (show 1 <= most /\ most <= 1000 by omega);clear hR hK hT hk1 hk2 hto;have HX := aA hX;have HU := aA hU;have HL := aA hL;have HLl := aA hLl;have HY := aA (fun V (hV : Below w.heap.size w V) => dB hy hV);have CK := aA (fun V (rd : aI (fun b => b < w.heap.size) V x p) => dQ x p V hS (by omega) rd);rw [h] at CK;generalize hW1 : w.alloc (agP x p) = W1 at E0;generalize hW : W1.alloc (vlA 0 0 none 0 0) = W at E0;have HW1 := aA hW1;have HW := aA hW;have HK := aA E0;clear hW1 hW E0 h hn hS hU hr hr' hy hX hL hLl hcl;obtain ⟨m0, m1, m2, m3, m4, m5, m6, m7, m8, m9, m10⟩ := aD HK.out.k.n
 go_enter Tryz.func20, Tryz.ntmps20
 go_upto_region 1 with fail
 rw [show w.alloc (.cells #[.string x.fn, .int .i64 x.k, .string x.e.op, .string x.e.nm, .int .i64 x.e.n, .slice p.ea x.e.ks.len p.ec, .string x.g.op, .string x.g.nm, .int .i64 x.g.n, .slice p.ga x.g.ks.len p.gc, .slice p.wa x.wh.length p.wc] 28) = W1 from HW1.out, show W1.alloc (.cells #[.int .i64 0, .int .i64 0, .string ⟨#[]⟩, .slice none 0 0] 53) = W from HW.out]
 go_wp2_with fail
 refine (CK.out _ HK.out.k.r).mono ?_;rintro e w1 ⟨rfl, hb1⟩;have K1 := aA (HK.out.step hb1);clear hb1 m0 m1 m2 m3 m4 m5 m6 m7 m8 m9 m10;obtain ⟨m0, m1, m2, m3, m4, m5, m6, m7, m8, m9, m10⟩ := aD K1.out.k.n;have TO := aA (fR x p rs ya yc w1 K1.out.k.r (HY.out _ K1.out.k.b))
 go_wp2_with fail
 refine TO.out.mono ?_;rintro e w2 ⟨bl, ba, bp, rfl, ta, hb2⟩;have TA := aA ta;have K2 := aA (K1.out.step hb2);clear hb2 ta TO m0 m1 m2 m3 m4 m5 m6 m7 m8 m9 m10;obtain ⟨m0, m1, m2, m3, m4, m5, m6, m7, m8, m9, m10⟩ := aD K2.out.k.n;have FD := aA (wE (Hd bl ba bp w.heap.size x p most L w2 w2 HKK.out HK1.out.1 HK1.out.2 K2.out.k.n (fQ 2 HX.out HU.out (by omega) TA.out L HL.out) (Below.refl _ _)));rw [HT.out] at FD
 go_wp2_with fail
 refine FD.out.mono ?_;rintro e w3 ⟨v, rfl, ro, hb3⟩;obtain ⟨va, vc, rfl⟩ := bW ro;have HRO := aA ro;have K3 := aA (K2.out.step hb3);have HB2 := aA K2.out.k.z;have HN2 := aA (aC K2.out.o);clear hb3 FD ro m0 m1 m2 m3 m4 m5 m6 m7 m8 m9 m10;obtain ⟨⟨o0, o1, o2, o3⟩, z0, z1, z2, z3⟩ := aJ K3.out.o
 go_wp2_with fail
 obtain ⟨⟨y0, y1, y2, y3⟩, -⟩ := aJ (aP K3.out.o (.int .i64 3) (.int .i64 0) (.string ⟨#[]⟩) (.slice va T.length vc));refine bodyPost_ret (v := .tuple #[vlV 3 0 va T.length vc, .bool true]) (by simp [results, Tryz.results20, go_sem, y0, y1, y2, y3]) rfl (by rw [HR.out]; refine ⟨K3.out.put _ _ _ _, va, vc, rfl, Ls HN2.out HRO.out⟩)
set_option maxHeartbeats 8000000 in
set_option maxRecDepth 100000 in
theorem I0 {G : Nat -> Prop} (x : AG) (p : PA) (rs : List RW) (ya : Option Addr) (yc : Nat) (w : World) (h : fO x = 0) (hn : fD x) (hS : SzG x) (hU : ∀ r ∈ rs, dU r.A r.n r.g) (hl : rs.length <= 1000) (hr : aI G w x p) (hy : aS w ya rs) (hc : x.fn.data.toList = fV) :
 Calls Tryz.prog 20 #[agV x p, .slice ya rs.length yc] w (fP (evG x (rs.map RW.g)) w) := by
 have hX := p9 h hn hS;have gCount : (x.fn.toList == [99, 111, 117, 110, 116]) = false := aE (by rw [hc]; decide);have gSum : (x.fn.toList == [115, 117, 109]) = false := aE (by rw [hc]; decide);have gTop : (x.fn.toList == [116, 111, 112]) = false := aE (by rw [hc]; decide);have gMin : (x.fn.toList == [109, 105, 110]) = true := bG (by rw [hc]; decide);have gMax : (x.fn.toList == [109, 97, 120]) = false := aE (by rw [hc]; decide);have gFirst : (x.fn.toList == [102, 105, 114, 115, 116]) = false := aE (by rw [hc]; decide);have hr' : aI (fun b => b < w.heap.size) w x p := hr.imp (fun b hb _ => hb);have E0 := nT hr';have K1 := hX.l;obtain ⟨L, hL⟩ := jG _ (mV hX hU)
 have hLl : L.length <= 1000 := by
  have h1 : (fY x (rs.map RW.g)).length <= (rs.map RW.g).length := List.length_filterMap_le ..;rw [<- hL, List.length_map, List.length_map] at h1;omega
 have hcl := Dh hc (rs.map RW.g);rw [<- (xP (hL.trans (wL (by rw [hc]; decide) (by rw [hc]; decide) _))), <- tT (less := fun a b : Q64 => decide (a.1.1 < b.1.1)) (fun q => q.1.1) (fun a b => by simp [lsL])] at hcl;obtain ⟨o, ho⟩ : ∃ o, bD (fun a b : Q64 => decide (a.1.1 < b.1.1)) L = o := ⟨_, rfl⟩;rw [ho] at hcl;obtain ⟨R, hR⟩ : ∃ R, evG x (rs.map RW.g) = R := ⟨_, rfl⟩;rw [hR] at hcl |-
 have HR := aA hcl;clear hR;have HX := aA hX;have HU := aA hU;have HL := aA hL;have HLl := aA hLl;have HY := aA (fun V (hV : Below w.heap.size w V) => dB hy hV);have CK := aA (fun V (rd : aI (fun b => b < w.heap.size) V x p) => dQ x p V hS (by omega) rd);rw [h] at CK;generalize hW1 : w.alloc (agP x p) = W1 at E0;generalize hW : W1.alloc (vlA 0 0 none 0 0) = W at E0;have HW1 := aA hW1;have HW := aA hW;have HK := aA E0;clear hW1 hW E0 h hn hS hU hr hr' hy hX hL hLl hcl;obtain ⟨m0, m1, m2, m3, m4, m5, m6, m7, m8, m9, m10⟩ := aD HK.out.k.n
 go_enter Tryz.func20, Tryz.ntmps20
 go_upto_region 1 with fail
 rw [show w.alloc (.cells #[.string x.fn, .int .i64 x.k, .string x.e.op, .string x.e.nm, .int .i64 x.e.n, .slice p.ea x.e.ks.len p.ec, .string x.g.op, .string x.g.nm, .int .i64 x.g.n, .slice p.ga x.g.ks.len p.gc, .slice p.wa x.wh.length p.wc] 28) = W1 from HW1.out, show W1.alloc (.cells #[.int .i64 0, .int .i64 0, .string ⟨#[]⟩, .slice none 0 0] 53) = W from HW.out]
 go_wp2_with fail
 refine (CK.out _ HK.out.k.r).mono ?_;rintro e w1 ⟨rfl, hb1⟩;have K1 := aA (HK.out.step hb1);clear hb1 m0 m1 m2 m3 m4 m5 m6 m7 m8 m9 m10;obtain ⟨m0, m1, m2, m3, m4, m5, m6, m7, m8, m9, m10⟩ := aD K1.out.k.n;have TO := aA (fR x p rs ya yc w1 K1.out.k.r (HY.out _ K1.out.k.b))
 go_wp2_with fail
 refine TO.out.mono ?_;rintro e w2 ⟨bl, ba, bp, rfl, ta, hb2⟩;have TA := aA ta;have K2 := aA (K1.out.step hb2);clear hb2 ta TO m0 m1 m2 m3 m4 m5 m6 m7 m8 m9 m10;obtain ⟨m0, m1, m2, m3, m4, m5, m6, m7, m8, m9, m10⟩ := aD K2.out.k.n;have FD := aA (wE (Hw bl ba bp L w2 w2 (fQ 2 HX.out HU.out (by omega) TA.out L HL.out) (Below.refl _ _) (fun a b : Q64 => decide (a.1.1 < b.1.1)) (fun a b V => Ek a.1.1 a.1.2 b.1.1 b.1.2 V)));rw [ho] at FD;have BO := aA (xZ x.fn w2 hc);clear ho;cases o with
 | none =>
   go_wp2_with fail
   refine BO.out.mono ?_;rintro e w2' ⟨rfl, rfl⟩
   go_wp2_with fail
   refine FD.out.mono ?_;rintro e w3 ⟨rfl, hb3⟩;have K3 := aA (K2.out.step hb3);clear hb3 FD BO m0 m1 m2 m3 m4 m5 m6 m7 m8 m9 m10;have K4 := aA (K3.out.step ((Below.refl _ w3).alloc (Nat.le_refl _) (aL 0 0)));obtain ⟨⟨o0, o1, o2, o3⟩, z0, z1, z2, z3⟩ := aJ K4.out.o
   go_wp2_with fail
   obtain ⟨⟨y0, y1, y2, y3⟩, -⟩ := aJ (aP K4.out.o (.int .i64 0) (.int .i64 0) (.string ⟨#[]⟩) (.slice none 0 0));exact bodyPost_ret (v := .tuple #[vlV 0 0 none 0 0, .bool false]) (by simp [results, Tryz.results20, go_sem, y0, y1, y2, y3]) rfl (by rw [HR.out]; exact ⟨K4.out.put _ _ _ _, rfl⟩)
 | some q =>
   obtain ⟨⟨q0, q1⟩, hq⟩ := q
   go_wp2_with fail
   refine BO.out.mono ?_;rintro e w2' ⟨rfl, rfl⟩
   go_wp2_with fail
   refine FD.out.mono ?_;rintro e w3 ⟨rfl, hb3⟩;have K3 := aA (K2.out.step hb3);clear hb3 FD BO m0 m1 m2 m3 m4 m5 m6 m7 m8 m9 m10;have N4 := heap_alloc_new w3 (aL q0 q1);have K4 := aA (K3.out.step ((Below.refl _ w3).alloc (Nat.le_refl _) (aL q0 q1)));generalize hV : w3.alloc (aL q0 q1) = V at N4 K4;have HV := aA hV;obtain ⟨⟨n0, n1⟩, -⟩ := two N4;clear hV N4;have NU := aA (fun V => iA q0 V);dsimp only [cW, Option.isSome]
   go_upto_region 13 with fail
   rw [show w3.alloc (.cells #[.int .i64 q0, .int .i64 q1] 131) = V from HV.out]
   go_wp2_with fail
   refine (NU.out _).mono ?_;rintro e w4 ⟨rfl, hb4⟩;have K5 := aA (K4.out.step hb4);clear hb4 NU n0 n1;obtain ⟨⟨o0, o1, o2, o3⟩, z0, z1, z2, z3⟩ := aJ K5.out.o
   go_wp2_with fail
   obtain ⟨⟨y0, y1, y2, y3⟩, -⟩ := aJ (aP K5.out.o (.int .i64 1) (.int .i64 q0) (.string ⟨#[]⟩) (.slice none 0 0));exact bodyPost_ret (v := .tuple #[vlV 1 q0 none 0 0, .bool true]) (by simp [results, Tryz.results20, go_sem, y0, y1, y2, y3]) rfl (by rw [HR.out]; exact ⟨K5.out.put _ _ _ _, rfl⟩)
set_option maxHeartbeats 8000000 in
set_option maxRecDepth 100000 in
theorem I1 {G : Nat -> Prop} (x : AG) (p : PA) (rs : List RW) (ya : Option Addr) (yc : Nat) (w : World) (h : fO x = 0) (hn : fD x) (hS : SzG x) (hU : ∀ r ∈ rs, dU r.A r.n r.g) (hl : rs.length <= 1000) (hr : aI G w x p) (hy : aS w ya rs) (hc : x.fn.data.toList = gW) :
 Calls Tryz.prog 20 #[agV x p, .slice ya rs.length yc] w (fP (evG x (rs.map RW.g)) w) := by
 have hX := p9 h hn hS;have gCount : (x.fn.toList == [99, 111, 117, 110, 116]) = false := aE (by rw [hc]; decide);have gSum : (x.fn.toList == [115, 117, 109]) = false := aE (by rw [hc]; decide);have gTop : (x.fn.toList == [116, 111, 112]) = false := aE (by rw [hc]; decide);have gMin : (x.fn.toList == [109, 105, 110]) = false := aE (by rw [hc]; decide);have gMax : (x.fn.toList == [109, 97, 120]) = true := bG (by rw [hc]; decide);have gFirst : (x.fn.toList == [102, 105, 114, 115, 116]) = false := aE (by rw [hc]; decide);have hr' : aI (fun b => b < w.heap.size) w x p := hr.imp (fun b hb _ => hb);have E0 := nT hr';have K1 := hX.l;obtain ⟨L, hL⟩ := jG _ (mV hX hU)
 have hLl : L.length <= 1000 := by
  have h1 : (fY x (rs.map RW.g)).length <= (rs.map RW.g).length := List.length_filterMap_le ..;rw [<- hL, List.length_map, List.length_map] at h1;omega
 have hcl := Di hc (rs.map RW.g);rw [<- (xP (hL.trans (wL (by rw [hc]; decide) (by rw [hc]; decide) _))), <- tT (less := fun a b : Q64 => decide (b.1.1 < a.1.1)) (fun q => q.1.1) (fun a b => by simp [lsG])] at hcl;obtain ⟨o, ho⟩ : ∃ o, bD (fun a b : Q64 => decide (b.1.1 < a.1.1)) L = o := ⟨_, rfl⟩;rw [ho] at hcl;obtain ⟨R, hR⟩ : ∃ R, evG x (rs.map RW.g) = R := ⟨_, rfl⟩;rw [hR] at hcl |-
 have HR := aA hcl;clear hR;have HX := aA hX;have HU := aA hU;have HL := aA hL;have HLl := aA hLl;have HY := aA (fun V (hV : Below w.heap.size w V) => dB hy hV);have CK := aA (fun V (rd : aI (fun b => b < w.heap.size) V x p) => dQ x p V hS (by omega) rd);rw [h] at CK;generalize hW1 : w.alloc (agP x p) = W1 at E0;generalize hW : W1.alloc (vlA 0 0 none 0 0) = W at E0;have HW1 := aA hW1;have HW := aA hW;have HK := aA E0;clear hW1 hW E0 h hn hS hU hr hr' hy hX hL hLl hcl;obtain ⟨m0, m1, m2, m3, m4, m5, m6, m7, m8, m9, m10⟩ := aD HK.out.k.n
 go_enter Tryz.func20, Tryz.ntmps20
 go_upto_region 1 with fail
 rw [show w.alloc (.cells #[.string x.fn, .int .i64 x.k, .string x.e.op, .string x.e.nm, .int .i64 x.e.n, .slice p.ea x.e.ks.len p.ec, .string x.g.op, .string x.g.nm, .int .i64 x.g.n, .slice p.ga x.g.ks.len p.gc, .slice p.wa x.wh.length p.wc] 28) = W1 from HW1.out, show W1.alloc (.cells #[.int .i64 0, .int .i64 0, .string ⟨#[]⟩, .slice none 0 0] 53) = W from HW.out]
 go_wp2_with fail
 refine (CK.out _ HK.out.k.r).mono ?_;rintro e w1 ⟨rfl, hb1⟩;have K1 := aA (HK.out.step hb1);clear hb1 m0 m1 m2 m3 m4 m5 m6 m7 m8 m9 m10;obtain ⟨m0, m1, m2, m3, m4, m5, m6, m7, m8, m9, m10⟩ := aD K1.out.k.n;have TO := aA (fR x p rs ya yc w1 K1.out.k.r (HY.out _ K1.out.k.b))
 go_wp2_with fail
 refine TO.out.mono ?_;rintro e w2 ⟨bl, ba, bp, rfl, ta, hb2⟩;have TA := aA ta;have K2 := aA (K1.out.step hb2);clear hb2 ta TO m0 m1 m2 m3 m4 m5 m6 m7 m8 m9 m10;obtain ⟨m0, m1, m2, m3, m4, m5, m6, m7, m8, m9, m10⟩ := aD K2.out.k.n;have FD := aA (wE (Hv bl ba bp L w2 w2 (fQ 2 HX.out HU.out (by omega) TA.out L HL.out) (Below.refl _ _) (fun a b : Q64 => decide (b.1.1 < a.1.1)) (fun a b V => Ej a.1.1 a.1.2 b.1.1 b.1.2 V)));rw [ho] at FD;have BO := aA (yA x.fn w2 hc);clear ho;cases o with
 | none =>
   go_wp2_with fail
   refine BO.out.mono ?_;rintro e w2' ⟨rfl, rfl⟩
   go_wp2_with fail
   refine FD.out.mono ?_;rintro e w3 ⟨rfl, hb3⟩;have K3 := aA (K2.out.step hb3);clear hb3 FD BO m0 m1 m2 m3 m4 m5 m6 m7 m8 m9 m10;have K4 := aA (K3.out.step ((Below.refl _ w3).alloc (Nat.le_refl _) (aL 0 0)));obtain ⟨⟨o0, o1, o2, o3⟩, z0, z1, z2, z3⟩ := aJ K4.out.o
   go_wp2_with fail
   obtain ⟨⟨y0, y1, y2, y3⟩, -⟩ := aJ (aP K4.out.o (.int .i64 0) (.int .i64 0) (.string ⟨#[]⟩) (.slice none 0 0));exact bodyPost_ret (v := .tuple #[vlV 0 0 none 0 0, .bool false]) (by simp [results, Tryz.results20, go_sem, y0, y1, y2, y3]) rfl (by rw [HR.out]; exact ⟨K4.out.put _ _ _ _, rfl⟩)
 | some q =>
   obtain ⟨⟨q0, q1⟩, hq⟩ := q
   go_wp2_with fail
   refine BO.out.mono ?_;rintro e w2' ⟨rfl, rfl⟩
   go_wp2_with fail
   refine FD.out.mono ?_;rintro e w3 ⟨rfl, hb3⟩;have K3 := aA (K2.out.step hb3);clear hb3 FD BO m0 m1 m2 m3 m4 m5 m6 m7 m8 m9 m10;have N4 := heap_alloc_new w3 (aL q0 q1);have K4 := aA (K3.out.step ((Below.refl _ w3).alloc (Nat.le_refl _) (aL q0 q1)));generalize hV : w3.alloc (aL q0 q1) = V at N4 K4;have HV := aA hV;obtain ⟨⟨n0, n1⟩, -⟩ := two N4;clear hV N4;have NU := aA (fun V => iA q0 V);dsimp only [cW, Option.isSome]
   go_upto_region 13 with fail
   rw [show w3.alloc (.cells #[.int .i64 q0, .int .i64 q1] 131) = V from HV.out]
   go_wp2_with fail
   refine (NU.out _).mono ?_;rintro e w4 ⟨rfl, hb4⟩;have K5 := aA (K4.out.step hb4);clear hb4 NU n0 n1;obtain ⟨⟨o0, o1, o2, o3⟩, z0, z1, z2, z3⟩ := aJ K5.out.o
   go_wp2_with fail
   obtain ⟨⟨y0, y1, y2, y3⟩, -⟩ := aJ (aP K5.out.o (.int .i64 1) (.int .i64 q0) (.string ⟨#[]⟩) (.slice none 0 0));exact bodyPost_ret (v := .tuple #[vlV 1 q0 none 0 0, .bool true]) (by simp [results, Tryz.results20, go_sem, y0, y1, y2, y3]) rfl (by rw [HR.out]; exact ⟨K5.out.put _ _ _ _, rfl⟩)
set_option maxHeartbeats 8000000 in
set_option maxRecDepth 100000 in
theorem DX {G : Nat -> Prop} (x : AG) (p : PA) (rs : List RW) (ya : Option Addr) (yc : Nat) (w : World) (h : fO x = 0) (hn : fD x) (hS : SzG x) (hU : ∀ r ∈ rs, dU r.A r.n r.g) (hl : rs.length <= 1000) (hr : aI G w x p) (hy : aS w ya rs) (hc : x.fn.data.toList = aY) :
 Calls Tryz.prog 20 #[agV x p, .slice ya rs.length yc] w (fP (evG x (rs.map RW.g)) w) := by
 have hX := p9 h hn hS;have gCount : (x.fn.toList == [99, 111, 117, 110, 116]) = false := aE (by rw [hc]; decide);have gSum : (x.fn.toList == [115, 117, 109]) = false := aE (by rw [hc]; decide);have gTop : (x.fn.toList == [116, 111, 112]) = false := aE (by rw [hc]; decide);have gMin : (x.fn.toList == [109, 105, 110]) = false := aE (by rw [hc]; decide);have gMax : (x.fn.toList == [109, 97, 120]) = false := aE (by rw [hc]; decide);have gFirst : (x.fn.toList == [102, 105, 114, 115, 116]) = true := bG (by rw [hc]; decide);have hr' : aI (fun b => b < w.heap.size) w x p := hr.imp (fun b hb _ => hb);have E0 := nT hr';have K1 := hX.l;obtain ⟨L, hL⟩ := jG _ (mV hX hU)
 have hLl : L.length <= 1000 := by
  have h1 : (fY x (rs.map RW.g)).length <= (rs.map RW.g).length := List.length_filterMap_le ..;rw [<- hL, List.length_map, List.length_map] at h1;omega
 have hcl := vU hc (rs.map RW.g);rw [<- (hL.trans (J6 (by rw [hc]; decide) (by rw [hc]; decide) _)), <- tT (less := fun a b : Q64 => decide (a.1.2 < b.1.2)) (Subtype.val) (fun a b => by simp [lsP])] at hcl;obtain ⟨o, ho⟩ : ∃ o, bD (fun a b : Q64 => decide (a.1.2 < b.1.2)) L = o := ⟨_, rfl⟩;rw [ho] at hcl;obtain ⟨R, hR⟩ : ∃ R, evG x (rs.map RW.g) = R := ⟨_, rfl⟩;rw [hR] at hcl |-
 have HR := aA hcl;clear hR;have HX := aA hX;have HU := aA hU;have HL := aA hL;have HLl := aA hLl;have HY := aA (fun V (hV : Below w.heap.size w V) => dB hy hV);have CK := aA (fun V (rd : aI (fun b => b < w.heap.size) V x p) => dQ x p V hS (by omega) rd);rw [h] at CK;generalize hW1 : w.alloc (agP x p) = W1 at E0;generalize hW : W1.alloc (vlA 0 0 none 0 0) = W at E0;have HW1 := aA hW1;have HW := aA hW;have HK := aA E0;clear hW1 hW E0 h hn hS hU hr hr' hy hX hL hLl hcl;obtain ⟨m0, m1, m2, m3, m4, m5, m6, m7, m8, m9, m10⟩ := aD HK.out.k.n
 go_enter Tryz.func20, Tryz.ntmps20
 go_upto_region 1 with fail
 rw [show w.alloc (.cells #[.string x.fn, .int .i64 x.k, .string x.e.op, .string x.e.nm, .int .i64 x.e.n, .slice p.ea x.e.ks.len p.ec, .string x.g.op, .string x.g.nm, .int .i64 x.g.n, .slice p.ga x.g.ks.len p.gc, .slice p.wa x.wh.length p.wc] 28) = W1 from HW1.out, show W1.alloc (.cells #[.int .i64 0, .int .i64 0, .string ⟨#[]⟩, .slice none 0 0] 53) = W from HW.out]
 go_wp2_with fail
 refine (CK.out _ HK.out.k.r).mono ?_;rintro e w1 ⟨rfl, hb1⟩;have K1 := aA (HK.out.step hb1);clear hb1 m0 m1 m2 m3 m4 m5 m6 m7 m8 m9 m10;obtain ⟨m0, m1, m2, m3, m4, m5, m6, m7, m8, m9, m10⟩ := aD K1.out.k.n;have TO := aA (fR x p rs ya yc w1 K1.out.k.r (HY.out _ K1.out.k.b))
 go_wp2_with fail
 refine TO.out.mono ?_;rintro e w2 ⟨bl, ba, bp, rfl, ta, hb2⟩;have TA := aA ta;have K2 := aA (K1.out.step hb2);clear hb2 ta TO m0 m1 m2 m3 m4 m5 m6 m7 m8 m9 m10;obtain ⟨m0, m1, m2, m3, m4, m5, m6, m7, m8, m9, m10⟩ := aD K2.out.k.n;have FD := aA (wE (Hu bl ba bp L w2 w2 (fQ 2 HX.out HU.out (by omega) TA.out L HL.out) (Below.refl _ _) (fun a b : Q64 => decide (a.1.2 < b.1.2)) (fun a b V => Ei a.1.1 a.1.2 b.1.1 b.1.2 V)));rw [ho] at FD;have BO := aA (tS x.fn w2 hc);clear ho;cases o with
 | none =>
   go_wp2_with fail
   refine BO.out.mono ?_;rintro e w2' ⟨rfl, rfl⟩
   go_wp2_with fail
   refine FD.out.mono ?_;rintro e w3 ⟨rfl, hb3⟩;have K3 := aA (K2.out.step hb3);clear hb3 FD BO m0 m1 m2 m3 m4 m5 m6 m7 m8 m9 m10;have K4 := aA (K3.out.step ((Below.refl _ w3).alloc (Nat.le_refl _) (aL 0 0)));obtain ⟨⟨o0, o1, o2, o3⟩, z0, z1, z2, z3⟩ := aJ K4.out.o
   go_wp2_with fail
   obtain ⟨⟨y0, y1, y2, y3⟩, -⟩ := aJ (aP K4.out.o (.int .i64 0) (.int .i64 0) (.string ⟨#[]⟩) (.slice none 0 0));exact bodyPost_ret (v := .tuple #[vlV 0 0 none 0 0, .bool false]) (by simp [results, Tryz.results20, go_sem, y0, y1, y2, y3]) rfl (by rw [HR.out]; exact ⟨K4.out.put _ _ _ _, rfl⟩)
 | some q =>
   obtain ⟨⟨q0, q1⟩, hq⟩ := q
   go_wp2_with fail
   refine BO.out.mono ?_;rintro e w2' ⟨rfl, rfl⟩
   go_wp2_with fail
   refine FD.out.mono ?_;rintro e w3 ⟨rfl, hb3⟩;have K3 := aA (K2.out.step hb3);clear hb3 FD BO m0 m1 m2 m3 m4 m5 m6 m7 m8 m9 m10;have N4 := heap_alloc_new w3 (aL q0 q1);have K4 := aA (K3.out.step ((Below.refl _ w3).alloc (Nat.le_refl _) (aL q0 q1)));generalize hV : w3.alloc (aL q0 q1) = V at N4 K4;have HV := aA hV;obtain ⟨⟨n0, n1⟩, -⟩ := two N4;clear hV N4;have NU := aA (fun V => iA q0 V);dsimp only [cW, Option.isSome]
   go_upto_region 13 with fail
   rw [show w3.alloc (.cells #[.int .i64 q0, .int .i64 q1] 131) = V from HV.out]
   go_wp2_with fail
   refine (NU.out _).mono ?_;rintro e w4 ⟨rfl, hb4⟩;have K5 := aA (K4.out.step hb4);clear hb4 NU n0 n1;obtain ⟨⟨o0, o1, o2, o3⟩, z0, z1, z2, z3⟩ := aJ K5.out.o
   go_wp2_with fail
   obtain ⟨⟨y0, y1, y2, y3⟩, -⟩ := aJ (aP K5.out.o (.int .i64 1) (.int .i64 q0) (.string ⟨#[]⟩) (.slice none 0 0));exact bodyPost_ret (v := .tuple #[vlV 1 q0 none 0 0, .bool true]) (by simp [results, Tryz.results20, go_sem, y0, y1, y2, y3]) rfl (by rw [HR.out]; exact ⟨K5.out.put _ _ _ _, rfl⟩)
theorem wY {G : Nat -> Prop} (x : AG) (p : PA) (rs : List RW) (ya : Option Addr) (yc : Nat) (w : World) (h : fO x = 0) (hn : fD x) (hS : SzG x) (hU : ∀ r ∈ rs, dU r.A r.n r.g) (hl : rs.length <= 1000) (hr : aI G w x p) (hy : aS w ya rs) :
 Calls Tryz.prog 20 #[agV x p, .slice ya rs.length yc] w (fP (evG x (rs.map RW.g)) w) := by
 have h1 := (cQ h).1;unfold dH at h1;simp only [Bool.or_eq_true, beq_iff_eq] at h1
 rcases h1 with ((((h1 | h1) | h1) | h1) | h1) | h1
 · exact DY x p rs ya yc w h hn hS hU hl hr hy h1
 · exact I0 x p rs ya yc w h hn hS hU hl hr hy h1
 · exact I1 x p rs ya yc w h hn hS hU hl hr hy h1
 · exact Cz x p rs ya yc w h hn hS hU hl hr hy h1
 · exact DX x p rs ya yc w h hn hS hU hl hr hy h1
 · exact Cy x p rs ya yc w h hn hS hU hl hr hy h1
def Oth (b : Nat) (w w' : World) : Prop := ∀ (k : Nat) (cs : Array Value) (t : TypeId), k ≠ b -> t ≠ 5 -> w.heap[k]? = some (.cells cs t (0, 0)) -> w'.heap[k]? = some (.cells cs t (0, 0))
theorem JP : (Tryz.prog.info? 112).map (·.size) = some 2 := by kernel_rfl
theorem JQ : liesAt Tryz.prog Tryz.prog.depth 112 (2 / Tryz.prog.cellsOf 112) 0 112 1 = true := by kernel_rfl
theorem JR : (Tryz.prog.info? 5).map (fun i => (i.zero, i.size, i.bytes)) = some (some (.int .u8 0), 1, 1) := by kernel_rfl
set_option maxHeartbeats 1000000 in
set_option maxRecDepth 100000 in
theorem Ch (B b : Nat) (bs : List Value) (w : World) (h : Bd B b bs w) : Calls Tryz.prog 98 #[.pointer (some ⟨b, 0, none⟩)] w fun e w' =>
 e = .returned (.tuple #[]) /\ Lib.BuilderAt 112 5 B b (.pointer (some ⟨b, 0, none⟩)) bs w' /\ Below B w w' /\ Oth b w w' := by
 obtain ⟨j, hj, hjs⟩ := Option.map_eq_some_iff.1 JP
 rcases h with h | h
 · have h0 := h.cell0
   have hf := h.frozen0;have hsh := h.shape;have H := aA h;clear h
   go_enter Tryz.func98, Tryz.ntmps98
   go_wp2
   rw [Lib.run_to_unsafe w ⟨b, 0, none⟩ Tryz.underlying109 Tryz.underlying210 hj (by rw [hjs]; decide) hsh (Nat.zero_lt_succ 1)];simp only [Result.andThen];rw [Oper.upon_value]
   go_wp2
   rw [run_callFunc_extern Tryz.func143 (by kernel_rfl) (by kernel_rfl) (by kernel_rfl) (e := Extern.AbiNoEscape.same) (by kernel_rfl)];rw [Lib.run_noEscape];simp only [Result.andThen];rw [Oper.upon_value]
   go_wp2
   rw [Lib.run_from_unsafe w ⟨b, 0, none⟩ Tryz.underlying210 Tryz.underlying109 hj hsh JQ];simp only [Result.andThen];rw [Oper.upon_value]
   go_wp2
   go_end0
   exact ⟨rfl, H.out.used _, (Below.refl B w).setCell (p := ⟨b, 0, none⟩) H.out.1 _, fun k cs t hk _ h => (Below.heap_setCell _ ⟨b, 0, none⟩ _ k hk).trans h⟩
 · have h0 := h.cell0
   have H := aA h;clear h
   go_enter Tryz.func98, Tryz.ntmps98
   go_wp2
   rw [Lib.run_neq_ptr_same w _ Tryz.underlying109 hj]
   go_wp2
   go_end0
   exact ⟨rfl, H.out, Below.refl B _, fun _ _ _ _ _ h => h⟩
theorem Hx {w : World} {B : Nat} {e : TypeId} {v : Value} {n : Nat} {xs : List Value} (h : w.ownsRow B e 1 v n xs) : ∃ a l c, v = .slice a l c := by
 rcases h.2 with ⟨h, _⟩ | ⟨g, cap, _, h, _⟩
 · exact ⟨_, _, _, h⟩
 · exact ⟨_, _, _, h⟩
theorem wM (s : ByteArray) : (Lib.strCells s).length = s.size := by simp [Lib.strCells]
theorem KI {B b n : Nat} {bs bs' : List Value} {v v' : Value} {w w1 w2 w3 : World} (hB : B <= b) (hown : w1.ownsRow B 5 1 v n bs) (hoth : Oth b w w1) (hk2 : ∀ k, k < w1.heap.size -> w2.heap[k]? = w1.heap[k]?) (hs2 : w1.heap.size <= w2.heap.size) (hb : w1.heap[b]? = some (.cells #[.pointer (some ⟨b, 0, none⟩), v] 112 (0, 0))) (hne : v.ownBlock ≠ some b)
 (b1 : Below B w w1) (b2 : Below B w1 w2) (hk : w2.heap[b]? = w1.heap[b]?) (hv : ∀ k, v.ownBlock = some k -> B <= k) (hBw : B <= w2.heap.size) (ho : w3.ownsRow B 5 1 v' bs'.length bs') (hg : w2.grownBy w3 v.ownBlock) :
 (w3.cell? ⟨b, 0, none⟩ = some (.pointer (some ⟨b, 0, none⟩)) /\ w3.cell? ⟨b, 1, none⟩ = some v /\ w3.frozen? ⟨b, 1, none⟩ = false) /\ Bd B b bs' (w3.setCell ⟨b, 1, none⟩ v') /\ Below B w (w3.setCell ⟨b, 1, none⟩ v') /\ Oth b w (w3.setCell ⟨b, 1, none⟩ v') := by
 have hlt : b < w2.heap.size := by
  rcases Nat.lt_or_ge b w2.heap.size with h' | h'
  · exact h'
  · rw [<- hk] at hb; simp [Array.getElem?_eq_none h'] at hb
 have hb3 : w3.heap[b]? = some (.cells #[.pointer (some ⟨b, 0, none⟩), v] 112 (0, 0)) := by rw [hg.block b hlt (fun e => hne e.symm), hk]; exact hb
 refine ⟨⟨by rw [Lib.cell_of_heap hb3]; rfl, by rw [Lib.cell_of_heap hb3]; rfl, Lib.frozen_of_heap hb3 1⟩, .inr (Lib.BuilderAt.put hB hb3 ho (by decide)), ?_⟩;refine ⟨((b1.trans b2).grown hg hBw hv).setCell (p := ⟨b, 1, none⟩) hB _, fun k cs t hkb ht h => ?_⟩;have h1 := hoth k cs t hkb ht h;have hl1 := lt_of_block h1;rw [Below.heap_setCell _ ⟨b, 1, none⟩ _ k hkb, hg.block k (by omega) (fun e => ?_), hk2 k hl1]
 · exact h1
 · rcases hown.2 with ⟨hv0, _⟩ | ⟨g, cap, cur, hv0, _, hgg, _⟩
   · rw [hv0] at e; cases e
   · rw [hv0] at e
     obtain rfl : k = g := by simpa [Value.ownBlock] using e
     rw [h1] at hgg;simp only [Option.some.injEq, Obj.cells.injEq] at hgg;exact ht hgg.2.1
set_option maxHeartbeats 2000000 in
set_option maxRecDepth 100000 in
theorem yB (B b : Nat) (bs : List Value) (s : ByteArray) (w : World) (h : Bd B b bs w) (hl : bs.length + s.size <= 1000000000) (hBw : B <= w.heap.size) :
 Calls Tryz.prog 49 #[.pointer (some ⟨b, 0, none⟩), .string s] w fun e w' => e = .returned (.tuple #[.int .i64 s.size, .nilIface]) /\ Bd B b (bs ++ Lib.strCells s) w' /\ Below B w w' /\ Oth b w w' := by
 obtain ⟨i0, hi, hz0, hz1, hz2⟩ := info_parts JR;have C := aA (Ch B b bs w h);clear h
 go_enter Tryz.func49, Tryz.ntmps49
 go_wp2_with fail
 refine C.out.mono ?_;rintro e w1 ⟨rfl, ⟨hB, v, hbk, hown, hne⟩, hb1, ho1⟩;have c0 : w1.cell? ⟨b, 0, none⟩ = some (.pointer (some ⟨b, 0, none⟩)) := by rw [Lib.cell_of_heap hbk]; rfl
 have c1 : w1.cell? ⟨b, 1, none⟩ = some v := by rw [Lib.cell_of_heap hbk]; rfl
 have H1 := aA (And.intro hbk (And.intro hown (And.intro hne (And.intro hb1 ho1))));have hz := hb1.size;clear hbk hown hne hb1 ho1 C
 go_wp2_with (at_builtin; refine Lib.wpList_append_own_string _ rfl _ _ 110 9 rfl B 5 i0 Tryz.underlying110 Tryz.underlying9 hi hz0 hz1 hz2 v bs.length bs rfl H1.out.2.1 s rfl (by unfold maxLen; omega) (by omega) (by omega) ?_)
 intro v' w2 ho hg _;obtain ⟨ao, no, co, rfl⟩ := Hx ho;obtain ⟨⟨d0, d1, f1⟩, hbd, hbel, hoth⟩ := KI (bs' := bs ++ Lib.strCells s) hB H1.out.2.1 H1.out.2.2.2.2 (fun _ _ => rfl) (Nat.le_refl _) H1.out.1 H1.out.2.2.1 H1.out.2.2.2.1 (Below.refl B w1) rfl (fun k hk => (H1.out.2.1.lt k hk).1) (by omega) (by rw [List.length_append, wM]; exact ho) hg;have R := aA (And.intro hbd (And.intro hbel hoth));clear ho hg hbd hbel hoth c0 c1
 go_wp2
 go_ret2;exact ⟨rfl, R.out.1, R.out.2⟩
theorem KJ {B b : Nat} {bs : List Value} {w w' : World} (h : Bd B b bs w) (hb : Below w.heap.size w w') : Bd B b bs w' := by
 have one : ∀ p, Lib.BuilderAt 112 5 B b p bs w -> Lib.BuilderAt 112 5 B b p bs w' := fun p ⟨hB, v, hk, ho, hne⟩ =>
  ⟨hB, v, (hb.block b (lt_of_block hk)).trans hk, ho.kept (row := none) ⟨hb.os, hb.tape, hb.output, hb.size, fun k hk _ => hb.block k hk⟩ (by cases v.ownBlock <;> simp), hne⟩
 rcases h with h | h
 · exact .inl (one _ h)
 · exact .inr (one _ h)
theorem JS {B b : Nat} {bs : List Value} {w : World} (h : Bd B b bs w) : b < w.heap.size := by
 rcases h with h | h
 · exact h.lt
 · exact h.lt
theorem uN (l : List UInt8) (s : ByteArray) : Lib.byteCells l ++ Lib.strCells s = Lib.byteCells (l ++ s.data.toList) := by simp [Lib.byteCells, Lib.strCells]
abbrev txB (l : List UInt8) : ByteArray := ⟨l.toArray⟩
def gE (x : AG) : List ByteArray := if kP x.fn.data.toList = true then [txB (Lib.itoa x.k)] else []
def iS (x : AG) : List ByteArray := if eP x.fn.data.toList = true then gE x ++ [txB (bV x.e)] else gE x
def jZ (x : AG) : List ByteArray := if bP x.fn.data.toList = true then iS x ++ [txB (bV x.g)] else iS x
theorem FF (x : AG) (hf : dH x.fn.data.toList = true) : Lib.join ((jZ x).map (·.data.toList)) [44, 32] = rY x := by
 unfold jZ iS gE rY;obtain ⟨F, hF⟩ : ∃ F, x.fn.data.toList = F := ⟨_, rfl⟩;rw [hF] at hf |-
 have eE : eP F = !(F == aO) := by unfold eP; rw [hf, Bool.true_and]
 by_cases hc : F = aO
 · subst hc
   rfl
 · have h1 : eP F = true := by rw [eE, beq_eq_false_iff_ne.2 hc]; rfl
   rw [if_neg hc, if_pos h1]
   by_cases ht : F = dN
   · subst ht
     rw [if_pos rfl, if_neg (show ¬ bP dN = true by decide), if_pos (show kP dN = true by decide)];simp [Lib.join, txB]
   · rw [if_neg ht, if_neg (show ¬ kP F = true by unfold kP; rw [beq_eq_false_iff_ne.2 ht]; decide)]
     by_cases hb : F = aY
     · subst hb
       rw [if_pos rfl, if_pos (show bP aY = true by decide)];simp [Lib.join, txB]
     · rw [if_neg hb, if_neg (show ¬ bP F = true by unfold bP; rw [beq_eq_false_iff_ne.2 hb]; decide)]
       simp [Lib.join, txB]
theorem AI (x : AG) : (gE x).length <= 1 /\ (iS x).length <= 2 /\ (jZ x).length <= 3 := by
 have h1 : (gE x).length <= 1 := by unfold gE; split <;> simp
 have h2 : (iS x).length <= 2 := by
  unfold iS
  split
  · rw [List.length_append, List.length_singleton]; omega
  · omega
 have h3 : (jZ x).length <= 3 := by
  unfold jZ
  split
  · rw [List.length_append, List.length_singleton]; omega
  · omega
 exact ⟨h1, h2, h3⟩
structure TA (G : Nat -> Prop) (w : World) (x : AG) (p : PA) (B : Nat) (v : Value) (L : List ByteArray) (V : World) : Prop where
 k : KP9 G w x p V
 t : V.heap[B]? = some (ptO (kP x.fn.data.toList) (eP x.fn.data.toList) (bP x.fn.data.toList))
 own : V.ownsRow (B + 1) 9 1 v L.length (L.map Value.string)
 lo : w.heap.size < B
theorem TA.step {G : Nat -> Prop} {w : World} {x : AG} {p : PA} {B : Nat} {v : Value} {L : List ByteArray} {V V' : World} (h : TA G w x p B v L V) (hb : Below V.heap.size V V') : TA G w x p B v L V' :=
 ⟨h.k.step hb, (hb.block _ (aC h.t)).trans h.t, aT h.own hb, h.lo⟩
theorem TA.push {G : Nat -> Prop} {w : World} {x : AG} {p : PA} {B : Nat} {v v' : Value} {L : List ByteArray} {s : ByteArray} {V V' : World} (h : TA G w x p B v L V) (hG : ∀ b, G b -> b < w.heap.size) (ho : V'.ownsRow (B + 1) 9 1 v' (L.length + 1) (L.map Value.string ++ [.string s])) (hg : V.grownBy V' v.ownBlock) : TA G w x p B v' (L ++ [s]) V' := by
 have hk := (aG.refl (fun b => v.ownBlock = some b) V).grown hg (fun k hk => .inl hk);have hlo := h.lo;have hB := aC h.t;have lo : ∀ b, v.ownBlock = some b -> B + 1 <= b := fun b hb => (h.own.lt b hb).1
 refine ⟨⟨h.k.b.trans (hk.below (B := w.heap.size) (fun b hb => by have := lo b hb; omega) h.k.z), Nat.le_trans h.k.z hk.size, hk.heap h.k.n (fun e => by have := lo _ e; omega), h.k.r.keptS hk (fun b hb hg => by have := lo b hb; have := hG b hg; omega)⟩, hk.heap h.t (fun e => by have := lo _ e; omega), ?_, hlo⟩;have e1 : (L ++ [s]).length = L.length + 1 := by simp
 have e2 : (L ++ [s]).map Value.string = L.map Value.string ++ [.string s] := by simp
 rw [e1, e2];exact ho
theorem G7 : (Tryz.prog.info? 9).map (fun i => (i.zero, i.size, i.bytes)) = some (some (.string ⟨#[]⟩), 1, 16) := by kernel_rfl
theorem xB (W : World) (v : Value) (t : TypeId) : ∀ j u, ([v] : List Value)[j]? = some u -> (W.alloc (.cells #[v] t)).cell? ((⟨W.heap.size, 0, none⟩ : Addr).add j) = some u := fun j u hu => by
 match j, hu with
 | 0, h =>
   cases h;rw [Addr.add_lit];unfold World.cell?;rw [heap_alloc_new];rfl
 | n + 1, h => simp at h
set_option maxHeartbeats 16000000 in
set_option maxRecDepth 100000 in
theorem FB {G : Nat -> Prop} (x : AG) (p : PA) (w : World) (he : fO x = 0) (hn : fD x) (hl : j0 w) (hr : aI G w x p) :
 Calls Tryz.prog 51 #[agV x p] w fun e w' => Below w.heap.size w w' /\ ∃ v, e = .returned v /\ w'.ownsRow w.heap.size 9 1 v (jZ x).length ((jZ x).map Value.string) := by
 obtain ⟨h1, h2, h3, h4, h5, h6⟩ := cQ he;have hr' : aI (fun b => b < w.heap.size) w x p := hr.imp (fun b hb _ => hb);have K0 := lR hr';have HL := aA (fun V (hV : Below w.heap.size w V) => hl.step hV);have AL := aA (AI x);have HN := aA hn;generalize hW : w.alloc (agP x p) = W at K0;have HW := aA hW;have HK := aA K0;have CP := aA (i6 x.fn W);have EK1 := aA (show (kP x.fn.data.toList = true -> 1 <= x.k /\ x.k <= 16) from fun h => h2 (by unfold kP at h; simpa using h));have EK2 := aA (show (eP x.fn.data.toList = true -> aK x.e = 0) from fun h => h3 (by unfold eP at h; intro hc; rw [hc] at h; simp at h));have EK3 := aA (show (bP x.fn.data.toList = true -> aK x.g = 0) from fun h => h4 (by unfold bP at h; simpa using h));unfold ptV at CP;have F1 : ∀ L, gE x = L -> gE x = L := fun _ h => h
 have D1 := aA (show gE x = if kP x.fn.data.toList = true then [txB (Lib.itoa x.k)] else [] from rfl);have D2 := aA (show iS x = if eP x.fn.data.toList = true then gE x ++ [txB (bV x.e)] else gE x from rfl);have D3 := aA (show jZ x = if bP x.fn.data.toList = true then iS x ++ [txB (bV x.g)] else iS x from rfl);have DT := aA (fun B v L V => @TA.mk (fun b => b < w.heap.size) w x p B v L V);have TQ := aA (fun B v L V (h : TA (fun b => b < w.heap.size) w x p B v L V) => h.t);obtain ⟨kk, hkk⟩ : ∃ b, kP x.fn.data.toList = b := ⟨_, rfl⟩;obtain ⟨ee, hee⟩ : ∃ b, eP x.fn.data.toList = b := ⟨_, rfl⟩;obtain ⟨bb, hbb⟩ : ∃ b, bP x.fn.data.toList = b := ⟨_, rfl⟩;rw [hkk, hee, hbb] at CP TQ DT;rw [hkk] at D1 EK1;rw [hee] at D2 EK2;rw [hbb] at D3 EK3;clear hW K0 hr hr' hn hl he h1 h2 h3 h4 h5 h6 F1 hkk hee hbb;obtain ⟨m0, m1, m2, m3, m4, m5, m6, m7, m8, m9, m10⟩ := aD HK.out.n;have und := Tryz.underlying118;obtain ⟨i, hi, hz0, hz1, hz2⟩ := info_parts G7
 go_enter Tryz.func51, Tryz.ntmps51
 go_upto_region 1 with fail
 rw [show w.alloc (.cells #[.string x.fn, .int .i64 x.k, .string x.e.op, .string x.e.nm, .int .i64 x.e.n, .slice p.ea x.e.ks.len p.ec, .string x.g.op, .string x.g.nm, .int .i64 x.g.n, .slice p.ga x.g.ks.len p.gc, .slice p.wa x.wh.length p.wc] 28) = W from HW.out]
 go_wp2_with fail
 refine CP.out.mono ?_;rintro e w1 ⟨rfl, hb1⟩;have K1 := HK.out.step hb1;have BA := (Below.refl w1.heap.size w1).alloc (Nat.le_refl _) (ptO kk ee bb);have NA := heap_alloc_new w1 (ptO kk ee bb);have K2 := aA (K1.step BA);have hlo : w.heap.size < w1.heap.size := aC K1.n;clear hb1 K1 BA CP HK m0 m1 m2 m3 m4 m5 m6 m7 m8 m9 m10
 go_upto_region 2 with fail
 generalize w1.alloc (ptO kk ee bb) = V at *;generalize w1.heap.size = B at *
 go_cut [5] (fun v5 wc => Hid (TA (fun b => b < w.heap.size) w x p B v5 [] wc))
 case first =>
  have T0 := aA (DT.out B (.slice none 0 0) [] V K2.out NA ⟨rfl, .inl ⟨rfl, rfl⟩⟩ hlo)
  go_wp2_with fail
  go_meet
  case rel => exact T0
 case rest =>
 have T0 := hcut;clear K2 NA hcut;have K2 := aA T0.out.k;have NA := TQ.out _ _ _ _ T0.out;obtain ⟨m0, m1, m2, m3, m4, m5, m6, m7, m8, m9, m10⟩ := aD K2.out.n;obtain ⟨⟨y0, y1, y2⟩, -⟩ := cS NA;clear NA K2
 go_upto_if 13 with fail
 go_cut [5] (fun v5 wc => Hid (TA (fun b => b < w.heap.size) w x p B v5 (gE x) wc))
 case first =>
  cases kk with
  | true =>
    have hk := EK1.out rfl;have CF := aA (tD x.k (by omega) (by omega) _ (HL.out _ T0.out.k.b))
    go_wp2_with fail
    refine CF.out.mono ?_;rintro e w7 ⟨rfl, hb7⟩;have BU := (Below.refl w7.heap.size w7).alloc (Nat.le_refl _) (.cells #[.string (txB (Lib.itoa x.k))] 9);have T7 := aA ((T0.out.step hb7).step BU);have NU := aA (xB w7 (.string (txB (Lib.itoa x.k))) 9);have HBS := aA (show B + 1 <= (w7.alloc (.cells #[.string (txB (Lib.itoa x.k))] 9)).heap.size from aC T7.out.t);clear hb7 BU CF T0 m0 m1 m2 m3 m4 m5 m6 m7 m8 m9 m10 y0 y1 y2
    go_wp2_with (first
     | (at_builtin
        refine aZ rfl _ _ 118 rfl (base := B + 1) und hi hz0 hz1 hz2 rfl (by decide) u5 ([] : List ByteArray).length 1 1 ⟨w7.heap.size, 0, none⟩ (([] : List ByteArray).map Value.string) [.string (txB (Lib.itoa x.k))] rfl rfl T7.out.own rfl NU.out (fun u hu => by simp only [List.mem_singleton] at hu; subst hu; rfl) (by have := AL.out; have l0 : ([] : List ByteArray).length = 0 := rfl; unfold maxLen; omega) (by have := AL.out; have l0 : ([] : List ByteArray).length = 0 := rfl; omega) HBS.out ?_;intro v9 w9 ho hg hn;have T9 := aA (T7.out.push (fun _ h => h) ho hg);clear ho hg hn T7 NU HBS)
     | fail)
    go_wp2_with fail
    go_meet
    case rel =>
     have := T9;rw [show gE x = [] ++ [txB (Lib.itoa x.k)] from D1.out];exact this
  | false =>
    go_wp2_with fail
    go_meet
    case rel =>
     have := T0;rw [show gE x = [] from D1.out];exact this
 case rest =>
  have T1 := hcut;clear T0 hcut m0 m1 m2 m3 m4 m5 m6 m7 m8 m9 m10 y0 y1 y2 D1;have NA := TQ.out _ _ _ _ T1.out;obtain ⟨m0, m1, m2, m3, m4, m5, m6, m7, m8, m9, m10⟩ := aD T1.out.k.n;obtain ⟨⟨y0, y1, y2⟩, -⟩ := cS NA
  go_upto_if 21 with fail
  go_cut [5] (fun v5 wc => Hid (TA (fun b => b < w.heap.size) w x p B v5 (iS x) wc))
  case first =>
   cases ee with
   | true =>
     have hk := EK2.out rfl;obtain ⟨ok, sz⟩ := (aX x.e).1 hk;have CF := aA (nD x.e (fun b => b < w.heap.size) _ p.ea p.ec ok HN.out.e sz (HL.out _ T1.out.k.b) T1.out.k.r.e)
     go_wp2_with fail
     refine CF.out.mono ?_;rintro e w7 ⟨rfl, hb7⟩;have BU := (Below.refl w7.heap.size w7).alloc (Nat.le_refl _) (.cells #[.string (txB (bV x.e))] 9);have T7 := aA ((T1.out.step hb7).step BU);have NU := aA (xB w7 (.string (txB (bV x.e))) 9);have HBS := aA (show B + 1 <= (w7.alloc (.cells #[.string (txB (bV x.e))] 9)).heap.size from aC T7.out.t);clear hb7 BU CF T1 m0 m1 m2 m3 m4 m5 m6 m7 m8 m9 m10 y0 y1 y2
     go_wp2_with (first
      | (at_builtin
         refine aZ rfl _ _ 118 rfl (base := B + 1) und hi hz0 hz1 hz2 rfl (by decide) u5 (gE x).length 1 1 ⟨w7.heap.size, 0, none⟩ ((gE x).map Value.string) [.string (txB (bV x.e))] rfl rfl T7.out.own rfl NU.out (fun u hu => by simp only [List.mem_singleton] at hu; subst hu; rfl) (by have := AL.out; have l0 : ([] : List ByteArray).length = 0 := rfl; unfold maxLen; omega) (by have := AL.out; have l0 : ([] : List ByteArray).length = 0 := rfl; omega) HBS.out ?_;intro v9 w9 ho hg hn;have T9 := aA (T7.out.push (fun _ h => h) ho hg);clear ho hg hn T7 NU HBS)
      | fail)
     go_wp2_with fail
     go_meet
     case rel =>
      have := T9;rw [show iS x = gE x ++ [txB (bV x.e)] from D2.out];exact this
   | false =>
     go_wp2_with fail
     go_meet
     case rel =>
      have := T1;rw [show iS x = gE x from D2.out];exact this
  case rest =>
   have T2 := hcut;clear T1 NA hcut m0 m1 m2 m3 m4 m5 m6 m7 m8 m9 m10 y0 y1 y2 D2;have NA := TQ.out _ _ _ _ T2.out;obtain ⟨m0, m1, m2, m3, m4, m5, m6, m7, m8, m9, m10⟩ := aD T2.out.k.n;obtain ⟨⟨y0, y1, y2⟩, -⟩ := cS NA;cases bb with
   | true =>
     have hk := EK3.out rfl;obtain ⟨ok, sz⟩ := (aX x.g).1 hk;have CF := aA (nD x.g (fun b => b < w.heap.size) _ p.ga p.gc ok HN.out.g sz (HL.out _ T2.out.k.b) T2.out.k.r.g)
     go_wp2_with fail
     refine CF.out.mono ?_;rintro e w7 ⟨rfl, hb7⟩;have BU := (Below.refl w7.heap.size w7).alloc (Nat.le_refl _) (.cells #[.string (txB (bV x.g))] 9);have T7 := aA ((T2.out.step hb7).step BU);have NU := aA (xB w7 (.string (txB (bV x.g))) 9);have HBS := aA (show B + 1 <= (w7.alloc (.cells #[.string (txB (bV x.g))] 9)).heap.size from aC T7.out.t);clear hb7 BU CF T2 m0 m1 m2 m3 m4 m5 m6 m7 m8 m9 m10 y0 y1 y2
     go_wp2_with (first
      | (at_builtin
         refine aZ rfl _ _ 118 rfl (base := B + 1) und hi hz0 hz1 hz2 rfl (by decide) u5 (iS x).length 1 1 ⟨w7.heap.size, 0, none⟩ ((iS x).map Value.string) [.string (txB (bV x.g))] rfl rfl T7.out.own rfl NU.out (fun u hu => by simp only [List.mem_singleton] at hu; subst hu; rfl) (by have := AL.out; have l0 : ([] : List ByteArray).length = 0 := rfl; unfold maxLen; omega) (by have := AL.out; have l0 : ([] : List ByteArray).length = 0 := rfl; omega) HBS.out ?_;intro v9 w9 ho hg hn;have T9 := aA (T7.out.push (fun _ h => h) ho hg);clear ho hg hn T7 NU HBS)
      | fail)
     have D4 := aA (show jZ x = iS x ++ [txB (bV x.g)] from D3.out)
     go_wp2_with fail
     go_ret;refine ⟨T9.out.k.b, _, rfl, ?_⟩;rw [D4.out];exact dK T9.out.own (by have := T9.out.lo; omega)
   | false =>
     have D4 := aA (show jZ x = iS x from D3.out)
     go_wp2_with fail
     go_ret;refine ⟨T2.out.k.b, _, rfl, ?_⟩;rw [D4.out];exact dK T2.out.own (by have := T2.out.lo; omega)
end
end Go.Proofs.YtapcjnoaofmmiaaGreatDoor
