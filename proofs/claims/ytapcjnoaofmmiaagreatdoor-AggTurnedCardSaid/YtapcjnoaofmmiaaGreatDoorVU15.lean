/-
 No statement: what AggTurnedCard needs, of the texts OCheck, QEval, QBack, QText.
-/
import Derived.Test.YtapcjnoaofmmiaaGreatDoorVU14
namespace Go.Proofs.YtapcjnoaofmmiaaGreatDoor
section
open Go.RowKit
def xF (d : CD) : Int := if (aO d.op 0 0).isSome = false then 5 else if aI d.a = 0 then aI d.b else aI d.a
theorem GT (d : CD) (r : List CD) : dA (d :: r) = if xF d = 0 then dA r else xF d := by
 rw [dA];unfold xF
 by_cases hz : (aO d.op 0 0).isSome = false
 · rw [if_pos hz, if_pos hz, if_neg (show ¬ (5 : Int) = 0 by decide)]
 · rw [if_neg hz, if_neg hz]
   by_cases h : aI d.a = 0
   · rw [if_pos h, if_pos h]
   · rw [if_neg h, if_neg h, if_neg h]
abbrev cdX (d : CD) (a1 : Option Addr) (c1 : Nat) (a2 : Option Addr) (c2 : Nat) : Obj := .cells #[.string d.op, .string d.a.op, .string d.a.nm, .int .i64 d.a.n, .slice a1 d.a.ks.len c1, .string d.b.op, .string d.b.nm, .int .i64 d.b.n, .slice a2 d.b.ks.len c2] 98
set_option maxHeartbeats 4000000 in
theorem uB (d : CD) (G : Nat -> Prop) (w : World) (a1 : Option Addr) (c1 : Nat) (a2 : Option Addr) (c2 : Nat) (h1 : SzF d.a.f) (h2 : SzF d.b.f) (r1 : aG G w a1 d.a.ks) (r2 : aG G w a2 d.b.ks) :
 Calls Tryz.prog 46 #[cdV d a1 c1 a2 c2] w fun e w' => e = .returned (.int .i64 (xF d)) /\ Below w.heap.size w w' := by
 have B0 := (Below.refl w.heap.size w).alloc (Nat.le_refl _) (cdX d a1 c1 a2 c2);have N0 := heap_alloc_new w (cdX d a1 c1 a2 c2);have hs0 : (w.alloc (cdX d a1 c1 a2 c2)).heap.size = w.heap.size + 1 := World.size_alloc _ _;have R1 := aA (r1.kept B0);have R2 := aA (r2.kept B0);generalize hW : w.alloc (cdX d a1 c1 a2 c2) = W at *;have HW := aA hW;have HB := aA B0;have HN := aA N0;have CO := aA (uS d.op W);have CA := aA (fX d.a G W a1 c1 h1 R1.out);have CB := aA (fun V (hV : Below W.heap.size W V) => fX d.b G V a2 c2 h2 (R2.out.kept hV));obtain ⟨z, hz⟩ : ∃ z, (aO d.op 0 0).isSome = z := ⟨_, rfl⟩;obtain ⟨e1, he1⟩ : ∃ e, aI d.a = e := ⟨_, rfl⟩;obtain ⟨e2, he2⟩ : ∃ e, aI d.b = e := ⟨_, rfl⟩;obtain ⟨r, hr⟩ : ∃ r, xF d = r := ⟨_, rfl⟩;rw [hr];unfold xF at hr;rw [hz, he1, he2] at hr;have HR := aA hr;rw [hz] at CO;rw [he1] at CA;rw [he2] at CB;obtain ⟨p0, p1, p2, p3, p4, p5, p6, p7, p8⟩ := jY N0;clear hW B0 N0 h1 h2 r1 r2 hz he1 he2 hr
 go_enter Tryz.func46, Tryz.ntmps46
 go_upto_region 1 with fail
 rw [show w.alloc (.cells #[.string d.op, .string d.a.op, .string d.a.nm, .int .i64 d.a.n, .slice a1 d.a.ks.len c1, .string d.b.op, .string d.b.nm, .int .i64 d.b.n, .slice a2 d.b.ks.len c2] 98) = W from HW.out]
 go_wp2_with fail
 refine CO.out.mono ?_;rintro e w1 ⟨rfl, rfl⟩;cases z with
 | false =>
   have TR := aA (show (5 : Int) = r from HR.out)
   go_wp2_with fail
   go_ret;exact ⟨congrArg (fun z => Ending.returned (.int .i64 z)) TR.out, HB.out⟩
 | true =>
   have TR := aA (show (if e1 = 0 then e2 else e1) = r from HR.out)
   go_wp2_with fail
   refine CA.out.mono ?_;rintro e w2 ⟨rfl, hb⟩;have HB2 := aA (HB.out.trans (hb.mono HB.out.size));have N2 := (hb.block w.heap.size (by omega)).trans HN.out;have C2 := aA (CB.out w2 hb);clear hb CA CO CB p0 p1 p2 p3 p4 p5 p6 p7 p8;obtain ⟨p0, p1, p2, p3, p4, p5, p6, p7, p8⟩ := jY N2;clear N2
   by_cases he : e1 = 0
   · have TS := aA (show e2 = r by rw [<- TR.out, if_pos he])
     subst he
     go_wp2_with fail
     refine C2.out.mono ?_;rintro e w3 ⟨rfl, hb⟩;have HB3 := aA (HB2.out.trans (hb.mono HB2.out.size));clear hb
     go_wp2_with fail
     go_ret;exact ⟨congrArg (fun z => Ending.returned (.int .i64 z)) TS.out, HB3.out⟩
   · have TS := aA (show e1 = r by rw [<- TR.out, if_neg he])
     have q1 : ((e1 : Int) != 0) = true := by simpa using he
     go_wp2_with fail
     go_ret;exact ⟨congrArg (fun z => Ending.returned (.int .i64 z)) TS.out, HB2.out⟩
def jM (x : AG) : Int :=
 if kP x.fn.data.toList = true /\ ¬ (1 <= x.k /\ x.k <= 16) then 1 else
 if eP x.fn.data.toList = true /\ ¬ aI x.e = 0 then aI x.e else
 if bP x.fn.data.toList = true then aI x.g else 0
theorem IX (x : AG) : iD x = if cZ x.fn.data.toList = false then 5 else if jM x = 0 then (if 4 < x.wh.length then 4 else dA x.wh) else jM x := by
 unfold iD
 by_cases hf : cZ x.fn.data.toList = false
 · rw [if_pos hf, if_pos hf]
 rw [if_neg hf, if_neg hf];have hf' : cZ x.fn.data.toList = true := by simpa using hf
 unfold jM gR;obtain ⟨F, hF⟩ : ∃ F, x.fn.data.toList = F := ⟨_, rfl⟩;rw [hF] at hf' |-
 have eK : kP F = true ↔ F = eJ := by unfold kP; exact beq_iff_eq
 have eB : bP F = true ↔ F = aT := by unfold bP; exact beq_iff_eq
 have eE : eP F = true ↔ ¬ F = aN := by
  unfold eP;rw [hf', Bool.true_and];simp
 have d1 : ¬ eJ = aN := by decide
 have d2 : ¬ eJ = aT := by decide
 have d3 : ¬ aT = aN := by decide
 have d4 : ¬ aN = aT := by decide
 by_cases ht : F = eJ
 · have k1 := eK.2 ht
   have e1 : eP F = true := eE.2 (by rw [ht]; exact d1);have b1 : ¬ bP F = true := fun h => d2 (ht.symm.trans (eB.1 h))
   by_cases hk : x.k < 1 \/ 16 < x.k
   · rw [if_pos ⟨ht, hk⟩, if_pos (show kP F = true /\ ¬ (1 <= x.k /\ x.k <= 16) from ⟨k1, by omega⟩), if_neg (show ¬ (1 : Int) = 0 by decide)]
   · rw [if_neg (fun h => hk h.2), if_neg (show ¬ (kP F = true /\ ¬ (1 <= x.k /\ x.k <= 16)) from fun h => h.2 (by omega)), if_neg (show ¬ F = aN by rw [ht]; exact d1), if_neg (show ¬ F = aT by rw [ht]; exact d2), if_neg b1]
     by_cases he : aI x.e = 0
     · rw [if_pos he, if_neg (show ¬ (eP F = true /\ ¬ aI x.e = 0) from fun h => h.2 he)]
     · rw [if_neg he, if_pos (show eP F = true /\ ¬ aI x.e = 0 from ⟨e1, he⟩)]
 · rw [if_neg (fun h => ht h.1), if_neg (show ¬ (kP F = true /\ ¬ (1 <= x.k /\ x.k <= 16)) from fun h => ht (eK.1 h.1))]
   by_cases hc : F = aN
   · have e1 : ¬ eP F = true := fun h => eE.1 h hc
     have b1 : ¬ bP F = true := fun h => d4 (hc.symm.trans (eB.1 h))
     rw [if_pos hc, if_neg (show ¬ (eP F = true /\ ¬ aI x.e = 0) from fun h => e1 h.1), if_neg b1]
   · have e1 : eP F = true := eE.2 hc
     rw [if_neg hc]
     by_cases he : aI x.e = 0
     · rw [if_pos he, if_neg (show ¬ (eP F = true /\ ¬ aI x.e = 0) from fun h => h.2 he)]
       by_cases hb : F = aT
       · rw [if_pos hb, if_pos (eB.2 hb)]
       · rw [if_neg hb, if_neg (show ¬ bP F = true from fun h => hb (eB.1 h))]
     · rw [if_neg he, if_pos (show eP F = true /\ ¬ aI x.e = 0 from ⟨e1, he⟩)]
def qT : Bool -> Int -> Int
 | true, e2 => e2
 | false, _ => 0
def tC : Bool -> Bool -> Int -> Int -> Int
 | true, bb, e1, e2 => if e1 = 0 then qT bb e2 else e1
 | false, bb, _, e2 => qT bb e2
def KE : Bool -> Bool -> Bool -> Bool -> Int -> Int -> Int
 | true, false, _, _, _, _ => 1
 | true, true, ee, bb, e1, e2 => tC ee bb e1 e2
 | false, _, ee, bb, e1, e2 => tC ee bb e1 e2
theorem tA (bb : Bool) {e1 e2 : Int} (h : e1 = 0) : tC true bb e1 e2 = qT bb e2 := if_pos h
theorem tB (bb : Bool) {e1 e2 : Int} (h : ¬ e1 = 0) : tC true bb e1 e2 = e1 := if_neg h
theorem IY (x : AG) : jM x = KE (kP x.fn.data.toList) (decide (1 <= x.k) && decide (x.k <= 16)) (eP x.fn.data.toList) (bP x.fn.data.toList) (aI x.e) (aI x.g) := by
 unfold jM;have hz : (decide (1 <= x.k) && decide (x.k <= 16)) = true ↔ 1 <= x.k /\ x.k <= 16 := by rw [Bool.and_eq_true, decide_eq_true_eq, decide_eq_true_eq]
 obtain ⟨zk, hzk⟩ : ∃ z, (decide (1 <= x.k) && decide (x.k <= 16)) = z := ⟨_, rfl⟩;rw [hzk] at hz |-
 have tail : (if eP x.fn.data.toList = true /\ ¬ aI x.e = 0 then aI x.e else if bP x.fn.data.toList = true then aI x.g else 0) = tC (eP x.fn.data.toList) (bP x.fn.data.toList) (aI x.e) (aI x.g) := by
  have e3 : (if bP x.fn.data.toList = true then aI x.g else 0) = qT (bP x.fn.data.toList) (aI x.g) := by cases bP x.fn.data.toList <;> rfl
  rw [e3];cases eP x.fn.data.toList with
  | false => rw [if_neg (fun h => by cases h.1)]; rfl
  | true =>
    by_cases h : aI x.e = 0
    · rw [if_neg (fun g => g.2 h), tA _ h]
    · rw [if_pos ⟨rfl, h⟩, tB _ h]
 rw [tail];cases kP x.fn.data.toList with
 | false => rw [if_neg (fun h => by cases h.1)]; cases zk <;> rfl
 | true =>
   cases zk with
   | false => rw [if_pos ⟨rfl, fun h => by have := hz.2 h; cases this⟩]; rfl
   | true => rw [if_neg (fun h => h.2 (hz.1 rfl))]; rfl
set_option maxHeartbeats 8000000 in
theorem uC (x : AG) (p : PA) (G : Nat -> Prop) (w : World) (h1 : SzF x.e.f) (h2 : SzF x.g.f) (r1 : aG G w p.ea x.e.ks) (r2 : aG G w p.ga x.g.ks) :
 Calls Tryz.prog 45 #[agV x p, ptV x.fn.data.toList] w fun e w' => e = .returned (.int .i64 (jM x)) /\ Below w.heap.size w w' := by
 unfold ptV;have B0 := (Below.refl w.heap.size w).alloc (Nat.le_refl _) (agP x p);have N0 := heap_alloc_new w (agP x p);have hs0 : (w.alloc (agP x p)).heap.size = w.heap.size + 1 := World.size_alloc _ _;have R1 := r1.kept B0;have R2 := r2.kept B0;generalize hW0 : w.alloc (agP x p) = W0 at *;obtain ⟨kk, hk⟩ : ∃ b, kP x.fn.data.toList = b := ⟨_, rfl⟩;obtain ⟨ee, he⟩ : ∃ b, eP x.fn.data.toList = b := ⟨_, rfl⟩;obtain ⟨bb, hb⟩ : ∃ b, bP x.fn.data.toList = b := ⟨_, rfl⟩;obtain ⟨r, hr⟩ : ∃ r, jM x = r := ⟨_, rfl⟩;rw [hr];rw [IY, hk, he, hb] at hr;rw [hk, he, hb];have B1 := (Below.refl W0.heap.size W0).alloc (Nat.le_refl _) (ptO kk ee bb);have N1 := heap_alloc_new W0 (ptO kk ee bb);have hs1 : (W0.alloc (ptO kk ee bb)).heap.size = W0.heap.size + 1 := World.size_alloc _ _;have NA := (B1.block w.heap.size (by omega)).trans N0;have BB := B0.trans (B1.mono (by omega));have R3 := aA (R1.kept B1);have R4 := aA (R2.kept B1);generalize hW : W0.alloc (ptO kk ee bb) = W at *;rw [hs0] at N1;have HW0 := aA hW0;have HW := aA hW;have HB := aA BB;have HA := aA NA;have HN := aA N1;have MK := aA (zS x.k W);obtain ⟨zk, hzk⟩ : ∃ z, (decide (1 <= x.k) && decide (x.k <= 16)) = z := ⟨_, rfl⟩;rw [hzk] at MK hr;have CA := aA (fX x.e G W p.ea p.ec h1 R3.out);have CB := aA (fun V (hV : Below W.heap.size W V) => fX x.g G V p.ga p.gc h2 (R4.out.kept hV));have C0 := aA (fX x.g G W p.ga p.gc h2 R4.out);obtain ⟨e1, he1⟩ : ∃ e, aI x.e = e := ⟨_, rfl⟩;obtain ⟨e2, he2⟩ : ∃ e, aI x.g = e := ⟨_, rfl⟩;rw [he1, he2] at hr
 rw [he1] at CA;rw [he2] at CB C0;have HR := aA hr;have HZK := aA hzk;obtain ⟨m0, m1, m2, m3, m4, m5, m6, m7, m8, m9, m10⟩ := aD NA;obtain ⟨⟨y0, y1, y2⟩, -⟩ := cL N1;clear hW0 hW B0 B1 N0 N1 NA BB R1 R2 h1 h2 r1 r2 he1 he2 hr hk he hb hzk hs0 hs1
 go_enter Tryz.func45, Tryz.ntmps45
 go_upto_region 1 with fail
 rw [show w.alloc (.cells #[.string x.fn, .int .i64 x.k, .string x.e.op, .string x.e.nm, .int .i64 x.e.n, .slice p.ea x.e.ks.len p.ec, .string x.g.op, .string x.g.nm, .int .i64 x.g.n, .slice p.ga x.g.ks.len p.gc, .slice p.wa x.wh.length p.wc] 28) = W0 from HW0.out, HW.out];cases kk with
 | true =>
   go_wp2_with fail
   refine MK.out.mono ?_;rintro e v ⟨rfl, rfl⟩;cases zk with
   | false =>
     have TS := aA (show (1 : Int) = r from HR.out)
     go_wp2_with fail
     go_ret;exact ⟨congrArg (fun z => Ending.returned (.int .i64 z)) TS.out, HB.out⟩
   | true =>
     have TR := aA (show tC ee bb e1 e2 = r from HR.out);cases ee with
     | true =>
       go_wp2_with fail
       refine CA.out.mono ?_;rintro e w2 ⟨rfl, hb2⟩;have HB2 := aA (HB.out.trans (hb2.mono HB.out.size));have N2 := (hb2.block _ (aC HN.out)).trans HN.out;have A2 := (hb2.block _ (aC HA.out)).trans HA.out;have C2 := aA (CB.out w2 hb2);clear hb2 CA CB C0 MK m0 m1 m2 m3 m4 m5 m6 m7 m8 m9 m10 y0 y1 y2;obtain ⟨m0, m1, m2, m3, m4, m5, m6, m7, m8, m9, m10⟩ := aD A2;obtain ⟨⟨y0, y1, y2⟩, -⟩ := cL N2;clear N2 A2
       by_cases hz1 : e1 = 0
       · have TS := aA (show qT bb e2 = r by rw [<- TR.out, tA _ hz1])
         subst hz1;cases bb with
         | true =>
           have TU := aA (show e2 = r from TS.out)
           go_wp2_with fail
           refine C2.out.mono ?_;rintro e w3 ⟨rfl, hb3⟩;have HB3 := aA (HB2.out.trans (hb3.mono HB2.out.size));clear hb3
           go_wp2_with fail
           go_ret;exact ⟨congrArg (fun z => Ending.returned (.int .i64 z)) TU.out, HB3.out⟩
         | false =>
           have TU := aA (show (0 : Int) = r from TS.out)
           go_wp2_with fail
           go_ret;exact ⟨congrArg (fun z => Ending.returned (.int .i64 z)) TU.out, HB2.out⟩
       · have TS := aA (show e1 = r by rw [<- TR.out, tB _ hz1])
         have q1 : ((e1 : Int) != 0) = true := by simpa using hz1
         go_wp2_with fail
         go_ret;exact ⟨congrArg (fun z => Ending.returned (.int .i64 z)) TS.out, HB2.out⟩
     | false =>
       have TS := aA (show qT bb e2 = r from TR.out);cases bb with
       | true =>
         have TU := aA (show e2 = r from TS.out)
         go_wp2_with fail
         refine C0.out.mono ?_;rintro e w3 ⟨rfl, hb3⟩;have HB3 := aA (HB.out.trans (hb3.mono HB.out.size));clear hb3
         go_wp2_with fail
         go_ret;exact ⟨congrArg (fun z => Ending.returned (.int .i64 z)) TU.out, HB3.out⟩
       | false =>
         have TU := aA (show (0 : Int) = r from TS.out)
         go_wp2_with fail
         go_ret;exact ⟨congrArg (fun z => Ending.returned (.int .i64 z)) TU.out, HB.out⟩
 | false =>
   have TR := aA (show tC ee bb e1 e2 = r from HR.out);cases ee with
   | true =>
     go_wp2_with fail
     refine CA.out.mono ?_;rintro e w2 ⟨rfl, hb2⟩;have HB2 := aA (HB.out.trans (hb2.mono HB.out.size));have N2 := (hb2.block _ (aC HN.out)).trans HN.out;have A2 := (hb2.block _ (aC HA.out)).trans HA.out;have C2 := aA (CB.out w2 hb2);clear hb2 CA CB C0 MK m0 m1 m2 m3 m4 m5 m6 m7 m8 m9 m10 y0 y1 y2;obtain ⟨m0, m1, m2, m3, m4, m5, m6, m7, m8, m9, m10⟩ := aD A2;obtain ⟨⟨y0, y1, y2⟩, -⟩ := cL N2;clear N2 A2
     by_cases hz1 : e1 = 0
     · have TS := aA (show qT bb e2 = r by rw [<- TR.out, tA _ hz1])
       subst hz1;cases bb with
       | true =>
         have TU := aA (show e2 = r from TS.out)
         go_wp2_with fail
         refine C2.out.mono ?_;rintro e w3 ⟨rfl, hb3⟩;have HB3 := aA (HB2.out.trans (hb3.mono HB2.out.size));clear hb3
         go_wp2_with fail
         go_ret;exact ⟨congrArg (fun z => Ending.returned (.int .i64 z)) TU.out, HB3.out⟩
       | false =>
         have TU := aA (show (0 : Int) = r from TS.out)
         go_wp2_with fail
         go_ret;exact ⟨congrArg (fun z => Ending.returned (.int .i64 z)) TU.out, HB2.out⟩
     · have TS := aA (show e1 = r by rw [<- TR.out, tB _ hz1])
       have q1 : ((e1 : Int) != 0) = true := by simpa using hz1
       go_wp2_with fail
       go_ret;exact ⟨congrArg (fun z => Ending.returned (.int .i64 z)) TS.out, HB2.out⟩
   | false =>
     have TS := aA (show qT bb e2 = r from TR.out);cases bb with
     | true =>
       have TU := aA (show e2 = r from TS.out)
       go_wp2_with fail
       refine C0.out.mono ?_;rintro e w3 ⟨rfl, hb3⟩;have HB3 := aA (HB.out.trans (hb3.mono HB.out.size));clear hb3
       go_wp2_with fail
       go_ret;exact ⟨congrArg (fun z => Ending.returned (.int .i64 z)) TU.out, HB3.out⟩
     | false =>
       have TU := aA (show (0 : Int) = r from TS.out)
       go_wp2_with fail
       go_ret;exact ⟨congrArg (fun z => Ending.returned (.int .i64 z)) TU.out, HB.out⟩
set_option maxHeartbeats 16000000 in
set_option maxRecDepth 100000 in
theorem dJ {G : Nat -> Prop} (x : AG) (p : PA) (w : World) (hS : SzG x) (hwl : x.wh.length <= 9223372036854775807) (hr : aJ G w x p) : Calls Tryz.prog 15 #[agV x p] w fun e w' => e = .returned (.int .i64 (iD x)) /\ Below w.heap.size w w' := by
 rw [IX];have K0 := lD hr;generalize hW : w.alloc (agP x p) = W at K0;have HW := aA hW;have HK := aA K0;have HS := aA hS;have CP := aA (iH x.fn W);obtain ⟨F, hF⟩ : ∃ F, x.fn.data.toList = F := ⟨_, rfl⟩;have HF := aA hF;rw [hF] at CP |-
 obtain ⟨ff, hf⟩ : ∃ b, cZ F = b := ⟨_, rfl⟩;rw [hf] at CP |-
 obtain ⟨ea, hea⟩ : ∃ e, jM x = e := ⟨_, rfl⟩;rw [hea];have HEA := aA hea;obtain ⟨r, hR⟩ : ∃ r, (if ff = false then (5 : Int) else if ea = 0 then (if 4 < x.wh.length then 4 else dA x.wh) else ea) = r := ⟨_, rfl⟩;rw [hR];have HR := aA hR;clear hW K0 hr hS hf hea hR hF;obtain ⟨m0, m1, m2, m3, m4, m5, m6, m7, m8, m9, m10⟩ := aD HK.out.n
 go_enter Tryz.func15, Tryz.ntmps15
 go_upto_region 1 with fail
 rw [show w.alloc (.cells #[.string x.fn, .int .i64 x.k, .string x.e.op, .string x.e.nm, .int .i64 x.e.n, .slice p.ea x.e.ks.len p.ec, .string x.g.op, .string x.g.nm, .int .i64 x.g.n, .slice p.ga x.g.ks.len p.gc, .slice p.wa x.wh.length p.wc] 28) = W from HW.out]
 go_wp2_with fail
 refine CP.out.mono ?_;rintro e w1 ⟨rfl, hb1⟩;have K1 := HK.out.step hb1;have BA := (Below.refl w1.heap.size w1).alloc (Nat.le_refl _) (ptO (kP F) (eP F) (bP F));have NA := heap_alloc_new w1 (ptO (kP F) (eP F) (bP F));have K2 := aA (K1.step BA);clear hb1 K1 BA CP HK m0 m1 m2 m3 m4 m5 m6 m7 m8 m9 m10
 go_upto_region 2 with fail
 generalize w1.alloc (ptO (kP F) (eP F) (bP F)) = V at *;generalize w1.heap.size = B at *;obtain ⟨m0, m1, m2, m3, m4, m5, m6, m7, m8, m9, m10⟩ := aD K2.out.n;obtain ⟨⟨y0, y1, y2⟩, -⟩ := cL NA;clear NA;cases ff with
 | false =>
   have TS := aA (show (5 : Int) = r from HR.out)
   go_wp2_with fail
   go_ret;exact ⟨congrArg (fun z => Ending.returned (.int .i64 z)) TS.out, K2.out.b⟩
 | true =>
   have TR := aA (show (if ea = 0 then (if 4 < x.wh.length then (4 : Int) else dA x.wh) else ea) = r from HR.out)
   have CA := aA (show Calls Tryz.prog 45 #[agV x p, .agg #[.bool (kP F), .bool (eP F), .bool (bP F)]] V fun e w' => e = .returned (.int .i64 ea) /\ Below V.heap.size V w' by
    have := uC x p G V HS.out.e HS.out.g K2.out.r.e K2.out.r.g;rw [HEA.out, HF.out] at this;exact this)
   clear HR
   go_wp2_with fail
   refine CA.out.mono ?_;rintro e w2 ⟨rfl, hb2⟩;have K3 := aA (K2.out.step hb2);clear hb2 CA K2 m0 m1 m2 m3 m4 m5 m6 m7 m8 m9 m10 y0 y1 y2;obtain ⟨m0, m1, m2, m3, m4, m5, m6, m7, m8, m9, m10⟩ := aD K3.out.n
   by_cases hea : ea = 0
   · have TB := aA (show (if 4 < x.wh.length then (4 : Int) else dA x.wh) = r by rw [<- TR.out, if_pos hea])
     subst hea
     by_cases h4 : 4 < x.wh.length
     · have TS := aA (show (4 : Int) = r by rw [<- TB.out, if_pos h4])
       have a4 : (4 : Int) < (x.wh.length : Int) := by omega
       go_wp2_with fail
       go_ret;exact ⟨congrArg (fun z => Ending.returned (.int .i64 z)) TS.out, K3.out.b⟩
     · have T0 := aA (show dA (x.wh.drop 0) = r by rw [List.drop_zero, <- TB.out, if_neg h4])
       have a4 : ¬ (4 : Int) < (x.wh.length : Int) := by omega
       have a5 : decide (4 < x.wh.length) = false := decide_eq_false h4;clear TB TR
       go_wp2_with fail
       clear m0 m1 m2 m3 m4 m5 m6 m7 m8 m9 m10
       go_loopw [7, 8, 30] (fun x7 x8 i wr => ∃ (k : Nat) (u v : Value), x7 = u /\ x8 = v /\ i = .int .i64 k /\ k <= x.wh.length /\ Hid (dA (x.wh.drop k) = r) /\ Hid (KP9 G w x p wr)) (fun _ _ i _ => x.wh.length - (intOf i).toNat)
       case atStart => exact ⟨0, _, _, rfl, rfl, rfl, Nat.zero_le _, T0, K3⟩
       case round =>
        obtain ⟨k, u, v, rfl, rfl, rfl, hk, HC, HK⟩ := hrel;clear T0 K3;obtain ⟨m0, m1, m2, m3, m4, m5, m6, m7, m8, m9, m10⟩ := aD HK.out.n
        by_cases hlt : k < x.wh.length
        · obtain ⟨d, hd⟩ : ∃ d, x.wh[k]? = some d := ⟨_, List.getElem?_eq_getElem hlt⟩
          have hne : ¬ x.wh = [] := fun e => by rw [e] at hlt; simp at hlt
          obtain ⟨b, off, hwa', -, -, hcc⟩ := HK.out.r.c.resolve_left hne;obtain ⟨a1, c1, a2, c2, ⟨p0, p1, p2, p3, p4, p5, p6, p7, p8⟩, r1, r2⟩ := hcc k d hd
          have hdr : x.wh.drop k = d :: x.wh.drop (k + 1) := by
           rw [List.drop_eq_getElem_cons hlt];have := List.getElem?_eq_getElem hlt;rw [this] at hd;rw [Option.some.inj hd]
          have hsz := HS.out.c d (List.mem_of_getElem? hd);have HD := aA (show (if xF d = 0 then dA (x.wh.drop (k + 1)) else xF d) = r by rw [<- HC.out, hdr, GT]);have BD := (Below.refl wr.heap.size wr).alloc (Nat.le_refl _) (cdX d a1 c1 a2 c2);have ND := heap_alloc_new wr (cdX d a1 c1 a2 c2);have K4 := aA (HK.out.step BD);have CC := aA (uB d G (wr.alloc (cdX d a1 c1 a2 c2)) a1 c1 a2 c2 hsz.1 hsz.2 (r1.kept BD) (r2.kept BD));obtain ⟨e1, he1⟩ : ∃ e, xF d = e := ⟨_, rfl⟩;rw [he1] at CC HD;rw [hwa'] at m10 |-
          have b1 : (k : Int) < (x.wh.length : Int) := by omega
          have b2 : (0 : Int) <= (k : Int) := by omega
          have b3 : ((k : Int)).toNat = k := by omega
          clear hne hcc hdr hsz hd r1 r2 BD he1 hwa' HC HK
          go_upto_region 12 with fail
          rw [show wr.alloc (.cells #[.string d.op, .string d.a.op, .string d.a.nm, .int .i64 d.a.n, .slice a1 d.a.ks.len c1, .string d.b.op, .string d.b.nm, .int .i64 d.b.n, .slice a2 d.b.ks.len c2] 98) = wr.alloc (cdX d a1 c1 a2 c2) from rfl];generalize wr.alloc (cdX d a1 c1 a2 c2) = V1 at *;clear p0 p1 p2 p3 p4 p5 p6 p7 p8;obtain ⟨p0, p1, p2, p3, p4, p5, p6, p7, p8⟩ := jY ND;clear ND
          go_wp2_with fail
          refine CC.out.mono ?_;rintro e w5 ⟨rfl, hb5⟩;have K5 := aA (K4.out.step hb5);clear hb5 CC K4 p0 p1 p2 p3 p4 p5 p6 p7 p8 m0 m1 m2 m3 m4 m5 m6 m7 m8 m9 m10
          by_cases he : e1 = 0
          · have HC2 := aA (show dA (x.wh.drop (k + 1)) = r by rw [<- HD.out, if_pos he])
            subst he
            go_wp2_with fail
            go_roundw
            case rel => exact ⟨k + 1, _, _, rfl, rfl, by simp, by omega, HC2, K5⟩
            case measure => simp [intOf]; omega
          · have TS := aA (show e1 = r by rw [<- HD.out, if_neg he])
            have q1 : ((e1 : Int) != 0) = true := by simpa using he
            go_wp2_with fail
            go_ret;exact ⟨congrArg (fun z => Ending.returned (.int .i64 z)) TS.out, K5.out.b⟩
        · have TS := aA (show (0 : Int) = r by rw [<- HC.out, List.drop_of_length_le (by omega)]; rfl)
          have b1 : ¬ (k : Int) < (x.wh.length : Int) := by omega
          have b2 : decide (k < x.wh.length) = false := decide_eq_false hlt
          go_wp2_with fail
          go_ret;exact ⟨congrArg (fun z => Ending.returned (.int .i64 z)) TS.out, HK.out.b⟩
   · have TS := aA (show ea = r by rw [<- TR.out, if_neg hea])
     have q1 : ((ea : Int) != 0) = true := by simpa using hea
     go_wp2_with fail
     go_ret;exact ⟨congrArg (fun z => Ending.returned (.int .i64 z)) TS.out, K3.out.b⟩
def cX (g : ByteArray -> Option Int) : List CD -> Bool
 | [] => true
 | c :: r => (match evT g c.a, evT g c.b with | some x, some y => (aO c.op x y).getD false | _, _ => false) && cX g r
inductive EvR | no | num (n : Int) | list (l : List Int)
structure ES where
 n : Int
 some : Bool
 best : Int
 by' : Int
 sum : Int
 top : List Int
def es0 : ES := ⟨0, false, 0, 0, 0, []⟩
def lX (fn : List UInt8) (g : ByteArray -> Option Int) (y : TN) (s : ES) (e : Int) : ES :=
 if fn = i8 then { s with best := if s.some = false \/ e < s.best then e else s.best, some := true }
 else if fn = kK then { s with best := if s.some = false \/ s.best < e then e else s.best, some := true }
 else if fn = i7 then { s with sum := dB (s.sum + e), some := true }
 else if fn = eJ then { s with top := eU lsL s.top e, some := true }
 else match evT g y with
  | none => s
  | some b => if s.some = false \/ b < s.by' then { s with best := e, by' := b, some := true } else { s with some := true }
theorem yP (g : ByteArray -> Option Int) (y : TN) (s : ES) (e : Int) : lX aT g y s e = match evT g y with
 | none => s
 | some b => if s.some = false \/ b < s.by' then { s with best := e, by' := b, some := true } else { s with some := true } := by
 unfold lX;rw [if_neg (show ¬ aT = i8 by decide), if_neg (show ¬ aT = kK by decide), if_neg (show ¬ aT = i7 by decide), if_neg (show ¬ aT = eJ by decide)]
def nU (a : AG) (s : ES) (g : ByteArray -> Option Int) : ES :=
 if cX g a.wh = false then s else
 if a.fn.data.toList = aN then { s with n := s.n + 1 } else
 match evT g a.e with
  | none => { s with n := s.n + 1 }
  | some e => lX a.fn.data.toList g a.g { s with n := s.n + 1 } e
def vK (a : AG) (s : ES) : EvR :=
 if a.fn.data.toList = aN then .num s.n else
 if a.fn.data.toList = i7 then .num s.sum else
 if a.fn.data.toList = eJ then .list (s.top.drop (s.top.length - a.k.toNat)) else
 if s.some = false then .no else .num s.best
def evG (a : AG) (gs : List (ByteArray -> Option Int)) : EvR := vK a (gs.foldl (nU a) es0)
def eD (a : AG) (gs : List (ByteArray -> Option Int)) : List (ByteArray -> Option Int) := gs.filter (fun g => cX g a.wh)
def qZ (a : AG) (gs : List (ByteArray -> Option Int)) : List Int := (eD a gs).filterMap (fun g => evT g a.e)
def nY (a : AG) (gs : List (ByteArray -> Option Int)) : List (Int × Int) := (eD a gs).filterMap (fun g => match evT g a.e, evT g a.g with | some e, some b => some (e, b) | _, _ => none)
def stB {K : Type} (less : K -> K -> Bool) (o : Option K) (e : K) : Option K := match o with | none => some e | some b => if less e b = true then some e else some b
def aR {K : Type} (less : K -> K -> Bool) (l : List K) : Option K := l.foldl (stB less) none
theorem nT (a : AG) (g : ByteArray -> Option Int) (gs : List (ByteArray -> Option Int)) : eD a (g :: gs) = if cX g a.wh = true then g :: eD a gs else eD a gs := by
 unfold eD; rw [List.filter_cons]
theorem Gz (a : AG) : ∀ (gs : List (ByteArray -> Option Int)) (s : ES), (gs.foldl (nU a) s).n = s.n + ((eD a gs).length : Int)
 | [], s => by simp [eD]
 | g :: gs, s => by
   rw [List.foldl_cons, Gz a gs, nT];unfold nU;cases h : cX g a.wh with
   | false => rw [if_pos rfl, if_neg (by decide)]
   | true =>
     rw [if_neg (by decide), if_pos rfl, List.length_cons]
     have : ∀ (t : ES), (if a.fn.data.toList = aN then ({ t with n := t.n + 1 } : ES) else match evT g a.e with
      | none => { t with n := t.n + 1 }
      | some e => lX a.fn.data.toList g a.g { t with n := t.n + 1 } e).n = t.n + 1 := fun t => by
      split
      · rfl
      · split
        · rfl
        · unfold lX
          split
          · rfl
          split
          · rfl
          split
          · rfl
          split
          · rfl
          split
          · rfl
          split <;> rfl
     rw [this s];omega
theorem l6 {α : Type} (a : AG) (hc : ¬ a.fn.data.toList = aN) (f : ES -> α) (h : α -> Int -> α) (hn : ∀ (s : ES) (m : Int), f { s with n := m } = f s)
 (hs : ∀ (g : ByteArray -> Option Int) (s : ES) (e : Int), f (lX a.fn.data.toList g a.g s e) = h (f s) e) : ∀ (gs : List (ByteArray -> Option Int)) (s : ES), f (gs.foldl (nU a) s) = (qZ a gs).foldl h (f s)
 | [], s => rfl
 | g :: gs, s => by
   rw [List.foldl_cons, l6 a hc f h hn hs gs];unfold qZ;rw [nT];unfold nU;cases ht : cX g a.wh with
   | false => rw [if_pos rfl, if_neg (by decide)]
   | true =>
     rw [if_neg (by decide), if_pos rfl, if_neg hc];cases he : evT g a.e with
     | none => simp only [List.filterMap_cons, he]; rw [hn]
     | some e => simp only [List.filterMap_cons, he, List.foldl_cons]; rw [hs, hn]
theorem sW {α : Type} (a : AG) (hc : ¬ a.fn.data.toList = aN) (f : ES -> α) (h : α -> Int × Int -> α) (hn : ∀ (s : ES) (m : Int), f { s with n := m } = f s)
 (hs : ∀ (g : ByteArray -> Option Int) (s : ES) (e : Int), f (lX a.fn.data.toList g a.g s e) = (match evT g a.g with | some b => h (f s) (e, b) | none => f s)) : ∀ (gs : List (ByteArray -> Option Int)) (s : ES), f (gs.foldl (nU a) s) = (nY a gs).foldl h (f s)
 | [], s => rfl
 | g :: gs, s => by
   rw [List.foldl_cons, sW a hc f h hn hs gs];unfold nY;rw [nT];unfold nU;cases ht : cX g a.wh with
   | false => rw [if_pos rfl, if_neg (by decide)]
   | true =>
     rw [if_neg (by decide), if_pos rfl, if_neg hc];cases he : evT g a.e with
     | none => simp only [List.filterMap_cons, he]; rw [hn]
     | some e =>
       simp only [List.filterMap_cons, he];rw [hs, hn];cases evT g a.g <;> rfl
def zQ (s : ES) : Option Int := if s.some = false then none else some s.best
def Ip (s : ES) : Option (Int × Int) := if s.some = false then none else some (s.best, s.by')
def lsG (a b : Int) : Bool := decide (b < a)
def lsP (a b : Int × Int) : Bool := decide (a.2 < b.2)
theorem nA {a : AG} (h : a.fn.data.toList = aN) (gs : List (ByteArray -> Option Int)) : evG a gs = .num ((eD a gs).length : Int) := by
 unfold evG vK;rw [if_pos h, Gz];simp [es0]
theorem Cz {a : AG} (h : a.fn.data.toList = i7) (gs : List (ByteArray -> Option Int)) : evG a gs = .num ((qZ a gs).foldl (fun s e => dB (s + e)) 0) := by
 have hc : ¬ a.fn.data.toList = aN := by rw [h]; decide
 unfold evG vK;rw [if_neg hc, if_pos h, l6 a hc (fun s => s.sum) (fun s e => dB (s + e)) (fun _ _ => rfl) (fun g s e => by unfold lX; rw [h]; rfl)];rfl
theorem rE {a : AG} (h : a.fn.data.toList = eJ) (gs : List (ByteArray -> Option Int)) : evG a gs = .list (((qZ a gs).foldl (eU lsL) []).drop (((qZ a gs).foldl (eU lsL) []).length - a.k.toNat)) := by
 have hc : ¬ a.fn.data.toList = aN := by rw [h]; decide
 have hs : ¬ a.fn.data.toList = i7 := by rw [h]; decide
 unfold evG vK;rw [if_neg hc, if_neg hs, if_pos h, l6 a hc (fun s => s.top) (eU lsL) (fun _ _ => rfl) (fun g s e => by unfold lX; rw [h]; rfl)];rfl
theorem xD {a : AG} (hc : ¬ a.fn.data.toList = aN) (hs : ¬ a.fn.data.toList = i7) (ht : ¬ a.fn.data.toList = eJ) (s : ES) : vK a s = match zQ s with | none => .no | some n => .num n := by
 unfold vK zQ;rw [if_neg hc, if_neg hs, if_neg ht];cases s.some <;> rfl
theorem rF {a : AG} (h : a.fn.data.toList = i8) (gs : List (ByteArray -> Option Int)) : evG a gs = match aR lsL (qZ a gs) with | none => .no | some n => .num n := by
 have hc : ¬ a.fn.data.toList = aN := by rw [h]; decide
 unfold evG aR
 rw [xD hc (by rw [h]; decide) (by rw [h]; decide), l6 a hc zQ (stB lsL) (fun _ _ => rfl) (fun g s e => by
  unfold lX zQ stB;rw [if_pos h];cases hx : s.some with
  | false => simp
  | true =>
    by_cases hl : e < s.best
    · simp [hl, lsL]
    · simp [hl, lsL])]
 rfl
theorem rG {a : AG} (h : a.fn.data.toList = kK) (gs : List (ByteArray -> Option Int)) : evG a gs = match aR lsG (qZ a gs) with | none => .no | some n => .num n := by
 have hc : ¬ a.fn.data.toList = aN := by rw [h]; decide
 have hm : ¬ a.fn.data.toList = i8 := by rw [h]; decide
 unfold evG aR
 rw [xD hc (by rw [h]; decide) (by rw [h]; decide), l6 a hc zQ (stB lsG) (fun _ _ => rfl) (fun g s e => by
  unfold lX zQ stB;rw [if_neg hm, if_pos h];cases hx : s.some with
  | false => simp
  | true =>
    by_cases hl : s.best < e
    · simp [hl, lsG]
    · simp [hl, lsG])]
 rfl
theorem vL {a : AG} (h : a.fn.data.toList = aT) (gs : List (ByteArray -> Option Int)) : evG a gs = match aR lsP (nY a gs) with | none => .no | some n => .num n.1 := by
 have hc : ¬ a.fn.data.toList = aN := by rw [h]; decide
 have e : ∀ s : ES, zQ s = (Ip s).map (fun n => n.1) := fun s => by unfold zQ Ip; cases s.some <;> rfl
 unfold evG aR
 rw [xD hc (by rw [h]; decide) (by rw [h]; decide), e, sW a hc Ip (stB lsP) (fun _ _ => rfl) (fun g s e => by
  rw [h, yP];unfold Ip stB;cases evT g a.g with
  | none => rfl
  | some b =>
    simp only;cases hx : s.some with
    | false => simp
    | true =>
      by_cases hl : b < s.by'
      · simp [hl, lsP]
      · simp [hl, lsP])]
 show (match Option.map (fun n : Int × Int => n.1) (List.foldl (stB lsP) none (nY a gs)) with | none => EvR.no | some n => .num n) = _;cases List.foldl (stB lsP) none (nY a gs) <;> rfl
theorem qC {less : Int -> Int -> Bool} (o : eW less) : ∀ (l : List Int) (b : Int), ∃ v, l.foldl (stB less) (some b) = some v /\ v ∈ b :: l /\ ∀ x ∈ b :: l, less x v = false
 | [], b => ⟨b, rfl, by simp, fun x hx => by rw [List.mem_singleton.1 hx]; exact o.irrefl b⟩
 | e :: l, b => by
   rw [List.foldl_cons];cases hl : less e b with
   | true =>
     obtain ⟨v, h1, h2, h3⟩ := qC o l e;refine ⟨v, by simpa [stB, hl] using h1, List.mem_cons_of_mem _ h2, fun x hx => ?_⟩
     rcases List.mem_cons.1 hx with rfl | hx
     · cases hv : less x v with
       | false => rfl
       | true =>
         have := o.trans _ _ _ hl hv;rw [h3 e (List.mem_cons_self ..)] at this;cases this
     · exact h3 x hx
   | false =>
     obtain ⟨v, h1, h2, h3⟩ := qC o l b;refine ⟨v, by simpa [stB, hl] using h1, ?_, fun x hx => ?_⟩
     · rcases List.mem_cons.1 h2 with h | h
       · rw [h]; exact List.mem_cons_self ..
       · exact List.mem_cons_of_mem _ (List.mem_cons_of_mem _ h)
     · rcases List.mem_cons.1 hx with rfl | hx
       · exact h3 x (List.mem_cons_self ..)
       · rcases List.mem_cons.1 hx with rfl | hx
         · cases hv : less x v with
           | false => rfl
           | true =>
             have hvb := h3 b (List.mem_cons_self ..)
             by_cases ev : v = b
             · rw [ev, hl] at hv; cases hv
             · rcases List.mem_cons.1 h2 with h | h
               · exact absurd h ev
               · have hbv : less v b = true := by
                  cases hx : less v b with
                  | true => rfl
                  | false => exact absurd (o.total _ _ hx hvb) ev
                 have := o.trans _ _ _ hv hbv;rw [hl] at this; cases this
         · exact h3 x (List.mem_cons_of_mem _ hx)
theorem Ar {less : Int -> Int -> Bool} (o : eW less) (l : List Int) : (aR less l = none ↔ l = []) /\ ∀ v, aR less l = some v -> v ∈ l /\ ∀ x ∈ l, less x v = false := by
 cases l with
 | nil => exact ⟨⟨fun _ => rfl, fun _ => rfl⟩, fun v h => by cases h⟩
 | cons e l =>
   obtain ⟨v, h1, h2, h3⟩ := qC o l e;have h1' : aR less (e :: l) = some v := h1;rw [h1'];exact ⟨⟨fun h => (by cases h), fun h => (by cases h)⟩, fun u hu => (by cases hu; exact ⟨h2, h3⟩)⟩
theorem Aq {less : Int -> Int -> Bool} (o : eW less) {l m : List Int} (h : ∀ x, x ∈ l ↔ x ∈ m) : aR less l = aR less m := by
 obtain ⟨a1, a2⟩ := Ar o l;obtain ⟨b1, b2⟩ := Ar o m;cases hl : aR less l with
 | none =>
   have e := a1.1 hl;have : m = [] := List.eq_nil_iff_forall_not_mem.2 fun x hx => by have := (h x).2 hx; rw [e] at this; cases this
   exact (b1.2 this).symm
 | some v =>
   cases hm : aR less m with
   | none =>
     have e := b1.1 hm;have : l = [] := List.eq_nil_iff_forall_not_mem.2 fun x hx => by have := (h x).1 hx; rw [e] at this; cases this
     rw [a1.2 this] at hl; cases hl
   | some u =>
     have hv := a2 v hl;have hu := b2 u hm;exact congrArg some (o.total _ _ (hu.2 v ((h v).1 hv.1)) (hv.2 u ((h u).2 hu.1)))
theorem rL : ∀ (l k : List Int), bG lsL k -> bG lsL (l.foldl (eU lsL) k) /\ ∀ x, x ∈ l.foldl (eU lsL) k ↔ x ∈ k \/ x ∈ l
 | [], k, h => ⟨h, fun x => by simp⟩
 | e :: l, k, h => by
   obtain ⟨a, b⟩ := rL l (eU lsL k e) (eL eH h e);refine ⟨a, fun x => ?_⟩;rw [List.foldl_cons, b, iR, List.mem_cons];constructor
   · rintro ((h | h) | h)
     · exact .inl h
     · exact .inr (.inl h)
     · exact .inr (.inr h)
   · rintro (h | h | h)
     · exact .inl (.inl h)
     · exact .inl (.inr h)
     · exact .inr h
theorem Ht {l m : List Int} (h : ∀ x, x ∈ l ↔ x ∈ m) : l.foldl (eU lsL) [] = m.foldl (eU lsL) [] := by
 obtain ⟨a1, a2⟩ := rL l [] List.Pairwise.nil;obtain ⟨b1, b2⟩ := rL m [] List.Pairwise.nil;exact kO eH a1 b1 (fun x => by rw [a2, b2, h])
theorem H8 : eW lsG where
 irrefl a := by simp [lsG]
 trans a b c h1 h2 := by simp [lsG] at *; omega
 total a b h1 h2 := by simp [lsG] at *; omega
theorem GS {a : AG} (h1 : cZ a.fn.data.toList = true) (h2 : ¬ a.fn.data.toList = i7) (h3 : ¬ a.fn.data.toList = aT) (u v : List (ByteArray -> Option Int)) : evG a (u ++ v) = evG a (v ++ u) := by
 have mem : ∀ x, x ∈ qZ a (u ++ v) ↔ x ∈ qZ a (v ++ u) := fun x => by
  unfold qZ eD;simp only [List.filter_append, List.filterMap_append, List.mem_append];exact Or.comm
 unfold cZ at h1;simp only [Bool.or_eq_true, beq_iff_eq] at h1
 rcases h1 with ((((h | h) | h) | h) | h) | h
 · rw [nA h, nA h]
   have : (eD a (u ++ v)).length = (eD a (v ++ u)).length := by
    unfold eD;rw [List.filter_append, List.filter_append, List.length_append, List.length_append, Nat.add_comm]
   rw [this]
 · rw [rF h, rF h, Aq eH mem]
 · rw [rG h, rG h, Aq H8 mem]
 · exact absurd h h2
 · exact absurd h h3
 · rw [rE h, rE h, Ht mem]
theorem JC {o : ByteArray} (h : (aO o 0 0).isSome = true) : o.data.toList = [61] \/ o.data.toList = [33, 61] \/ o.data.toList = [60] \/ o.data.toList = [60, 61] \/ o.data.toList = [62] \/ o.data.toList = [62, 61] := by
 unfold aO at h
 by_cases h0 : o = ⟨#[61]⟩
 · left; rw [h0]
 rw [if_neg h0] at h
 by_cases h1 : o = ⟨#[33, 61]⟩
 · right; left; rw [h1]
 rw [if_neg h1] at h
 by_cases h2 : o = ⟨#[60]⟩
 · right; right; left; rw [h2]
 rw [if_neg h2] at h
 by_cases h3 : o = ⟨#[60, 61]⟩
 · right; right; right; left; rw [h3]
 rw [if_neg h3] at h
 by_cases h4 : o = ⟨#[62]⟩
 · right; right; right; right; left; rw [h4]
 rw [if_neg h4] at h
 by_cases h5 : o = ⟨#[62, 61]⟩
 · right; right; right; right; right; rw [h5]
 rw [if_neg h5] at h;cases h
def Kt (l : List CD) : Prop := ∀ d ∈ l, dU d.a.f /\ dU d.b.f
structure i1 (a : AG) : Prop where
 e : dU a.e.f
 g : dU a.g.f
 c : Kt a.wh
theorem EP {c : CD} {l : List CD} (h : dA (c :: l) = 0) : (aO c.op 0 0).isSome = true /\ aI c.a = 0 /\ aI c.b = 0 /\ dA l = 0 := by
 rw [dA] at h
 by_cases h1 : (aO c.op 0 0).isSome = false
 · rw [if_pos h1] at h; cases h
 rw [if_neg h1] at h
 by_cases h2 : aI c.a = 0
 · rw [if_pos h2] at h
   by_cases h3 : aI c.b = 0
   · rw [if_pos h3] at h; exact ⟨by cases hx : (aO c.op 0 0).isSome with | true => rfl | false => exact absurd hx h1, h2, h3, h⟩
   · rw [if_neg h3] at h; exact absurd h h3
 · rw [if_neg h2] at h; exact absurd h h2
theorem dY {a : AG} (h : iD a = 0) : cZ a.fn.data.toList = true /\ (a.fn.data.toList = eJ -> 1 <= a.k /\ a.k <= 16) /\ (¬ a.fn.data.toList = aN -> aI a.e = 0) /\ (a.fn.data.toList = aT -> aI a.g = 0) /\ a.wh.length <= 4 /\ dA a.wh = 0 := by
 unfold iD at h;cases hf : cZ a.fn.data.toList with
 | false => rw [hf, if_pos rfl] at h; cases h
 | true =>
   rw [hf, if_neg (by decide)] at h
   by_cases h1 : a.fn.data.toList = eJ /\ (a.k < 1 \/ 16 < a.k)
   · rw [if_pos h1] at h; cases h
   rw [if_neg h1] at h
   by_cases h2 : gR a = 0
   · rw [if_pos h2] at h
     by_cases h3 : 4 < a.wh.length
     · rw [if_pos h3] at h; cases h
     rw [if_neg h3] at h;refine ⟨rfl, fun e => ?_, fun e => ?_, fun e => ?_, by omega, h⟩
     · have : ¬ (a.k < 1 \/ 16 < a.k) := fun x => h1 ⟨e, x⟩
       omega
     · unfold gR at h2
       rw [if_neg e] at h2
       by_cases h4 : aI a.e = 0
       · exact h4
       · rw [if_neg h4] at h2; exact absurd h2 h4
     · have e' : ¬ a.fn.data.toList = aN := by rw [e]; decide
       unfold gR at h2;rw [if_neg e'] at h2
       by_cases h4 : aI a.e = 0
       · rw [if_pos h4, if_pos e] at h2; exact h2
       · rw [if_neg h4] at h2; exact absurd h2 h4
   · rw [if_neg h2] at h; exact absurd h h2
def nJ (x : AG) (k : Nat) : List UInt8 := if k = 0 then yH x.wh else nH (x.wh.drop k)
theorem sD (x : AG) : nJ x 0 = yH x.wh := if_pos rfl
theorem zE {x : AG} {k : Nat} (h : ¬ k = 0) : nJ x k = nH (x.wh.drop k) := if_neg h
theorem Dv {x : AG} {k : Nat} : nJ x (k + 1) = nH (x.wh.drop (k + 1)) := if_neg (by omega)
theorem Du {x : AG} {d : CD} {r : List CD} {k : Nat} (h0 : k = 0) (h : x.wh.drop k = d :: r) : nJ x k = [32, 119, 104, 101, 114, 101, 32] ++ (bI d.a ++ 32 :: (d.op.data.toList ++ 32 :: bI d.b)) ++ nH r := by
 subst h0;rw [sD];rw [List.drop_zero] at h;rw [h, yH]
theorem FN {x : AG} {k : Nat} (h : x.wh.drop k = []) : nJ x k = [] := by
 by_cases h0 : k = 0
 · subst h0
   rw [sD];rw [List.drop_zero] at h;rw [h, yH]
 · rw [zE h0, h, nH]
theorem nV {t : TN} (h : aI t = 0) (hn : dU t.f) : (bI t).length <= 700 := by
 obtain ⟨h1, h2⟩ := (bJ t).1 h;have := yG t h1 hn;omega
theorem Iq {o : ByteArray} (h : (aO o 0 0).isSome = true) : o.size <= 2 := by
 have : o.size = o.data.toList.length := by simp
 rw [this]
 rcases JC h with h | h | h | h | h | h <;> rw [h] <;> simp
theorem iV : ∀ l : List CD, dA l = 0 -> ∀ d ∈ l, (aO d.op 0 0).isSome = true /\ aI d.a = 0 /\ aI d.b = 0
 | [], _, d, hd => by cases hd
 | c :: r, h, d, hd => by
   obtain ⟨h1, h2, h3, h4⟩ := EP h
   rcases List.mem_cons.1 hd with rfl | hd
   · exact ⟨h1, h2, h3⟩
   · exact iV r h4 d hd
theorem IV {x : AG} (h : cZ x.fn.data.toList = true) : x.fn.size <= 5 := by
 have : x.fn.size = x.fn.data.toList.length := by simp
 rw [this];unfold cZ at h;simp only [Bool.or_eq_true, beq_iff_eq] at h
 rcases h with ((((h | h) | h) | h) | h) | h <;> rw [h] <;> decide
end
end Go.Proofs.YtapcjnoaofmmiaaGreatDoor
