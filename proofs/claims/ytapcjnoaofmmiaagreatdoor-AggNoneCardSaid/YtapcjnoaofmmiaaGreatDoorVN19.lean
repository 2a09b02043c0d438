/-
 No statement: what AggNoneCard needs, of the texts OTake, QSup, QREval, OIter, OAll, OBase.
-/
import Derived.Test.YtapcjnoaofmmiaaGreatDoorVN18
import Derived.Deep.DeepCutAuto
import Derived.Deep.CutBlock
import Derived.RangeFuncKeeps
namespace Go.Proofs.YtapcjnoaofmmiaaGreatDoor
section
open Go.RowKit
theorem two {W : World} {B : Nat} {x0 x1 : Value} {t : TypeId} (h : W.heap[B]? = some (.cells #[x0, x1] t (0, 0))) :
 (W.cell? ⟨B, 0, none⟩ = some x0 /\ W.cell? ⟨B, 1, none⟩ = some x1) /\ W.frozen? ⟨B, 0, none⟩ = false /\ W.frozen? ⟨B, 1, none⟩ = false := by
 refine ⟨⟨?_, ?_⟩, ?_, ?_⟩ <;> simp [World.cell?, World.frozen?, h]
theorem fX {W : World} {B : Nat} {x0 x1 : Value} {t : TypeId} (h : W.heap[B]? = some (.cells #[x0, x1] t (0, 0))) (v0 v1 : Value) :
 ((W.setCell ⟨B, 0, none⟩ v0).setCell ⟨B, 1, none⟩ v1).heap[B]? = some (.cells #[v0, v1] t (0, 0)) := by
 have h0 := heap_setCell_same W B 0 _ t v0 h;have g0 : (W.setCell ⟨B, 0, none⟩ v0).heap[B]? = some (.cells #[v0, x1] t (0, 0)) := by simpa using h0
 have h1 := heap_setCell_same _ B 1 _ t v1 g0;simpa using h1
theorem wV {W : World} {B : Nat} {x0 x1 : Value} {t : TypeId} (h : W.heap[B]? = some (.cells #[x0, x1] t (0, 0))) (v : Value) : (W.setCell ⟨B, 0, none⟩ v).heap[B]? = some (.cells #[v, x1] t (0, 0)) := by
 have h0 := heap_setCell_same W B 0 _ t v h;simpa using h0
theorem wU {W : World} {B : Nat} {x0 x1 : Value} {t : TypeId} (h : W.heap[B]? = some (.cells #[x0, x1] t (0, 0))) (v : Value) : (W.setCell ⟨B, 1, none⟩ v).heap[B]? = some (.cells #[x0, v] t (0, 0)) := by
 have h0 := heap_setCell_same W B 1 _ t v h;simpa using h0
abbrev aL (u v : Int) : Obj := .cells #[.int .i64 u, .int .i64 v] 131
abbrev iX (q : Int × Int) : Value := .agg #[.int .i64 q.1, .int .i64 q.2]
def zN : Bool -> Int -> Option Int -> Option (Int × Int)
 | true, _, none => none
 | true, e, some b => some (e, b)
 | false, e, _ => some (e, 0)
def Gh : Bool -> Bool -> Bool -> Option Int -> Option Int -> Option (Int × Int)
 | false, _, _, _, _ => none
 | true, true, _, none, _ => none
 | true, true, bb, some e, vb => zN bb e vb
 | true, false, bb, _, vb => zN bb 0 vb
def iC (x : AG) (g : ByteArray -> Option Int) : Option (Int × Int) := Gh (cS g x.wh) (eP x.fn.data.toList) (bP x.fn.data.toList) (evT g x.e) (evT g x.g)
def IP (q : Option (Int × Int)) (u v : Int) : Prop := ∀ z, q = some z -> z = (u, v)
theorem lZ (u v : Int) : IP none u v := fun z h => by cases h
theorem tN (u v : Int) : IP (some (u, v)) u v := fun _ h => (Option.some.inj h).symm
structure TKW (w : World) (x : AG) (p : PA) (V : World) : Prop where
 k : KP9 (fun b => b < w.heap.size) w x p V
 t : V.heap[w.heap.size + 1]? = some (ptO (kP x.fn.data.toList) (eP x.fn.data.toList) (bP x.fn.data.toList))
 o : V.heap[w.heap.size + 2]? = some (aL 0 0)
theorem TKW.step {w : World} {x : AG} {p : PA} {V V' : World} (h : TKW w x p V) (hb : Below V.heap.size V V') : TKW w x p V' :=
 ⟨h.k.step hb, (hb.block _ (aC h.t)).trans h.t, (hb.block _ (aC h.o)).trans h.o⟩
theorem TKW.set {w : World} {x : AG} {p : PA} {V : World} (h : TKW w x p V) {D : Nat} (hD : w.heap.size + 3 <= D) (i : Nat) (v : Value) : TKW w x p (V.setCell ⟨D, i, none⟩ v) := by
 have hk := (aG.refl (· = D) V).setCell (p := ⟨D, i, none⟩) (.inl rfl) v;exact ⟨⟨h.k.b.trans (hk.below (B := w.heap.size) (fun b hb => by omega) h.k.z), Nat.le_trans h.k.z hk.size, hk.heap h.k.n (by omega), h.k.r.keptS hk (fun b hb hg => by omega)⟩, hk.heap h.t (by omega), hk.heap h.o (by omega)⟩
theorem TKW.put {w : World} {x : AG} {p : PA} {V : World} (h : TKW w x p V) (v0 v1 : Value) : Below w.heap.size w ((V.setCell ⟨w.heap.size + 2, 0, none⟩ v0).setCell ⟨w.heap.size + 2, 1, none⟩ v1) :=
 h.k.b.trans ((((aG.refl (· = w.heap.size + 2) V).setCell (p := ⟨w.heap.size + 2, 0, none⟩) (.inl rfl) v0).setCell (p := ⟨w.heap.size + 2, 1, none⟩) (.inl rfl) v1).below (B := w.heap.size) (fun b hb => by omega) h.k.z)
theorem Ge {w : World} {x : AG} {p : PA} (hr : aJ (fun b => b < w.heap.size) w x p) : TKW w x p (((w.alloc (agP x p)).alloc (ptO (kP x.fn.data.toList) (eP x.fn.data.toList) (bP x.fn.data.toList))).alloc (aL 0 0)) := by
 have K := kT hr;have hs0 : (w.alloc (agP x p)).heap.size = w.heap.size + 1 := World.size_alloc _ _;generalize w.alloc (agP x p) = W0 at *;have B1 := (Below.refl W0.heap.size W0).alloc (Nat.le_refl _) (ptO (kP x.fn.data.toList) (eP x.fn.data.toList) (bP x.fn.data.toList));have N1 := heap_alloc_new W0 (ptO (kP x.fn.data.toList) (eP x.fn.data.toList) (bP x.fn.data.toList));have hs1 : (W0.alloc (ptO (kP x.fn.data.toList) (eP x.fn.data.toList) (bP x.fn.data.toList))).heap.size = W0.heap.size + 1 := World.size_alloc _ _;generalize W0.alloc (ptO (kP x.fn.data.toList) (eP x.fn.data.toList) (bP x.fn.data.toList)) = W1 at *;have B2 := (Below.refl W1.heap.size W1).alloc (Nat.le_refl _) (aL 0 0);have N2 := heap_alloc_new W1 (aL 0 0);rw [hs0] at N1;rw [hs1, hs0] at N2;exact ⟨(K.step B1).step B2, (B2.block _ (by omega)).trans N1, N2⟩
set_option maxHeartbeats 16000000 in
set_option maxRecDepth 100000 in
theorem BI {A : Nat -> Wr.AD} {n : Nat} {g : ByteArray -> Option Int} (U : fO A n g) (x : AG) (p : PA) (y : Option Addr) (cy : Nat) (w : World) {G : Nat -> Prop} (hE : eP x.fn.data.toList = true -> OkE x.e) (hG : bP x.fn.data.toList = true -> OkE x.g)
 (hC : ∀ d ∈ x.wh, OkE d.a /\ OkE d.b) (hl : x.wh.length <= 1000) (hr : aJ G w x p) (hy : Wr.ReadsA w y n A) :
 Calls Tryz.prog 108 #[agV x p, ptV x.fn.data.toList, .slice y n cy] w fun e w' => ∃ u v, e = .returned (.tuple #[.agg #[.int .i64 u, .int .i64 v], .bool (iC x g).isSome]) /\ IP (iC x g) u v /\ Below w.heap.size w w' := by
 have hr' : aJ (fun b => b < w.heap.size) w x p := hr.imp (fun b hb _ => hb);have K0 := Ge hr';have HY := aA (fun V (hV : Below w.heap.size w V) => hy.kept hV);have EVE := aA (fun (he : eP x.fn.data.toList = true) V (rd : aH (fun b => b < w.heap.size) V p.ea x.e.ks) (ry : Wr.ReadsA V y n A) => l8 U x.e (hE he).c (hE he).n (hE he).s (fun b => b < w.heap.size) V p.ea p.ec y cy rd ry);have EVG := aA (fun (he : bP x.fn.data.toList = true) V (rd : aH (fun b => b < w.heap.size) V p.ga x.g.ks) (ry : Wr.ReadsA V y n A) => l8 U x.g (hG he).c (hG he).n (hG he).s (fun b => b < w.heap.size) V p.ga p.gc y cy rd ry);have HC := aA (fun d hd V a1 c1 a2 c2 (r1 : aH (fun b => b < w.heap.size) V a1 d.a.ks) (r2 : aH (fun b => b < w.heap.size) V a2 d.b.ks) (ry : Wr.ReadsA V y n A) => Aq U d (hC d hd).1 (hC d hd).2 (fun b => b < w.heap.size) a1 c1 a2 c2 y cy V r1 r2 ry);unfold iC ptV;have DT := aA (fun V (h : TKW w x p V) => h.t);obtain ⟨kk, hkk⟩ : ∃ b, kP x.fn.data.toList = b := ⟨_, rfl⟩;obtain ⟨ee, hee⟩ : ∃ b, eP x.fn.data.toList = b := ⟨_, rfl⟩;obtain ⟨bb, hbb⟩ : ∃ b, bP x.fn.data.toList = b := ⟨_, rfl⟩;rw [hkk, hee, hbb] at DT K0;rw [hee] at EVE;rw [hbb] at EVG;rw [hkk, hee, hbb];obtain ⟨ve, hve⟩ : ∃ v, evT g x.e = v := ⟨_, rfl⟩;obtain ⟨vb, hvb⟩ : ∃ v, evT g x.g = v := ⟨_, rfl⟩;rw [hve] at EVE;rw [hvb] at EVG;rw [hve, hvb];obtain ⟨tk, htk⟩ : ∃ v, cS g x.wh = v := ⟨_, rfl⟩;rw [htk];obtain ⟨q, hq⟩ : ∃ q, Gh tk ee bb ve vb = q := ⟨_, rfl⟩;rw [hq];have HQ := aA hq;have T0 := aA (show cS g (x.wh.drop 0) = tk by rw [List.drop_zero]; exact htk)
 generalize hW : ((w.alloc (agP x p)).alloc (ptO kk ee bb)).alloc (aL 0 0) = W at K0;have HW := aA hW;have K1 := aA K0;clear hW K0 hr hr' hy hE hG hC hkk hee hbb hve hvb htk hq;obtain ⟨m0, m1, m2, m3, m4, m5, m6, m7, m8, m9, m10⟩ := aD K1.out.k.n
 go_enter Tryz.func108, Tryz.ntmps108
 go_upto_region 1 with fail
 rw [show ((w.alloc (.cells #[.string x.fn, .int .i64 x.k, .string x.e.op, .string x.e.nm, .int .i64 x.e.n, .slice p.ea x.e.ks.len p.ec, .string x.g.op, .string x.g.nm, .int .i64 x.g.n, .slice p.ga x.g.ks.len p.gc, .slice p.wa x.wh.length p.wc] 28)).alloc (.cells #[.bool kk, .bool ee, .bool bb] 102)).alloc (.cells #[.int .i64 0, .int .i64 0] 131) = W from HW.out]
 go_wp2_with fail
 clear m0 m1 m2 m3 m4 m5 m6 m7 m8 m9 m10
 go_loopw [9, 15] (fun v9 i wr => ∃ (k : Nat) (u : Value), v9 = u /\ i = .int .i64 k /\ k <= x.wh.length /\ Hid (cS g (x.wh.drop k) = tk) /\ Hid (TKW w x p wr)) (fun _ i _ => x.wh.length - (intOf i).toNat)
 case atStart => exact ⟨0, _, rfl, rfl, Nat.zero_le _, T0, K1⟩
 case round =>
  obtain ⟨k, u, rfl, rfl, hk, HT, HK⟩ := hrel;clear T0 K1
  by_cases hlt : k < x.wh.length
  · obtain ⟨d, hd⟩ : ∃ d, x.wh[k]? = some d := ⟨_, List.getElem?_eq_getElem hlt⟩
    have hne : ¬ x.wh = [] := fun e => by rw [e] at hlt; simp at hlt
    obtain ⟨b, off, hwa, -, hbl, hcc⟩ := HK.out.k.r.c.resolve_left hne;obtain ⟨a1, c1, a2, c2, ⟨p0, p1, p2, p3, p4, p5, p6, p7, p8⟩, r1, r2⟩ := hcc k d hd
    have hdr : x.wh.drop k = d :: x.wh.drop (k + 1) := by
     rw [List.drop_eq_getElem_cons hlt];have := List.getElem?_eq_getElem hlt;rw [this] at hd;rw [Option.some.inj hd]
    have HD := aA (show (uJ g d && cS g (x.wh.drop (k + 1))) = tk by rw [<- HT.out, hdr, BH]);have BD := (Below.refl wr.heap.size wr).alloc (Nat.le_refl _) (cdX d a1 c1 a2 c2);have ND := heap_alloc_new wr (cdX d a1 c1 a2 c2);have K4 := aA (HK.out.step BD);have CC := aA (HC.out d (List.mem_of_getElem? hd) (wr.alloc (cdX d a1 c1 a2 c2)) a1 c1 a2 c2 (r1.kept BD) (r2.kept BD) (HY.out _ K4.out.k.b));obtain ⟨z, hz⟩ : ∃ z, uJ g d = z := ⟨_, rfl⟩;rw [hz] at CC HD;rw [hwa];have b1 : (k : Int) < (x.wh.length : Int) := by omega
    have b2 : (0 : Int) <= (k : Int) := by omega
    have b3 : ((k : Int)).toNat = k := by omega
    clear hne hcc hdr hd r1 r2 BD hz hwa HT HK
    go_upto_region 4 with fail
    rw [show wr.alloc (.cells #[.string d.op, .string d.a.op, .string d.a.nm, .int .i64 d.a.n, .slice a1 d.a.ks.len c1, .string d.b.op, .string d.b.nm, .int .i64 d.b.n, .slice a2 d.b.ks.len c2] 98) = wr.alloc (cdX d a1 c1 a2 c2) from rfl];generalize wr.alloc (cdX d a1 c1 a2 c2) = V1 at *;clear p0 p1 p2 p3 p4 p5 p6 p7 p8;obtain ⟨p0, p1, p2, p3, p4, p5, p6, p7, p8⟩ := jM ND;clear ND
    go_wp2_with fail
    refine CC.out.mono ?_;rintro e w5 ⟨rfl, hb5⟩;have K5 := aA (K4.out.step hb5);clear hb5 CC K4 p0 p1 p2 p3 p4 p5 p6 p7 p8;cases z with
    | true =>
      have HT2 := aA (show cS g (x.wh.drop (k + 1)) = tk from HD.out)
      go_wp2_with fail
      go_roundw
      case rel => exact ⟨k + 1, _, rfl, by go_num, by omega, HT2, K5⟩
      case measure => simp [intOf]; omega
    | false =>
      have HT2 := aA (show false = tk from HD.out);have TR := aA (show q = none by rw [<- HQ.out, <- HT2.out]; rfl);obtain ⟨⟨o0, o1⟩, g0, g1⟩ := two K5.out.o
      go_wp2_with fail
      obtain ⟨⟨d0, d1⟩, -⟩ := two (fX K5.out.o (.int .i64 0) (.int .i64 0));have P := K5.out.put (.int .i64 0) (.int .i64 0);have E := TR.out;subst E;exact bodyPost_ret (v := .tuple #[.agg #[.int .i64 0, .int .i64 0], .bool false]) (by simp [results, Tryz.results108, go_sem, d0, d1]) rfl ⟨0, 0, rfl, lZ _ _, P⟩
  · have HT2 := aA (show tk = true by rw [<- HT.out, List.drop_of_length_le (by omega)]; rfl)
    have b1 : ¬ (k : Int) < (x.wh.length : Int) := by omega
    have b2 : decide (k < x.wh.length) = false := decide_eq_false hlt;have HQ2 := aA (show Gh true ee bb ve vb = q by rw [<- HT2.out]; exact HQ.out);have BA := (Below.refl wr.heap.size wr).alloc (Nat.le_refl _) (aL 0 0);have NA := heap_alloc_new wr (aL 0 0);have K2 := aA (HK.out.step BA);have hD := aC HK.out.o;clear HT HK BA HQ HT2
    go_upto_region 8 with fail
    rw [show wr.alloc (.cells #[.int .i64 0, .int .i64 0] 131) = wr.alloc (aL 0 0) from rfl];generalize wr.alloc (aL 0 0) = V at *;generalize wr.heap.size = D at *;have hD3 : w.heap.size + 3 <= D := by omega
    have Q2 := aA NA;clear NA;obtain ⟨⟨y0, y1, y2⟩, -⟩ := cF (DT.out _ K2.out);obtain ⟨m0, m1, m2, m3, m4, m5, m6, m7, m8, m9, m10⟩ := aD K2.out.k.n;obtain ⟨⟨s0, s1⟩, f0, f1⟩ := two Q2.out
    go_upto_if 26 with fail
    go_cut [11] (fun v11 wc => ∃ (u : Int) (z : Bool), v11 = .bool z /\ Hid (TKW w x p wc) /\ Hid (wc.heap[D]? = some (aL u 0)) /\ Hid ((z = true -> zN bb u vb = q) /\ (z = false -> q = none)))
    case first =>
     cases ee with
     | false =>
       have TS := aA (show zN bb 0 vb = q from HQ2.out)
       go_wp2_with fail
       go_meet
       case rel => exact ⟨0, true, rfl, K2, Q2, aA ⟨fun _ => TS.out, fun h => by cases h⟩⟩
     | true =>
       have CE := aA (EVE.out (by first | rfl | trivial) V K2.out.k.r.e (HY.out _ K2.out.k.b))
       go_wp2_with fail
       refine CE.out.mono ?_;rintro e w6 ⟨rfl, hb6⟩;have K6 := aA (K2.out.step hb6);have Q6 := aA ((hb6.block _ (aC Q2.out)).trans Q2.out);clear hb6 CE m0 m1 m2 m3 m4 m5 m6 m7 m8 m9 m10 y0 y1 y2 s0 s1 f0 f1;obtain ⟨⟨s0, s1⟩, f0, f1⟩ := two Q6.out;cases ve with
       | none =>
         have TS := aA (show none = q from HQ2.out);have K7 := aA (K6.out.set hD3 0 (.int .i64 0));have Q7 := aA (wV Q6.out (.int .i64 0))
         go_wp2_with fail
         go_meet
         case rel => exact ⟨0, false, rfl, K7, Q7, aA ⟨fun h => (by cases h), fun _ => TS.out.symm⟩⟩
       | some e1 =>
         have TS := aA (show zN bb e1 vb = q from HQ2.out);have K7 := aA (K6.out.set hD3 0 (.int .i64 e1));have Q7 := aA (wV Q6.out (.int .i64 e1))
         go_wp2_with fail
         go_meet
         case rel => exact ⟨e1, true, rfl, K7, Q7, aA ⟨fun _ => TS.out, fun h => by cases h⟩⟩
    case rest =>
     obtain ⟨u, z, rfl, K3, Q3, HS⟩ := hcut;clear K2 Q2 HQ2 m0 m1 m2 m3 m4 m5 m6 m7 m8 m9 m10 y0 y1 y2 s0 s1 f0 f1;obtain ⟨⟨y0, y1, y2⟩, -⟩ := cF (DT.out _ K3.out);obtain ⟨m0, m1, m2, m3, m4, m5, m6, m7, m8, m9, m10⟩ := aD K3.out.k.n;cases z with
     | false =>
       have HS2 := aA (show q = none from HS.out.2 rfl);cases bb with
       | false =>
         have TR := aA (show none = q from HS2.out.symm);obtain ⟨⟨o0, o1⟩, g0, g1⟩ := two K3.out.o;obtain ⟨⟨s0, s1⟩, f0, f1⟩ := two Q3.out
         go_wp2_with fail
         obtain ⟨⟨d0, d1⟩, -⟩ := two (fX K3.out.o (.int .i64 u) (.int .i64 0));have P := K3.out.put (.int .i64 u) (.int .i64 0);have E := TR.out;subst E;exact bodyPost_ret (v := .tuple #[.agg #[.int .i64 u, .int .i64 0], .bool false]) (by simp [results, Tryz.results108, go_sem, d0, d1]) rfl ⟨u, 0, rfl, lZ _ _, P⟩
       | true =>
         have TR := aA (show none = q from HS2.out.symm);obtain ⟨⟨o0, o1⟩, g0, g1⟩ := two K3.out.o;obtain ⟨⟨s0, s1⟩, f0, f1⟩ := two Q3.out
         go_wp2_with fail
         obtain ⟨⟨d0, d1⟩, -⟩ := two (fX K3.out.o (.int .i64 u) (.int .i64 0));have P := K3.out.put (.int .i64 u) (.int .i64 0);have E := TR.out;subst E;exact bodyPost_ret (v := .tuple #[.agg #[.int .i64 u, .int .i64 0], .bool false]) (by simp [results, Tryz.results108, go_sem, d0, d1]) rfl ⟨u, 0, rfl, lZ _ _, P⟩
     | true =>
       have HS2 := aA (show zN bb u vb = q from HS.out.1 rfl);cases bb with
       | false =>
         have HS3 := aA (show some (u, (0 : Int)) = q from HS2.out);have TR := aA (show some (u, (0 : Int)) = q from HS3.out);obtain ⟨⟨o0, o1⟩, g0, g1⟩ := two K3.out.o;obtain ⟨⟨s0, s1⟩, f0, f1⟩ := two Q3.out
         go_wp2_with fail
         obtain ⟨⟨d0, d1⟩, -⟩ := two (fX K3.out.o (.int .i64 u) (.int .i64 0));have P := K3.out.put (.int .i64 u) (.int .i64 0);have E := TR.out;subst E;exact bodyPost_ret (v := .tuple #[.agg #[.int .i64 u, .int .i64 0], .bool true]) (by simp [results, Tryz.results108, go_sem, d0, d1]) rfl ⟨u, 0, rfl, tN _ _, P⟩
       | true =>
         have CB := aA (EVG.out (by first | rfl | trivial) wc K3.out.k.r.g (HY.out _ K3.out.k.b))
         go_wp2_with fail
         refine CB.out.mono ?_;rintro e w8 ⟨rfl, hb8⟩;have K8 := aA (K3.out.step hb8);have Q8 := aA ((hb8.block _ (aC Q3.out)).trans Q3.out);clear hb8 CB m0 m1 m2 m3 m4 m5 m6 m7 m8 m9 m10 y0 y1 y2;obtain ⟨⟨s0, s1⟩, f0, f1⟩ := two Q8.out;cases vb with
         | none =>
           have HS3 := aA (show none = q from HS2.out);have K9 := aA (K8.out.set hD3 1 (.int .i64 0));have Q9 := aA (wU Q8.out (.int .i64 0))
           go_upto_region 13 with fail
           obtain ⟨Y, hY⟩ : ∃ Y, w8.setCell ⟨D, 1, none⟩ (.int .i64 0) = Y := ⟨_, rfl⟩;rw [hY] at K9 Q9 |-
           clear hY s0 s1 f0 f1;have TR := aA (show none = q from HS3.out);obtain ⟨⟨o0, o1⟩, g0, g1⟩ := two K9.out.o;obtain ⟨⟨s0, s1⟩, f0, f1⟩ := two Q9.out
           go_wp2_with fail
           obtain ⟨⟨d0, d1⟩, -⟩ := two (fX K9.out.o (.int .i64 u) (.int .i64 0));have P := K9.out.put (.int .i64 u) (.int .i64 0);have E := TR.out;subst E;exact bodyPost_ret (v := .tuple #[.agg #[.int .i64 u, .int .i64 0], .bool false]) (by simp [results, Tryz.results108, go_sem, d0, d1]) rfl ⟨u, 0, rfl, lZ _ _, P⟩
         | some b1 =>
           have HS3 := aA (show some (u, b1) = q from HS2.out);have K9 := aA (K8.out.set hD3 1 (.int .i64 b1));have Q9 := aA (wU Q8.out (.int .i64 b1))
           go_upto_region 13 with fail
           obtain ⟨Y, hY⟩ : ∃ Y, w8.setCell ⟨D, 1, none⟩ (.int .i64 b1) = Y := ⟨_, rfl⟩;rw [hY] at K9 Q9 |-
           clear hY s0 s1 f0 f1;have TR := aA (show some (u, b1) = q from HS3.out);obtain ⟨⟨o0, o1⟩, g0, g1⟩ := two K9.out.o;obtain ⟨⟨s0, s1⟩, f0, f1⟩ := two Q9.out
           go_wp2_with fail
           obtain ⟨⟨d0, d1⟩, -⟩ := two (fX K9.out.o (.int .i64 u) (.int .i64 b1));have P := K9.out.put (.int .i64 u) (.int .i64 b1);have E := TR.out;subst E;exact bodyPost_ret (v := .tuple #[.agg #[.int .i64 u, .int .i64 b1], .bool true]) (by simp [results, Tryz.results108, go_sem, d0, d1]) rfl ⟨u, b1, rfl, tN _ _, P⟩
theorem jL {w : World} {base : Nat} {e : TypeId} {size : Nat} {a : Option Addr} {n c j : Nat} {xs : List Value} {u : Value} (h : w.ownsRow base e size (.slice a n c) n xs) (hj : xs[j]? = some u) : ∃ g, a = some ⟨g, 0, none⟩ /\ w.cell? ⟨g, j, none⟩ = some u := by
 cases a with
 | none =>
   rcases h.2 with ⟨_, h2⟩ | ⟨g, cap, cur, h1, _⟩
   · have := h.1
     subst h2;rw [Nat.zero_mul] at this;rw [List.length_eq_zero_iff.1 this] at hj;cases hj
   · cases h1
 | some a =>
   obtain ⟨g, h1, h2⟩ := kM h hj;exact ⟨g, by rw [h1], h2⟩
theorem Ew {w : World} {base : Nat} {e : TypeId} {a : Option Addr} {c n : Nat} {xs : List Value} (h : w.ownsRow base e 1 (.slice a n c) n xs) : n <= c /\ c <= maxLen := by
 rcases h.2 with ⟨h, _⟩ | ⟨g, cap, cur, h, _, _, h1, h2, _⟩
 · simp only [Value.slice.injEq] at h
   obtain ⟨_, rfl, rfl⟩ := h;exact ⟨Nat.le_refl _, Nat.zero_le _⟩
 · simp only [Value.slice.injEq] at h
   obtain ⟨_, _, rfl⟩ := h;exact ⟨h1, h2⟩
theorem cI {W : World} {base : Nat} {e : TypeId} {size : Nat} {v : Value} {k : Nat} {xs : List Value} (h : W.ownsRow base e size v k xs) : ∃ a cap, v = .slice a k cap := by
 rcases h.2 with ⟨rfl, rfl⟩ | ⟨g, cap, _, rfl, _⟩
 · exact ⟨_, _, rfl⟩
 · exact ⟨_, _, rfl⟩
structure RW where
 n : Nat
 A : Nat -> Wr.AD
 g : ByteArray -> Option Int
def cD (w : World) (a : Option Addr) (rs : List RW) : Prop := rs = [] \/ ∃ b off, a = some ⟨b, off, none⟩ /\ b < w.heap.size /\ ∀ j r, rs[j]? = some r -> ∃ y cy, w.cell? ⟨b, off + j, none⟩ = some (.slice y r.n cy) /\ Wr.ReadsA w y r.n r.A
abbrev vlV (k n : Int) (a : Option Addr) (l c : Nat) : Value := .agg #[.int .i64 k, .int .i64 n, .string ⟨#[]⟩, .slice a l c]
def nJ (r : EvR) (w0 : World) (e : Ending) (w' : World) : Prop := Below w0.heap.size w0 w' /\
 match r with
 | .no => e = .returned (.tuple #[vlV 0 0 none 0 0, .bool false])
 | .num n => e = .returned (.tuple #[vlV 1 n none 0 0, .bool true])
 | .list l => ∃ a c, e = .returned (.tuple #[vlV 3 0 a l.length c, .bool true]) /\ (l = [] \/ ∃ b off, a = some ⟨b, off, none⟩ /\ w0.heap.size <= b /\ b < w'.heap.size /\ ∀ j n, l[j]? = some n -> w'.cell? ⟨b, off + j, none⟩ = some (.int .i64 n))
section
variable {s : ES} {k : Nat}
end
section
variable {x : AG} {g : ByteArray -> Option Int} {s : ES} {v : Int}
end
section
variable {G : Nat -> Prop} {w V : World} {x : AG} {p : PA} {T : List Int} {ta : Option Addr} {tc : Nat}
end
end
section
open Go.RowKit Go.Shelf
attribute [local go_sem] Oper.semAt_some
def fC (x : AG) (gs : List (ByteArray -> Option Int)) : List (Int × Int) := gs.filterMap (iC x)
theorem BJ (x : AG) (gs : List (ByteArray -> Option Int)) (g : ByteArray -> Option Int) : fC x (gs ++ [g]) = fC x gs ++ (match iC x g with | none => [] | some q => [q]) := by
 unfold fC;rw [List.filterMap_append]
 congr 1
 simp only [List.filterMap_cons, List.filterMap_nil];cases iC x g <;> rfl
theorem xH (x : AG) {gs : List (ByteArray -> Option Int)} (k : Nat) : fC x (gs.take k) <+: fC x gs := by
 unfold fC;exact ((List.take_prefix k gs).filterMap _)
theorem dB {w w' : World} {a : Option Addr} {rs : List RW} (h : cD w a rs) (hb : Below w.heap.size w w') : cD w' a rs :=
 h.imp id fun ⟨b, off, e, hlt, hc⟩ => ⟨b, off, e, Nat.lt_of_lt_of_le hlt hb.size, fun j r hj => by
  obtain ⟨y, cy, c0, rd⟩ := hc j r hj;exact ⟨y, cy, (hb.cell (p := ⟨b, off + j, none⟩) hlt).trans c0, rd.kept hb⟩⟩
structure OkX (x : AG) : Prop where
 e : eP x.fn.data.toList = true -> OkE x.e
 g : bP x.fn.data.toList = true -> OkE x.g
 c : ∀ d ∈ x.wh, OkE d.a /\ OkE d.b
 l : x.wh.length <= 1000
theorem xI {x : AG} (h : OkX x) {A : Nat -> Wr.AD} {n : Nat} {g : ByteArray -> Option Int} (U : fO A n g) {q : Int × Int} (hq : iC x g = some q) : bE q.1 /\ bE q.2 := by
 have z : bE 0 := by unfold bE; omega
 unfold iC at hq;have hE : eP x.fn.data.toList = true -> ∀ v, evT g x.e = some v -> bE v := fun he => (vB U x.e ((bG _).1 (h.e he).c).1 (h.e he).n).2
 have hG : bP x.fn.data.toList = true -> ∀ v, evT g x.g = some v -> bE v := fun he => (vB U x.g ((bG _).1 (h.g he).c).1 (h.g he).n).2
 generalize cS g x.wh = tk at hq;generalize evT g x.e = oe at hq hE;generalize evT g x.g = ob at hq hG;generalize eP x.fn.data.toList = ee at hq hE;generalize bP x.fn.data.toList = bb at hq hG;cases tk <;> cases ee <;> cases bb <;> cases oe <;> cases ob <;> simp only [Gh, zN, Option.some.injEq, reduceCtorEq] at hq <;> subst hq <;> refine ⟨?_, ?_⟩ <;> first | exact z | exact hE rfl _ rfl | exact hG rfl _ rfl
abbrev rwO (ya : Option Addr) (l yc : Nat) : Obj := .cells #[.slice ya l yc] 49
set_option maxRecDepth 100000 in
set_option maxHeartbeats 8000000 in
theorem Eh (n l bl ba bp : Nat) (x : AG) (p : PA) (rs : List RW) (ya : Option Addr) (yc : Nat) (W0 : World) (hX : OkX x) (hU : ∀ r ∈ rs, fO r.A r.n r.g) (hl : rs.length <= 1000)
 (hr : aJ (fun b => b < W0.heap.size) W0 x p) (hy : cD W0 ya rs) (hbl : W0.heap[bl]? = some (rwO ya rs.length yc)) (hba : W0.heap[ba]? = some (agP x p))
 (hbp : W0.heap[bp]? = some (ptO (kP x.fn.data.toList) (eP x.fn.data.toList) (bP x.fn.data.toList))) (J Jx : List (Int × Int) -> World -> Prop) (W : World) (hJ : AbidesFrom W.heap.size J)
 (hY : ∀ pre q W1, bE q.1 -> bE q.2 -> J pre W1 -> pre.length < (fC x (rs.map RW.g)).length -> YieldAt Fence.wide n Tryz.prog l #[iX q] W1 fun e W' => (e = .returned (.bool true) /\ J (pre ++ [q]) W' /\ Below W0.heap.size W1 W') \/ (e = .returned (.bool false) /\ Jx (pre ++ [q]) W'))
 (hW : Below W0.heap.size W0 W) (h0 : J [] W) :
 CallsIn Fence.wide (n + 1) Tryz.prog 107 #[.func (.yield l) #[] #[], .pointer (some ⟨bl, 0, none⟩), .pointer (some ⟨ba, 0, none⟩), .pointer (some ⟨bp, 0, none⟩)] W fun e W' =>
  (∃ v, e = .returned v) /\ ((∃ ys, ys = fC x (rs.map RW.g) /\ J ys W') \/ (∃ pre, pre <+: fC x (rs.map RW.g) /\ Jx pre W')) := by
 refine callsIn_of_wp Tryz.func107 rfl trivial ?_ rfl;simp only [Tryz.ntmps107, List.size_toArray, List.length_cons, List.length_nil, Nat.reduceAdd, Nat.reduceSub, Array.replicate_succ, Array.replicate_zero, List.push_toArray, List.append_toArray, List.nil_append, List.cons_append]
 have cl : W.cell? ⟨bl, 0, none⟩ = some (.slice ya rs.length yc) := by
  have := (hW.block bl (aC hbl)).trans hbl;simp [World.cell?, this]
 gi_wp2
 clear cl
 gi_loopw [6, 7, 8, 11] (fun v6 v7 v8 i wr => ∃ (k : Nat) (y6 y7 y8 : Value), v6 = y6 /\ v7 = y7 /\ v8 = y8 /\ i = .int .i64 k /\ k <= rs.length /\ Below W0.heap.size W0 wr /\ W.heap.size <= wr.heap.size /\ J (fC x ((rs.map RW.g).take k)) wr) (fun _ _ _ i _ => rs.length - (intOf i).toNat)
 case atStart => exact ⟨0, _, _, _, rfl, rfl, rfl, rfl, Nat.zero_le _, hW, Nat.le_refl _, h0⟩
 case round =>
  obtain ⟨k, y6, y7, y8, rfl, rfl, rfl, rfl, hk, hb, hz, hJs⟩ := hrel
  by_cases hlt : k < rs.length
  · obtain ⟨r, hrk⟩ : ∃ r, rs[k]? = some r := ⟨_, List.getElem?_eq_getElem hlt⟩
    have hne : ¬ rs = [] := fun e => by rw [e] at hlt; simp at hlt
    obtain ⟨b, off, rfl, hbs, hcc⟩ := (dB hy hb).resolve_left hne;obtain ⟨yr, cyr, c0, rd⟩ := hcc k r hrk;have hba1 := (hb.block ba (aC hba)).trans hba;have hbp1 := (hb.block bp (aC hbp)).trans hbp;obtain ⟨m0, m1, m2, m3, m4, m5, m6, m7, m8, m9, m10⟩ := aD hba1;obtain ⟨q0, q1, q2⟩ := cF hbp1;have hrA : aJ (fun b => b < W0.heap.size) wr x p := hr.kept hb;have TK := aA (BI (hU r (List.mem_of_getElem? hrk)) x p yr cyr wr hX.e hX.g hX.c hX.l hrA rd)
    have hgs : (rs.map RW.g).take (k + 1) = (rs.map RW.g).take k ++ [r.g] := by
     rw [List.take_add_one];simp [hrk]
    have hsn := BJ x ((rs.map RW.g).take k) r.g;rw [<- hgs] at hsn;have hgr : ∀ W3, Below wr.heap.size wr W3 -> wr.grownBy W3 none := fun W3 h => ⟨h.os, h.tape, h.output, h.size, fun k hk _ => h.block k hk⟩
    cases htk : iC x r.g with
    | none =>
      rw [htk] at TK hsn
      gi_wp2_with (refine ⟨trivial, ?_⟩; gi_at_call 108; refine (callsIn_wide.2 TK.out).mono ?_; rintro e w1 ⟨u, v, rfl, hsay, hb1⟩)
      refine ⟨fun _ h => (by cases h), ?_⟩
      gi_wp2
      go_roundw
      case rel => exact ⟨k + 1, _, _, _, rfl, rfl, rfl, by go_num, hlt, (hb.trans (hb1.mono hb.size)).alloc (Nat.le_trans hb.size hb1.size) _, by have := hb1.size; simp; omega, by
       rw [hsn, List.append_nil];exact hJ _ _ _ _ (hJ _ _ _ _ hJs (hgr _ hb1) (fun r e => by cases e)) (World.grownBy_alloc _ _ none) (fun r e => by cases e)⟩
      case measure => simp [intOf]; omega
    | some q =>
      rw [htk] at TK hsn;have hin := xI hX (hU r (List.mem_of_getElem? hrk)) htk
      have hlen : (fC x ((rs.map RW.g).take k)).length < (fC x (rs.map RW.g)).length := by
       have h1 := (xH x (gs := rs.map RW.g) (k + 1)).length_le;rw [hsn, List.length_append] at h1;simp at h1;omega
      have hyl := fun w1 (hb1 : Below wr.heap.size wr w1) => hY (fC x ((rs.map RW.g).take k)) q (w1.alloc (aL q.1 q.2)) hin.1 hin.2 (hJ _ _ _ _ (hJ _ _ _ _ hJs (hgr _ hb1) (fun r e => by cases e)) (World.grownBy_alloc _ _ none) (fun r e => by cases e)) hlen
      gi_wp2_with (refine ⟨trivial, ?_⟩; gi_at_call 108; refine (callsIn_wide.2 TK.out).mono ?_; rintro e w1 ⟨u, v, rfl, hsay, hb1⟩; obtain rfl := hsay _ rfl; obtain ⟨fn, tmps, assign, body, hyy, hR⟩ := hyl w1 hb1; dsimp only at hyy)
      refine hR.mono ?_;clear hR;rintro e W3 (⟨rfl, hJ3, hk3⟩ | ⟨rfl, hJx3⟩)
      · gi_wp2
        go_roundw
        case rel => exact ⟨k + 1, _, _, _, rfl, rfl, rfl, by go_num, hlt, ((hb.trans (hb1.mono hb.size)).alloc (Nat.le_trans hb.size hb1.size) _).trans hk3, by have := hb1.size; have := hk3.size; simp at this; omega, by rw [hsn]; exact hJ3⟩
        case measure => simp [intOf]; omega
      · gi_wp2
        refine bodyPost_ret (results_none rfl _ _ _) rfl ?_;exact ⟨⟨_, rfl⟩, .inr ⟨fC x ((rs.map RW.g).take (k + 1)), xH x _, by rw [hsn]; exact hJx3⟩⟩
  · obtain rfl : k = rs.length := by omega
    rw [List.take_of_length_le (by simp)] at hJs
    gi_wp2
    go_end0
    exact ⟨⟨_, rfl⟩, .inl ⟨_, rfl, hJs⟩⟩
end
section
open Go.RowKit Go.Shelf
abbrev Q64 : Type := { q : Int × Int // bE q.1 /\ bE q.2 }
abbrev tkE (q : Q64) : Array Value := #[iX q.1]
theorem iF : ∀ (l : List (Int × Int)), (∀ q ∈ l, bE q.1 /\ bE q.2) -> ∃ L : List Q64, L.map Subtype.val = l
 | [], _ => ⟨[], rfl⟩
 | q :: l, h => by
   obtain ⟨L, rfl⟩ := iF l (fun z hz => h z (List.mem_cons_of_mem _ hz));exact ⟨⟨q, h q (List.mem_cons_self ..)⟩ :: L, rfl⟩
theorem lW {x : AG} (h : OkX x) {rs : List RW} (hU : ∀ r ∈ rs, fO r.A r.n r.g) : ∀ q ∈ fC x (rs.map RW.g), bE q.1 /\ bE q.2 := by
 intro q hq;unfold fC at hq;rw [List.mem_filterMap] at hq;obtain ⟨g, hg, hz⟩ := hq;rw [List.mem_map] at hg;obtain ⟨r, hr, rfl⟩ := hg;exact xI h (hU r hr) hz
structure wK (B : Nat) (W : World) (x : AG) (p : PA) (rs : List RW) (ya : Option Addr) (yc bl ba bp : Nat) : Prop where
 l : W.heap[bl]? = some (rwO ya rs.length yc)
 a : W.heap[ba]? = some (agP x p)
 q : W.heap[bp]? = some (ptO (kP x.fn.data.toList) (eP x.fn.data.toList) (bP x.fn.data.toList))
 rd : aJ (fun b => b < W.heap.size) W x p
 ry : cD W ya rs
abbrev tkF (bl ba bp : Nat) : Array Value := #[.pointer (some ⟨bl, 0, none⟩), .pointer (some ⟨ba, 0, none⟩), .pointer (some ⟨bp, 0, none⟩)]
theorem pP {l m : List Q64} (h : l.map Subtype.val = m.map Subtype.val) : l = m := (List.map_inj_right (fun _ _ e => Subtype.ext e)).1 h
theorem eX (n : Nat) {B bl ba bp yc : Nat} {x : AG} {p : PA} {rs : List RW} {ya : Option Addr} {w : World} (hX : OkX x) (hU : ∀ r ∈ rs, fO r.A r.n r.g) (hl : rs.length <= 1000) (h : wK B w x p rs ya yc bl ba bp)
 (L : List Q64) (hL : L.map Subtype.val = fC x (rs.map RW.g)) :
 SeqStopsK Fence.wide (n + 1) Tryz.prog 107 (tkF bl ba bp) tkE (Below w.heap.size) (fun ys => ys = L) (fun pre => pre <+: L) L.length w := fun l J Jx W hW hJ _ hY h0 => by
 refine (Eh n l bl ba bp x p rs ya yc w hX hU hl h.rd h.ry h.l h.a h.q (fun pre V => ∃ pre', pre'.map Subtype.val = pre /\ J pre' V) (fun pre V => ∃ pre', pre'.map Subtype.val = pre /\ Jx pre' V) W ?_ ?_ hW ⟨[], rfl, h0⟩).mono ?_
 · rintro s X Y row ⟨s', e, hs⟩ hg hr
   exact ⟨s', e, hJ s' X Y row hs hg hr⟩
 · rintro pre q W1 h1 h2 ⟨pre', rfl, hj⟩ hlen
   rw [<- hL, List.length_map, List.length_map] at hlen;refine (hY pre' ⟨q, h1, h2⟩ W1 hj hlen).mono ?_;rintro e W' (⟨he, hj', hk⟩ | ⟨he, hj'⟩)
   · exact .inl ⟨he, ⟨_, by simp, hj'⟩, hk⟩
   · exact .inr ⟨he, ⟨_, by simp, hj'⟩⟩
 · rintro e W' ⟨hv, (⟨ys, rfl, pre', e', hj⟩ | ⟨pre, hp, pre', rfl, hj⟩)⟩
   · exact ⟨hv, .inl ⟨pre', pP (e'.trans hL.symm), hj⟩⟩
   · refine ⟨hv, .inr ⟨pre', ?_, hj⟩⟩
     rw [<- hL] at hp;show pre' <+: L;rw [List.prefix_iff_eq_take] at hp |-
     rw [List.length_map, <- List.map_take] at hp;exact pP hp
theorem xE {w : World} {x : AG} {p : PA} {rs : List RW} {ya : Option Addr} {yc : Nat} {G : Nat -> Prop} (hr : aJ G w x p) (hy : cD w ya rs) {V : World} (hV : Below ((w.alloc (agP x p)).alloc (rwO ya rs.length yc)).heap.size ((w.alloc (agP x p)).alloc (rwO ya rs.length yc)) V) :
 wK w.heap.size (V.alloc (ptO (kP x.fn.data.toList) (eP x.fn.data.toList) (bP x.fn.data.toList))) x p rs ya yc (w.heap.size + 1) w.heap.size V.heap.size /\ Below w.heap.size w (V.alloc (ptO (kP x.fn.data.toList) (eP x.fn.data.toList) (bP x.fn.data.toList))) := by
 have B1 := (Below.refl w.heap.size w).alloc (Nat.le_refl _) (agP x p);have N1 := heap_alloc_new w (agP x p);have hs1 : (w.alloc (agP x p)).heap.size = w.heap.size + 1 := World.size_alloc _ _;generalize w.alloc (agP x p) = W1 at *;have B2 := (Below.refl W1.heap.size W1).alloc (Nat.le_refl _) (rwO ya rs.length yc);have N2 := heap_alloc_new W1 (rwO ya rs.length yc);have hs2 : (W1.alloc (rwO ya rs.length yc)).heap.size = W1.heap.size + 1 := World.size_alloc _ _;generalize W1.alloc (rwO ya rs.length yc) = W2 at *;have B3 := (Below.refl V.heap.size V).alloc (Nat.le_refl _) (ptO (kP x.fn.data.toList) (eP x.fn.data.toList) (bP x.fn.data.toList));have N3 := heap_alloc_new V (ptO (kP x.fn.data.toList) (eP x.fn.data.toList) (bP x.fn.data.toList));generalize V.alloc (ptO (kP x.fn.data.toList) (eP x.fn.data.toList) (bP x.fn.data.toList)) = W3 at *;have hz := hV.size;have hz3 := B3.size;have B13 : Below W1.heap.size W1 W3 := B2.trans ((hV.trans (B3.mono hz)).mono (by omega));have B03 : Below w.heap.size w W3 := B1.trans (B13.mono (by omega));rw [hs1] at N2;refine ⟨⟨?_, ?_, N3, (hr.kept B03).imp (fun b hb _ => ?_), dB hy B03⟩, B03⟩
 · exact ((hV.trans (B3.mono hz)).block _ (by omega)).trans N2
 · exact (B13.block _ (by omega)).trans N1
 · exact hb
set_option maxHeartbeats 4000000 in
set_option maxRecDepth 100000 in
theorem eY {G : Nat -> Prop} (x : AG) (p : PA) (rs : List RW) (ya : Option Addr) (yc : Nat) (w : World) (hr : aJ G w x p) (hy : cD w ya rs) :
 Calls Tryz.prog 57 #[agV x p, .slice ya rs.length yc] w fun e w' => ∃ bl ba bp, e = .returned (.func (.func 107) #[] (tkF bl ba bp)) /\ wK w.heap.size w' x p rs ya yc bl ba bp /\ Below w.heap.size w w' := by
 have TN := aA (fun V hV => xE (yc := yc) (V := V) hr hy hV);have hs0 : ((w.alloc (agP x p)).alloc (rwO ya rs.length yc)).heap.size = w.heap.size + 2 := by simp
 have B1 := (Below.refl w.heap.size w).alloc (Nat.le_refl _) (agP x p)
 have N0 : ((w.alloc (agP x p)).alloc (rwO ya rs.length yc)).heap[w.heap.size]? = some (agP x p) := by
  have h1 := heap_alloc_new w (agP x p);exact (((Below.refl _ (w.alloc (agP x p))).alloc (Nat.le_refl _) (rwO ya rs.length yc)).block _ (by simp)).trans h1
 have CP := aA (gY x.fn ((w.alloc (agP x p)).alloc (rwO ya rs.length yc)));generalize hW : (w.alloc (agP x p)).alloc (rwO ya rs.length yc) = W at *;have HW := aA hW;obtain ⟨m0, m1, m2, m3, m4, m5, m6, m7, m8, m9, m10⟩ := aD N0;unfold ptV at CP;clear hr hy B1 hW N0
 go_enter Tryz.func57, Tryz.ntmps57
 go_upto_region 1 with fail
 rw [show (w.alloc (.cells #[.string x.fn, .int .i64 x.k, .string x.e.op, .string x.e.nm, .int .i64 x.e.n, .slice p.ea x.e.ks.len p.ec, .string x.g.op, .string x.g.nm, .int .i64 x.g.n, .slice p.ga x.g.ks.len p.gc, .slice p.wa x.wh.length p.wc] 28)).alloc (.cells #[.slice ya rs.length yc] 49) = W from HW.out]
 go_wp2_with fail
 refine CP.out.mono ?_;rintro e w1 ⟨rfl, hb⟩
 go_wp2_with fail
 go_ret;obtain ⟨T1, T2⟩ := TN.out w1 hb;exact ⟨_, _, _, rfl, T1, T2⟩
theorem kK {w : World} {e : TypeId} {v : Value} {n : Nat} {xs : List Value} (h : w.ownsRow 0 e 1 v n xs) :
 (v = .slice none 0 0 /\ n = 0 /\ xs = []) \/
 ∃ g cap cur, v = .slice (some ⟨g, 0, none⟩) n cap /\ v.ownBlock = some g /\ w.heap[g]? = some (.cells cur e (0, 0)) /\ n <= cap /\ cap <= maxLen /\ cur.size = cap /\ cur.toList.take n = xs /\ xs.length = n /\ g < w.heap.size := by
 obtain ⟨h1, h2⟩ := h;rw [Nat.mul_one] at h1
 rcases h2 with ⟨rfl, rfl⟩ | ⟨g, cap, cur, rfl, _, hg, a, b, c, d⟩
 · exact .inl ⟨rfl, rfl, List.length_eq_zero_iff.1 h1⟩
 · rw [Nat.mul_one] at c d
   exact .inr ⟨g, cap, cur, rfl, rfl, hg, a, b, c, d, h1, lt_of_block hg⟩
theorem qD {w : World} {e : TypeId} {g cap n : Nat} {cur : Array Value} {xs : List Value} (hg : w.heap[g]? = some (.cells cur e (0, 0))) (hn : n <= cap) (hm : cap <= maxLen) (hs : cur.size = cap) (ht : cur.toList.take n = xs) :
 w.ownsRow 0 e 1 (.slice (some ⟨g, 0, none⟩) n cap) n xs := by
 refine ⟨?_, .inr ⟨g, cap, cur, rfl, Nat.zero_le _, hg, hn, hm, by rw [Nat.mul_one]; exact hs, by rw [Nat.mul_one]; exact ht⟩⟩;rw [<- ht, List.length_take, Array.length_toList, Nat.mul_one]; omega
theorem cY (b : Nat) : ∀ (vs : List Value) (o : Nat) (w : World), aG (· = b) w (w.setCells b o vs)
 | [], _, w => aG.refl _ w
 | v :: r, o, w => ((aG.refl (fun i => i = b) w).setCell (p := ⟨b, o, none⟩) (Or.inl rfl) v).trans (cY b r (o + 1) _) (fun _ h _ => h)
def mI (w w' : World) (E : TypeId) (v : Value) (xs : List Value) (e : Ending) : Prop :=
 ∃ v', e = .returned v' /\ w'.ownsRow 0 E 1 v' xs.length xs /\ w.grownBy w' v.ownBlock /\ (v'.ownBlock = v.ownBlock \/ ∃ b, v'.ownBlock = some b /\ w.heap.size <= b)
theorem tA {w : World} {e : TypeId} {g cap n i : Nat} {cur : Array Value} {xs : List Value} {x : Value} (hg : w.heap[g]? = some (.cells cur e (0, 0))) (hs : cur.size = cap) (ht : cur.toList.take n = xs)
 (hx : xs.length = n) (hi : i < n) (hr : n + 1 <= cap) (hm : cap <= maxLen) (e' : Ending) (he : e' = .returned (.slice (some ⟨g, 0, none⟩) (n + 1) cap)) :
 mI w ((w.drew.setCells g (i + 1) (xs.drop i)).setCells g i [x]) e (.slice (some ⟨g, 0, none⟩) n cap) (xs.take i ++ x :: xs.drop i) e' := by
 obtain ⟨c1, h1, t1⟩ := cG g e (xs.drop i) (i + 1) w.drew cur hg (by rw [List.length_drop]; omega)
 have s1 : c1.size = cap := by
  rw [<- Array.length_toList, t1]; simp [List.length_take]; omega
 obtain ⟨c2, h2, t2⟩ := cG g e [x] i _ c1 h1 (by simp; omega)
 have s2 : c2.size = cap := by
  rw [<- Array.length_toList, t2]; simp [List.length_take]; omega
 have hl : (xs.take i ++ x :: xs.drop i).length = n + 1 := by simp [List.length_take]; omega
 refine ⟨_, he, ?_, dD (S := (· = g)) (((aG.refl (· = g) w).drew.trans (cY g _ _ _) (fun _ h _ => h)).trans (cY g _ _ _) (fun _ h _ => h)) (fun k hk => by subst hk; rfl), Or.inl rfl⟩;rw [hl];refine qD h2 hr hm s2 ?_;rw [t2, t1]
 have e1 : (cur.toList.take (i + 1) ++ xs.drop i ++ cur.toList.drop (i + 1 + (xs.drop i).length)).take i = xs.take i := by
  rw [List.append_assoc, List.take_append_of_le_length (by rw [List.length_take, Array.length_toList]; omega), List.take_take, <- ht, List.take_take]
  congr 1; omega
 have e2 : (cur.toList.take (i + 1) ++ xs.drop i ++ cur.toList.drop (i + 1 + (xs.drop i).length)).drop (i + [x].length) = xs.drop i ++ cur.toList.drop (n + 1) := by
  rw [List.append_assoc, List.drop_append_of_le_length (by rw [List.length_take, Array.length_toList]; simp; omega), List.drop_take];have : i + 1 + (xs.drop i).length = n + 1 := by rw [List.length_drop]; omega
  rw [this]; simp
 rw [e1, e2];have e3 : xs.take i ++ [x] ++ (xs.drop i ++ cur.toList.drop (n + 1)) = (xs.take i ++ x :: xs.drop i) ++ cur.toList.drop (n + 1) := by simp
 rw [e3, <- hl, List.take_append_of_le_length (Nat.le_refl _), List.take_length]
theorem vP {w : World} {e : TypeId} {g cap n : Nat} {cur : Array Value} {xs : List Value} {x : Value} (hg : w.heap[g]? = some (.cells cur e (0, 0))) (hs : cur.size = cap) (ht : cur.toList.take n = xs)
 (hx : xs.length = n) (hr : n + 1 <= cap) (hm : cap <= maxLen) (e' : Ending) (he : e' = .returned (.slice (some ⟨g, 0, none⟩) (n + 1) cap)) :
 mI w (w.setCells g n [x]) e (.slice (some ⟨g, 0, none⟩) n cap) (xs.take n ++ x :: xs.drop n) e' := by
 obtain ⟨c2, h2, t2⟩ := cG g e [x] n w cur hg (by simp; omega)
 have s2 : c2.size = cap := by
  rw [<- Array.length_toList, t2]; simp [List.length_take]; omega
 have hl : (xs.take n ++ x :: xs.drop n).length = n + 1 := by simp [List.length_take]; omega
 refine ⟨_, he, ?_, dD (S := (· = g)) (cY g _ _ _) (fun k hk => by subst hk; rfl), Or.inl rfl⟩;rw [hl];refine qD h2 hr hm s2 ?_;rw [t2, ht, List.take_of_length_le (by omega : xs.length <= n), List.drop_of_length_le (by omega : xs.length <= n), List.take_append_of_le_length (by simp; omega), List.take_of_length_le (by simp; omega)]
theorem pR {w w' : World} {e : TypeId} {G n i : Nat} {v : Value} {ROW : Array Value} {xs : List Value} {x : Value} (hx : xs.length = n) (hi : i <= n) (hG : n + 1 <= G) (hm : G <= maxLen)
 (hw : aG (fun _ => False) w w') (hrow : w'.heap[w.heap.size]? = some (.cells ROW e (0, 0))) (hs : ROW.size = G) (ht : ROW.toList.take (n + 1) = xs.take i ++ x :: xs.drop i) (e' : Ending) (he : e' = .returned (.slice (some ⟨w.heap.size, 0, none⟩) (n + 1) G)) :
 mI w w' e v (xs.take i ++ x :: xs.drop i) e' := by
 have hl : (xs.take i ++ x :: xs.drop i).length = n + 1 := by simp [List.length_take]; omega
 refine ⟨_, he, ?_, dD hw (fun _ h => h.elim), Or.inr ⟨_, rfl, Nat.le_refl _⟩⟩;rw [hl];exact qD hrow hG hm hs ht
theorem pS {w : World} {e : TypeId} {G n : Nat} {v : Value} {Z : Array Value} {xs : List Value} {x : Value} (hx : xs.length = n) (hG : n + 1 <= G) (hm : G <= maxLen) (hZ : Z.size = G - (n + 1))
 (e' : Ending) (he : e' = .returned (.slice (some ⟨w.heap.size, 0, none⟩) (n + 1) G)) :
 mI w (w.drew.alloc (.cells ((xs ++ [x]).toArray ++ Z) e)) e v (xs.take n ++ x :: xs.drop n) e' := by
 refine pR (i := n) (ROW := (xs ++ [x]).toArray ++ Z) hx (Nat.le_refl _) hG hm ((aG.refl _ w).drew.alloc _) (heap_alloc_new w.drew _) (by simp; omega) ?_ e' he;rw [Array.toList_append, List.take_append_of_le_length (by simp; omega), List.take_of_length_le (by simp; omega), List.take_of_length_le (by omega : xs.length <= n), List.drop_of_length_le (by omega : xs.length <= n)]
theorem vQ {w : World} {e : TypeId} {G n i : Nat} {v : Value} {Y Z : Array Value} {xs : List Value} {x : Value} (hx : xs.length = n) (hi : i < n) (hG : n + 1 <= G) (hm : G <= maxLen) (hY : Y.size = n + 1 - i) (hZ : Z.size = G - (n + 1))
 (e' : Ending) (he : e' = .returned (.slice (some ⟨w.heap.size, 0, none⟩) (n + 1) G)) :
 mI w ((((w.alloc (.cells ((xs.take i).toArray ++ Y ++ Z) e)).drew.setCells w.heap.size i [x]).drew).setCells w.heap.size (i + 1) (xs.drop i)) e v (xs.take i ++ x :: xs.drop i) e' := by
 have hti : (xs.take i).length = i := by rw [List.length_take]; omega
 have h0 : ((w.alloc (.cells ((xs.take i).toArray ++ Y ++ Z) e)).drew).heap[w.heap.size]? = some (.cells ((xs.take i).toArray ++ Y ++ Z) e (0, 0)) := heap_alloc_new w _;have s0 : ((xs.take i).toArray ++ Y ++ Z).size = G := by simp [List.length_take]; omega
 obtain ⟨c1, h1, t1⟩ := cG w.heap.size e [x] i _ _ h0 (by rw [s0]; simp; omega)
 have s1 : c1.size = G := by
  rw [<- Array.length_toList, t1]; simp [List.length_take]; omega
 obtain ⟨c2, h2, t2⟩ := cG w.heap.size e (xs.drop i) (i + 1) (((w.alloc (.cells ((xs.take i).toArray ++ Y ++ Z) e)).drew.setCells w.heap.size i [x]).drew) c1 h1 (by rw [s1, List.length_drop]; omega)
 have s2 : c2.size = G := by
  rw [<- Array.length_toList, t2]; simp [List.length_take]; omega
 have k0 : aG (fun k => k = w.heap.size) w ((((w.alloc (.cells ((xs.take i).toArray ++ Y ++ Z) e)).drew.setCells w.heap.size i [x]).drew).setCells w.heap.size (i + 1) (xs.drop i)) :=
  ((((aG.refl (fun k => k = w.heap.size) w).alloc _).drew.trans (cY w.heap.size _ _ _) (fun _ h _ => h)).drew).trans (cY w.heap.size _ _ _) (fun _ h _ => h)
 refine pR (ROW := c2) hx (Nat.le_of_lt hi) hG hm (k0.mono (fun k hk hl => by omega)) h2 s2 ?_ e' he;rw [t2, t1]
 have e1 : ((((xs.take i).toArray ++ Y ++ Z).toList.take i ++ [x] ++ ((xs.take i).toArray ++ Y ++ Z).toList.drop (i + [x].length))).take (i + 1) = xs.take i ++ [x] := by
  have e0 : ((xs.take i).toArray ++ Y ++ Z).toList.take i = xs.take i := by
   rw [Array.toList_append, Array.toList_append, List.append_assoc, List.take_append_of_le_length (by simp [List.length_take]; omega)];exact List.take_of_length_le (by simp [List.length_take]; omega)
  rw [e0, List.take_append_of_le_length (by simp [List.length_take]; omega), List.take_of_length_le (by simp [List.length_take]; omega)]
 have hl : (xs.take i ++ x :: xs.drop i).length = n + 1 := by simp [List.length_take]; omega
 rw [e1];have e3 : ∀ R : List Value, xs.take i ++ [x] ++ xs.drop i ++ R = (xs.take i ++ x :: xs.drop i) ++ R := fun R => by simp
 rw [e3, <- hl, List.take_append_of_le_length (Nat.le_refl _), List.take_length]
def wL (w w' : World) (E : TypeId) (v : Value) (xs : List Value) (e : Ending) : Prop :=
 ∃ v', e = .returned v' /\ w'.ownsRow 0 E 1 v' xs.length xs /\ w.grownBy w' v.ownBlock /\ v'.ownBlock = v.ownBlock
theorem Hj {w : World} {e : TypeId} {g cap n i : Nat} {cur : Array Value} {xs : List Value} {z : Value} (hg : w.heap[g]? = some (.cells cur e (0, 0))) (hs : cur.size = cap) (ht : cur.toList.take n = xs)
 (hx : xs.length = n) (hi : i < n) (hn : n <= cap) (hm : cap <= maxLen) (e' : Ending) (he : e' = .returned (.slice (some ⟨g, 0, none⟩) (n - 1) cap)) :
 wL w ((w.drew.setCells g i (xs.drop (i + 1))).setCells g (n - 1) [z]) e (.slice (some ⟨g, 0, none⟩) n cap) (xs.eraseIdx i) e' := by
 obtain ⟨c1, h1, t1⟩ := cG g e (xs.drop (i + 1)) i w.drew cur hg (by rw [List.length_drop]; omega)
 have s1 : c1.size = cap := by
  rw [<- Array.length_toList, t1]; simp [List.length_take]; omega
 obtain ⟨c2, h2, t2⟩ := cG g e [z] (n - 1) _ c1 h1 (by simp; omega)
 have s2 : c2.size = cap := by
  rw [<- Array.length_toList, t2]; simp [List.length_take]; omega
 have hl : (xs.eraseIdx i).length = n - 1 := by rw [List.length_eraseIdx, if_pos (by omega), hx]
 refine ⟨_, he, ?_, dD (S := (· = g)) (((aG.refl (· = g) w).drew.trans (cY g _ _ _) (fun _ h _ => h)).trans (cY g _ _ _) (fun _ h _ => h)) (fun k hk => by subst hk; rfl), rfl⟩;rw [hl];refine qD h2 (by omega) hm s2 ?_
 have hte : cur.toList.take i = xs.take i := by
  rw [<- ht, List.take_take]; congr 1; omega
 have hti : (xs.take i).length = i := by rw [List.length_take]; omega
 rw [t2, t1, hte, List.eraseIdx_eq_take_drop_succ];have hb : (xs.take i ++ xs.drop (i + 1)).length = n - 1 := by rw [List.length_append, hti, List.length_drop]; omega
 rw [List.append_assoc, List.take_append_of_le_length (by simp [List.length_take]; omega), List.take_take, Nat.min_self, <- hb, List.take_append_of_le_length (Nat.le_refl _), List.take_length]
section
variable {K : Type} {less : K -> K -> Bool}
variable [DecidableEq K]
end
end
end Go.Proofs.YtapcjnoaofmmiaaGreatDoor
