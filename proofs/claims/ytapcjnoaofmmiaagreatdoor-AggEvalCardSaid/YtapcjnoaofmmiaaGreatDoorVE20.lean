/-
 No statement: what AggEvalCard needs, of the texts OTake, QSup, QIns.
-/
import Derived.Test.YtapcjnoaofmmiaaGreatDoorVE19
import Derived.Deep.DeepCutAuto
import Derived.Deep.CutBlock
namespace Go.Proofs.YtapcjnoaofmmiaaGreatDoor
section
open Go.RowKit
theorem two {W : World} {B : Nat} {x0 x1 : Value} {t : TypeId} (h : W.heap[B]? = some (.cells #[x0, x1] t (0, 0))) :
 (W.cell? ⟨B, 0, none⟩ = some x0 /\ W.cell? ⟨B, 1, none⟩ = some x1) /\ W.frozen? ⟨B, 0, none⟩ = false /\ W.frozen? ⟨B, 1, none⟩ = false := by
 refine ⟨⟨?_, ?_⟩, ?_, ?_⟩ <;> simp [World.cell?, World.frozen?, h]
theorem gR {W : World} {B : Nat} {x0 x1 : Value} {t : TypeId} (h : W.heap[B]? = some (.cells #[x0, x1] t (0, 0))) (v0 v1 : Value) :
 ((W.setCell ⟨B, 0, none⟩ v0).setCell ⟨B, 1, none⟩ v1).heap[B]? = some (.cells #[v0, v1] t (0, 0)) := by
 have h0 := heap_setCell_same W B 0 _ t v0 h;have g0 : (W.setCell ⟨B, 0, none⟩ v0).heap[B]? = some (.cells #[v0, x1] t (0, 0)) := by simpa using h0
 have h1 := heap_setCell_same _ B 1 _ t v1 g0;simpa using h1
theorem yS {W : World} {B : Nat} {x0 x1 : Value} {t : TypeId} (h : W.heap[B]? = some (.cells #[x0, x1] t (0, 0))) (v : Value) : (W.setCell ⟨B, 0, none⟩ v).heap[B]? = some (.cells #[v, x1] t (0, 0)) := by
 have h0 := heap_setCell_same W B 0 _ t v h;simpa using h0
theorem yR {W : World} {B : Nat} {x0 x1 : Value} {t : TypeId} (h : W.heap[B]? = some (.cells #[x0, x1] t (0, 0))) (v : Value) : (W.setCell ⟨B, 1, none⟩ v).heap[B]? = some (.cells #[x0, v] t (0, 0)) := by
 have h0 := heap_setCell_same W B 1 _ t v h;simpa using h0
abbrev aL (u v : Int) : Obj := .cells #[.int .i64 u, .int .i64 v] 131
abbrev jU (q : Int × Int) : Value := .agg #[.int .i64 q.1, .int .i64 q.2]
def AW : Bool -> Int -> Option Int -> Option (Int × Int)
 | true, _, none => none
 | true, e, some b => some (e, b)
 | false, e, _ => some (e, 0)
def Iu : Bool -> Bool -> Bool -> Option Int -> Option Int -> Option (Int × Int)
 | false, _, _, _, _ => none
 | true, true, _, none, _ => none
 | true, true, bb, some e, vb => AW bb e vb
 | true, false, bb, _, vb => AW bb 0 vb
def jC (x : AG) (g : ByteArray -> Option Int) : Option (Int × Int) := Iu (bB g x.wh) (eP x.fn.data.toList) (bP x.fn.data.toList) (evT g x.e) (evT g x.g)
def KR (q : Option (Int × Int)) (u v : Int) : Prop := ∀ z, q = some z -> z = (u, v)
theorem mZ (u v : Int) : KR none u v := fun z h => by cases h
theorem uU (u v : Int) : KR (some (u, v)) u v := fun _ h => (Option.some.inj h).symm
structure TKW (w : World) (x : AG) (p : PA) (V : World) : Prop where
 k : KP9 (fun b => b < w.heap.size) w x p V
 t : V.heap[w.heap.size + 1]? = some (ptO (kP x.fn.data.toList) (eP x.fn.data.toList) (bP x.fn.data.toList))
 o : V.heap[w.heap.size + 2]? = some (aL 0 0)
theorem TKW.step {w : World} {x : AG} {p : PA} {V V' : World} (h : TKW w x p V) (hb : Below V.heap.size V V') : TKW w x p V' :=
 ⟨h.k.step hb, (hb.block _ (aC h.t)).trans h.t, (hb.block _ (aC h.o)).trans h.o⟩
theorem TKW.set {w : World} {x : AG} {p : PA} {V : World} (h : TKW w x p V) {D : Nat} (hD : w.heap.size + 3 <= D) (i : Nat) (v : Value) : TKW w x p (V.setCell ⟨D, i, none⟩ v) := by
 have hk := (aG.refl (· = D) V).setCell (p := ⟨D, i, none⟩) (.inl rfl) v;exact ⟨⟨h.k.b.trans (hk.below (B := w.heap.size) (fun b hb => by omega) h.k.z), Nat.le_trans h.k.z hk.size, hk.heap h.k.n (by omega), h.k.r.keptS hk (fun b hb hg => by omega)⟩, hk.heap h.t (by omega), hk.heap h.o (by omega)⟩
theorem TKW.put {w : World} {x : AG} {p : PA} {V : World} (h : TKW w x p V) (v0 v1 : Value) : Below w.heap.size w ((V.setCell ⟨w.heap.size + 2, 0, none⟩ v0).setCell ⟨w.heap.size + 2, 1, none⟩ v1) :=
 h.k.b.trans ((((aG.refl (· = w.heap.size + 2) V).setCell (p := ⟨w.heap.size + 2, 0, none⟩) (.inl rfl) v0).setCell (p := ⟨w.heap.size + 2, 1, none⟩) (.inl rfl) v1).below (B := w.heap.size) (fun b hb => by omega) h.k.z)
theorem Ir {w : World} {x : AG} {p : PA} (hr : aI (fun b => b < w.heap.size) w x p) : TKW w x p (((w.alloc (agP x p)).alloc (ptO (kP x.fn.data.toList) (eP x.fn.data.toList) (bP x.fn.data.toList))).alloc (aL 0 0)) := by
 have K := lR hr;have hs0 : (w.alloc (agP x p)).heap.size = w.heap.size + 1 := World.size_alloc _ _;generalize w.alloc (agP x p) = W0 at *;have B1 := (Below.refl W0.heap.size W0).alloc (Nat.le_refl _) (ptO (kP x.fn.data.toList) (eP x.fn.data.toList) (bP x.fn.data.toList));have N1 := heap_alloc_new W0 (ptO (kP x.fn.data.toList) (eP x.fn.data.toList) (bP x.fn.data.toList));have hs1 : (W0.alloc (ptO (kP x.fn.data.toList) (eP x.fn.data.toList) (bP x.fn.data.toList))).heap.size = W0.heap.size + 1 := World.size_alloc _ _;generalize W0.alloc (ptO (kP x.fn.data.toList) (eP x.fn.data.toList) (bP x.fn.data.toList)) = W1 at *;have B2 := (Below.refl W1.heap.size W1).alloc (Nat.le_refl _) (aL 0 0);have N2 := heap_alloc_new W1 (aL 0 0);rw [hs0] at N1;rw [hs1, hs0] at N2;exact ⟨(K.step B1).step B2, (B2.block _ (by omega)).trans N1, N2⟩
set_option maxHeartbeats 16000000 in
set_option maxRecDepth 100000 in
theorem Dx {A : Nat -> Wr.AD} {n : Nat} {g : ByteArray -> Option Int} (U : dU A n g) (x : AG) (p : PA) (y : Option Addr) (cy : Nat) (w : World) {G : Nat -> Prop} (hE : eP x.fn.data.toList = true -> OkE x.e) (hG : bP x.fn.data.toList = true -> OkE x.g)
 (hC : ∀ d ∈ x.wh, OkE d.a /\ OkE d.b) (hl : x.wh.length <= 1000) (hr : aI G w x p) (hy : Wr.ReadsA w y n A) :
 Calls Tryz.prog 108 #[agV x p, ptV x.fn.data.toList, .slice y n cy] w fun e w' => ∃ u v, e = .returned (.tuple #[.agg #[.int .i64 u, .int .i64 v], .bool (jC x g).isSome]) /\ KR (jC x g) u v /\ Below w.heap.size w w' := by
 have hr' : aI (fun b => b < w.heap.size) w x p := hr.imp (fun b hb _ => hb);have K0 := Ir hr';have HY := aA (fun V (hV : Below w.heap.size w V) => hy.kept hV);have EVE := aA (fun (he : eP x.fn.data.toList = true) V (rd : aH (fun b => b < w.heap.size) V p.ea x.e.ks) (ry : Wr.ReadsA V y n A) => nF U x.e (hE he).c (hE he).n (hE he).s (fun b => b < w.heap.size) V p.ea p.ec y cy rd ry);have EVG := aA (fun (he : bP x.fn.data.toList = true) V (rd : aH (fun b => b < w.heap.size) V p.ga x.g.ks) (ry : Wr.ReadsA V y n A) => nF U x.g (hG he).c (hG he).n (hG he).s (fun b => b < w.heap.size) V p.ga p.gc y cy rd ry);have HC := aA (fun d hd V a1 c1 a2 c2 (r1 : aH (fun b => b < w.heap.size) V a1 d.a.ks) (r2 : aH (fun b => b < w.heap.size) V a2 d.b.ks) (ry : Wr.ReadsA V y n A) => BC U d (hC d hd).1 (hC d hd).2 (fun b => b < w.heap.size) a1 c1 a2 c2 y cy V r1 r2 ry);unfold jC ptV;have DT := aA (fun V (h : TKW w x p V) => h.t);obtain ⟨kk, hkk⟩ : ∃ b, kP x.fn.data.toList = b := ⟨_, rfl⟩;obtain ⟨ee, hee⟩ : ∃ b, eP x.fn.data.toList = b := ⟨_, rfl⟩;obtain ⟨bb, hbb⟩ : ∃ b, bP x.fn.data.toList = b := ⟨_, rfl⟩;rw [hkk, hee, hbb] at DT K0;rw [hee] at EVE;rw [hbb] at EVG;rw [hkk, hee, hbb];obtain ⟨ve, hve⟩ : ∃ v, evT g x.e = v := ⟨_, rfl⟩;obtain ⟨vb, hvb⟩ : ∃ v, evT g x.g = v := ⟨_, rfl⟩;rw [hve] at EVE;rw [hvb] at EVG;rw [hve, hvb];obtain ⟨tk, htk⟩ : ∃ v, bB g x.wh = v := ⟨_, rfl⟩;rw [htk];obtain ⟨q, hq⟩ : ∃ q, Iu tk ee bb ve vb = q := ⟨_, rfl⟩;rw [hq];have HQ := aA hq;have T0 := aA (show bB g (x.wh.drop 0) = tk by rw [List.drop_zero]; exact htk)
 generalize hW : ((w.alloc (agP x p)).alloc (ptO kk ee bb)).alloc (aL 0 0) = W at K0;have HW := aA hW;have K1 := aA K0;clear hW K0 hr hr' hy hE hG hC hkk hee hbb hve hvb htk hq;obtain ⟨m0, m1, m2, m3, m4, m5, m6, m7, m8, m9, m10⟩ := aD K1.out.k.n
 go_enter Tryz.func108, Tryz.ntmps108
 go_upto_region 1 with fail
 rw [show ((w.alloc (.cells #[.string x.fn, .int .i64 x.k, .string x.e.op, .string x.e.nm, .int .i64 x.e.n, .slice p.ea x.e.ks.len p.ec, .string x.g.op, .string x.g.nm, .int .i64 x.g.n, .slice p.ga x.g.ks.len p.gc, .slice p.wa x.wh.length p.wc] 28)).alloc (.cells #[.bool kk, .bool ee, .bool bb] 102)).alloc (.cells #[.int .i64 0, .int .i64 0] 131) = W from HW.out]
 go_wp2_with fail
 clear m0 m1 m2 m3 m4 m5 m6 m7 m8 m9 m10
 go_loopw [9, 15] (fun v9 i wr => ∃ (k : Nat) (u : Value), v9 = u /\ i = .int .i64 k /\ k <= x.wh.length /\ Hid (bB g (x.wh.drop k) = tk) /\ Hid (TKW w x p wr)) (fun _ i _ => x.wh.length - (intOf i).toNat)
 case atStart => exact ⟨0, _, rfl, rfl, Nat.zero_le _, T0, K1⟩
 case round =>
  obtain ⟨k, u, rfl, rfl, hk, HT, HK⟩ := hrel;clear T0 K1
  by_cases hlt : k < x.wh.length
  · obtain ⟨d, hd⟩ : ∃ d, x.wh[k]? = some d := ⟨_, List.getElem?_eq_getElem hlt⟩
    have hne : ¬ x.wh = [] := fun e => by rw [e] at hlt; simp at hlt
    obtain ⟨b, off, hwa, -, hbl, hcc⟩ := HK.out.k.r.c.resolve_left hne;obtain ⟨a1, c1, a2, c2, ⟨p0, p1, p2, p3, p4, p5, p6, p7, p8⟩, r1, r2⟩ := hcc k d hd
    have hdr : x.wh.drop k = d :: x.wh.drop (k + 1) := by
     rw [List.drop_eq_getElem_cons hlt];have := List.getElem?_eq_getElem hlt;rw [this] at hd;rw [Option.some.inj hd]
    have HD := aA (show (vZ g d && bB g (x.wh.drop (k + 1))) = tk by rw [<- HT.out, hdr, Dw]);have BD := (Below.refl wr.heap.size wr).alloc (Nat.le_refl _) (cdX d a1 c1 a2 c2);have ND := heap_alloc_new wr (cdX d a1 c1 a2 c2);have K4 := aA (HK.out.step BD);have CC := aA (HC.out d (List.mem_of_getElem? hd) (wr.alloc (cdX d a1 c1 a2 c2)) a1 c1 a2 c2 (r1.kept BD) (r2.kept BD) (HY.out _ K4.out.k.b));obtain ⟨z, hz⟩ : ∃ z, vZ g d = z := ⟨_, rfl⟩;rw [hz] at CC HD;rw [hwa];have b1 : (k : Int) < (x.wh.length : Int) := by omega
    have b2 : (0 : Int) <= (k : Int) := by omega
    have b3 : ((k : Int)).toNat = k := by omega
    clear hne hcc hdr hd r1 r2 BD hz hwa HT HK
    go_upto_region 4 with fail
    rw [show wr.alloc (.cells #[.string d.op, .string d.a.op, .string d.a.nm, .int .i64 d.a.n, .slice a1 d.a.ks.len c1, .string d.b.op, .string d.b.nm, .int .i64 d.b.n, .slice a2 d.b.ks.len c2] 98) = wr.alloc (cdX d a1 c1 a2 c2) from rfl];generalize wr.alloc (cdX d a1 c1 a2 c2) = V1 at *;clear p0 p1 p2 p3 p4 p5 p6 p7 p8;obtain ⟨p0, p1, p2, p3, p4, p5, p6, p7, p8⟩ := kR ND;clear ND
    go_wp2_with fail
    refine CC.out.mono ?_;rintro e w5 ⟨rfl, hb5⟩;have K5 := aA (K4.out.step hb5);clear hb5 CC K4 p0 p1 p2 p3 p4 p5 p6 p7 p8;cases z with
    | true =>
      have HT2 := aA (show bB g (x.wh.drop (k + 1)) = tk from HD.out)
      go_wp2_with fail
      go_roundw
      case rel => exact ⟨k + 1, _, rfl, by go_num, by omega, HT2, K5⟩
      case measure => simp [intOf]; omega
    | false =>
      have HT2 := aA (show false = tk from HD.out);have TR := aA (show q = none by rw [<- HQ.out, <- HT2.out]; rfl);obtain ⟨⟨o0, o1⟩, g0, g1⟩ := two K5.out.o
      go_wp2_with fail
      obtain ⟨⟨d0, d1⟩, -⟩ := two (gR K5.out.o (.int .i64 0) (.int .i64 0));have P := K5.out.put (.int .i64 0) (.int .i64 0);have E := TR.out;subst E;exact bodyPost_ret (v := .tuple #[.agg #[.int .i64 0, .int .i64 0], .bool false]) (by simp [results, Tryz.results108, go_sem, d0, d1]) rfl ⟨0, 0, rfl, mZ _ _, P⟩
  · have HT2 := aA (show tk = true by rw [<- HT.out, List.drop_of_length_le (by omega)]; rfl)
    have b1 : ¬ (k : Int) < (x.wh.length : Int) := by omega
    have b2 : decide (k < x.wh.length) = false := decide_eq_false hlt;have HQ2 := aA (show Iu true ee bb ve vb = q by rw [<- HT2.out]; exact HQ.out);have BA := (Below.refl wr.heap.size wr).alloc (Nat.le_refl _) (aL 0 0);have NA := heap_alloc_new wr (aL 0 0);have K2 := aA (HK.out.step BA);have hD := aC HK.out.o;clear HT HK BA HQ HT2
    go_upto_region 8 with fail
    rw [show wr.alloc (.cells #[.int .i64 0, .int .i64 0] 131) = wr.alloc (aL 0 0) from rfl];generalize wr.alloc (aL 0 0) = V at *;generalize wr.heap.size = D at *;have hD3 : w.heap.size + 3 <= D := by omega
    have Q2 := aA NA;clear NA;obtain ⟨⟨y0, y1, y2⟩, -⟩ := cS (DT.out _ K2.out);obtain ⟨m0, m1, m2, m3, m4, m5, m6, m7, m8, m9, m10⟩ := aD K2.out.k.n;obtain ⟨⟨s0, s1⟩, f0, f1⟩ := two Q2.out
    go_upto_if 26 with fail
    go_cut [11] (fun v11 wc => ∃ (u : Int) (z : Bool), v11 = .bool z /\ Hid (TKW w x p wc) /\ Hid (wc.heap[D]? = some (aL u 0)) /\ Hid ((z = true -> AW bb u vb = q) /\ (z = false -> q = none)))
    case first =>
     cases ee with
     | false =>
       have TS := aA (show AW bb 0 vb = q from HQ2.out)
       go_wp2_with fail
       go_meet
       case rel => exact ⟨0, true, rfl, K2, Q2, aA ⟨fun _ => TS.out, fun h => by cases h⟩⟩
     | true =>
       have CE := aA (EVE.out (by first | rfl | trivial) V K2.out.k.r.e (HY.out _ K2.out.k.b))
       go_wp2_with fail
       refine CE.out.mono ?_;rintro e w6 ⟨rfl, hb6⟩;have K6 := aA (K2.out.step hb6);have Q6 := aA ((hb6.block _ (aC Q2.out)).trans Q2.out);clear hb6 CE m0 m1 m2 m3 m4 m5 m6 m7 m8 m9 m10 y0 y1 y2 s0 s1 f0 f1;obtain ⟨⟨s0, s1⟩, f0, f1⟩ := two Q6.out;cases ve with
       | none =>
         have TS := aA (show none = q from HQ2.out);have K7 := aA (K6.out.set hD3 0 (.int .i64 0));have Q7 := aA (yS Q6.out (.int .i64 0))
         go_wp2_with fail
         go_meet
         case rel => exact ⟨0, false, rfl, K7, Q7, aA ⟨fun h => (by cases h), fun _ => TS.out.symm⟩⟩
       | some e1 =>
         have TS := aA (show AW bb e1 vb = q from HQ2.out);have K7 := aA (K6.out.set hD3 0 (.int .i64 e1));have Q7 := aA (yS Q6.out (.int .i64 e1))
         go_wp2_with fail
         go_meet
         case rel => exact ⟨e1, true, rfl, K7, Q7, aA ⟨fun _ => TS.out, fun h => by cases h⟩⟩
    case rest =>
     obtain ⟨u, z, rfl, K3, Q3, HS⟩ := hcut;clear K2 Q2 HQ2 m0 m1 m2 m3 m4 m5 m6 m7 m8 m9 m10 y0 y1 y2 s0 s1 f0 f1;obtain ⟨⟨y0, y1, y2⟩, -⟩ := cS (DT.out _ K3.out);obtain ⟨m0, m1, m2, m3, m4, m5, m6, m7, m8, m9, m10⟩ := aD K3.out.k.n;cases z with
     | false =>
       have HS2 := aA (show q = none from HS.out.2 rfl);cases bb with
       | false =>
         have TR := aA (show none = q from HS2.out.symm);obtain ⟨⟨o0, o1⟩, g0, g1⟩ := two K3.out.o;obtain ⟨⟨s0, s1⟩, f0, f1⟩ := two Q3.out
         go_wp2_with fail
         obtain ⟨⟨d0, d1⟩, -⟩ := two (gR K3.out.o (.int .i64 u) (.int .i64 0));have P := K3.out.put (.int .i64 u) (.int .i64 0);have E := TR.out;subst E;exact bodyPost_ret (v := .tuple #[.agg #[.int .i64 u, .int .i64 0], .bool false]) (by simp [results, Tryz.results108, go_sem, d0, d1]) rfl ⟨u, 0, rfl, mZ _ _, P⟩
       | true =>
         have TR := aA (show none = q from HS2.out.symm);obtain ⟨⟨o0, o1⟩, g0, g1⟩ := two K3.out.o;obtain ⟨⟨s0, s1⟩, f0, f1⟩ := two Q3.out
         go_wp2_with fail
         obtain ⟨⟨d0, d1⟩, -⟩ := two (gR K3.out.o (.int .i64 u) (.int .i64 0));have P := K3.out.put (.int .i64 u) (.int .i64 0);have E := TR.out;subst E;exact bodyPost_ret (v := .tuple #[.agg #[.int .i64 u, .int .i64 0], .bool false]) (by simp [results, Tryz.results108, go_sem, d0, d1]) rfl ⟨u, 0, rfl, mZ _ _, P⟩
     | true =>
       have HS2 := aA (show AW bb u vb = q from HS.out.1 rfl);cases bb with
       | false =>
         have HS3 := aA (show some (u, (0 : Int)) = q from HS2.out);have TR := aA (show some (u, (0 : Int)) = q from HS3.out);obtain ⟨⟨o0, o1⟩, g0, g1⟩ := two K3.out.o;obtain ⟨⟨s0, s1⟩, f0, f1⟩ := two Q3.out
         go_wp2_with fail
         obtain ⟨⟨d0, d1⟩, -⟩ := two (gR K3.out.o (.int .i64 u) (.int .i64 0));have P := K3.out.put (.int .i64 u) (.int .i64 0);have E := TR.out;subst E;exact bodyPost_ret (v := .tuple #[.agg #[.int .i64 u, .int .i64 0], .bool true]) (by simp [results, Tryz.results108, go_sem, d0, d1]) rfl ⟨u, 0, rfl, uU _ _, P⟩
       | true =>
         have CB := aA (EVG.out (by first | rfl | trivial) wc K3.out.k.r.g (HY.out _ K3.out.k.b))
         go_wp2_with fail
         refine CB.out.mono ?_;rintro e w8 ⟨rfl, hb8⟩;have K8 := aA (K3.out.step hb8);have Q8 := aA ((hb8.block _ (aC Q3.out)).trans Q3.out);clear hb8 CB m0 m1 m2 m3 m4 m5 m6 m7 m8 m9 m10 y0 y1 y2;obtain ⟨⟨s0, s1⟩, f0, f1⟩ := two Q8.out;cases vb with
         | none =>
           have HS3 := aA (show none = q from HS2.out);have K9 := aA (K8.out.set hD3 1 (.int .i64 0));have Q9 := aA (yR Q8.out (.int .i64 0))
           go_upto_region 13 with fail
           obtain ⟨Y, hY⟩ : ∃ Y, w8.setCell ⟨D, 1, none⟩ (.int .i64 0) = Y := ⟨_, rfl⟩;rw [hY] at K9 Q9 |-
           clear hY s0 s1 f0 f1;have TR := aA (show none = q from HS3.out);obtain ⟨⟨o0, o1⟩, g0, g1⟩ := two K9.out.o;obtain ⟨⟨s0, s1⟩, f0, f1⟩ := two Q9.out
           go_wp2_with fail
           obtain ⟨⟨d0, d1⟩, -⟩ := two (gR K9.out.o (.int .i64 u) (.int .i64 0));have P := K9.out.put (.int .i64 u) (.int .i64 0);have E := TR.out;subst E;exact bodyPost_ret (v := .tuple #[.agg #[.int .i64 u, .int .i64 0], .bool false]) (by simp [results, Tryz.results108, go_sem, d0, d1]) rfl ⟨u, 0, rfl, mZ _ _, P⟩
         | some b1 =>
           have HS3 := aA (show some (u, b1) = q from HS2.out);have K9 := aA (K8.out.set hD3 1 (.int .i64 b1));have Q9 := aA (yR Q8.out (.int .i64 b1))
           go_upto_region 13 with fail
           obtain ⟨Y, hY⟩ : ∃ Y, w8.setCell ⟨D, 1, none⟩ (.int .i64 b1) = Y := ⟨_, rfl⟩;rw [hY] at K9 Q9 |-
           clear hY s0 s1 f0 f1;have TR := aA (show some (u, b1) = q from HS3.out);obtain ⟨⟨o0, o1⟩, g0, g1⟩ := two K9.out.o;obtain ⟨⟨s0, s1⟩, f0, f1⟩ := two Q9.out
           go_wp2_with fail
           obtain ⟨⟨d0, d1⟩, -⟩ := two (gR K9.out.o (.int .i64 u) (.int .i64 b1));have P := K9.out.put (.int .i64 u) (.int .i64 b1);have E := TR.out;subst E;exact bodyPost_ret (v := .tuple #[.agg #[.int .i64 u, .int .i64 b1], .bool true]) (by simp [results, Tryz.results108, go_sem, d0, d1]) rfl ⟨u, b1, rfl, uU _ _, P⟩
theorem cV {w : World} {base : Nat} {e : TypeId} {size : Nat} {a : Option Addr} {n c j : Nat} {xs : List Value} {u : Value} (h : w.ownsRow base e size (.slice a n c) n xs) (hj : xs[j]? = some u) : ∃ g, a = some ⟨g, 0, none⟩ /\ w.cell? ⟨g, j, none⟩ = some u := by
 cases a with
 | none =>
   rcases h.2 with ⟨_, h2⟩ | ⟨g, cap, cur, h1, _⟩
   · have := h.1
     subst h2;rw [Nat.zero_mul] at this;rw [List.length_eq_zero_iff.1 this] at hj;cases hj
   · cases h1
 | some a =>
   obtain ⟨g, h1, h2⟩ := lM h hj;exact ⟨g, by rw [h1], h2⟩
theorem pF {w : World} {base : Nat} {e : TypeId} {a : Option Addr} {c n : Nat} {xs : List Value} (h : w.ownsRow base e 1 (.slice a n c) n xs) : n <= c /\ c <= maxLen := by
 rcases h.2 with ⟨h, _⟩ | ⟨g, cap, cur, h, _, _, h1, h2, _⟩
 · simp only [Value.slice.injEq] at h
   obtain ⟨_, rfl, rfl⟩ := h;exact ⟨Nat.le_refl _, Nat.zero_le _⟩
 · simp only [Value.slice.injEq] at h
   obtain ⟨_, _, rfl⟩ := h;exact ⟨h1, h2⟩
theorem nG (w : World) (B : Nat) (hB : B <= w.heap.size) : (w.alloc (.cells #[] 2)).ownsRow B 2 1 (.slice (some ⟨w.heap.size, 0, none⟩) 0 0) 0 [] :=
 ⟨rfl, .inr ⟨w.heap.size, 0, #[], rfl, hB, World.alloc_heap_new w _, Nat.le_refl _, Nat.zero_le _, rfl, rfl⟩⟩
theorem lW (w : World) (x : Value) : (w.alloc (.cells #[x] 2)).cell? ⟨w.heap.size, 0, none⟩ = some x := by
 unfold World.cell?;rw [heap_alloc_new]; rfl
theorem bW {W : World} {base : Nat} {e : TypeId} {size : Nat} {v : Value} {k : Nat} {xs : List Value} (h : W.ownsRow base e size v k xs) : ∃ a cap, v = .slice a k cap := by
 rcases h.2 with ⟨rfl, rfl⟩ | ⟨g, cap, _, rfl, _⟩
 · exact ⟨_, _, rfl⟩
 · exact ⟨_, _, rfl⟩
abbrev ivs (l : List Int) : List Value := l.map (fun n => Value.int .i64 n)
theorem Jv : (Tryz.prog.info? 2).map (fun i => (i.zero, i.size, i.bytes)) = some (some (.int .i64 0), 1, 8) := by kernel_rfl
theorem vN {t : TypeId} {z : Option Value} {s b : Nat} (h : (Tryz.prog.info? t).map (fun i => (i.zero, i.size, i.bytes)) = some (z, s, b)) : ∃ i, Tryz.prog.info? t = some i /\ i.zero = z /\ i.size = s /\ i.bytes = b := by
 cases hx : Tryz.prog.info? t with
 | none => rw [hx] at h; cases h
 | some i => rw [hx] at h; cases h; exact ⟨i, rfl, rfl, rfl, rfl⟩
set_option maxHeartbeats 16000000 in
set_option maxRecDepth 100000 in
theorem zY (B : Nat) (X : List Int) (n : Int) (a : Option Addr) (c : Nat) (w : World) (hO : w.ownsRow B 2 1 (.slice a X.length c) X.length (ivs X)) (hX : bQ lsL X) (hB : B <= w.heap.size) (hl : X.length <= 1000) :
 Calls Tryz.prog 71 #[.slice a X.length c, .int .i64 n] w fun e w' => Below w.heap.size w w' /\ ∃ a' c', e = .returned (.slice a' (dI lsL X n).length c') /\ w'.ownsRow B 2 1 (.slice a' (dI lsL X n).length c') (dI lsL X n).length (ivs (dI lsL X n)) := by
 obtain ⟨P, hP⟩ : ∃ P, pos lsL X n = P := ⟨_, rfl⟩;have hPl : P <= X.length := by rw [<- hP]; exact pY _ _
 have HP := aA hP;have und := Tryz.underlying51;obtain ⟨i, hi0, hz0, hz1, hz2⟩ := vN Jv;have OX := aA (fun U (h : Below w.heap.size w U) => aT hO h);have HX := aA hX;obtain ⟨R, hR⟩ : ∃ R, dI lsL X n = R := ⟨_, rfl⟩;rw [hR];have HR := aA hR;clear hP hX hR
 go_enter Tryz.func71, Tryz.ntmps71
 go_wp2_with fail
 go_loopw [5] (fun v wr => ∃ p : Nat, v = .int .i64 p /\ p <= P /\ wr = w) (fun v _ => P - (intOf v).toNat)
 case atStart => exact ⟨0, rfl, Nat.zero_le _, rfl⟩
 case round =>
  obtain ⟨p, rfl, hp, hw⟩ := hrel;have hw' := hw.symm;subst hw'
  by_cases hpP : p < P
  · have hpl : p < X.length := by omega
    obtain ⟨y, hy⟩ : ∃ y, X[p]? = some y := ⟨_, List.getElem?_eq_getElem hpl⟩
    have hls : y < n := by
     have := jI X n p y (by rw [HP.out]; exact hpP) hy;simpa [lsL] using this
    obtain ⟨g, rfl, yl⟩ := cV hO (show (ivs X)[p]? = some (.int .i64 y) by rw [List.getElem?_map, hy]; rfl);have d1 : (p : Int) < (X.length : Int) := by omega
    have d2 : (0 : Int) <= (p : Int) := by omega
    have d3 : ((p : Int)).toNat = p := by omega
    clear hy
    go_wp2_with fail
    go_roundw
    case rel => exact ⟨p + 1, by go_num, by omega, trivial⟩
    case measure => simp [intOf]; omega
  · obtain rfl : p = P := by omega
    by_cases hpl : p < X.length
    · obtain ⟨y, hy⟩ : ∃ y, X[p]? = some y := ⟨_, List.getElem?_eq_getElem hpl⟩
      have hls : ¬ y < n := by
       have := wV X n y (by rw [HP.out]; exact hy);simpa [lsL] using this
      obtain ⟨g, rfl, yl⟩ := cV hO (show (ivs X)[p]? = some (.int .i64 y) by rw [List.getElem?_map, hy]; rfl);have d1 : (p : Int) < (X.length : Int) := by omega
      have d2 : (0 : Int) <= (p : Int) := by omega
      have d3 : ((p : Int)).toNat = p := by omega
      by_cases hyn : y = n
      · have hh : has X n = true := by rw [gT, <- hyn]; exact List.mem_of_getElem? hy
        have e : dI lsL X n = X := by unfold dI; rw [if_pos hh]
        have hRX : R = X := by rw [<- HR.out, e]
        subst hRX;have q1 : (y == n) = true := by simpa using hyn
        clear hy
        go_wp2_with fail
        go_ret;exact ⟨Below.refl _ _, _, _, rfl, hO⟩
      · have HH := aA (show has X n = false from by rw [qH eO HX.out HP.out hy]; exact decide_eq_false hyn)
        have q1 : (y == n) = false := by simpa using hyn
        have hcy := (pF hO).1;have e0 : (0 : Int) <= (p : Int) := by omega
        have e1 : (p : Int) <= (c : Int) := by omega
        have e2 : (p : Int) <= (X.length : Int) := by omega
        clear hy;have HK := aA (show R = X.take p ++ n :: X.drop p by rw [<- HR.out]; unfold dI; rw [if_neg (by rw [HH.out]; decide), HP.out]; try rfl)
        have FR := aA (fun W' (h : Below w.heap.size w W') => show qS W' (.slice (some ⟨g, 0, none⟩) p c) p (ivs (X.take p)) from .inr ⟨⟨g, 0, none⟩, c, rfl, by rw [List.length_map, List.length_take]; omega, fun j u hj => by
         have TK : (ivs (X.take p)).length = p := by rw [List.length_map, List.length_take]; omega
         have hlj : j < p := by
          rcases Nat.lt_or_ge j p with h | h
          · exact h
          · rw [List.getElem?_eq_none (by rw [TK]; exact h)] at hj; cases hj
         have hj2 : (ivs X)[j]? = some u := by
          rw [<- hj, List.getElem?_map, List.getElem?_map, List.getElem?_take_of_lt hlj]
         obtain ⟨g3, h3, h4⟩ := cV (OX.out _ h) hj2;cases h3;rw [Addr.add_lit, Nat.zero_add]; exact h4⟩)
        have FR2 := aA (fun W' (h : Below w.heap.size w W') => show qS W' (.slice (some ⟨g, p, none⟩) (X.length - p) (c - p)) (X.length - p) (ivs (X.drop p)) from .inr ⟨⟨g, p, none⟩, c - p, rfl, by rw [List.length_map, List.length_drop], fun j u hj => by
         have hj2 : (ivs X)[p + j]? = some u := by
          rw [<- hj, List.getElem?_map, List.getElem?_map, List.getElem?_drop]
         obtain ⟨g3, h3, h4⟩ := cV (OX.out _ h) hj2;cases h3;rw [Addr.add_lit]; exact h4⟩)
        have OW := aA (show (w.alloc (.cells #[] 2)).ownsRow w.heap.size 2 1 (.slice (some ⟨w.heap.size, 0, none⟩) 0 0) 0 [] from nG w w.heap.size (Nat.le_refl _));have DB := aA ((Below.refl w.heap.size w).alloc (Nat.le_refl _) (.cells #[] 2));have ONE := aA (fun l : List Int => show ∀ v ∈ ivs l, v.oneCell' = true from fun v hv => by obtain ⟨_, _, rfl⟩ := List.mem_map.1 hv; rfl);have hn5 : 0 + p + 1 + (X.length - p) = R.length := by rw [HK.out]; simp <;> omega
        have HN5 := aA hn5;clear hn5 HH HP OX
        go_wp2_with (first
         | (at_builtin; refine aW rfl _ _ 51 rfl (base := w.heap.size) und hi0 hz0 hz1 hz2 rfl (.slice (some ⟨w.heap.size, 0, none⟩) 0 0) (.slice (some ⟨g, 0, none⟩) p c) 0 p [] (ivs (X.take p)) rfl rfl OW.out (FR.out _ DB.out) (ONE.out _) (by unfold maxLen; omega) (by omega) (by simp; try omega) ?_; intro v3 w3 ho hg _; have O3 := aA ho; have A3 := aA (DB.out.grown hg (by simp; try omega) (fun j e => by cases e; exact Nat.le_refl _)); clear ho hg)
         | (at_builtin; refine aW rfl _ _ 51 rfl (base := w.heap.size) und hi0 hz0 hz1 hz2 rfl _ (.slice (some ⟨w3.heap.size, 0, none⟩) 1 1) (0 + p) 1 ([] ++ ivs (X.take p)) [.int .i64 n] rfl rfl (O3.out.alloc _) (mI (lW _ _)) (ONE.out [n]) (by unfold maxLen; omega) (by omega) (by have := A3.out.size; simp; try omega) ?_; intro v4 w4 ho hg _; have O4 := aA ho; have A4 := aA ((A3.out.alloc A3.out.size (.cells #[.int .i64 n] 2)).grown hg (by have := A3.out.size; simp; try omega) (fun j e => by rcases O3.out.2 with ⟨h1, _⟩ | ⟨g, cap, cur, h1, h2, _⟩; (rw [h1] at e; cases e); (rw [h1] at e; cases e; exact h2))); clear ho hg)
         | (at_builtin; refine aW rfl _ _ 51 rfl (base := w.heap.size) und hi0 hz0 hz1 hz2 rfl _ (.slice (some ⟨g, p, none⟩) (X.length - p) (c - p)) (0 + p + 1) (X.length - p) _ (ivs (X.drop p)) rfl rfl O4.out (FR2.out _ A4.out) (ONE.out _) (by unfold maxLen; omega) (by omega) A4.out.size ?_; intro v5 w5 ho hg _; have O5 := aA ho; have A5 := aA (A4.out.grown hg A4.out.size (fun j e => by rcases O4.out.2 with ⟨h1, _⟩ | ⟨g, cap, cur, h1, h2, _⟩; (rw [h1] at e; cases e); (rw [h1] at e; cases e; exact h2))); clear ho hg)
         | fail)
        go_ret;obtain ⟨a5, c5, hv5⟩ := bW O5.out;subst hv5;have hxs : [] ++ ivs (X.take p) ++ [Value.int .i64 n] ++ ivs (X.drop p) = ivs R := by rw [HK.out]; simp
        have O6 := dK O5.out hB;have hl6 := HN5.out;rw [hxs, hl6] at O6;exact ⟨A5.out, a5, c5, by rw [hl6]; rfl, O6⟩
    · have HH := aA (show has X n = false from oO eO HX.out HP.out (by omega))
      have hpx : p = X.length := by omega
      have d1 : ¬ (p : Int) < (X.length : Int) := by omega
      cases a with
      | none =>
        obtain ⟨hx0, rfl⟩ : X = [] /\ c = 0 := by
         rcases hO.2 with ⟨h1, _⟩ | ⟨g', cap, cur, h1, _⟩
         · simp only [Value.slice.injEq] at h1
           exact ⟨List.length_eq_zero_iff.1 h1.2.1, h1.2.2⟩
         · cases h1
        subst hx0;obtain rfl : p = 0 := hpx;have HK := aA (show R = ([] : List Int).take 0 ++ n :: ([] : List Int).drop 0 by rw [<- HR.out]; unfold dI; rw [if_neg (by rw [HH.out]; decide), HP.out]; try rfl);have FR := aA (fun W' (h : Below w.heap.size w W') => show qS W' (.slice none 0 0) 0 (ivs (([] : List Int).take 0)) from .inl ⟨rfl, rfl, rfl⟩);have FR2 := aA (fun W' (h : Below w.heap.size w W') => show qS W' (.slice none 0 0) (([] : List Int).length - 0) (ivs (([] : List Int).drop 0)) from .inl ⟨rfl, rfl, rfl⟩);have OW := aA (show (w.alloc (.cells #[] 2)).ownsRow w.heap.size 2 1 (.slice (some ⟨w.heap.size, 0, none⟩) 0 0) 0 [] from nG w w.heap.size (Nat.le_refl _));have DB := aA ((Below.refl w.heap.size w).alloc (Nat.le_refl _) (.cells #[] 2));have ONE := aA (fun l : List Int => show ∀ v ∈ ivs l, v.oneCell' = true from fun v hv => by obtain ⟨_, _, rfl⟩ := List.mem_map.1 hv; rfl);have hn5 : 0 + 0 + 1 + (([] : List Int).length - 0) = R.length := by rw [HK.out]; simp <;> omega
        have HN5 := aA hn5;clear hn5 HH HP OX
        go_wp2_with (first
         | (at_builtin; refine aW rfl _ _ 51 rfl (base := w.heap.size) und hi0 hz0 hz1 hz2 rfl (.slice (some ⟨w.heap.size, 0, none⟩) 0 0) (.slice none 0 0) 0 0 [] (ivs (([] : List Int).take 0)) rfl rfl OW.out (FR.out _ DB.out) (ONE.out _) (by unfold maxLen; omega) (by omega) (by simp; try omega) ?_; intro v3 w3 ho hg _; have O3 := aA ho; have A3 := aA (DB.out.grown hg (by simp; try omega) (fun j e => by cases e; exact Nat.le_refl _)); clear ho hg)
         | (at_builtin; refine aW rfl _ _ 51 rfl (base := w.heap.size) und hi0 hz0 hz1 hz2 rfl _ (.slice (some ⟨w3.heap.size, 0, none⟩) 1 1) (0 + 0) 1 ([] ++ ivs (([] : List Int).take 0)) [.int .i64 n] rfl rfl (O3.out.alloc _) (mI (lW _ _)) (ONE.out [n]) (by unfold maxLen; omega) (by omega) (by have := A3.out.size; simp; try omega) ?_; intro v4 w4 ho hg _; have O4 := aA ho; have A4 := aA ((A3.out.alloc A3.out.size (.cells #[.int .i64 n] 2)).grown hg (by have := A3.out.size; simp; try omega) (fun j e => by rcases O3.out.2 with ⟨h1, _⟩ | ⟨g, cap, cur, h1, h2, _⟩; (rw [h1] at e; cases e); (rw [h1] at e; cases e; exact h2))); clear ho hg)
         | (at_builtin; refine aW rfl _ _ 51 rfl (base := w.heap.size) und hi0 hz0 hz1 hz2 rfl _ (.slice none 0 0) (0 + 0 + 1) (([] : List Int).length - 0) _ (ivs (([] : List Int).drop 0)) rfl rfl O4.out (FR2.out _ A4.out) (ONE.out _) (by unfold maxLen; omega) (by omega) A4.out.size ?_; intro v5 w5 ho hg _; have O5 := aA ho; have A5 := aA (A4.out.grown hg A4.out.size (fun j e => by rcases O4.out.2 with ⟨h1, _⟩ | ⟨g, cap, cur, h1, h2, _⟩; (rw [h1] at e; cases e); (rw [h1] at e; cases e; exact h2))); clear ho hg)
         | fail)
        go_ret;obtain ⟨a5, c5, hv5⟩ := bW O5.out;subst hv5;have hxs : [] ++ ivs (([] : List Int).take 0) ++ [Value.int .i64 n] ++ ivs (([] : List Int).drop 0) = ivs R := by rw [HK.out]; simp
        have O6 := dK O5.out hB;have hl6 := HN5.out;rw [hxs, hl6] at O6;exact ⟨A5.out, a5, c5, by rw [hl6]; rfl, O6⟩
      | some ga =>
        obtain ⟨g, hg⟩ : ∃ g, ga = ⟨g, 0, none⟩ := by
         rcases hO.2 with ⟨h1, _⟩ | ⟨g', cap, cur, h1, _⟩
         · cases h1
         · simp only [Value.slice.injEq, Option.some.injEq] at h1
           exact ⟨g', h1.1⟩
        subst hg;have hcy := (pF hO).1;have e0 : (0 : Int) <= (p : Int) := by omega
        have e1 : (p : Int) <= (c : Int) := by omega
        have e2 : (p : Int) <= (X.length : Int) := by omega
        by_cases hcp : p < c
        · have e3 : (p : Int) < (c : Int) := by omega
          have e4 : ¬ c - p = 0 := by omega
          clear hpx;have HK := aA (show R = X.take p ++ n :: X.drop p by rw [<- HR.out]; unfold dI; rw [if_neg (by rw [HH.out]; decide), HP.out]; try rfl)
          have FR := aA (fun W' (h : Below w.heap.size w W') => show qS W' (.slice (some ⟨g, 0, none⟩) p c) p (ivs (X.take p)) from .inr ⟨⟨g, 0, none⟩, c, rfl, by rw [List.length_map, List.length_take]; omega, fun j u hj => by
           have TK : (ivs (X.take p)).length = p := by rw [List.length_map, List.length_take]; omega
           have hlj : j < p := by
            rcases Nat.lt_or_ge j p with h | h
            · exact h
            · rw [List.getElem?_eq_none (by rw [TK]; exact h)] at hj; cases hj
           have hj2 : (ivs X)[j]? = some u := by
            rw [<- hj, List.getElem?_map, List.getElem?_map, List.getElem?_take_of_lt hlj]
           obtain ⟨g3, h3, h4⟩ := cV (OX.out _ h) hj2;cases h3;rw [Addr.add_lit, Nat.zero_add]; exact h4⟩)
          have FR2 := aA (fun W' (h : Below w.heap.size w W') => show qS W' (.slice (some ⟨g, p, none⟩) (X.length - p) (c - p)) (X.length - p) (ivs (X.drop p)) from .inr ⟨⟨g, p, none⟩, c - p, rfl, by rw [List.length_map, List.length_drop], fun j u hj => by
           have hj2 : (ivs X)[p + j]? = some u := by
            rw [<- hj, List.getElem?_map, List.getElem?_map, List.getElem?_drop]
           obtain ⟨g3, h3, h4⟩ := cV (OX.out _ h) hj2;cases h3;rw [Addr.add_lit]; exact h4⟩)
          have OW := aA (show (w.alloc (.cells #[] 2)).ownsRow w.heap.size 2 1 (.slice (some ⟨w.heap.size, 0, none⟩) 0 0) 0 [] from nG w w.heap.size (Nat.le_refl _));have DB := aA ((Below.refl w.heap.size w).alloc (Nat.le_refl _) (.cells #[] 2));have ONE := aA (fun l : List Int => show ∀ v ∈ ivs l, v.oneCell' = true from fun v hv => by obtain ⟨_, _, rfl⟩ := List.mem_map.1 hv; rfl);have hn5 : 0 + p + 1 + (X.length - p) = R.length := by rw [HK.out]; simp <;> omega
          have HN5 := aA hn5;clear hn5 HH HP OX
          go_wp2_with (first
           | (at_builtin; refine aW rfl _ _ 51 rfl (base := w.heap.size) und hi0 hz0 hz1 hz2 rfl (.slice (some ⟨w.heap.size, 0, none⟩) 0 0) (.slice (some ⟨g, 0, none⟩) p c) 0 p [] (ivs (X.take p)) rfl rfl OW.out (FR.out _ DB.out) (ONE.out _) (by unfold maxLen; omega) (by omega) (by simp; try omega) ?_; intro v3 w3 ho hg _; have O3 := aA ho; have A3 := aA (DB.out.grown hg (by simp; try omega) (fun j e => by cases e; exact Nat.le_refl _)); clear ho hg)
           | (at_builtin; refine aW rfl _ _ 51 rfl (base := w.heap.size) und hi0 hz0 hz1 hz2 rfl _ (.slice (some ⟨w3.heap.size, 0, none⟩) 1 1) (0 + p) 1 ([] ++ ivs (X.take p)) [.int .i64 n] rfl rfl (O3.out.alloc _) (mI (lW _ _)) (ONE.out [n]) (by unfold maxLen; omega) (by omega) (by have := A3.out.size; simp; try omega) ?_; intro v4 w4 ho hg _; have O4 := aA ho; have A4 := aA ((A3.out.alloc A3.out.size (.cells #[.int .i64 n] 2)).grown hg (by have := A3.out.size; simp; try omega) (fun j e => by rcases O3.out.2 with ⟨h1, _⟩ | ⟨g, cap, cur, h1, h2, _⟩; (rw [h1] at e; cases e); (rw [h1] at e; cases e; exact h2))); clear ho hg)
           | (at_builtin; refine aW rfl _ _ 51 rfl (base := w.heap.size) und hi0 hz0 hz1 hz2 rfl _ (.slice (some ⟨g, p, none⟩) (X.length - p) (c - p)) (0 + p + 1) (X.length - p) _ (ivs (X.drop p)) rfl rfl O4.out (FR2.out _ A4.out) (ONE.out _) (by unfold maxLen; omega) (by omega) A4.out.size ?_; intro v5 w5 ho hg _; have O5 := aA ho; have A5 := aA (A4.out.grown hg A4.out.size (fun j e => by rcases O4.out.2 with ⟨h1, _⟩ | ⟨g, cap, cur, h1, h2, _⟩; (rw [h1] at e; cases e); (rw [h1] at e; cases e; exact h2))); clear ho hg)
           | fail)
          go_ret;obtain ⟨a5, c5, hv5⟩ := bW O5.out;subst hv5;have hxs : [] ++ ivs (X.take p) ++ [Value.int .i64 n] ++ ivs (X.drop p) = ivs R := by rw [HK.out]; simp
          have O6 := dK O5.out hB;have hl6 := HN5.out;rw [hxs, hl6] at O6;exact ⟨A5.out, a5, c5, by rw [hl6]; rfl, O6⟩
        · obtain rfl : c = p := by omega
          have hmm : X.length - c = 0 := by omega
          clear hpx;have HK := aA (show R = X.take c ++ n :: X.drop c by rw [<- HR.out]; unfold dI; rw [if_neg (by rw [HH.out]; decide), HP.out]; try rfl)
          have FR := aA (fun W' (h : Below w.heap.size w W') => show qS W' (.slice (some ⟨g, 0, none⟩) c c) c (ivs (X.take c)) from .inr ⟨⟨g, 0, none⟩, c, rfl, by rw [List.length_map, List.length_take]; omega, fun j u hj => by
           have TK : (ivs (X.take c)).length = c := by rw [List.length_map, List.length_take]; omega
           have hlj : j < c := by
            rcases Nat.lt_or_ge j c with h | h
            · exact h
            · rw [List.getElem?_eq_none (by rw [TK]; exact h)] at hj; cases hj
           have hj2 : (ivs X)[j]? = some u := by
            rw [<- hj, List.getElem?_map, List.getElem?_map, List.getElem?_take_of_lt hlj]
           obtain ⟨g3, h3, h4⟩ := cV (OX.out _ h) hj2;cases h3;rw [Addr.add_lit, Nat.zero_add]; exact h4⟩)
          have FR2 := aA (fun W' (h : Below w.heap.size w W') => show qS W' (.slice (some ⟨g, 0, none⟩) 0 0) 0 (ivs (X.drop c)) from .inr ⟨⟨g, 0, none⟩, 0, rfl, by rw [List.length_map, List.length_drop]; omega, fun j u hj => by rw [List.getElem?_eq_none (by rw [List.length_map, List.length_drop]; omega)] at hj; cases hj⟩);have OW := aA (show (w.alloc (.cells #[] 2)).ownsRow w.heap.size 2 1 (.slice (some ⟨w.heap.size, 0, none⟩) 0 0) 0 [] from nG w w.heap.size (Nat.le_refl _));have DB := aA ((Below.refl w.heap.size w).alloc (Nat.le_refl _) (.cells #[] 2));have ONE := aA (fun l : List Int => show ∀ v ∈ ivs l, v.oneCell' = true from fun v hv => by obtain ⟨_, _, rfl⟩ := List.mem_map.1 hv; rfl);have hn5 : 0 + c + 1 + 0 = R.length := by rw [HK.out]; simp <;> omega
          have HN5 := aA hn5;clear hn5 HH HP OX
          go_wp2_with (first
           | (at_builtin; refine aW rfl _ _ 51 rfl (base := w.heap.size) und hi0 hz0 hz1 hz2 rfl (.slice (some ⟨w.heap.size, 0, none⟩) 0 0) (.slice (some ⟨g, 0, none⟩) c c) 0 c [] (ivs (X.take c)) rfl rfl OW.out (FR.out _ DB.out) (ONE.out _) (by unfold maxLen; omega) (by omega) (by simp; try omega) ?_; intro v3 w3 ho hg _; have O3 := aA ho; have A3 := aA (DB.out.grown hg (by simp; try omega) (fun j e => by cases e; exact Nat.le_refl _)); clear ho hg)
           | (at_builtin; refine aW rfl _ _ 51 rfl (base := w.heap.size) und hi0 hz0 hz1 hz2 rfl _ (.slice (some ⟨w3.heap.size, 0, none⟩) 1 1) (0 + c) 1 ([] ++ ivs (X.take c)) [.int .i64 n] rfl rfl (O3.out.alloc _) (mI (lW _ _)) (ONE.out [n]) (by unfold maxLen; omega) (by omega) (by have := A3.out.size; simp; try omega) ?_; intro v4 w4 ho hg _; have O4 := aA ho; have A4 := aA ((A3.out.alloc A3.out.size (.cells #[.int .i64 n] 2)).grown hg (by have := A3.out.size; simp; try omega) (fun j e => by rcases O3.out.2 with ⟨h1, _⟩ | ⟨g, cap, cur, h1, h2, _⟩; (rw [h1] at e; cases e); (rw [h1] at e; cases e; exact h2))); clear ho hg)
           | (at_builtin; refine aW rfl _ _ 51 rfl (base := w.heap.size) und hi0 hz0 hz1 hz2 rfl _ (.slice (some ⟨g, 0, none⟩) 0 0) (0 + c + 1) 0 _ (ivs (X.drop c)) rfl rfl O4.out (FR2.out _ A4.out) (ONE.out _) (by unfold maxLen; omega) (by omega) A4.out.size ?_; intro v5 w5 ho hg _; have O5 := aA ho; have A5 := aA (A4.out.grown hg A4.out.size (fun j e => by rcases O4.out.2 with ⟨h1, _⟩ | ⟨g, cap, cur, h1, h2, _⟩; (rw [h1] at e; cases e); (rw [h1] at e; cases e; exact h2))); clear ho hg)
           | fail)
          go_ret;obtain ⟨a5, c5, hv5⟩ := bW O5.out;subst hv5;have hxs : [] ++ ivs (X.take c) ++ [Value.int .i64 n] ++ ivs (X.drop c) = ivs R := by rw [HK.out]; simp
          have O6 := dK O5.out hB;have hl6 := HN5.out;rw [hxs, hl6] at O6;exact ⟨A5.out, a5, c5, by rw [hl6]; rfl, O6⟩
end
end Go.Proofs.YtapcjnoaofmmiaaGreatDoor
