/-
 No statement: what AggEvalCard needs, of the texts OKn2.
-/
import Derived.Test.YtapcjnoaofmmiaaGreatDoorVE28
namespace Go.Proofs.YtapcjnoaofmmiaaGreatDoor
section
open Go.RowKit
set_option maxHeartbeats 2000000 in
theorem oY (x y : Int) (w : World) : Calls Tryz.prog 27 #[.int .i64 x, .int .i64 y] w fun e w' => e = .returned (.slice (some ⟨w.heap.size, 0, none⟩) 2 2) /\ w' = w.alloc (o11 x y) := by
 go_enter Tryz.func27, Tryz.ntmps27
 go_wp2
 go_ret;exact ⟨rfl, rfl⟩
structure K11 (w : World) (x : AG) (n1 : Nat) (p1 : PA) (V : World) : Prop where
 b : Below w.heap.size w V
 l : mQ V
 z : w.heap.size <= V.heap.size
 n : V.heap[n1]? = some (agP x p1)
 r : aI (fun b => w.heap.size <= b) V x p1
theorem K11.step {w V V' : World} {x : AG} {n1 : Nat} {p1 : PA} (h : K11 w x n1 p1 V) (hb : Below V.heap.size V V') : K11 w x n1 p1 V' :=
 ⟨h.b.trans (hb.mono h.z), h.l.step hb, Nat.le_trans h.z hb.size, (hb.block _ (aC h.n)).trans h.n, h.r.kept hb⟩
theorem Jr {w w1 : World} {x : AG} {p : PA} (hl : mQ w) (hb : Below w.heap.size w w1) (hr : aI (fun b => w.heap.size <= b) w1 x p) : K11 w x w1.heap.size p (w1.alloc (agP x p)) := by
 have B := (Below.refl w1.heap.size w1).alloc (Nat.le_refl _) (agP x p);exact ⟨hb.trans (B.mono hb.size), (hl.step hb).step B, Nat.le_trans hb.size B.size, heap_alloc_new w1 _, hr.kept B⟩
structure L11 (x : AG) (n1 : Nat) (p1 : PA) (V : World) : Prop where
 n : V.heap[n1]? = some (agP x p1)
 r : aI (fun _ => True) V x p1
theorem L11.step {V V' : World} {x : AG} {n1 : Nat} {p1 : PA} (h : L11 x n1 p1 V) (hb : Below V.heap.size V V') : L11 x n1 p1 V' :=
 ⟨(hb.block _ (aC h.n)).trans h.n, h.r.kept hb⟩
structure S11 (w : World) (x y : AG) (p q : PA) (n1 n8 n10 n13 lb lo lc : Nat) (V : World) : Prop where
 k : K11 w x n1 p V
 y : L11 y n10 q V
 v : V.heap[n8]? = some (vlA 1 7 none 0 0)
 l : V.heap[n13]? = some (vlA 3 0 (some ⟨lb, lo, none⟩) 2 lc)
 lt : lb < V.heap.size
 c0 : V.cell? ⟨lb, lo, none⟩ = some (.int .i64 5)
 c1 : V.cell? ⟨lb, lo + 1, none⟩ = some (.int .i64 7)
theorem S11.step {w V V' : World} {x y : AG} {p q : PA} {n1 n8 n10 n13 lb lo lc : Nat} (h : S11 w x y p q n1 n8 n10 n13 lb lo lc V) (hb : Below V.heap.size V V') : S11 w x y p q n1 n8 n10 n13 lb lo lc V' :=
 ⟨h.k.step hb, h.y.step hb, (hb.block _ (aC h.v)).trans h.v, (hb.block _ (aC h.l)).trans h.l, Nat.lt_of_lt_of_le h.lt hb.size, (hb.cell (p := ⟨lb, lo, none⟩) h.lt).trans h.c0, (hb.cell (p := ⟨lb, lo + 1, none⟩) h.lt).trans h.c1⟩
abbrev zN (a : Nat) : Obj := .cells #[.slice (some ⟨a, 0, none⟩) 2 2, .slice (some ⟨a + 1, 0, none⟩) 2 2, .slice (some ⟨a + 2, 0, none⟩) 2 2, .slice (some ⟨a + 3, 0, none⟩) 2 2] 64
abbrev W11 (w : World) : World := (((w.alloc (o11 5 2)).alloc (o11 3 2)).alloc (o11 7 1)).alloc (o11 2 9)
theorem Kf (w : World) : aS ((W11 w).alloc (zN w.heap.size)) (some ⟨w.heap.size + 4, 0, none⟩) sK /\ Below w.heap.size w ((W11 w).alloc (zN w.heap.size)) := by
 have N0 := heap_alloc_new w (o11 5 2);have B0 := (Below.refl w.heap.size w).alloc (Nat.le_refl _) (o11 5 2);have s0 : (w.alloc (o11 5 2)).heap.size = w.heap.size + 1 := World.size_alloc _ _;unfold W11;generalize w.alloc (o11 5 2) = w1 at *;have N1 := heap_alloc_new w1 (o11 3 2);have B1 := (Below.refl w1.heap.size w1).alloc (Nat.le_refl _) (o11 3 2);have s1 : (w1.alloc (o11 3 2)).heap.size = w1.heap.size + 1 := World.size_alloc _ _;generalize w1.alloc (o11 3 2) = w2 at *;have N2 := heap_alloc_new w2 (o11 7 1);have B2 := (Below.refl w2.heap.size w2).alloc (Nat.le_refl _) (o11 7 1);have s2 : (w2.alloc (o11 7 1)).heap.size = w2.heap.size + 1 := World.size_alloc _ _;generalize w2.alloc (o11 7 1) = w3 at *;have N3 := heap_alloc_new w3 (o11 2 9);have B3 := (Below.refl w3.heap.size w3).alloc (Nat.le_refl _) (o11 2 9);have s3 : (w3.alloc (o11 2 9)).heap.size = w3.heap.size + 1 := World.size_alloc _ _;generalize w3.alloc (o11 2 9) = w4 at *;have N4 := heap_alloc_new w4 (zN w.heap.size);have B4 := (Below.refl w4.heap.size w4).alloc (Nat.le_refl _) (zN w.heap.size);have s4 : (w4.alloc (zN w.heap.size)).heap.size = w4.heap.size + 1 := World.size_alloc _ _;generalize w4.alloc (zN w.heap.size) = w5 at *;have C34 := B3.trans (B4.mono (by omega));have C24 := B2.trans (C34.mono (by omega));have C14 := B1.trans (C24.mono (by omega));have C04 := B0.trans (C14.mono (by omega));have M3 := (B4.block _ (by omega)).trans N3;have M2 := (C34.block _ (by omega)).trans N2;have M1 := (C24.block _ (by omega)).trans N1
 have M0 := (C14.block _ (by omega)).trans N0;rw [show w1.heap.size = w.heap.size + 1 by omega] at M1;rw [show w2.heap.size = w.heap.size + 2 by omega] at M2;rw [show w3.heap.size = w.heap.size + 3 by omega] at M3;rw [show w4.heap.size = w.heap.size + 4 by omega] at N4;refine ⟨.inr ⟨w.heap.size + 4, 0, rfl, aC N4, fun j r hj => ?_⟩, C04⟩;have hl := (List.getElem?_eq_some_iff.1 hj).1;have hl4 : j < 4 := hl;have : j = 0 \/ j = 1 \/ j = 2 \/ j = 3 := by omega
 rcases this with rfl | rfl | rfl | rfl <;> cases hj
 · exact ⟨_, 2, by simp [World.cell?, N4, r11], rK M0⟩
 · exact ⟨_, 2, by simp [World.cell?, N4, r11], rK M1⟩
 · exact ⟨_, 2, by simp [World.cell?, N4, r11], rK M2⟩
 · exact ⟨_, 2, by simp [World.cell?, N4, r11], rK M3⟩
set_option maxRecDepth 100000 in
set_option maxHeartbeats 16000000 in
theorem Aq (w : World) (hw : mQ w) : Calls Tryz.prog 8 #[] w fun e w' => e = .returned (.bool true) /\ Below w.heap.size w w' := by
 have A1 := fun (w : World) (hw : iJ w) => kC ⟨#[115, 117, 109, 40, 120, 41, 32, 119, 104, 101, 114, 101, 32, 121, 32, 62, 32, 49, 32, 97, 110, 100, 32, 120, 32, 33, 61, 32, 51]⟩ (by decide) w hw
 have A2 := fun (w : World) (hw : iJ w) => kC ⟨#[97, 118, 103, 40, 120, 41]⟩ (by decide) w hw
 have A3 := fun (w : World) (hw : iJ w) => kC ⟨#[116, 111, 112, 40, 50, 44, 32, 120, 41]⟩ (by decide) w hw
 rw [Kw] at A1;rw [Kv] at A2;rw [Ku] at A3;have E1 := fun (G : Nat -> Prop) (p : PA) (ya : Option Addr) (V : World) (hr : aI G V fM p) (hy : aS V ya sK) => Cz fM p sK ya 4 V kX kW C7 sJ (by decide) hr hy (by rfl)
 have E2 := fun (G : Nat -> Prop) (p : PA) (ya : Option Addr) (V : World) (hr : aI G V lT p) (hy : aS V ya sK) => Cy lT p sK ya 4 V Ar vM Js sJ (by decide) hr hy (by rfl)
 rw [Ke] at E1;rw [Kd] at E2;rw [show sK.length = 4 by rfl] at E1 E2;have TX := fun (G : Nat -> Prop) (p : PA) (V : World) (hl : j0 V) (hr : aI G V fM p) => wX fM p V kX kW hl hr
 rw [GY] at TX;have CK := fun (G : Nat -> Prop) (p : PA) (V : World) (hr : aI G V fM p) => dQ fM p V C7 (by decide) hr
 rw [kX] at CK;have SM := fun (G : Nat -> Prop) (p : PA) (V : World) (hr : aI G V fM p) => pD G G fM p fM p V kX kW kX kW hr hr
 rw [GZ] at SM;have SO := fun (G G' : Nat -> Prop) (p q : PA) (V : World) (hr : aI G V fM p) (hq : aI G' V lT q) => pD G G' fM p lT q V kX kW Ar vM hr hq
 rw [EA] at SO;obtain ⟨rs, hrs⟩ : ∃ r, sK = r := ⟨_, rfl⟩;have RW := aA (fun w => Kf w);rw [hrs] at E1 E2 RW;generalize fM = x at *;generalize lT = y at *;have A1' := aA A1;have A2' := aA A2;have A3' := aA A3;have E1' := aA E1;have E2' := aA E2;have TX' := aA TX;have CK' := aA CK;have SM' := aA SM;have SO' := aA SO;have LD := aA hw;clear A1 A2 A3 E1 E2 TX CK SM SO hw hrs
 go_enter Tryz.func8, Tryz.ntmps8
 go_wp2_with fail
 refine (A1'.out w LD.out.1).mono ?_;rintro e w1 ⟨hb1, p, rfl, hr1⟩;have S1 := Jr LD.out hb1 hr1;generalize hn1 : w1.heap.size = n1 at S1;generalize hV1 : w1.alloc (agP x p) = V1 at S1;have HS1 := aA S1;have HN1 := aA hn1;have HV1 := aA hV1;clear hb1 hr1 S1 hn1 hV1 A1'
 go_upto_region 2 with fail
 rw [show w1.alloc (.cells #[.string x.fn, .int .i64 x.k, .string x.e.op, .string x.e.nm, .int .i64 x.e.n, .slice p.ea x.e.ks.len p.ec, .string x.g.op, .string x.g.nm, .int .i64 x.g.n, .slice p.ga x.g.ks.len p.gc, .slice p.wa x.wh.length p.wc] 28) = V1 from HV1.out, HN1.out];clear HV1 HN1
 go_wp2_with fail
 refine (A2'.out V1 HS1.out.l.1).mono ?_;rintro e w2 ⟨hb2, rfl⟩;have S2 := (HS1.out.step hb2).step ((Below.refl w2.heap.size w2).alloc (Nat.le_refl _) (agP bN bJ));generalize hn2 : w2.heap.size = n2;generalize hV2 : w2.alloc (agP bN bJ) = V2 at S2;have HS2 := aA S2;have HN2 := aA hn2;have HV2 := aA hV2;clear hb2 S2 hn2 hV2 A2' HS1
 go_upto_region 3 with fail
 rw [show w2.alloc (.cells #[.string bN.fn, .int .i64 bN.k, .string bN.e.op, .string bN.e.nm, .int .i64 bN.e.n, .slice bJ.ea bN.e.ks.len bJ.ec, .string bN.g.op, .string bN.g.nm, .int .i64 bN.g.n, .slice bJ.ga bN.g.ks.len bJ.gc, .slice bJ.wa bN.wh.length bJ.wc] 28) = V2 from HV2.out];clear HV2
 go_wp2_with fail
 refine (oY _ _ _).mono ?_;rintro e _ ⟨rfl, rfl⟩
 go_wp2_with fail
 refine (oY _ _ _).mono ?_;rintro e _ ⟨rfl, rfl⟩
 go_wp2_with fail
 refine (oY _ _ _).mono ?_;rintro e _ ⟨rfl, rfl⟩
 go_wp2_with fail
 refine (oY _ _ _).mono ?_;rintro e _ ⟨rfl, rfl⟩;obtain ⟨hrr, hbb⟩ := RW.out V2;have S3 := HS2.out.step hbb;obtain ⟨rb, hrb⟩ : ∃ rb, V2.heap.size + 1 + 1 + 1 + 1 = rb := ⟨_, rfl⟩;have hrr2 : aS ((W11 V2).alloc (zN V2.heap.size)) (some ⟨rb, 0, none⟩) rs := by rw [<- hrb]; exact hrr
 generalize hV3 : (W11 V2).alloc (zN V2.heap.size) = V3 at S3 hrr2;have HS3 := aA S3;have HRR := aA hrr2;have HV3 := aA hV3;have HRB := aA hrb;clear hrr hbb S3 hrr2 hV3 hrb RW
 go_upto_region 4 with fail
 rw [show ((((V2.alloc (o11 5 2)).alloc (o11 3 2)).alloc (o11 7 1)).alloc (o11 2 9)).alloc (.cells #[.slice (some ⟨V2.heap.size, 0, none⟩) 2 2, .slice (some ⟨V2.heap.size + 1, 0, none⟩) 2 2, .slice (some ⟨V2.heap.size + 1 + 1, 0, none⟩) 2 2, .slice (some ⟨V2.heap.size + 1 + 1 + 1, 0, none⟩) 2 2] 64) = V3 from HV3.out, HRB.out];clear HV3 HRB HS2;obtain ⟨m0, m1, m2, m3, m4, m5, m6, m7, m8, m9, m10⟩ := aD HS3.out.n;have EV := aA (E1'.out _ p (some ⟨rb, 0, none⟩) V3 HS3.out.r HRR.out)
 go_wp2_with fail
 refine EV.out.mono ?_;rintro e w4 ⟨hb4, rfl⟩;have BA := (Below.refl w4.heap.size w4).alloc (Nat.le_refl _) (vlA 1 7 none 0 0);have S4 := (HS3.out.step hb4).step BA;have R4 := dB (dB HRR.out hb4) BA;have N8 := heap_alloc_new w4 (vlA 1 7 none 0 0);generalize hn8 : w4.heap.size = n8 at N8;generalize hV4 : w4.alloc (vlA 1 7 none 0 0) = V4 at S4 R4 N8;have HS4 := aA S4;have HR4 := aA R4;have HN8 := aA N8;have HE8 := aA hn8;have HV4 := aA hV4;clear hb4 BA S4 R4 N8 hn8 hV4 EV HS3 HRR m0 m1 m2 m3 m4 m5 m6 m7 m8 m9 m10
 go_upto_region 5 with fail
 rw [show w4.alloc (.cells #[.int .i64 1, .int .i64 7, .string ⟨#[]⟩, .slice none 0 0] 53) = V4 from HV4.out, HE8.out];clear HV4 HE8
 go_wp2_with fail
 refine (A3'.out V4 HS4.out.l.1).mono ?_;rintro e w5 ⟨hb5, q, rfl, hr5⟩;have BA := (Below.refl w5.heap.size w5).alloc (Nat.le_refl _) (agP y q);have S5 := (HS4.out.step hb5).step BA;have R5 := dB (dB HR4.out hb5) BA;have N8 := (BA.block _ (aC ((hb5.block _ (aC HN8.out)).trans HN8.out))).trans ((hb5.block _ (aC HN8.out)).trans HN8.out);have L5 : L11 y w5.heap.size q (w5.alloc (agP y q)) := ⟨heap_alloc_new w5 _, (hr5.kept BA).imp (fun _ _ _ => trivial)⟩;generalize hn10 : w5.heap.size = n10 at L5;generalize hV5 : w5.alloc (agP y q) = V5 at S5 R5 N8 L5;have HS5 := aA S5;have HR5 := aA R5;have HN8' := aA N8;have HL5 := aA L5;have HE10 := aA hn10;have HV5 := aA hV5;clear hb5 hr5 BA S5 R5 N8 L5 hn10 hV5 A3' HS4 HR4 HN8
 go_upto_region 6 with fail
 rw [show w5.alloc (.cells #[.string y.fn, .int .i64 y.k, .string y.e.op, .string y.e.nm, .int .i64 y.e.n, .slice q.ea y.e.ks.len q.ec, .string y.g.op, .string y.g.nm, .int .i64 y.g.n, .slice q.ga y.g.ks.len q.gc, .slice q.wa y.wh.length q.wc] 28) = V5 from HV5.out, HE10.out];clear HV5 HE10;obtain ⟨y0, y1, y2, y3, y4, y5, y6, y7, y8, y9, y10⟩ := aD HL5.out.n;have EV := aA (E2'.out _ q (some ⟨rb, 0, none⟩) V5 HL5.out.r HR5.out)
 go_wp2_with fail
 refine EV.out.mono ?_;rintro e w6 ⟨hb6, la, lc, rfl, hle⟩;obtain ⟨lb, lo, rfl, hl1, hl2, hl3⟩ := hle.resolve_left (by decide);have BA := (Below.refl w6.heap.size w6).alloc (Nat.le_refl _) (vlA 3 0 (some ⟨lb, lo, none⟩) 2 lc);have C0 := (BA.cell (p := ⟨lb, lo + 0, none⟩) hl2).trans (hl3 0 5 rfl);have C1 := (BA.cell (p := ⟨lb, lo + 1, none⟩) hl2).trans (hl3 1 7 rfl);rw [Nat.add_zero] at C0;have S6 := (HS5.out.step hb6).step BA;have L6 := (HL5.out.step hb6).step BA;have N8 := (BA.block _ (aC ((hb6.block _ (aC HN8'.out)).trans HN8'.out))).trans ((hb6.block _ (aC HN8'.out)).trans HN8'.out);have N13 := heap_alloc_new w6 (vlA 3 0 (some ⟨lb, lo, none⟩) 2 lc);have T6 := aA (show S11 w x y p q n1 n8 n10 w6.heap.size lb lo lc _ from ⟨S6, L6, N8, N13, Nat.lt_of_lt_of_le hl2 BA.size, C0, C1⟩);clear hb6 hl1 hl2 hl3 BA C0 C1 S6 L6 N8 N13 EV HS5 HL5 HR5 HN8' y0 y1 y2 y3 y4 y5 y6 y7 y8 y9 y10;obtain ⟨m0, m1, m2, m3, m4, m5, m6, m7, m8, m9, m10⟩ := aD T6.out.k.n;have TX := aA (TX'.out _ p _ T6.out.k.l.2 T6.out.k.r)
 go_wp2_with fail
 refine TX.out.mono ?_;rintro e w7 ⟨rfl, hb7⟩;have T7 := aA (T6.out.step hb7);clear hb7 TX TX' T6 m0 m1 m2 m3 m4 m5 m6 m7 m8 m9 m10;obtain ⟨m0, m1, m2, m3, m4, m5, m6, m7, m8, m9, m10⟩ := aD T7.out.k.n;obtain ⟨⟨v0, v1, v2, v3⟩, -⟩ := aJ T7.out.v;obtain ⟨⟨l0, l1, l2, l3⟩, -⟩ := aJ T7.out.l;have c0 := T7.out.c0;have c1 := T7.out.c1;have CK := aA (CK'.out _ p w7 T7.out.k.r)
 go_wp2_with fail
 refine CK.out.mono ?_;rintro e w8 ⟨rfl, hb8⟩;have T8 := aA (T7.out.step hb8);clear hb8 CK CK' T7 m0 m1 m2 m3 m4 m5 m6 m7 m8 m9 m10 v0 v1 v2 v3 l0 l1 l2 l3 c0 c1;obtain ⟨m0, m1, m2, m3, m4, m5, m6, m7, m8, m9, m10⟩ := aD T8.out.k.n;have SM := aA (SM'.out _ p w8 T8.out.k.r)
 go_wp2_with fail
 refine SM.out.mono ?_;rintro e w9 ⟨rfl, hb9⟩;have T9 := aA (T8.out.step hb9);clear hb9 SM SM' T8 m0 m1 m2 m3 m4 m5 m6 m7 m8 m9 m10;obtain ⟨m0, m1, m2, m3, m4, m5, m6, m7, m8, m9, m10⟩ := aD T9.out.k.n;obtain ⟨y0, y1, y2, y3, y4, y5, y6, y7, y8, y9, y10⟩ := aD T9.out.y.n;have SO := aA (SO'.out _ _ p q w9 T9.out.k.r T9.out.y.r)
 go_wp2_with fail
 refine SO.out.mono ?_;rintro e wa ⟨rfl, hba⟩;have TA := aA (T9.out.step hba);clear hba SO SO' T9 m0 m1 m2 m3 m4 m5 m6 m7 m8 m9 m10 y0 y1 y2 y3 y4 y5 y6 y7 y8 y9 y10
 go_wp2_with fail
 go_ret;exact ⟨rfl, TA.out.k.b⟩
end
end Go.Proofs.YtapcjnoaofmmiaaGreatDoor
