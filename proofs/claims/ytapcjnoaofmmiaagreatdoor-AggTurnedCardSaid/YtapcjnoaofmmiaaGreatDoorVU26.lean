/-
 No statement: what AggTurnedCard needs, of the texts OPx, OKn1, OKn2.
-/
import Derived.Test.YtapcjnoaofmmiaaGreatDoorVU25
namespace Go.Proofs.YtapcjnoaofmmiaaGreatDoor
section
open Go.RowKit
set_option maxHeartbeats 2000000 in
theorem Fb (s : ByteArray) (ts : List Tk) (a : Option Addr) (c p : Nat) (hp : p <= ts.length) (w : World) (hr : gA w a ts) :
 Calls Tryz.prog 30 #[.string s, .slice a ts.length c, .int .i64 p] w fun e w' => e = .returned (.int .i64 ((jK s.size ts p : Nat) : Int)) /\ w = w' := by
 by_cases hlt : p < ts.length
 · obtain ⟨b, off, ha, -, hc⟩ := hr.resolve_left (by intro e; rw [e] at hlt; simp at hlt)
   obtain ⟨-, -, -, p3⟩ := hc p hlt;subst ha;have e : jK s.size ts p = ts[p].place := by unfold jK; rw [List.getElem?_eq_getElem hlt]
   rw [e];have a1 : ((p : Int) == (ts.length : Int)) = false := by rw [beq_eq_false_iff_ne]; omega
   have a2 : (p : Int) < (ts.length : Int) := by omega
   have a3 : (0 : Int) <= (p : Int) := by omega
   have a4 : ((p : Int)).toNat = p := by omega
   clear hc
   go_enter Tryz.func30, Tryz.ntmps30
   go_wp2_with fail
   go_ret;exact ⟨rfl, rfl⟩
 · have e : jK s.size ts p = s.size := by unfold jK; rw [List.getElem?_eq_none (by omega)]
   rw [e];have a1 : ((p : Int) == (ts.length : Int)) = true := by rw [beq_iff_eq]; omega
   clear hr
   go_enter Tryz.func30, Tryz.ntmps30
   go_wp2_with fail
   go_ret;exact ⟨rfl, rfl⟩
theorem PR.drew {ts : List Tk} {rb : Nat} {a : Option Addr} {c p : Nat} {er : Int} {w : World} (h : PR ts rb a c p er w) : PR ts rb a c p er w.drew := h.drewN 1
theorem FP {ts : List Tk} {rb : Nat} {a : Option Addr} {c pos : Nat} {er : Int} {W : World} (h : PR ts rb a c pos er W) {B : Nat} (hB : B < rb) (ht : ts = [] \/ ∃ b off, a = some ⟨b, off, none⟩ /\ B < b) :
 (fL W B bC aY).drew.cell? ⟨rb, 1, none⟩ = some (.int .i64 (pos : Nat)) /\ (fL W B bC aY).drew.cell? ⟨rb, 2, none⟩ = some (.int .i64 er) /\ gA (fL W B bC aY).drew a ts := by
 have KP := dX W B bC aY
 have P0 : PR ts rb a c pos er (fL W B bC aY) := by
  refine ⟨KP.heap h.r (by omega), ?_, h.p, h.n⟩
  rcases h.t with h0 | ⟨b, off, rfl, hlt, hc⟩
  · exact .inl h0
  · rcases ht with h0 | ⟨b', off', e, hb⟩
    · exact .inl h0
    · cases e
      refine .inr ⟨b, off, rfl, hlt, fun j hj => ?_⟩;obtain ⟨c0, c1, c2, c3⟩ := hc j hj;exact ⟨KP.cell c0 (by show ¬ b = B; omega), KP.cell c1 (by show ¬ b = B; omega), KP.cell c2 (by show ¬ b = B; omega), KP.cell c3 (by show ¬ b = B; omega)⟩
 obtain ⟨⟨u0, u1, u2⟩, -⟩ := cL P0.r;exact ⟨vT u1, vT u2, P0.drew.reads⟩
theorem DB {W : World} {B : Nat} (h : W.heap[B]? = some (agP bC aY)) : (fL W B bC aY).drew.heap[B]? = some (agP bC aY) := Er (f7 (t := 28) h bC aY)
theorem Ig {ts : List Tk} {rb : Nat} {a : Option Addr} {c pos : Nat} {er : Int} {w W : World} {s : ByteArray} (_h : PR ts rb a c pos er W) (hb : Below w.heap.size w W) :
 tU (agQ s.size ts (.bad pos er)) w (.returned (.tuple #[agV bC aY, .int .i64 ((jK s.size ts pos : Nat) : Int), .int .i64 er])) (fL W w.heap.size bC aY).drew :=
 ⟨BK (hb.trans ((dX W w.heap.size bC aY).below (B := w.heap.size) (fun k hk => by omega) hb.size)), rfl⟩
set_option maxHeartbeats 8000000 in
set_option maxRecDepth 100000 in
theorem JA (s0 : ByteArray) (hm : s0.size <= 281474976710656) (w : World) (hw : gP w) {p : Nat} {er : Int} (hL : iT s0.data.toList = .bad p er) : Calls Tryz.prog 9 #[.string s0] w (tU (.bad p er) w) := by
 obtain ⟨-, qe⟩ := zT hL;have B1 := (Below.refl w.heap.size w).alloc (Nat.le_refl _) (agP bC aY);have NB := heap_alloc_new w (agP bC aY);have hs0 : (w.alloc (agP bC aY)).heap.size = w.heap.size + 1 := World.size_alloc _ _;have HL := aA (hw.step B1);generalize hW : w.alloc (agP bC aY) = W at *;have HW := aA hW;have C := aA (qO s0 hm W HL.out);rw [hL] at C;clear hW hw
 go_enter Tryz.func9, Tryz.ntmps9
 go_upto_region 1 with fail
 rw [show w.alloc (.cells #[.string ⟨#[]⟩, .int .i64 0, .string ⟨#[]⟩, .string ⟨#[]⟩, .int .i64 0, .slice none 0 0, .string ⟨#[]⟩, .string ⟨#[]⟩, .int .i64 0, .slice none 0 0, .slice none 0 0] 28) = W from HW.out]
 go_wp2_with fail
 refine C.out.mono ?_;rintro e w1 ⟨hb, rfl⟩;have N1 := (hb.block w.heap.size (by omega)).trans NB;have hz := hb.size;have B2 := aA (B1.trans (hb.mono (by omega)));obtain ⟨z0, z1, z2, z3, z4, z5, z6, z7, z8, z9, z10⟩ := dN N1;obtain ⟨b0, b1, b2, b3, b4, b5, b6, b7, b8, b9, b10⟩ := aD N1;have N2 := aA N1;clear hb N1 C HW
 go_wp2_with fail
 have KP := dX w1 w.heap.size bC aY;obtain ⟨y0, y1, y2, y3, y4, y5, y6, y7, y8, y9, y10⟩ := aD (f7 (t := 28) N2.out bC aY);dsimp only [fL, bC, aY, aP, F.len, List.length_nil] at y0 y1 y2 y3 y4 y5 y6 y7 y8 y9 y10;exact bodyPost_ret (v := .tuple #[agV bC aY, .int .i64 (p : Nat), .int .i64 er]) (by simp [results, Tryz.results9, go_sem, y0, y1, y2, y3, y4, y5, y6, y7, y8, y9, y10, bC, aY, aP, F.len]) rfl ⟨B2.out.trans (KP.below (B := w.heap.size) (fun k hk => by omega) (by omega)), rfl⟩
set_option maxHeartbeats 16000000 in
set_option maxRecDepth 100000 in
theorem Jz (s0 : ByteArray) (hm : s0.size <= 281474976710656) (w : World) (hw : gP w) {ts : List Tk} (hL : iT s0.data.toList = .ok ts) : Calls Tryz.prog 9 #[.string s0] w (tU (agQ s0.size ts (agL ts)) w) := by
 rw [J5];have hlen := Ga hL;have B1 := (Below.refl w.heap.size w).alloc (Nat.le_refl _) (agP bC aY);have NB := heap_alloc_new w (agP bC aY);have hs0 : (w.alloc (agP bC aY)).heap.size = w.heap.size + 1 := World.size_alloc _ _;have HL := aA (hw.step B1);generalize hW : w.alloc (agP bC aY) = W at *;have HW := aA hW;have C := aA (qO s0 hm W HL.out);rw [hL] at C;have HB1 := aA B1;have HNB := aA NB;have HGT := aA (DR hL);have HOT := aA (Iy hL);obtain ⟨R, hR⟩ : ∃ R, agS ts = R := ⟨_, rfl⟩;rw [hR];have HRR := aA hR;clear hW hw hR B1 NB HL hL
 go_enter Tryz.func9, Tryz.ntmps9
 go_upto_region 1 with fail
 rw [show w.alloc (.cells #[.string ⟨#[]⟩, .int .i64 0, .string ⟨#[]⟩, .string ⟨#[]⟩, .int .i64 0, .slice none 0 0, .string ⟨#[]⟩, .string ⟨#[]⟩, .int .i64 0, .slice none 0 0, .slice none 0 0] 28) = W from HW.out]
 go_wp2_with fail
 refine C.out.mono ?_;rintro e w1 ⟨hb, a, c, rfl, ho⟩;have hz := hb.size;have N1 := (hb.block w.heap.size (by omega)).trans HNB.out;have B2 := HB1.out.trans (hb.mono (by omega));have R1 := AJ ho;have TK := aA (Kb (n := w.heap.size) (m := ts.length) (c := c) R1 (fun q hq => by have := (ho.lt q hq).1; omega));have BA := (Below.refl w1.heap.size w1).alloc (Nat.le_refl _) (.cells #[.slice a ts.length c, .int .i64 0, .int .i64 0] 75);have NA := heap_alloc_new w1 (.cells #[.slice a ts.length c, .int .i64 0, .int .i64 0] 75);have hs1 : (w1.alloc (.cells #[.slice a ts.length c, .int .i64 0, .int .i64 0] 75)).heap.size = w1.heap.size + 1 := World.size_alloc _ _
 have P1 := aA (show PR ts w1.heap.size a c 0 0 (w1.alloc (.cells #[.slice a ts.length c, .int .i64 0, .int .i64 0] 75)) from
  ⟨NA, (Cb R1).kept (aE BA (fun _ => False)) (fun _ h => h.elim), Nat.zero_le _, by omega⟩)
 have N2 := aA ((BA.block w.heap.size (by omega)).trans N1);have B3 := aA (B2.trans (BA.mono (by omega)));clear hb N1 B2 R1 BA NA ho C HW HB1 HNB
 go_upto_region 5 with fail
 generalize w1.alloc (.cells #[.slice a ts.length c, .int .i64 0, .int .i64 0] 75) = W1 at *;generalize w1.heap.size = rb at *;have CA := aA (Hb ts HGT.out HOT.out rb a c W1 P1.out);rw [HRR.out] at CA
 go_wp2_with fail
 refine CA.out.mono ?_;rintro e w2 ⟨x, q, pos, er, rfl, P2, K2, hres⟩;have BA := (Below.refl w2.heap.size w2).alloc (Nat.le_refl _) (agP x q);have NA := heap_alloc_new w2 (agP x q);have hs2 : (w2.alloc (agP x q)).heap.size = w2.heap.size + 1 := World.size_alloc _ _;have hz2 := K2.size;have P3 := aA (P2.below BA);have N3 := aA ((BA.block w.heap.size (by omega)).trans (K2.heap N2.out (by omega)));have B4 := aA ((B3.out.trans (K2.below (B := w.heap.size) (fun k hk => by omega) (by omega))).trans (BA.mono (by omega)));have HRE := aA hres;have HBA := aA BA;clear P2 K2 BA CA P1 N2 B3 hres
 go_upto_region 6 with fail
 generalize w2.alloc (agP x q) = W2 at *;generalize hab : w2.heap.size = ab at *;have P4 := aA P3.out;obtain ⟨⟨c0, c1, c2⟩, -⟩ := cL P3.out.r;have HNA := aA NA;clear P3 NA;have hh := HRE.out;cases R with
 | bad pq eq =>
   simp only at hh;obtain ⟨hne, rfl, rfl⟩ := hh;have q1 : ((er : Int) != 0) = true := by simpa using hne
   have RT : gA W2.drew a ts := P4.out.drew.reads;have HPP := aA P4.out.p;have cch := FP P4.out (B := w.heap.size) (by omega) TK.out;dsimp only [fL, bC, aY, aP, F.len, List.length_nil] at cch;have CCH := aA cch;clear cch;have YY := aA (DB (W := W2) N3.out);have pf := Ig (s := s0) (er := er) P4.out B4.out;dsimp only [fL, bC, aY, aP, F.len, List.length_nil] at pf;have PF := aA pf;clear pf;clear hne
   go_upto_region 7 with fail
   obtain ⟨z0, z1, z2, z3, z4, z5, z6, z7, z8, z9, z10⟩ := dN N3.out;obtain ⟨b0, b1, b2, b3, b4, b5, b6, b7, b8, b9, b10⟩ := aD N3.out;dsimp only [bC, aY, aP, F.len, List.length_nil] at b0 b1 b2 b3 b4 b5 b6 b7 b8 b9 b10;refine wp_region_held_drew (S := fun V => V.cell? ⟨rb, 1, none⟩ = some (.int .i64 (pos : Nat)) /\ V.cell? ⟨rb, 2, none⟩ = some (.int .i64 er) /\ gA V a ts) (by kernel_rfl) ⟨c1, c2, RT⟩ (fun hHeld => ?_);refine aB (i := 0) (d := some 27) (v := .agg #[.string ⟨#[]⟩, .int .i64 0, .string ⟨#[]⟩, .string ⟨#[]⟩, .int .i64 0, .slice none 0 0, .string ⟨#[]⟩, .string ⟨#[]⟩, .int .i64 0, .slice none 0 0, .slice none 0 0]) rfl rfl (by kernel_rfl) (by kernel_rfl) (by kernel_rfl) (fun _ _ _ h => h) (Or.inl ⟨by rfl, by intro w hSw; obtain ⟨c1, c2, rt⟩ := hSw; go_simp⟩) hHeld ?_;simp only [Act.put, KM, KQ, KR];refine aB (i := 1) (d := some 28) (v := .string s0) rfl rfl (by kernel_rfl) (by kernel_rfl) (by kernel_rfl) (fun _ _ _ h => h) (Or.inl ⟨by rfl, by intro w hSw; obtain ⟨c1, c2, rt⟩ := hSw; go_simp⟩) hHeld ?_;simp only [Act.put, KM, KQ, KR];refine aB (i := 2) (d := some 29) (v := .slice a ts.length c) rfl rfl (by kernel_rfl) (by kernel_rfl) (by kernel_rfl) (fun _ _ _ h => h) (Or.inl ⟨by rfl, by intro w hSw; obtain ⟨c1, c2, rt⟩ := hSw; go_simp⟩) hHeld ?_;simp only [Act.put, KM, KQ, KR];refine aB (i := 3) (d := some 30) (v := .pointer (some ⟨rb, 1, none⟩)) rfl rfl (by kernel_rfl) (by kernel_rfl) (by kernel_rfl) (fun _ _ _ h => h) (Or.inl ⟨by rfl, by intro w hSw; obtain ⟨c1, c2, rt⟩ := hSw; go_simp⟩) hHeld ?_
   simp only [Act.put, KM, KQ, KR];refine aB (i := 4) (d := some 31) (v := .int .i64 (pos : Nat)) rfl rfl (by kernel_rfl) (by kernel_rfl) (by kernel_rfl) (fun _ _ _ h => h) (Or.inl ⟨by rfl, by intro w hSw; obtain ⟨c1, c2, rt⟩ := hSw; go_simp⟩) hHeld ?_;simp only [Act.put, KM, KQ, KR];refine aB (i := 6) (d := some 33) (v := .pointer (some ⟨rb, 2, none⟩)) rfl rfl (by kernel_rfl) (by kernel_rfl) (by kernel_rfl) (fun _ _ _ h => h) (Or.inl ⟨by rfl, by intro w hSw; obtain ⟨c1, c2, rt⟩ := hSw; go_simp⟩) hHeld ?_;simp only [Act.put, KM, KQ, KR];refine aB (i := 7) (d := some 34) (v := .int .i64 er) rfl rfl (by kernel_rfl) (by kernel_rfl) (by kernel_rfl) (fun _ _ _ h => h) (Or.inl ⟨by rfl, by intro w hSw; obtain ⟨c1, c2, rt⟩ := hSw; go_simp⟩) hHeld ?_;simp only [Act.put, KM, KQ, KR];refine wpAnyH_ready (rs := [5]) (by kernel_rfl) (by simp) ?_;refine AllReadyH.cons (o := _) rfl (fun K hK => ?_) AllReadyH.nil
   go_simp
   refine (Fb s0 ts a c pos HPP.out W2.drew RT).mono ?_;rintro e w5 ⟨rfl, rfl⟩;refine hK.out _ _ hHeld (fun hHeld2 => ?_)
   try simp only [Act.put, KM, KQ, KR]
   clear hK K;have CC := CCH.out;refine wpAnyH_ready (rs := [8]) (by kernel_rfl) (by simp) ?_;refine AllReadyH.cons (o := _) rfl (fun K hK => ?_) AllReadyH.nil
   go_simp
   refine hK.out _ _ CC (fun hHeld3 => ?_)
   try simp only [Act.put, KM, KQ, KR]
   clear hK K;refine aB (i := 9) (d := some 3) (v := .int .i64 ((jK s0.size ts pos : Nat) : Int)) rfl rfl (by kernel_rfl) (by kernel_rfl) (by kernel_rfl) (fun _ _ _ h => h) (Or.inl ⟨by rfl, by intro w hSw; obtain ⟨c1, c2, rt⟩ := hSw; go_simp⟩) hHeld3 ?_;simp only [Act.put, KM, KQ, KR];refine aB (i := 10) (d := some 4) (v := .int .i64 er) rfl rfl (by kernel_rfl) (by kernel_rfl) (by kernel_rfl) (fun _ _ _ h => h) (Or.inl ⟨by rfl, by intro w hSw; obtain ⟨c1, c2, rt⟩ := hSw; go_simp⟩) hHeld3 ?_;simp only [Act.put, KM, KQ, KR];refine wpAnyH_done (by kernel_rfl) ?_ _;obtain ⟨y0, y1, y2, y3, y4, y5, y6, y7, y8, y9, y10⟩ := aD YY.out;dsimp only [fL, bC, aY, aP, F.len, List.length_nil] at y0 y1 y2 y3 y4 y5 y6 y7 y8 y9 y10;clear hHeld hHeld2 hHeld3 CC c0 c1 c2 RT z0 z1 z2 z3 z4 z5 z6 z7 z8 z9 z10 b0 b1 b2 b3 b4 b5 b6 b7 b8 b9 b10
   go_wp2
   exact bodyPost_ret (v := .tuple #[agV bC aY, .int .i64 ((jK s0.size ts pos : Nat) : Int), .int .i64 er]) (by simp [results, Tryz.results9, go_sem, y0, y1, y2, y3, y4, y5, y6, y7, y8, y9, y10, bC, aY, aP, F.len]) rfl PF.out
 | ok y =>
   simp only at hh;obtain ⟨rfl, rfl, rd⟩ := hh;obtain ⟨m0, m1, m2, m3, m4, m5, m6, m7, m8, m9, m10⟩ := aD HNA.out;obtain ⟨z0, z1, z2, z3, z4, z5, z6, z7, z8, z9, z10⟩ := dN N3.out;obtain ⟨b0, b1, b2, b3, b4, b5, b6, b7, b8, b9, b10⟩ := aD N3.out;have RD := aA (rd.kept (by rw [hab]; exact HBA.out));have hlt : w.heap.size < ab := by have := hz2; omega
   clear rd
   go_wp2_with fail
   have KP := dX W2 w.heap.size x q;obtain ⟨y0, y1, y2, y3, y4, y5, y6, y7, y8, y9, y10⟩ := aD (f7 (t := 28) N3.out x q)
   have PF := aA (show tU (agQ s0.size ts (.ok x)) w (.returned (.tuple #[agV x q, .int .i64 0, .int .i64 0])) (fL W2 w.heap.size x q) from
    ⟨B4.out.trans (KP.below (B := w.heap.size) (fun k hk => by omega) B4.out.size), q, rfl, (RD.out.keptS KP (fun k hk => by omega)).imp (fun b _ hb => by omega)⟩)
   exact bodyPost_ret (v := .tuple #[agV x q, .int .i64 0, .int .i64 0]) (by simp [results, Tryz.results9, go_sem, y0, y1, y2, y3, y4, y5, y6, y7, y8, y9, y10]) rfl PF.out
theorem jL (s0 : ByteArray) (hm : s0.size <= 281474976710656) (w : World) (hw : gP w) : Calls Tryz.prog 9 #[.string s0] w (tU (agX s0.data.toList) w) := by
 have hl : s0.data.toList.length = s0.size := by simp
 cases hL : iT s0.data.toList with
 | bad p er =>
   have e : agX s0.data.toList = .bad p er := by unfold agX; rw [hL]
   rw [e];exact JA s0 hm w hw hL
 | ok ts =>
   have e : agX s0.data.toList = agQ s0.size ts (agL ts) := by
    unfold agX agQ;rw [hL, hl];simp only;cases agL ts <;> rfl
   rw [e];exact Jz s0 hm w hw hL
def JS : List Tk := [⟨1, [115, 117, 109], 0, 0⟩, ⟨3, [40], 0, 3⟩, ⟨1, [120], 0, 4⟩, ⟨3, [41], 0, 5⟩, ⟨1, [119, 104, 101, 114, 101], 0, 7⟩, ⟨1, [121], 0, 13⟩, ⟨3, [62], 0, 15⟩, ⟨2, [49], 1, 17⟩, ⟨1, [97, 110, 100], 0, 19⟩, ⟨1, [120], 0, 23⟩, ⟨3, [33, 61], 0, 25⟩, ⟨2, [51], 3, 28⟩]
def JR : List Tk := [⟨1, [97, 118, 103], 0, 0⟩, ⟨3, [40], 0, 3⟩, ⟨1, [120], 0, 4⟩, ⟨3, [41], 0, 5⟩]
def JT : List Tk := [⟨1, [116, 111, 112], 0, 0⟩, ⟨3, [40], 0, 3⟩, ⟨2, [50], 2, 4⟩, ⟨3, [44], 0, 5⟩, ⟨1, [120], 0, 7⟩, ⟨3, [41], 0, 8⟩]
def fB : AG := ⟨⟨#[115, 117, 109]⟩, 0, d9 [120], aP, [⟨⟨#[62]⟩, d9 [121], sL 1⟩, ⟨⟨#[33, 61]⟩, d9 [120], sL 3⟩]⟩
def lF : AG := ⟨⟨#[116, 111, 112]⟩, 2, d9 [120], aP, []⟩
theorem bZ {l : List UInt8} {p : Nat} {k v : Int} {n : Nat} {ts : List Tk} (h1 : ¬ l.head? = some 32) (hn : 1 <= n) (h : dE l = .tok k n v) (hr : dP (l.drop n) (p + n) = .ok ts) : dP l p = .ok (⟨k, l.take n, v, p⟩ :: ts) := by
 rw [mS h1 hn h, hr]; rfl
theorem IN : dP [115, 117, 109, 40, 120, 41, 32, 119, 104, 101, 114, 101, 32, 121, 32, 62, 32, 49, 32, 97, 110, 100, 32, 120, 32, 33, 61, 32, 51] 0 = .ok JS := by
 refine bZ (n := 3) (k := 1) (v := 0) (by decide) (by decide) (by rfl) ?_;refine bZ (n := 1) (k := 3) (v := 0) (by decide) (by decide) (by rfl) ?_;refine bZ (n := 1) (k := 1) (v := 0) (by decide) (by decide) (by rfl) ?_;refine bZ (n := 1) (k := 3) (v := 0) (by decide) (by decide) (by rfl) ?_;refine (cV _ _).trans ?_;refine bZ (n := 5) (k := 1) (v := 0) (by decide) (by decide) (by rfl) ?_;refine (cV _ _).trans ?_;refine bZ (n := 1) (k := 1) (v := 0) (by decide) (by decide) (by rfl) ?_;refine (cV _ _).trans ?_;refine bZ (n := 1) (k := 3) (v := 0) (by decide) (by decide) (by rfl) ?_;refine (cV _ _).trans ?_;refine bZ (n := 1) (k := 2) (v := 1) (by decide) (by decide) (by rfl) ?_;refine (cV _ _).trans ?_;refine bZ (n := 3) (k := 1) (v := 0) (by decide) (by decide) (by rfl) ?_;refine (cV _ _).trans ?_;refine bZ (n := 1) (k := 1) (v := 0) (by decide) (by decide) (by rfl) ?_;refine (cV _ _).trans ?_;refine bZ (n := 2) (k := 3) (v := 0) (by decide) (by decide) (by rfl) ?_;refine (cV _ _).trans ?_;refine bZ (n := 1) (k := 2) (v := 3) (by decide) (by decide) (by rfl) ?_;exact iC _
theorem IM : dP [97, 118, 103, 40, 120, 41] 0 = .ok JR := by
 refine bZ (n := 3) (k := 1) (v := 0) (by decide) (by decide) (by rfl) ?_;refine bZ (n := 1) (k := 3) (v := 0) (by decide) (by decide) (by rfl) ?_;refine bZ (n := 1) (k := 1) (v := 0) (by decide) (by decide) (by rfl) ?_;refine bZ (n := 1) (k := 3) (v := 0) (by decide) (by decide) (by rfl) ?_;exact iC _
theorem IK : dP [116, 111, 112, 40, 50, 44, 32, 120, 41] 0 = .ok JT := by
 refine bZ (n := 3) (k := 1) (v := 0) (by decide) (by decide) (by rfl) ?_;refine bZ (n := 1) (k := 3) (v := 0) (by decide) (by decide) (by rfl) ?_;refine bZ (n := 1) (k := 2) (v := 2) (by decide) (by decide) (by rfl) ?_;refine bZ (n := 1) (k := 3) (v := 0) (by decide) (by decide) (by rfl) ?_;refine (cV _ _).trans ?_;refine bZ (n := 1) (k := 1) (v := 0) (by decide) (by decide) (by rfl) ?_;refine bZ (n := 1) (k := 3) (v := 0) (by decide) (by decide) (by rfl) ?_;exact iC _
theorem JQ : agX (⟨#[115, 117, 109, 40, 120, 41, 32, 119, 104, 101, 114, 101, 32, 121, 32, 62, 32, 49, 32, 97, 110, 100, 32, 120, 32, 33, 61, 32, 51]⟩ : ByteArray).data.toList = .ok fB := by
 have h : iT (⟨#[115, 117, 109, 40, 120, 41, 32, 119, 104, 101, 114, 101, 32, 121, 32, 62, 32, 49, 32, 97, 110, 100, 32, 120, 32, 33, 61, 32, 51]⟩ : ByteArray).data.toList = .ok JS := by
  unfold iT;rw [if_neg (by decide)];exact IN
 unfold agX;rw [h];simp only;rw [show agL JS = .ok fB by rfl]
 all_goals rfl
theorem JP : agX (⟨#[97, 118, 103, 40, 120, 41]⟩ : ByteArray).data.toList = .bad 0 5 := by
 have h : iT (⟨#[97, 118, 103, 40, 120, 41]⟩ : ByteArray).data.toList = .ok JR := by
  unfold iT;rw [if_neg (by decide)];exact IM
 unfold agX;rw [h];simp only;rw [show agL JR = .bad 0 5 by rfl]
 all_goals rfl
theorem JN : agX (⟨#[116, 111, 112, 40, 50, 44, 32, 120, 41]⟩ : ByteArray).data.toList = .ok lF := by
 have h : iT (⟨#[116, 111, 112, 40, 50, 44, 32, 120, 41]⟩ : ByteArray).data.toList = .ok JT := by
  unfold iT;rw [if_neg (by decide)];exact IK
 unfold agX;rw [h];simp only;rw [show agL JT = .ok lF by rfl]
 all_goals rfl
theorem kB : iD fB = 0 := by rfl
theorem zX : iD lF = 0 := by rfl
theorem kA : i1 fB := ⟨by simp [fB, d9, TN.f, dU], by simp [fB, aP, TN.f, dU], fun d hd => by
 simp only [fB, List.mem_cons, List.not_mem_nil, or_false] at hd
 rcases hd with rfl | rfl <;> simp [d9, sL, TN.f, dU]⟩
theorem vD : i1 lF := ⟨by simp [lF, d9, TN.f, dU], by simp [lF, aP, TN.f, dU], fun d hd => by simp [lF] at hd⟩
theorem Cq : SzG fB := ⟨by simp [fB, d9, TN.f, SzF, F.len, ByteArray.size], by simp [fB, aP, TN.f, SzF, F.len, ByteArray.size], fun d hd => by
 simp only [fB, List.mem_cons, List.not_mem_nil, or_false] at hd
 rcases hd with rfl | rfl <;> simp [d9, sL, TN.f, SzF, F.len, ByteArray.size]⟩
theorem IQ : SzG lF := ⟨by simp [lF, d9, TN.f, SzF, F.len, ByteArray.size], by simp [lF, aP, TN.f, SzF, F.len, ByteArray.size], fun d hd => by simp [lF] at hd⟩
theorem Gm : yI fB = [115, 117, 109, 40, 120, 41, 32, 119, 104, 101, 114, 101, 32, 121, 32, 62, 32, 49, 32, 97, 110, 100, 32, 120, 32, 33, 61, 32, 51] := by
 have h1 : Lib.itoa 1 = [49] := by simp [Lib.itoa, Lib.decDigits]
 have h3 : Lib.itoa 3 = [51] := by simp [Lib.itoa, Lib.decDigits]
 have : yI fB = [115, 117, 109, 40, 120, 41, 32, 119, 104, 101, 114, 101, 32, 121, 32, 62, 32] ++ (Lib.itoa 1 ++ ([32, 97, 110, 100, 32, 120, 32, 33, 61, 32] ++ (Lib.itoa 3 ++ []))) := by rfl
 rw [this, h1, h3];rfl
theorem Gn : rV fB fB = true := by
 simp only [rV, fB, gV, Lib.toList_data];rfl
theorem Eh : rV fB lF = false := by
 simp only [rV, fB, lF, gV, Lib.toList_data];rfl
def A11 (x y : Int) (j : Nat) : Wr.AD := if j = 0 then ⟨⟨#[120]⟩, 1, x, ⟨#[]⟩, 0, fun _ => 0⟩ else ⟨⟨#[121]⟩, 1, y, ⟨#[]⟩, 0, fun _ => 0⟩
def g11 (x y : Int) (m : ByteArray) : Option Int := if m = ⟨#[120]⟩ then some x else if m = ⟨#[121]⟩ then some y else none
theorem Hr (x y : Int) (hx : aW x) (hy : aW y) : fS (A11 x y) 2 (g11 x y) where
 ok := {
  yes := fun j hj => by
   have : j = 0 \/ j = 1 := by omega
   rcases this with rfl | rfl <;> rfl
  no := fun z h => by
   unfold g11;rw [if_neg fun e => h 0 (by decide) (by rw [e]; rfl), if_neg fun e => h 1 (by decide) (by rw [e]; rfl)]
  fit := fun z v h => by
   unfold g11 at h
   split at h
   · cases h; exact hx
   · split at h
     · cases h; exact hy
     · cases h }
 ri := fun i j hij hj => by
  obtain rfl : i = 0 := by omega
  obtain rfl : j = 1 := by omega
  show Op.bytesLess (⟨#[120]⟩ : ByteArray).toList (⟨#[121]⟩ : ByteArray).toList = true;rw [Lib.toList_data, Lib.toList_data]
  decide
 few := by decide
 sm := fun j hj => by
  have : j = 0 \/ j = 1 := by omega
  rcases this with rfl | rfl <;> exact Nat.zero_le _
abbrev o11 (x y : Int) : Obj := .cells #[.string ⟨#[120]⟩, .int .i64 1, .int .i64 x, .string ⟨#[]⟩, .slice none 0 0, .string ⟨#[121]⟩, .int .i64 1, .int .i64 y, .string ⟨#[]⟩, .slice none 0 0] 67
theorem rA {w : World} {b : Nat} {x y : Int} (h : w.heap[b]? = some (o11 x y)) : Wr.ReadsA w (some ⟨b, 0, none⟩) 2 (A11 x y) := by
 refine ⟨by unfold maxLen; omega, .inr ⟨b, 0, rfl, fun j hj => ?_⟩⟩;have : j = 0 \/ j = 1 := by omega
 rcases this with rfl | rfl
 · exact ⟨none, 0, ⟨by simp [World.cell?, h, A11], by simp [World.cell?, h, A11], by simp [World.cell?, h, A11], by simp [World.cell?, h, A11], by simp [World.cell?, h, A11]⟩, Nat.zero_le _, .inl rfl⟩
 · exact ⟨none, 0, ⟨by simp [World.cell?, h, A11], by simp [World.cell?, h, A11], by simp [World.cell?, h, A11], by simp [World.cell?, h, A11], by simp [World.cell?, h, A11]⟩, Nat.zero_le _, .inl rfl⟩
def r11 (x y : Int) : RW := ⟨2, A11 x y, g11 x y⟩
def r9 : List RW := [r11 5 2, r11 3 2, r11 7 1, r11 2 9]
theorem r8 : ∀ r ∈ r9, fS r.A r.n r.g := by
 intro r hr;simp only [r9, List.mem_cons, List.not_mem_nil, or_false] at hr
 rcases hr with rfl | rfl | rfl | rfl <;> exact Hr _ _ (by unfold aW; omega) (by unfold aW; omega)
theorem Ju : evG fB (r9.map RW.g) = .num 7 := by rfl
theorem Jt : evG lF (r9.map RW.g) = .list [5, 7] := by rfl
set_option maxHeartbeats 2000000 in
theorem oM (x y : Int) (w : World) : Calls Tryz.prog 27 #[.int .i64 x, .int .i64 y] w fun e w' => e = .returned (.slice (some ⟨w.heap.size, 0, none⟩) 2 2) /\ w' = w.alloc (o11 x y) := by
 go_enter Tryz.func27, Tryz.ntmps27
 go_wp2
 go_ret;exact ⟨rfl, rfl⟩
structure K11 (w : World) (x : AG) (n1 : Nat) (p1 : PA) (V : World) : Prop where
 b : Below w.heap.size w V
 l : mC V
 z : w.heap.size <= V.heap.size
 n : V.heap[n1]? = some (agP x p1)
 r : aJ (fun b => w.heap.size <= b) V x p1
theorem K11.step {w V V' : World} {x : AG} {n1 : Nat} {p1 : PA} (h : K11 w x n1 p1 V) (hb : Below V.heap.size V V') : K11 w x n1 p1 V' :=
 ⟨h.b.trans (hb.mono h.z), h.l.step hb, Nat.le_trans h.z hb.size, (hb.block _ (aC h.n)).trans h.n, h.r.kept hb⟩
theorem IP {w w1 : World} {x : AG} {p : PA} (hl : mC w) (hb : Below w.heap.size w w1) (hr : aJ (fun b => w.heap.size <= b) w1 x p) : K11 w x w1.heap.size p (w1.alloc (agP x p)) := by
 have B := (Below.refl w1.heap.size w1).alloc (Nat.le_refl _) (agP x p);exact ⟨hb.trans (B.mono hb.size), (hl.step hb).step B, Nat.le_trans hb.size B.size, heap_alloc_new w1 _, hr.kept B⟩
structure L11 (x : AG) (n1 : Nat) (p1 : PA) (V : World) : Prop where
 n : V.heap[n1]? = some (agP x p1)
 r : aJ (fun _ => True) V x p1
theorem L11.step {V V' : World} {x : AG} {n1 : Nat} {p1 : PA} (h : L11 x n1 p1 V) (hb : Below V.heap.size V V') : L11 x n1 p1 V' :=
 ⟨(hb.block _ (aC h.n)).trans h.n, h.r.kept hb⟩
structure S11 (w : World) (x y : AG) (p q : PA) (n1 n8 n10 n13 lb lo lc : Nat) (V : World) : Prop where
 k : K11 w x n1 p V
 y : L11 y n10 q V
 v : V.heap[n8]? = some (vlA 1 7 none 0 0)
 l : V.heap[n13]? = some (vlA 3 0 (some ⟨lb, lo, none⟩) 2 lc)
 lt : lb < V.heap.size
 c0 : V.cell? ⟨lb, lo, none⟩ = some (.int .i64 5)
 c1 : V.cell? ⟨lb, lo + 1, none⟩ = some (.int .i64 7)
theorem S11.step {w V V' : World} {x y : AG} {p q : PA} {n1 n8 n10 n13 lb lo lc : Nat} (h : S11 w x y p q n1 n8 n10 n13 lb lo lc V) (hb : Below V.heap.size V V') : S11 w x y p q n1 n8 n10 n13 lb lo lc V' :=
 ⟨h.k.step hb, h.y.step hb, (hb.block _ (aC h.v)).trans h.v, (hb.block _ (aC h.l)).trans h.l, Nat.lt_of_lt_of_le h.lt hb.size, (hb.cell (p := ⟨lb, lo, none⟩) h.lt).trans h.c0, (hb.cell (p := ⟨lb, lo + 1, none⟩) h.lt).trans h.c1⟩
abbrev yZ (a : Nat) : Obj := .cells #[.slice (some ⟨a, 0, none⟩) 2 2, .slice (some ⟨a + 1, 0, none⟩) 2 2, .slice (some ⟨a + 2, 0, none⟩) 2 2, .slice (some ⟨a + 3, 0, none⟩) 2 2] 64
abbrev W11 (w : World) : World := (((w.alloc (o11 5 2)).alloc (o11 3 2)).alloc (o11 7 1)).alloc (o11 2 9)
theorem Jv (w : World) : aX ((W11 w).alloc (yZ w.heap.size)) (some ⟨w.heap.size + 4, 0, none⟩) r9 /\ Below w.heap.size w ((W11 w).alloc (yZ w.heap.size)) := by
 have N0 := heap_alloc_new w (o11 5 2);have B0 := (Below.refl w.heap.size w).alloc (Nat.le_refl _) (o11 5 2);have s0 : (w.alloc (o11 5 2)).heap.size = w.heap.size + 1 := World.size_alloc _ _;unfold W11;generalize w.alloc (o11 5 2) = w1 at *;have N1 := heap_alloc_new w1 (o11 3 2);have B1 := (Below.refl w1.heap.size w1).alloc (Nat.le_refl _) (o11 3 2);have s1 : (w1.alloc (o11 3 2)).heap.size = w1.heap.size + 1 := World.size_alloc _ _;generalize w1.alloc (o11 3 2) = w2 at *;have N2 := heap_alloc_new w2 (o11 7 1);have B2 := (Below.refl w2.heap.size w2).alloc (Nat.le_refl _) (o11 7 1);have s2 : (w2.alloc (o11 7 1)).heap.size = w2.heap.size + 1 := World.size_alloc _ _;generalize w2.alloc (o11 7 1) = w3 at *;have N3 := heap_alloc_new w3 (o11 2 9);have B3 := (Below.refl w3.heap.size w3).alloc (Nat.le_refl _) (o11 2 9);have s3 : (w3.alloc (o11 2 9)).heap.size = w3.heap.size + 1 := World.size_alloc _ _;generalize w3.alloc (o11 2 9) = w4 at *;have N4 := heap_alloc_new w4 (yZ w.heap.size);have B4 := (Below.refl w4.heap.size w4).alloc (Nat.le_refl _) (yZ w.heap.size);have s4 : (w4.alloc (yZ w.heap.size)).heap.size = w4.heap.size + 1 := World.size_alloc _ _;generalize w4.alloc (yZ w.heap.size) = w5 at *;have C34 := B3.trans (B4.mono (by omega));have C24 := B2.trans (C34.mono (by omega));have C14 := B1.trans (C24.mono (by omega));have C04 := B0.trans (C14.mono (by omega));have M3 := (B4.block _ (by omega)).trans N3;have M2 := (C34.block _ (by omega)).trans N2;have M1 := (C24.block _ (by omega)).trans N1
 have M0 := (C14.block _ (by omega)).trans N0;rw [show w1.heap.size = w.heap.size + 1 by omega] at M1;rw [show w2.heap.size = w.heap.size + 2 by omega] at M2;rw [show w3.heap.size = w.heap.size + 3 by omega] at M3;rw [show w4.heap.size = w.heap.size + 4 by omega] at N4;refine ⟨.inr ⟨w.heap.size + 4, 0, rfl, aC N4, fun j r hj => ?_⟩, C04⟩;have hl := (List.getElem?_eq_some_iff.1 hj).1;have hl4 : j < 4 := hl;have : j = 0 \/ j = 1 \/ j = 2 \/ j = 3 := by omega
 rcases this with rfl | rfl | rfl | rfl <;> cases hj
 · exact ⟨_, 2, by simp [World.cell?, N4, r11], rA M0⟩
 · exact ⟨_, 2, by simp [World.cell?, N4, r11], rA M1⟩
 · exact ⟨_, 2, by simp [World.cell?, N4, r11], rA M2⟩
 · exact ⟨_, 2, by simp [World.cell?, N4, r11], rA M3⟩
set_option maxRecDepth 100000 in
set_option maxHeartbeats 16000000 in
theorem zW (w : World) (hw : mC w) : Calls Tryz.prog 8 #[] w fun e w' => e = .returned (.bool true) /\ Below w.heap.size w w' := by
 have A1 := fun (w : World) (hw : gP w) => jL ⟨#[115, 117, 109, 40, 120, 41, 32, 119, 104, 101, 114, 101, 32, 121, 32, 62, 32, 49, 32, 97, 110, 100, 32, 120, 32, 33, 61, 32, 51]⟩ (by decide) w hw
 have A2 := fun (w : World) (hw : gP w) => jL ⟨#[97, 118, 103, 40, 120, 41]⟩ (by decide) w hw
 have A3 := fun (w : World) (hw : gP w) => jL ⟨#[116, 111, 112, 40, 50, 44, 32, 120, 41]⟩ (by decide) w hw
 rw [JQ] at A1;rw [JP] at A2;rw [JN] at A3;have E1 := fun (G : Nat -> Prop) (p : PA) (ya : Option Addr) (V : World) (hr : aJ G V fB p) (hy : aX V ya r9) => Cj fB p r9 ya 4 V kB kA Cq r8 (by decide) hr hy (by rfl)
 have E2 := fun (G : Nat -> Prop) (p : PA) (ya : Option Addr) (V : World) (hr : aJ G V lF p) (hy : aX V ya r9) => Ci lF p r9 ya 4 V zX vD IQ r8 (by decide) hr hy (by rfl)
 rw [Ju] at E1;rw [Jt] at E2;rw [show r9.length = 4 by rfl] at E1 E2;have TX := fun (G : Nat -> Prop) (p : PA) (V : World) (hl : jI V) (hr : aJ G V fB p) => wL fB p V kB kA hl hr
 rw [Gm] at TX;have CK := fun (G : Nat -> Prop) (p : PA) (V : World) (hr : aJ G V fB p) => dJ fB p V Cq (by decide) hr
 rw [kB] at CK;have SM := fun (G : Nat -> Prop) (p : PA) (V : World) (hr : aJ G V fB p) => oR G G fB p fB p V kB kA kB kA hr hr
 rw [Gn] at SM;have SO := fun (G G' : Nat -> Prop) (p q : PA) (V : World) (hr : aJ G V fB p) (hq : aJ G' V lF q) => oR G G' fB p lF q V kB kA zX vD hr hq
 rw [Eh] at SO;obtain ⟨rs, hrs⟩ : ∃ r, r9 = r := ⟨_, rfl⟩;have RW := aA (fun w => Jv w);rw [hrs] at E1 E2 RW;generalize fB = x at *;generalize lF = y at *;have A1' := aA A1;have A2' := aA A2;have A3' := aA A3;have E1' := aA E1;have E2' := aA E2;have TX' := aA TX;have CK' := aA CK;have SM' := aA SM;have SO' := aA SO;have LD := aA hw;clear A1 A2 A3 E1 E2 TX CK SM SO hw hrs
 go_enter Tryz.func8, Tryz.ntmps8
 go_wp2_with fail
 refine (A1'.out w LD.out.1).mono ?_;rintro e w1 ⟨hb1, p, rfl, hr1⟩;have S1 := IP LD.out hb1 hr1;generalize hn1 : w1.heap.size = n1 at S1;generalize hV1 : w1.alloc (agP x p) = V1 at S1;have HS1 := aA S1;have HN1 := aA hn1;have HV1 := aA hV1;clear hb1 hr1 S1 hn1 hV1 A1'
 go_upto_region 2 with fail
 rw [show w1.alloc (.cells #[.string x.fn, .int .i64 x.k, .string x.e.op, .string x.e.nm, .int .i64 x.e.n, .slice p.ea x.e.ks.len p.ec, .string x.g.op, .string x.g.nm, .int .i64 x.g.n, .slice p.ga x.g.ks.len p.gc, .slice p.wa x.wh.length p.wc] 28) = V1 from HV1.out, HN1.out];clear HV1 HN1
 go_wp2_with fail
 refine (A2'.out V1 HS1.out.l.1).mono ?_;rintro e w2 ⟨hb2, rfl⟩;have S2 := (HS1.out.step hb2).step ((Below.refl w2.heap.size w2).alloc (Nat.le_refl _) (agP bC aY));generalize hn2 : w2.heap.size = n2;generalize hV2 : w2.alloc (agP bC aY) = V2 at S2;have HS2 := aA S2;have HN2 := aA hn2;have HV2 := aA hV2;clear hb2 S2 hn2 hV2 A2' HS1
 go_upto_region 3 with fail
 rw [show w2.alloc (.cells #[.string bC.fn, .int .i64 bC.k, .string bC.e.op, .string bC.e.nm, .int .i64 bC.e.n, .slice aY.ea bC.e.ks.len aY.ec, .string bC.g.op, .string bC.g.nm, .int .i64 bC.g.n, .slice aY.ga bC.g.ks.len aY.gc, .slice aY.wa bC.wh.length aY.wc] 28) = V2 from HV2.out];clear HV2
 go_wp2_with fail
 refine (oM _ _ _).mono ?_;rintro e _ ⟨rfl, rfl⟩
 go_wp2_with fail
 refine (oM _ _ _).mono ?_;rintro e _ ⟨rfl, rfl⟩
 go_wp2_with fail
 refine (oM _ _ _).mono ?_;rintro e _ ⟨rfl, rfl⟩
 go_wp2_with fail
 refine (oM _ _ _).mono ?_;rintro e _ ⟨rfl, rfl⟩;obtain ⟨hrr, hbb⟩ := RW.out V2;have S3 := HS2.out.step hbb;obtain ⟨rb, hrb⟩ : ∃ rb, V2.heap.size + 1 + 1 + 1 + 1 = rb := ⟨_, rfl⟩;have hrr2 : aX ((W11 V2).alloc (yZ V2.heap.size)) (some ⟨rb, 0, none⟩) rs := by rw [<- hrb]; exact hrr
 generalize hV3 : (W11 V2).alloc (yZ V2.heap.size) = V3 at S3 hrr2;have HS3 := aA S3;have HRR := aA hrr2;have HV3 := aA hV3;have HRB := aA hrb;clear hrr hbb S3 hrr2 hV3 hrb RW
 go_upto_region 4 with fail
 rw [show ((((V2.alloc (o11 5 2)).alloc (o11 3 2)).alloc (o11 7 1)).alloc (o11 2 9)).alloc (.cells #[.slice (some ⟨V2.heap.size, 0, none⟩) 2 2, .slice (some ⟨V2.heap.size + 1, 0, none⟩) 2 2, .slice (some ⟨V2.heap.size + 1 + 1, 0, none⟩) 2 2, .slice (some ⟨V2.heap.size + 1 + 1 + 1, 0, none⟩) 2 2] 64) = V3 from HV3.out, HRB.out];clear HV3 HRB HS2;obtain ⟨m0, m1, m2, m3, m4, m5, m6, m7, m8, m9, m10⟩ := aD HS3.out.n;have EV := aA (E1'.out _ p (some ⟨rb, 0, none⟩) V3 HS3.out.r HRR.out)
 go_wp2_with fail
 refine EV.out.mono ?_;rintro e w4 ⟨hb4, rfl⟩;have BA := (Below.refl w4.heap.size w4).alloc (Nat.le_refl _) (vlA 1 7 none 0 0);have S4 := (HS3.out.step hb4).step BA;have R4 := cQ (cQ HRR.out hb4) BA;have N8 := heap_alloc_new w4 (vlA 1 7 none 0 0);generalize hn8 : w4.heap.size = n8 at N8;generalize hV4 : w4.alloc (vlA 1 7 none 0 0) = V4 at S4 R4 N8;have HS4 := aA S4;have HR4 := aA R4;have HN8 := aA N8;have HE8 := aA hn8;have HV4 := aA hV4;clear hb4 BA S4 R4 N8 hn8 hV4 EV HS3 HRR m0 m1 m2 m3 m4 m5 m6 m7 m8 m9 m10
 go_upto_region 5 with fail
 rw [show w4.alloc (.cells #[.int .i64 1, .int .i64 7, .string ⟨#[]⟩, .slice none 0 0] 53) = V4 from HV4.out, HE8.out];clear HV4 HE8
 go_wp2_with fail
 refine (A3'.out V4 HS4.out.l.1).mono ?_;rintro e w5 ⟨hb5, q, rfl, hr5⟩;have BA := (Below.refl w5.heap.size w5).alloc (Nat.le_refl _) (agP y q);have S5 := (HS4.out.step hb5).step BA;have R5 := cQ (cQ HR4.out hb5) BA;have N8 := (BA.block _ (aC ((hb5.block _ (aC HN8.out)).trans HN8.out))).trans ((hb5.block _ (aC HN8.out)).trans HN8.out);have L5 : L11 y w5.heap.size q (w5.alloc (agP y q)) := ⟨heap_alloc_new w5 _, (hr5.kept BA).imp (fun _ _ _ => trivial)⟩;generalize hn10 : w5.heap.size = n10 at L5;generalize hV5 : w5.alloc (agP y q) = V5 at S5 R5 N8 L5;have HS5 := aA S5;have HR5 := aA R5;have HN8' := aA N8;have HL5 := aA L5;have HE10 := aA hn10;have HV5 := aA hV5;clear hb5 hr5 BA S5 R5 N8 L5 hn10 hV5 A3' HS4 HR4 HN8
 go_upto_region 6 with fail
 rw [show w5.alloc (.cells #[.string y.fn, .int .i64 y.k, .string y.e.op, .string y.e.nm, .int .i64 y.e.n, .slice q.ea y.e.ks.len q.ec, .string y.g.op, .string y.g.nm, .int .i64 y.g.n, .slice q.ga y.g.ks.len q.gc, .slice q.wa y.wh.length q.wc] 28) = V5 from HV5.out, HE10.out];clear HV5 HE10;obtain ⟨y0, y1, y2, y3, y4, y5, y6, y7, y8, y9, y10⟩ := aD HL5.out.n;have EV := aA (E2'.out _ q (some ⟨rb, 0, none⟩) V5 HL5.out.r HR5.out)
 go_wp2_with fail
 refine EV.out.mono ?_;rintro e w6 ⟨hb6, la, lc, rfl, hle⟩;obtain ⟨lb, lo, rfl, hl1, hl2, hl3⟩ := hle.resolve_left (by decide);have BA := (Below.refl w6.heap.size w6).alloc (Nat.le_refl _) (vlA 3 0 (some ⟨lb, lo, none⟩) 2 lc);have C0 := (BA.cell (p := ⟨lb, lo + 0, none⟩) hl2).trans (hl3 0 5 rfl);have C1 := (BA.cell (p := ⟨lb, lo + 1, none⟩) hl2).trans (hl3 1 7 rfl);rw [Nat.add_zero] at C0;have S6 := (HS5.out.step hb6).step BA;have L6 := (HL5.out.step hb6).step BA;have N8 := (BA.block _ (aC ((hb6.block _ (aC HN8'.out)).trans HN8'.out))).trans ((hb6.block _ (aC HN8'.out)).trans HN8'.out);have N13 := heap_alloc_new w6 (vlA 3 0 (some ⟨lb, lo, none⟩) 2 lc);have T6 := aA (show S11 w x y p q n1 n8 n10 w6.heap.size lb lo lc _ from ⟨S6, L6, N8, N13, Nat.lt_of_lt_of_le hl2 BA.size, C0, C1⟩);clear hb6 hl1 hl2 hl3 BA C0 C1 S6 L6 N8 N13 EV HS5 HL5 HR5 HN8' y0 y1 y2 y3 y4 y5 y6 y7 y8 y9 y10;obtain ⟨m0, m1, m2, m3, m4, m5, m6, m7, m8, m9, m10⟩ := aD T6.out.k.n;have TX := aA (TX'.out _ p _ T6.out.k.l.2 T6.out.k.r)
 go_wp2_with fail
 refine TX.out.mono ?_;rintro e w7 ⟨rfl, hb7⟩;have T7 := aA (T6.out.step hb7);clear hb7 TX TX' T6 m0 m1 m2 m3 m4 m5 m6 m7 m8 m9 m10;obtain ⟨m0, m1, m2, m3, m4, m5, m6, m7, m8, m9, m10⟩ := aD T7.out.k.n;obtain ⟨⟨v0, v1, v2, v3⟩, -⟩ := aK T7.out.v;obtain ⟨⟨l0, l1, l2, l3⟩, -⟩ := aK T7.out.l;have c0 := T7.out.c0;have c1 := T7.out.c1;have CK := aA (CK'.out _ p w7 T7.out.k.r)
 go_wp2_with fail
 refine CK.out.mono ?_;rintro e w8 ⟨rfl, hb8⟩;have T8 := aA (T7.out.step hb8);clear hb8 CK CK' T7 m0 m1 m2 m3 m4 m5 m6 m7 m8 m9 m10 v0 v1 v2 v3 l0 l1 l2 l3 c0 c1;obtain ⟨m0, m1, m2, m3, m4, m5, m6, m7, m8, m9, m10⟩ := aD T8.out.k.n;have SM := aA (SM'.out _ p w8 T8.out.k.r)
 go_wp2_with fail
 refine SM.out.mono ?_;rintro e w9 ⟨rfl, hb9⟩;have T9 := aA (T8.out.step hb9);clear hb9 SM SM' T8 m0 m1 m2 m3 m4 m5 m6 m7 m8 m9 m10;obtain ⟨m0, m1, m2, m3, m4, m5, m6, m7, m8, m9, m10⟩ := aD T9.out.k.n;obtain ⟨y0, y1, y2, y3, y4, y5, y6, y7, y8, y9, y10⟩ := aD T9.out.y.n;have SO := aA (SO'.out _ _ p q w9 T9.out.k.r T9.out.y.r)
 go_wp2_with fail
 refine SO.out.mono ?_;rintro e wa ⟨rfl, hba⟩;have TA := aA (T9.out.step hba);clear hba SO SO' T9 m0 m1 m2 m3 m4 m5 m6 m7 m8 m9 m10 y0 y1 y2 y3 y4 y5 y6 y7 y8 y9 y10
 go_wp2_with fail
 go_ret;exact ⟨rfl, TA.out.k.b⟩
end
end Go.Proofs.YtapcjnoaofmmiaaGreatDoor
