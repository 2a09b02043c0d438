/-
 No statement: what AggEvalCard needs, of the texts OTx, OSm, ORead, OName.
-/
import Derived.Test.YtapcjnoaofmmiaaGreatDoorVE25
namespace Go.Proofs.YtapcjnoaofmmiaaGreatDoor
section
open Go.RowKit
theorem ED (L : List ByteArray) (v : Value) (B : Nat) (sep : ByteArray) (w : World) (ho : w.ownsRow B 9 1 v L.length (L.map Value.string)) (hN : L.length <= 1000) (hlen : (Lib.join (L.map (·.data.toList)) sep.data.toList).length <= 100000) :
 Calls Tryz.prog 50 #[v, .string sep] w fun e w' => e = .returned (.string (txB (Lib.join (L.map (·.data.toList)) sep.data.toList))) /\ Below w.heap.size w w' := by
 obtain ⟨a, c, rfl⟩ := bW ho;have hc := (pF ho).1;cases L with
 | nil => exact (Tryz.strings_Join_none a c sep w).mono fun e w' ⟨he, hw⟩ => ⟨he, hw ▸ Below.refl _ _⟩
 | cons s r =>
   obtain ⟨g, rfl, c0⟩ := cV (j := 0) (u := .string s) ho rfl;have hlt : g < w.heap.size := by have := World.block_lt_of_cell? w _ c0; simpa using this
   exact Tryz.strings_Join g 0 c (s :: r) sep w (fun j y hj => by
    obtain ⟨g', hg', cj⟩ := cV (j := j) (u := .string y) ho (by rw [List.getElem?_map, hj]; rfl);cases hg';rw [Nat.zero_add];exact cj) hlt (by omega) hc (by omega)
structure TX (w : World) (x : AG) (p : PA) (l : List UInt8) (V : World) : Prop where
 k : KP9 (fun b => b < w.heap.size) w x p V
 bd : Bd (w.heap.size + 1) (w.heap.size + 1) (Lib.byteCells l) V
theorem TX.step {w : World} {x : AG} {p : PA} {l : List UInt8} {V V' : World} (h : TX w x p l V) (hb : Below V.heap.size V V') : TX w x p l V' := ⟨h.k.step hb, KJ h.bd hb⟩
theorem TX.str {w : World} {x : AG} {p : PA} {l : List UInt8} {V : World} (h : TX w x p l V) (s : ByteArray) (hl : l.length + s.size <= 1000000) :
 Calls Tryz.prog 49 #[.pointer (some ⟨w.heap.size + 1, 0, none⟩), .string s] V fun e w' => e = .returned (.tuple #[.int .i64 s.size, .nilIface]) /\ TX w x p (l ++ s.data.toList) w' /\ Oth (w.heap.size + 1) V w' :=
 (yB _ _ _ s V h.bd (by rw [Lib.byteCells_length]; omega) (by have := JS h.bd; omega)).mono fun e w' ⟨he, hb, hw, hoth⟩ => by
  have hz := JS h.bd;have hk : aG (fun b => w.heap.size + 1 <= b) V w' := ⟨hw.os, hw.tape, hw.output, hw.size, fun b _ hn => hw.block b (by omega)⟩;exact ⟨he, ⟨⟨h.k.b.trans (hk.below (B := w.heap.size) (fun b hb => by omega) h.k.z), Nat.le_trans h.k.z hk.size, hk.heap h.k.n (by omega), h.k.r.keptS hk (fun b hb hg => by omega)⟩, by rwa [uN] at hb⟩, hoth⟩
theorem TX.done {w : World} {x : AG} {p : PA} {l : List UInt8} {V : World} (h : TX w x p l V) :
 Calls Tryz.prog 53 #[.pointer (some ⟨w.heap.size + 1, 0, none⟩)] V fun e w' => e = .returned (.string ⟨l.toArray⟩) /\ Below w.heap.size w w' :=
 (Tryz.Builder_String_any _ _ l V h.bd (by have := JS h.bd; omega)).mono fun e w' ⟨he, hb⟩ => ⟨he, h.k.b.trans (hb.mono (by omega))⟩
theorem J0 {w : World} {x : AG} {p : PA} (hr : aI (fun b => b < w.heap.size) w x p) : TX w x p [] ((w.alloc (agP x p)).alloc (.cells #[.pointer none, .slice none 0 0] 112)) := by
 have K := lR hr;refine ⟨K.step ((Below.refl _ _).alloc (Nat.le_refl _) _), ?_⟩;have := Lib.fresh_isBuilder 112 5 (w.alloc (agP x p))
 rwa [World.size_alloc] at this
def qU (k : Nat) : ByteArray := if k = 0 then ⟨#[119, 104, 101, 114, 101]⟩ else ⟨#[97, 110, 100]⟩
theorem AT (k : Nat) : (qU k).size <= 5 := by unfold qU; split <;> decide
theorem Gi {x : AG} {d : CD} {r : List CD} {k : Nat} (h : x.wh.drop k = d :: r) : oB x k = 32 :: ((qU k).data.toList ++ 32 :: (bV d.a ++ 32 :: (d.op.data.toList ++ 32 :: bV d.b))) ++ nZ r := by
 by_cases h0 : k = 0
 · rw [DJ h0 h]
   unfold qU;rw [if_pos h0];simp
 · rw [zS h0, h, nZ]
   unfold qU;rw [if_neg h0];simp
theorem El (s : ByteArray) : s.data.toList.length = s.size := by simp
theorem FS (l : List UInt8) : (txB l).size = l.length := by show l.toArray.size = _; simp
set_option maxHeartbeats 16000000 in
set_option maxRecDepth 100000 in
theorem wX {G : Nat -> Prop} (x : AG) (p : PA) (w : World) (he : fO x = 0) (hn : fD x) (hl : j0 w) (hr : aI G w x p) :
 Calls Tryz.prog 17 #[agV x p] w fun e w' => e = .returned (.string ⟨(yZ x).toArray⟩) /\ Below w.heap.size w w' := by
 obtain ⟨h1, h2, h3, h4, h5, h6⟩ := cQ he;have hr' : aI (fun b => b < w.heap.size) w x p := hr.imp (fun b hb _ => hb);have K0 := J0 hr';have HL := aA (fun V (hV : Below w.heap.size w V) => hl.step hV);have HJ := aA (FF x h1);have AL := aA (AI x);have HC := aA (jO x.wh h6);have HNC := aA hn.c;have hfz := Jz h1;have CA := aA (fun V (hV : TX w x p [] V) => FB x p V he hn (HL.out V hV.k.b) hV.k.r)
 have hiz : (rY x).length <= 1500 := by
  unfold rY;have eS : ∀ t : TN, aK t = 0 -> d9 t.f -> (bV t).length <= 700 := fun t a b => oI a b
  split
  · simp
  · rename_i hc
    have l1 := eS x.e (h3 hc) hn.e
    split
    · rename_i ht
      have := h2 ht;have l2 := Lib.itoa_length_le x.k (by omega) (by omega);simp only [List.length_append, List.length_cons];omega
    · split
      · rename_i hb
        have l2 := eS x.g (h4 hb) hn.g;simp only [List.length_append, List.length_cons];omega
      · omega
 have h5' := h5;have hwl : x.wh.length <= 4 := h5;generalize hW : (w.alloc (agP x p)).alloc (.cells #[.pointer none, .slice none 0 0] 112) = W at K0;have HW := aA hW;have K1 := aA K0;have CELLS := aA (p := ∀ V, KP9 (fun b => b < w.heap.size) w x p V -> (V.cell? ⟨w.heap.size, 0, none⟩ = some (.string x.fn) /\ V.cell? ⟨w.heap.size, 1, none⟩ = some (.int .i64 x.k) /\ V.cell? ⟨w.heap.size, 2, none⟩ = some (.string x.e.op) /\ V.cell? ⟨w.heap.size, 3, none⟩ = some (.string x.e.nm) /\ V.cell? ⟨w.heap.size, 4, none⟩ = some (.int .i64 x.e.n) /\ V.cell? ⟨w.heap.size, 5, none⟩ = some (.slice p.ea x.e.ks.len p.ec) /\ V.cell? ⟨w.heap.size, 6, none⟩ = some (.string x.g.op) /\ V.cell? ⟨w.heap.size, 7, none⟩ = some (.string x.g.nm) /\ V.cell? ⟨w.heap.size, 8, none⟩ = some (.int .i64 x.g.n) /\ V.cell? ⟨w.heap.size, 9, none⟩ = some (.slice p.ga x.g.ks.len p.gc) /\ V.cell? ⟨w.heap.size, 10, none⟩ = some (.slice p.wa x.wh.length p.wc))) (fun V hV => aD hV.n);obtain ⟨J, hJ⟩ : ∃ J : ByteArray, txB (rY x) = J := ⟨_, rfl⟩;have hJz : J.size <= 1500 := by rw [<- hJ, FS]; exact hiz
 have HJJ := aA (show ∀ V v, V.ownsRow 0 9 1 v (jZ x).length ((jZ x).map Value.string) -> Calls Tryz.prog 50 #[v, .string ⟨#[44, 32]⟩] V fun e w' => e = .returned (.string J) /\ Below V.heap.size V w' from fun V v ho => by
  have := ED (jZ x) v 0 ⟨#[44, 32]⟩ V ho (by have := AL.out; omega) (by
   show (Lib.join ((jZ x).map (·.data.toList)) [44, 32]).length <= 100000;rw [HJ.out]; omega)
  rw [show (⟨#[44, 32]⟩ : ByteArray).data.toList = [44, 32] from rfl, HJ.out, hJ] at this;exact this)
 have x1 : (9223372036854775807 < x.fn.size + 1) = False := by rw [eq_iff_iff, iff_false]; omega
 have x2 : (9223372036854775807 < x.fn.size + 1 + J.size) = False := by rw [eq_iff_iff, iff_false]; omega
 have x3 : (9223372036854775807 < x.fn.size + 1 + J.size + 1) = False := by rw [eq_iff_iff, iff_false]; omega
 have HJL := aA (show J.data.toList = rY x by rw [<- hJ]);have HFZ := aA hfz;have HJZ := aA hJz;obtain ⟨full, hfull⟩ : ∃ l, yZ x = l := ⟨_, rfl⟩;rw [hfull];have HFU := aA hfull;clear hW K0 hr hr' hn hl he h1 h2 h3 h4 h5 h5' h6 hiz hJ hfz hJz hfull;obtain ⟨m0, m1, m2, m3, m4, m5, m6, m7, m8, m9, m10⟩ := CELLS.out _ K1.out.k
 go_enter Tryz.func17, Tryz.ntmps17
 go_upto_region 2 with fail
 rw [show (w.alloc (.cells #[.string x.fn, .int .i64 x.k, .string x.e.op, .string x.e.nm, .int .i64 x.e.n, .slice p.ea x.e.ks.len p.ec, .string x.g.op, .string x.g.nm, .int .i64 x.g.n, .slice p.ga x.g.ks.len p.gc, .slice p.wa x.wh.length p.wc] 28)).alloc (.cells #[.pointer none, .slice none 0 0] 112) = W from HW.out]
 go_region_held3 (fun V => V.cell? ⟨w.heap.size, 0, none⟩ = some (.string x.fn) /\ V.cell? ⟨w.heap.size, 1, none⟩ = some (.int .i64 x.k) /\ V.cell? ⟨w.heap.size, 2, none⟩ = some (.string x.e.op) /\ V.cell? ⟨w.heap.size, 3, none⟩ = some (.string x.e.nm) /\ V.cell? ⟨w.heap.size, 4, none⟩ = some (.int .i64 x.e.n) /\ V.cell? ⟨w.heap.size, 5, none⟩ = some (.slice p.ea x.e.ks.len p.ec) /\ V.cell? ⟨w.heap.size, 6, none⟩ = some (.string x.g.op) /\ V.cell? ⟨w.heap.size, 7, none⟩ = some (.string x.g.nm) /\ V.cell? ⟨w.heap.size, 8, none⟩ = some (.int .i64 x.g.n) /\ V.cell? ⟨w.heap.size, 9, none⟩ = some (.slice p.ga x.g.ks.len p.gc) /\ V.cell? ⟨w.heap.size, 10, none⟩ = some (.slice p.wa x.wh.length p.wc)) (first | assumption | exact ⟨m0, m1, m2, m3, m4, m5, m6, m7, m8, m9, m10⟩ | exact CELLS.out _ K4.out.k | exact CELLS.out _ K3.out.k | exact CELLS.out _ K2.out.k) (first
  | (go_at_call 51
     with_reducible refine (CA.out _ (K1.out.step (aM W))).mono ?_
     rintro e v1 ⟨hb, va, rfl, ho⟩;have K2 := aA ((K1.out.step (aM W)).step hb);have c2' := CELLS.out _ K2.out.k;have JO := aA (HJJ.out v1 va (dK ho (Nat.zero_le _)));clear hb ho)
  | (go_at_call 50
     with_reducible refine JO.out.mono ?_
     rintro e v2 ⟨rfl, hb⟩;have K3 := aA (K2.out.step hb);have c3' := CELLS.out _ K3.out.k;clear hb)
  | (go_at_call 49
     with_reducible refine (K3.out.str _ (by simp only [ByteArray.size_append, List.length_nil]; have h1 : (⟨#[40]⟩ : ByteArray).size = 1 := rfl; have h2 : (⟨#[41]⟩ : ByteArray).size = 1 := rfl; have := HFZ.out; have := HJZ.out; omega)).mono ?_
     rintro e v3 ⟨rfl, hb, -⟩;have K4 := aA hb;have c4' := CELLS.out _ K4.out.k;clear hb)
  | fail)
 obtain ⟨l0, hl0⟩ : ∃ l, ([] : List UInt8) ++ (x.fn ++ (⟨#[40]⟩ : ByteArray) ++ J ++ (⟨#[41]⟩ : ByteArray)).data.toList = l := ⟨_, rfl⟩;have K5 := aA (show TX w x p l0 v3 by rw [<- hl0]; exact K4.out)
 have T0 := aA (show l0 ++ oB x 0 = full by
  rw [<- hl0, <- HFU.out, sN];unfold yZ;simp [HJL.out])
 have L0 := aA (show l0.length <= 2000 + 2000 * 0 by
  rw [<- hl0];simp only [ByteArray.data_append, Array.toList_append, List.length_append, List.nil_append];have e1 : x.fn.data.toList.length = x.fn.size := by simp
  have e2 : J.data.toList.length = J.size := by simp
  have e3 : (⟨#[40]⟩ : ByteArray).data.toList.length = 1 := rfl;have e4 : (⟨#[41]⟩ : ByteArray).data.toList.length = 1 := rfl;have e5 : ([40] : List UInt8).length = 1 := rfl;have e6 : ([41] : List UInt8).length = 1 := rfl;have := HFZ.out;have := HJZ.out;omega)
 clear K4 K3 K2 K1 JO CA HJJ hl0 HFU x1 x2 x3 c2' c3' c4' m0 m1 m2 m3 m4 m5 m6 m7 m8 m9 m10 HFZ HJZ HJL AL HJ;obtain ⟨m0, m1, m2, m3, m4, m5, m6, m7, m8, m9, m10⟩ := CELLS.out _ K5.out.k
 go_wp2_with fail
 clear m0 m1 m2 m3 m4 m5 m6 m7 m8 m9 m10
 go_loopw [4, 6, 19] (fun v4 v6 i wr => ∃ (k : Nat) (l : List UInt8) (y : Value), v4 = .string (qU k) /\ v6 = y /\ i = .int .i64 k /\ k <= x.wh.length /\ Hid (l ++ oB x k = full) /\ Hid (l.length <= 2000 + 2000 * k) /\ Hid (TX w x p l wr)) (fun _ _ i _ => x.wh.length - (intOf i).toNat)
 case atStart => exact ⟨0, l0, _, rfl, rfl, rfl, Nat.zero_le _, T0, L0, K5⟩
 case round =>
  obtain ⟨k, l, y, rfl, rfl, rfl, hk, HT, HZ, HK⟩ := hrel;clear T0 L0 K5
  by_cases hlt : k < x.wh.length
  · obtain ⟨d, hd⟩ : ∃ d, x.wh[k]? = some d := ⟨_, List.getElem?_eq_getElem hlt⟩
    have hne : ¬ x.wh = [] := fun e => by rw [e] at hlt; simp at hlt
    obtain ⟨b, off, hwa, -, hbl, hcc⟩ := HK.out.k.r.c.resolve_left hne;obtain ⟨a1, c1, a2, c2, ⟨p0, p1, p2, p3, p4, p5, p6, p7, p8⟩, r1, r2⟩ := hcc k d hd
    have hdr : x.wh.drop k = d :: x.wh.drop (k + 1) := by
     rw [List.drop_eq_getElem_cons hlt];have := List.getElem?_eq_getElem hlt;rw [this] at hd;rw [Option.some.inj hd]
    obtain ⟨h1, h2, h3⟩ := HC.out d (List.mem_of_getElem? hd);have hnd := HNC.out d (List.mem_of_getElem? hd);have hAz := oI h2 hnd.1;have hBz := oI h3 hnd.2;have hoz : d.op.size <= 2 := I4 h1;have BD := (Below.refl wr.heap.size wr).alloc (Nat.le_refl _) (cdX d a1 c1 a2 c2);have ND := heap_alloc_new wr (cdX d a1 c1 a2 c2);have HBL := aA (JS HK.out.bd);have K1 := aA (HK.out.step BD);have A1 := aA (fun V (hV : Below (wr.alloc (cdX d a1 c1 a2 c2)).heap.size (wr.alloc (cdX d a1 c1 a2 c2)) V) => nD d.a (fun b => b < w.heap.size) V a1 c1 ((aX _).1 h2).1 hnd.1 ((aX _).1 h2).2 (HL.out V (K1.out.k.step hV).b) ((r1.kept BD).kept hV));have A2 := aA (fun V (hV : Below (wr.alloc (cdX d a1 c1 a2 c2)).heap.size (wr.alloc (cdX d a1 c1 a2 c2)) V) => nD d.b (fun b => b < w.heap.size) V a2 c2 ((aX _).1 h3).1 hnd.2 ((aX _).1 h3).2 (HL.out V (K1.out.k.step hV).b) ((r2.kept BD).kept hV));obtain ⟨TA, hTA⟩ : ∃ S : ByteArray, ⟨(bV d.a).toArray⟩ = S := ⟨_, rfl⟩;obtain ⟨TB, hTB⟩ : ∃ S : ByteArray, ⟨(bV d.b).toArray⟩ = S := ⟨_, rfl⟩;rw [hTA] at A1;rw [hTB] at A2;have hAz : TA.size <= 700 := by rw [<- hTA]; show (bV d.a).toArray.size <= 700; rw [List.size_toArray]; exact hAz
    have hBz : TB.size <= 700 := by rw [<- hTB]; show (bV d.b).toArray.size <= 700; rw [List.size_toArray]; exact hBz
    have hwz := AT k;obtain ⟨W0, hW0⟩ : ∃ s, qU k = s := ⟨_, rfl⟩;rw [hW0] at hwz;have HW2 := aA (show ((⟨#[32]⟩ : ByteArray) ++ W0 ++ ⟨#[32]⟩ ++ TA ++ ⟨#[32]⟩ ++ d.op ++ ⟨#[32]⟩ ++ TB).data.toList ++ nZ (x.wh.drop (k + 1)) = oB x k by rw [Gi hdr, hW0, <- hTA, <- hTB]; simp);have b1 : (k : Int) < (x.wh.length : Int) := by omega
    have b2 : (0 : Int) <= (k : Int) := by omega
    have b3 : ((k : Int)).toNat = k := by omega
    have x0 : (9223372036854775807 < 1 + W0.size) = False := by rw [eq_iff_iff, iff_false]; omega
    have x1 : (9223372036854775807 < 1 + W0.size + 1) = False := by rw [eq_iff_iff, iff_false]; omega
    have x2 : (9223372036854775807 < 1 + W0.size + 1 + TA.size) = False := by rw [eq_iff_iff, iff_false]; omega
    have x3 : (9223372036854775807 < 1 + W0.size + 1 + TA.size + 1) = False := by rw [eq_iff_iff, iff_false]; omega
    have x4 : (9223372036854775807 < 1 + W0.size + 1 + TA.size + 1 + d.op.size) = False := by rw [eq_iff_iff, iff_false]; omega
    have x5 : (9223372036854775807 < 1 + W0.size + 1 + TA.size + 1 + d.op.size + 1) = False := by rw [eq_iff_iff, iff_false]; omega
    have x6 : (9223372036854775807 < 1 + W0.size + 1 + TA.size + 1 + d.op.size + 1 + TB.size) = False := by rw [eq_iff_iff, iff_false]; omega
    have hsz : ((⟨#[32]⟩ : ByteArray) ++ W0 ++ ⟨#[32]⟩ ++ TA ++ ⟨#[32]⟩ ++ d.op ++ ⟨#[32]⟩ ++ TB).size <= 1500 := by simp only [ByteArray.size_append]; have h1 : (⟨#[32]⟩ : ByteArray).size = 1 := rfl; rw [h1]; omega
    have HSZ := aA hsz;rw [hW0];rw [hwa];clear hne hcc hwa hd hdr h1 h2 h3 hnd r1 r2 hTA hTB hAz hBz hoz hwz hW0 BD HK hsz;have HDN := aA (show wr.heap.size ≠ w.heap.size + 1 by have := HBL.out; omega)
    go_upto_region 7 with fail
    rw [show wr.alloc (.cells #[.string d.op, .string d.a.op, .string d.a.nm, .int .i64 d.a.n, .slice a1 d.a.ks.len c1, .string d.b.op, .string d.b.nm, .int .i64 d.b.n, .slice a2 d.b.ks.len c2] 98) = wr.alloc (cdX d a1 c1 a2 c2) from rfl];generalize wr.alloc (cdX d a1 c1 a2 c2) = V at *;generalize wr.heap.size = D at *;clear p0 p1 p2 p3 p4 p5 p6 p7 p8;have CD9 := aA (p := ∀ V' : World, Below V.heap.size V V' -> (V'.cell? ⟨D, 0, none⟩ = some (.string d.op) /\ V'.cell? ⟨D, 1, none⟩ = some (.string d.a.op) /\ V'.cell? ⟨D, 2, none⟩ = some (.string d.a.nm) /\ V'.cell? ⟨D, 3, none⟩ = some (.int .i64 d.a.n) /\ V'.cell? ⟨D, 4, none⟩ = some (.slice a1 d.a.ks.len c1) /\ V'.cell? ⟨D, 5, none⟩ = some (.string d.b.op) /\ V'.cell? ⟨D, 6, none⟩ = some (.string d.b.nm) /\ V'.cell? ⟨D, 7, none⟩ = some (.int .i64 d.b.n) /\ V'.cell? ⟨D, 8, none⟩ = some (.slice a2 d.b.ks.len c2))) (fun V' hV => kR ((hV.block D (aC ND)).trans ND));have CDX := aA (p := ∀ V' : World, V'.heap[D]? = some (cdX d a1 c1 a2 c2) -> (V'.cell? ⟨D, 0, none⟩ = some (.string d.op) /\ V'.cell? ⟨D, 1, none⟩ = some (.string d.a.op) /\ V'.cell? ⟨D, 2, none⟩ = some (.string d.a.nm) /\ V'.cell? ⟨D, 3, none⟩ = some (.int .i64 d.a.n) /\ V'.cell? ⟨D, 4, none⟩ = some (.slice a1 d.a.ks.len c1) /\ V'.cell? ⟨D, 5, none⟩ = some (.string d.b.op) /\ V'.cell? ⟨D, 6, none⟩ = some (.string d.b.nm) /\ V'.cell? ⟨D, 7, none⟩ = some (.int .i64 d.b.n) /\ V'.cell? ⟨D, 8, none⟩ = some (.slice a2 d.b.ks.len c2))) (fun V' hV => kR hV);have hDb := aC ND;have HND := aA ND
    obtain ⟨p0, p1, p2, p3, p4, p5, p6, p7, p8⟩ := kR ND
    go_region_held3 (fun V => V.cell? ⟨D, 0, none⟩ = some (.string d.op) /\ V.cell? ⟨D, 1, none⟩ = some (.string d.a.op) /\ V.cell? ⟨D, 2, none⟩ = some (.string d.a.nm) /\ V.cell? ⟨D, 3, none⟩ = some (.int .i64 d.a.n) /\ V.cell? ⟨D, 4, none⟩ = some (.slice a1 d.a.ks.len c1) /\ V.cell? ⟨D, 5, none⟩ = some (.string d.b.op) /\ V.cell? ⟨D, 6, none⟩ = some (.string d.b.nm) /\ V.cell? ⟨D, 7, none⟩ = some (.int .i64 d.b.n) /\ V.cell? ⟨D, 8, none⟩ = some (.slice a2 d.b.ks.len c2)) (first | assumption | exact ⟨p0, p1, p2, p3, p4, p5, p6, p7, p8⟩ | exact CD9.out _ B6.out | exact CD9.out _ B5.out) (first
     | (go_at_call 52
        with_reducible refine (A1.out _ (aM V)).mono ?_
        rintro e w5 ⟨rfl, hb⟩;have B5 := aA ((aM V).trans hb);have c5' := CD9.out _ B5.out;clear hb)
     | (go_at_call 52
        with_reducible refine (A2.out w5 B5.out).mono ?_
        rintro e w6 ⟨rfl, hb⟩;have B6 := aA (B5.out.trans (hb.mono B5.out.size));have c6' := CD9.out _ B6.out;clear hb)
     | (go_at_call 49
        with_reducible refine ((K1.out.step B6.out).str _ (by have := HSZ.out; have := HZ.out; omega)).mono ?_
        rintro e w7 ⟨rfl, hb, hbel⟩;have K7 := aA hb;have c7' := CDX.out w7 (hbel D _ _ HDN.out (by decide) ((B6.out.block D hDb).trans HND.out));clear hb hbel)
     | fail)
    have HT2 := aA (show (l ++ ((⟨#[32]⟩ : ByteArray) ++ W0 ++ ⟨#[32]⟩ ++ TA ++ ⟨#[32]⟩ ++ d.op ++ ⟨#[32]⟩ ++ TB).data.toList) ++ oB x (k + 1) = full by rw [DK, List.append_assoc, HW2.out]; exact HT.out)
    have HZ2 := aA (show (l ++ ((⟨#[32]⟩ : ByteArray) ++ W0 ++ ⟨#[32]⟩ ++ TA ++ ⟨#[32]⟩ ++ d.op ++ ⟨#[32]⟩ ++ TB).data.toList).length <= 2000 + 2000 * (k + 1) by
     rw [List.length_append, El];have := HSZ.out;have := HZ.out;omega)
    clear B5 B6 A1 A2 c5' c6' c7' K1 CD9 CDX p0 p1 p2 p3 p4 p5 p6 p7 p8 x0 x1 x2 x3 x4 x5 x6 HT HZ
    go_wp2_with fail
    go_roundw
    case rel => exact ⟨k + 1, _, _, by unfold qU; rw [if_neg (by omega)], rfl, by go_num, by omega, HT2, HZ2, K7⟩
    case measure => simp [intOf]; omega
  · have e1 : x.wh.drop k = [] := List.drop_of_length_le (by omega)
    have TR := aA (show full = l by rw [<- HT.out, Gj e1]; simp);have b1 : ¬ (k : Int) < (x.wh.length : Int) := by omega
    have b2 : decide (k < x.wh.length) = false := decide_eq_false hlt;have CD := aA (HK.out.done)
    go_wp2_with fail
    refine CD.out.mono ?_;rintro e w9 ⟨rfl, hb⟩;have HB9 := aA hb;clear hb
    go_wp2_with fail
    go_ret;exact ⟨congrArg (fun z => Ending.returned (.string ⟨List.toArray z⟩)) TR.out.symm, HB9.out⟩
def Gb (b0 kk keq ee ze bb zg zc : Bool) : Bool := b0 && (!kk || keq) && (!ee || ze) && (!bb || zg) && zc
theorem Gd {x y : AG} (hf : dH x.fn.data.toList = true) : sD x y = Gb (x.fn.toList == y.fn.toList) (kP x.fn.data.toList) (x.k == y.k) (eP x.fn.data.toList) (gY x.e y.e) (bP x.fn.data.toList) (gY x.g y.g) (iQ x.wh y.wh) := by
 unfold sD Gb kP bP;have h1 : eP x.fn.data.toList = (x.fn.data.toList != aO) := by unfold eP; rw [hf, Bool.true_and]; rfl
 rw [h1]
 have h2 : ((x.wh.length == y.wh.length) && iQ x.wh y.wh) = iQ x.wh y.wh := by
  by_cases h : x.wh.length = y.wh.length
  · rw [beq_iff_eq.2 h, Bool.true_and]
  · rw [beq_eq_false_iff_ne.2 h, Bool.false_and, sF h]
 have h3 : ∀ a b c : Bool, (a && b && c) = (a && (b && c)) := fun a b c => by cases a <;> rfl
 rw [h3 _ (x.wh.length == y.wh.length), h2];have h4 : ∀ a b : Bool, (!(a && !b)) = (!a || b) := fun a b => by cases a <;> cases b <;> rfl
 have h5 : (x.k != y.k) = !(x.k == y.k) := rfl;rw [h5, h4, h4, h4]
structure SK (G G' : Nat -> Prop) (w : World) (x : AG) (p : PA) (y : AG) (q : PA) (B : Nat) (kk ee bb : Bool) (V : World) : Prop where
 b : Below w.heap.size w V
 n1 : V.heap[w.heap.size]? = some (agP x p)
 n2 : V.heap[w.heap.size + 1]? = some (agP y q)
 t : V.heap[B]? = some (ptO kk ee bb)
 r1 : aI G V x p
 r2 : aI G' V y q
theorem SK.step {G G' : Nat -> Prop} {w : World} {x : AG} {p : PA} {y : AG} {q : PA} {B : Nat} {kk ee bb : Bool} {V V' : World} (h : SK G G' w x p y q B kk ee bb V) (hb : Below V.heap.size V V') : SK G G' w x p y q B kk ee bb V' :=
 ⟨h.b.trans (hb.mono h.b.size), (hb.block _ (aC h.n1)).trans h.n1, (hb.block _ (aC h.n2)).trans h.n2, (hb.block _ (aC h.t)).trans h.t, h.r1.kept hb, h.r2.kept hb⟩
set_option maxHeartbeats 16000000 in
set_option maxRecDepth 100000 in
theorem pD (G G' : Nat -> Prop) (x : AG) (p : PA) (y : AG) (q : PA) (w : World) (hx : fO x = 0) (hnx : fD x) (hy : fO y = 0) (hny : fD y) (hrx : aI G w x p) (hry : aI G' w y q) :
 Calls Tryz.prog 18 #[agV x p, agV y q] w fun e w' => e = .returned (.bool (sD x y)) /\ Below w.heap.size w w' := by
 obtain ⟨h1, -, h3, h4, h5, h6⟩ := cQ hx;obtain ⟨g1, -, g3, g4, g5, g6⟩ := cQ hy;rw [Gd h1];have B0 := (Below.refl w.heap.size w).alloc (Nat.le_refl _) (agP x p);have N0 := heap_alloc_new w (agP x p);have hs0 : (w.alloc (agP x p)).heap.size = w.heap.size + 1 := World.size_alloc _ _;generalize hW0 : w.alloc (agP x p) = W0 at *;have B1 := (Below.refl W0.heap.size W0).alloc (Nat.le_refl _) (agP y q);have N1 := heap_alloc_new W0 (agP y q);have NA := (B1.block w.heap.size (by omega)).trans N0;have BB := B0.trans (B1.mono (by omega));generalize hW : W0.alloc (agP y q) = W at *;rw [hs0] at N1;have HW0 := aA hW0;have HW := aA hW;have HB := aA BB;have HA := aA NA;have HN := aA N1;have HX := aA hrx;have HY := aA hry;have CP := aA (i6 x.fn W)
 have hfn : (x.fn.toList == y.fn.toList) = true -> x.fn.data.toList = y.fn.data.toList := fun h => by
  rw [Lib.toList_data, Lib.toList_data] at h;simpa using h
 have OX := aA (show ∀ d ∈ x.wh, OkD d from fun d hd => ⟨(jO x.wh h6 d hd).2.1, (jO x.wh h6 d hd).2.2, (hnx.c d hd).1, (hnx.c d hd).2⟩);have OY := aA (show ∀ d ∈ y.wh, OkD d from fun d hd => ⟨(jO y.wh g6 d hd).2.1, (jO y.wh g6 d hd).2.2, (hny.c d hd).1, (hny.c d hd).2⟩)
 have SE0 : (x.fn.toList == y.fn.toList) = true -> eP x.fn.data.toList = true -> ∀ V, aH G V p.ea x.e.ks -> aH G' V q.ea y.e.ks -> Calls Tryz.prog 54 #[cH x.e.op x.e.nm x.e.n p.ea x.e.ks.len p.ec, cH y.e.op y.e.nm y.e.n q.ea y.e.ks.len q.ec] V fun e w' => e = .returned (.bool (gY x.e y.e)) /\ Below V.heap.size V w' := fun hb he V ra rb => by
  have hc : ¬ x.fn.data.toList = aO := fun hc => by unfold eP at he; rw [hc] at he; simp at he
  have c1 := (aX _).1 (h3 hc);have c2 := (aX _).1 (g3 (by rw [<- hfn hb]; exact hc));exact nE x.e y.e G G' V p.ea q.ea p.ec q.ec c1.1 hnx.e c1.2 c2.1 hny.e c2.2 ra rb
 have SG0 : (x.fn.toList == y.fn.toList) = true -> bP x.fn.data.toList = true -> ∀ V, aH G V p.ga x.g.ks -> aH G' V q.ga y.g.ks -> Calls Tryz.prog 54 #[cH x.g.op x.g.nm x.g.n p.ga x.g.ks.len p.gc, cH y.g.op y.g.nm y.g.n q.ga y.g.ks.len q.gc] V fun e w' => e = .returned (.bool (gY x.g y.g)) /\ Below V.heap.size V w' := fun hb he V ra rb => by
  have hc : x.fn.data.toList = aY := by unfold bP at he; simpa using he
  have c1 := (aX _).1 (h4 hc);have c2 := (aX _).1 (g4 (by rw [<- hfn hb]; exact hc));exact nE x.g y.g G G' V p.ga q.ga p.gc q.gc c1.1 hnx.g c1.2 c2.1 hny.g c2.2 ra rb
 have hwl : x.wh.length <= 1000 := by omega
 have EC := aA (fun V (ra : eI G V p.wa x.wh) (rb : eI G' V q.wa y.wh) => tM x.wh y.wh G G' p.wa p.wc q.wa q.wc hwl V OX.out OY.out ra rb);obtain ⟨F, hF⟩ : ∃ F, x.fn.data.toList = F := ⟨_, rfl⟩;rw [hF] at CP SE0 SG0 |-
 obtain ⟨b0, hb0⟩ : ∃ z, (x.fn.toList == y.fn.toList) = z := ⟨_, rfl⟩;obtain ⟨kk, hkk⟩ : ∃ b, kP F = b := ⟨_, rfl⟩;obtain ⟨ee, hee⟩ : ∃ b, eP F = b := ⟨_, rfl⟩;obtain ⟨bb, hbb⟩ : ∃ b, bP F = b := ⟨_, rfl⟩;obtain ⟨keq, hkeq⟩ : ∃ b, (x.k == y.k) = b := ⟨_, rfl⟩;obtain ⟨ze, hze⟩ : ∃ b, gY x.e y.e = b := ⟨_, rfl⟩;obtain ⟨zg, hzg⟩ : ∃ b, gY x.g y.g = b := ⟨_, rfl⟩;obtain ⟨zc, hzc⟩ : ∃ b, iQ x.wh y.wh = b := ⟨_, rfl⟩;obtain ⟨ff, hff⟩ : ∃ b, dH F = b := ⟨_, rfl⟩;unfold ptV at CP;rw [hkk, hee, hbb, hff] at CP;rw [hb0, hee, hze] at SE0;rw [hb0, hbb, hzg] at SG0;rw [hzc] at EC;rw [hb0, hkk, hee, hbb, hkeq, hze, hzg, hzc];obtain ⟨r, hr⟩ : ∃ r, Gb b0 kk keq ee ze bb zg zc = r := ⟨_, rfl⟩;rw [hr];have HR := aA hr;have SE1 := aA SE0;have SG1 := aA SG0;obtain ⟨m0, m1, m2, m3, m4, m5, m6, m7, m8, m9, m10⟩ := aD NA;clear hW0 hW B0 B1 N0 N1 NA BB hrx hry h1 h3 h4 h5 h6 g1 g3 g4 g5 g6 hx hnx hy hny hfn SE0 SG0 hkk hee hbb hze hzg hzc hr hff hwl OX OY
 go_enter Tryz.func18, Tryz.ntmps18
 go_upto_region 1 with fail
 rw [show w.alloc (.cells #[.string x.fn, .int .i64 x.k, .string x.e.op, .string x.e.nm, .int .i64 x.e.n, .slice p.ea x.e.ks.len p.ec, .string x.g.op, .string x.g.nm, .int .i64 x.g.n, .slice p.ga x.g.ks.len p.gc, .slice p.wa x.wh.length p.wc] 28) = W0 from HW0.out,
  show W0.alloc (.cells #[.string y.fn, .int .i64 y.k, .string y.e.op, .string y.e.nm, .int .i64 y.e.n, .slice q.ea y.e.ks.len q.ec, .string y.g.op, .string y.g.nm, .int .i64 y.g.n, .slice q.ga y.g.ks.len q.gc, .slice q.wa y.wh.length q.wc] 28) = W from HW.out]
 go_wp2_with fail
 refine CP.out.mono ?_;rintro e w1 ⟨rfl, hb1⟩;have BA := (Below.refl w1.heap.size w1).alloc (Nat.le_refl _) (ptO kk ee bb);have NP := heap_alloc_new w1 (ptO kk ee bb);have hz := HB.out.size;have hz1 := hb1.size
 have K2 := aA (show SK G G' w x p y q w1.heap.size kk ee bb (w1.alloc (ptO kk ee bb)) from
  ⟨(HB.out.trans (hb1.mono hz)).trans (BA.mono (by omega)), (BA.block _ (by have := aC HA.out; omega)).trans ((hb1.block _ (aC HA.out)).trans HA.out), (BA.block _ (by have := aC HN.out; omega)).trans ((hb1.block _ (aC HN.out)).trans HN.out), NP, ((HX.out.kept (HB.out)).kept hb1).kept BA, ((HY.out.kept (HB.out)).kept hb1).kept BA⟩)
 clear hb1 BA NP CP HA HN HX HY hz hz1 m0 m1 m2 m3 m4 m5 m6 m7 m8 m9 m10
 go_upto_region 2 with fail
 generalize w1.alloc (ptO kk ee bb) = V at *;generalize w1.heap.size = B at *;obtain ⟨m0, m1, m2, m3, m4, m5, m6, m7, m8, m9, m10⟩ := aD K2.out.n1;obtain ⟨n0, n1, n2, n3, n4, n5, n6, n7, n8, n9, n10⟩ := aD K2.out.n2;obtain ⟨⟨y0, y1, y2⟩, -⟩ := cS K2.out.t;cases b0 with
 | false =>
   have TR := aA (show false = r from HR.out)
   go_wp2_with fail
   go_ret;exact ⟨congrArg (fun z => Ending.returned (.bool z)) TR.out, K2.out.b⟩
 | true =>
   cases kk with
   | false =>
     cases ee with
     | false =>
       cases bb with
       | false =>
         have TR := aA (show zc = r from HR.out)
         go_wp2_with fail
         refine (EC.out _ K2.out.r1.c K2.out.r2.c).mono ?_;rintro e w9 ⟨rfl, hb9⟩;have HB9 := aA (K2.out.b.trans (hb9.mono K2.out.b.size));clear hb9
         go_wp2_with fail
         go_ret;exact ⟨congrArg (fun z => Ending.returned (.bool z)) TR.out, HB9.out⟩
       | true =>
         go_wp2_with fail
         refine (SG1.out (by first | rfl | trivial) (by first | rfl | trivial) _ K2.out.r1.g K2.out.r2.g).mono ?_;rintro e w8 ⟨rfl, hb8⟩;have K8 := aA (K2.out.step hb8);clear hb8;clear m0 m1 m2 m3 m4 m5 m6 m7 m8 m9 m10 n0 n1 n2 n3 n4 n5 n6 n7 n8 n9 n10 y0 y1 y2;obtain ⟨m0, m1, m2, m3, m4, m5, m6, m7, m8, m9, m10⟩ := aD K8.out.n1;obtain ⟨n0, n1, n2, n3, n4, n5, n6, n7, n8, n9, n10⟩ := aD K8.out.n2;obtain ⟨⟨y0, y1, y2⟩, -⟩ := cS K8.out.t;cases zg with
         | false =>
           have TR := aA (show false = r from HR.out)
           go_wp2_with fail
           go_ret;exact ⟨congrArg (fun z => Ending.returned (.bool z)) TR.out, K8.out.b⟩
         | true =>
           have TR := aA (show zc = r from HR.out)
           go_wp2_with fail
           refine (EC.out _ K8.out.r1.c K8.out.r2.c).mono ?_;rintro e w9 ⟨rfl, hb9⟩;have HB9 := aA (K8.out.b.trans (hb9.mono K8.out.b.size));clear hb9
           go_wp2_with fail
           go_ret;exact ⟨congrArg (fun z => Ending.returned (.bool z)) TR.out, HB9.out⟩
     | true =>
       go_wp2_with fail
       refine (SE1.out (by first | rfl | trivial) (by first | rfl | trivial) _ K2.out.r1.e K2.out.r2.e).mono ?_;rintro e w7 ⟨rfl, hb7⟩;have K7 := aA (K2.out.step hb7);clear hb7;clear m0 m1 m2 m3 m4 m5 m6 m7 m8 m9 m10 n0 n1 n2 n3 n4 n5 n6 n7 n8 n9 n10 y0 y1 y2;obtain ⟨m0, m1, m2, m3, m4, m5, m6, m7, m8, m9, m10⟩ := aD K7.out.n1;obtain ⟨n0, n1, n2, n3, n4, n5, n6, n7, n8, n9, n10⟩ := aD K7.out.n2;obtain ⟨⟨y0, y1, y2⟩, -⟩ := cS K7.out.t;cases ze with
       | false =>
         have TR := aA (show false = r from HR.out)
         go_wp2_with fail
         go_ret;exact ⟨congrArg (fun z => Ending.returned (.bool z)) TR.out, K7.out.b⟩
       | true =>
         cases bb with
         | false =>
           have TR := aA (show zc = r from HR.out)
           go_wp2_with fail
           refine (EC.out _ K7.out.r1.c K7.out.r2.c).mono ?_;rintro e w9 ⟨rfl, hb9⟩;have HB9 := aA (K7.out.b.trans (hb9.mono K7.out.b.size));clear hb9
           go_wp2_with fail
           go_ret;exact ⟨congrArg (fun z => Ending.returned (.bool z)) TR.out, HB9.out⟩
         | true =>
           go_wp2_with fail
           refine (SG1.out (by first | rfl | trivial) (by first | rfl | trivial) _ K7.out.r1.g K7.out.r2.g).mono ?_;rintro e w8 ⟨rfl, hb8⟩;have K8 := aA (K7.out.step hb8);clear hb8;clear m0 m1 m2 m3 m4 m5 m6 m7 m8 m9 m10 n0 n1 n2 n3 n4 n5 n6 n7 n8 n9 n10 y0 y1 y2;obtain ⟨m0, m1, m2, m3, m4, m5, m6, m7, m8, m9, m10⟩ := aD K8.out.n1;obtain ⟨n0, n1, n2, n3, n4, n5, n6, n7, n8, n9, n10⟩ := aD K8.out.n2;obtain ⟨⟨y0, y1, y2⟩, -⟩ := cS K8.out.t;cases zg with
           | false =>
             have TR := aA (show false = r from HR.out)
             go_wp2_with fail
             go_ret;exact ⟨congrArg (fun z => Ending.returned (.bool z)) TR.out, K8.out.b⟩
           | true =>
             have TR := aA (show zc = r from HR.out)
             go_wp2_with fail
             refine (EC.out _ K8.out.r1.c K8.out.r2.c).mono ?_;rintro e w9 ⟨rfl, hb9⟩;have HB9 := aA (K8.out.b.trans (hb9.mono K8.out.b.size));clear hb9
             go_wp2_with fail
             go_ret;exact ⟨congrArg (fun z => Ending.returned (.bool z)) TR.out, HB9.out⟩
   | true =>
     cases keq with
     | false =>
       have TR := aA (show false = r from HR.out)
       go_wp2_with fail
       go_ret;exact ⟨congrArg (fun z => Ending.returned (.bool z)) TR.out, K2.out.b⟩
     | true =>
       cases ee with
       | false =>
         cases bb with
         | false =>
           have TR := aA (show zc = r from HR.out)
           go_wp2_with fail
           refine (EC.out _ K2.out.r1.c K2.out.r2.c).mono ?_;rintro e w9 ⟨rfl, hb9⟩;have HB9 := aA (K2.out.b.trans (hb9.mono K2.out.b.size));clear hb9
           go_wp2_with fail
           go_ret;exact ⟨congrArg (fun z => Ending.returned (.bool z)) TR.out, HB9.out⟩
         | true =>
           go_wp2_with fail
           refine (SG1.out (by first | rfl | trivial) (by first | rfl | trivial) _ K2.out.r1.g K2.out.r2.g).mono ?_;rintro e w8 ⟨rfl, hb8⟩;have K8 := aA (K2.out.step hb8);clear hb8;clear m0 m1 m2 m3 m4 m5 m6 m7 m8 m9 m10 n0 n1 n2 n3 n4 n5 n6 n7 n8 n9 n10 y0 y1 y2;obtain ⟨m0, m1, m2, m3, m4, m5, m6, m7, m8, m9, m10⟩ := aD K8.out.n1;obtain ⟨n0, n1, n2, n3, n4, n5, n6, n7, n8, n9, n10⟩ := aD K8.out.n2;obtain ⟨⟨y0, y1, y2⟩, -⟩ := cS K8.out.t;cases zg with
           | false =>
             have TR := aA (show false = r from HR.out)
             go_wp2_with fail
             go_ret;exact ⟨congrArg (fun z => Ending.returned (.bool z)) TR.out, K8.out.b⟩
           | true =>
             have TR := aA (show zc = r from HR.out)
             go_wp2_with fail
             refine (EC.out _ K8.out.r1.c K8.out.r2.c).mono ?_;rintro e w9 ⟨rfl, hb9⟩;have HB9 := aA (K8.out.b.trans (hb9.mono K8.out.b.size));clear hb9
             go_wp2_with fail
             go_ret;exact ⟨congrArg (fun z => Ending.returned (.bool z)) TR.out, HB9.out⟩
       | true =>
         go_wp2_with fail
         refine (SE1.out (by first | rfl | trivial) (by first | rfl | trivial) _ K2.out.r1.e K2.out.r2.e).mono ?_;rintro e w7 ⟨rfl, hb7⟩;have K7 := aA (K2.out.step hb7);clear hb7;clear m0 m1 m2 m3 m4 m5 m6 m7 m8 m9 m10 n0 n1 n2 n3 n4 n5 n6 n7 n8 n9 n10 y0 y1 y2;obtain ⟨m0, m1, m2, m3, m4, m5, m6, m7, m8, m9, m10⟩ := aD K7.out.n1;obtain ⟨n0, n1, n2, n3, n4, n5, n6, n7, n8, n9, n10⟩ := aD K7.out.n2;obtain ⟨⟨y0, y1, y2⟩, -⟩ := cS K7.out.t;cases ze with
         | false =>
           have TR := aA (show false = r from HR.out)
           go_wp2_with fail
           go_ret;exact ⟨congrArg (fun z => Ending.returned (.bool z)) TR.out, K7.out.b⟩
         | true =>
           cases bb with
           | false =>
             have TR := aA (show zc = r from HR.out)
             go_wp2_with fail
             refine (EC.out _ K7.out.r1.c K7.out.r2.c).mono ?_;rintro e w9 ⟨rfl, hb9⟩;have HB9 := aA (K7.out.b.trans (hb9.mono K7.out.b.size));clear hb9
             go_wp2_with fail
             go_ret;exact ⟨congrArg (fun z => Ending.returned (.bool z)) TR.out, HB9.out⟩
           | true =>
             go_wp2_with fail
             refine (SG1.out (by first | rfl | trivial) (by first | rfl | trivial) _ K7.out.r1.g K7.out.r2.g).mono ?_;rintro e w8 ⟨rfl, hb8⟩;have K8 := aA (K7.out.step hb8);clear hb8;clear m0 m1 m2 m3 m4 m5 m6 m7 m8 m9 m10 n0 n1 n2 n3 n4 n5 n6 n7 n8 n9 n10 y0 y1 y2;obtain ⟨m0, m1, m2, m3, m4, m5, m6, m7, m8, m9, m10⟩ := aD K8.out.n1;obtain ⟨n0, n1, n2, n3, n4, n5, n6, n7, n8, n9, n10⟩ := aD K8.out.n2;obtain ⟨⟨y0, y1, y2⟩, -⟩ := cS K8.out.t;cases zg with
             | false =>
               have TR := aA (show false = r from HR.out)
               go_wp2_with fail
               go_ret;exact ⟨congrArg (fun z => Ending.returned (.bool z)) TR.out, K8.out.b⟩
             | true =>
               have TR := aA (show zc = r from HR.out)
               go_wp2_with fail
               refine (EC.out _ K8.out.r1.c K8.out.r2.c).mono ?_;rintro e w9 ⟨rfl, hb9⟩;have HB9 := aA (K8.out.b.trans (hb9.mono K8.out.b.size));clear hb9
               go_wp2_with fail
               go_ret;exact ⟨congrArg (fun z => Ending.returned (.bool z)) TR.out, HB9.out⟩
theorem J5 (L : List Tk) (p : Nat) : eA L p = bK L p := by unfold eA bK; cases L[p]? <;> rfl
theorem wJ {L : List Tk} {p : Nat} (h : ¬ (bK L p).kind = 0) : p < L.length := by
 rcases Nat.lt_or_ge p L.length with hp | hp
 · exact hp
 · exact absurd (by unfold bK; rw [List.getElem?_eq_none hp]; rfl) h
structure PR (ts : List Tk) (rb : Nat) (a : Option Addr) (c p : Nat) (er : Int) (w : World) : Prop where
 r : w.heap[rb]? = some (.cells #[.slice a ts.length c, .int .i64 p, .int .i64 er] 75 (0, 0))
 t : yG rb w a ts
 p : p <= ts.length
 n : ts.length <= 100000
abbrev PS (ts : List Tk) (rb : Nat) (a : Option Addr) (c : Nat) (s : RS) (w : World) : Prop := PR ts rb a c (atR s) s.bad w
section
variable {ts : List Tk} {rb : Nat} {a : Option Addr} {c p : Nat} {er : Int} {w w' : World}
theorem PR.kept (h : PR ts rb a c p er w) {S : Nat -> Prop} (hk : aG S w w') (hS : ∀ k, S k -> rb < k) : PR ts rb a c p er w' :=
 ⟨hk.heap h.r (fun hs => by have := hS rb hs; omega), h.t.kept hk (fun k hs => by have := hS k hs; omega), h.p, h.n⟩
theorem PR.below (h : PR ts rb a c p er w) (hb : Below w.heap.size w w') : PR ts rb a c p er w' :=
 h.kept (aF hb (fun _ => False)) (fun _ h => h.elim)
theorem PR.lt (h : PR ts rb a c p er w) : rb < w.heap.size := aC h.r
theorem PR.setE (h : PR ts rb a c p er w) (e : Int) : PR ts rb a c p e (w.setCell ⟨rb, 2, none⟩ (.int .i64 e)) := by
 refine ⟨?_, h.t.kept ((aG.refl (· = rb) w).setCell (p := ⟨rb, 2, none⟩) (.inl rfl) _) (fun k hk => by omega), h.p, h.n⟩;have := heap_setCell_same w rb 2 _ 75 (.int .i64 e) h.r;simpa using this
theorem PR.setP (h : PR ts rb a c p er w) (q : Nat) (hq : q <= ts.length) : PR ts rb a c q er (w.setCell ⟨rb, 1, none⟩ (.int .i64 (q : Nat))) := by
 refine ⟨?_, h.t.kept ((aG.refl (· = rb) w).setCell (p := ⟨rb, 1, none⟩) (.inl rfl) _) (fun k hk => by omega), hq, h.n⟩;have := heap_setCell_same w rb 1 _ 75 (.int .i64 (q : Nat)) h.r;simpa using this
theorem PR.reads (h : PR ts rb a c p er w) : gQ w a ts :=
 h.t.imp id fun ⟨b, off, e, hlt, hc⟩ => ⟨b, off, e, Nat.lt_trans hlt h.lt, hc⟩
theorem PR.drewN (h : PR ts rb a c p er w) (n : Nat) : PR ts rb a c p er (w.drewN n) := h.kept ((aG.refl (fun _ => False) w).drewN n) (fun _ h => h.elim)
end
set_option maxHeartbeats 4000000 in
theorem kT (ts : List Tk) (rb : Nat) (a : Option Addr) (c p : Nat) (er : Int) (w : World) (h : PR ts rb a c p er w) :
 Calls Tryz.prog 132 #[.pointer (some ⟨rb, 0, none⟩)] w fun e w' => e = .returned (tkG (bK ts p)) /\ Below w.heap.size w w' := by
 rw [<- J5];have hpos := h.p;have hn := h.n;have BA := (Below.refl w.heap.size w).alloc (Nat.le_refl _) (tkO 0 ⟨#[]⟩ 0 0);have NB := heap_alloc_new w (tkO 0 ⟨#[]⟩ 0 0);have hP := h.below BA;have hsz : (w.alloc (tkO 0 ⟨#[]⟩ 0 0)).heap.size = w.heap.size + 1 := World.size_alloc _ _;obtain ⟨⟨c0, c1, c2⟩, -⟩ := cS hP.r;obtain ⟨⟨x0, x1, x2, x3⟩, f0, f1, f2, f3⟩ := aJ NB
 by_cases hlt : p < ts.length
 · obtain ⟨b, off, ha, -, p0, p1, p2, p3⟩ := uR hP.t hlt
   subst ha;obtain ⟨X, hX⟩ : ∃ X, tkG (eA ts p) = X := ⟨_, rfl⟩;have hX' := hX;rw [rU hlt] at hX';unfold tkG at hX';rw [hX];generalize ts[p] = t at p0 p1 p2 p3 hX';obtain ⟨k, s, nn, pp⟩ := t;simp only at p0 p1 p2 p3 hX';have a1 : ((p : Int) == (ts.length : Int)) = false := by rw [beq_eq_false_iff_ne]; omega
   have a2 : (p : Int) < (ts.length : Int) := by omega
   have a4 : (0 : Int) <= (p : Int) := by omega
   have a3 : ((p : Int)).toNat = p := by omega
   subst hX';clear hX h hP;have HN := aA NB;have HB := aA BA;clear NB BA
   go_enter Tryz.func132, Tryz.ntmps132
   go_upto_region 1 with fail
   generalize w.alloc (tkO 0 ⟨#[]⟩ 0 0) = W at *
   go_upto_region 3 with (go_quiet (fail))
   go_region
   go_wp2_with fail
   obtain ⟨⟨d0, d1, d2, d3⟩, -⟩ := aJ (aP (W := W.drewN (nq + 1)) HN.out (.int .i64 k) (.string ⟨s.toArray⟩) (.int .i64 nn) (.int .i64 pp));exact bodyPost_ret (v := .agg #[.int .i64 k, .string ⟨s.toArray⟩, .int .i64 nn, .int .i64 pp]) (by simp [results, Tryz.results132, go_sem, d0, d1, d2, d3]) rfl ⟨rfl, jR HB.out (Nat.le_refl _) (by omega) (nq + 1) _ _ _ _⟩
 · obtain rfl : p = ts.length := by omega
   rw [rV (Nat.le_refl _)];clear h hP;have HN := aA NB;have HB := aA BA;clear NB BA
   go_enter Tryz.func132, Tryz.ntmps132
   go_upto_region 1 with fail
   generalize w.alloc (tkO 0 ⟨#[]⟩ 0 0) = W at *
   go_upto_region 2 with (go_quiet (fail))
   go_wp2_with fail
   obtain ⟨⟨d0, d1, d2, d3⟩, -⟩ := aJ (aP (W := W.drewN nq) HN.out (.int .i64 0) (.string ⟨#[]⟩) (.int .i64 0) (.int .i64 0));exact bodyPost_ret (v := .agg #[.int .i64 0, .string ⟨#[]⟩, .int .i64 0, .int .i64 0]) (by simp [results, Tryz.results132, go_sem, d0, d1, d2, d3]) rfl ⟨rfl, jR HB.out (Nat.le_refl _) (by omega) nq _ _ _ _⟩
set_option maxHeartbeats 2000000 in
theorem fS (ts : List Tk) (rb : Nat) (a : Option Addr) (c : Nat) (s : RS) (so : Bool) (er : Int) (he : ¬ er = 0) (w : World) (h : PS ts rb a c s w) :
 Calls Tryz.prog 133 #[.pointer (some ⟨rb, 0, none⟩), .bool so, .int .i64 er] w fun e w' => e = .returned (.tuple #[]) /\ PS ts rb a c (bZ so er s) w' /\ aG (· = rb) w w' := by
 obtain ⟨⟨c0, c1, c2⟩, f0, f1, f2⟩ := cS h.r;cases so with
 | true =>
   have H := aA (show PS ts rb a c (bZ true er s) w from h);clear h
   go_enter Tryz.func133, Tryz.ntmps133
   go_wp2_with fail
   go_end0
   exact ⟨rfl, H.out, aG.refl _ _⟩
 | false =>
   by_cases hb : s.bad = 0
   · have q : ((s.bad : Int) == 0) = true := by rw [hb]; rfl
     have H := aA (show PS ts rb a c (bZ false er s) (w.setCell ⟨rb, 2, none⟩ (.int .i64 er)) from by
      rw [gA];show PR ts rb a c (atR (cO er s)) (cO er s).bad _;rw [JC er he s, show (cO er s).bad = er by unfold cO; rw [if_pos hb]];exact h.setE er)
     clear h hb
     go_enter Tryz.func133, Tryz.ntmps133
     go_wp2_with fail
     go_end0
     exact ⟨rfl, H.out, pK (aG.refl _ _) 2 _⟩
   · have q : ((s.bad : Int) == 0) = false := beq_eq_false_iff_ne.2 hb
     have H := aA (show PS ts rb a c (bZ false er s) w from by rw [gA, nS hb]; exact h);clear h hb
     go_enter Tryz.func133, Tryz.ntmps133
     go_wp2_with fail
     go_end0
     exact ⟨rfl, H.out, aG.refl _ _⟩
set_option maxHeartbeats 2000000 in
theorem i1 (ts : List Tk) (rb : Nat) (a : Option Addr) (c : Nat) (s : RS) (hlt : s.bad = 0 -> s.pos < ts.length) (w : World) (h : PS ts rb a c s w) :
 Calls Tryz.prog 134 #[.pointer (some ⟨rb, 0, none⟩)] w fun e w' => e = .returned (.tuple #[]) /\ PS ts rb a c (goR s) w' /\ aG (· = rb) w w' := by
 obtain ⟨⟨c0, c1, c2⟩, f0, f1, f2⟩ := cS h.r;have hp := h.p;have hn := h.n
 by_cases hb : s.bad = 0
 · have q : ((s.bad : Int) == 0) = true := by rw [hb]; rfl
   have H := aA (show PS ts rb a c (goR s) (w.setCell ⟨rb, 1, none⟩ (.int .i64 ((atR s : Nat) + 1 : Nat))) from by
    rw [Ax hb];show PR ts rb a c (atR (dD s)) s.bad _;rw [show atR (dD s) = atR s + 1 by rw [jS hb, jS (show (dD s).bad = 0 from hb)]; rfl];exact h.setP (atR s + 1) (by rw [jS hb]; exact hlt hb))
   rw [Int.natCast_add] at H;clear h hb hlt
   go_enter Tryz.func134, Tryz.ntmps134
   go_wp2_with fail
   go_end0
   exact ⟨rfl, H.out, pK (aG.refl _ _) 1 _⟩
 · have q : ((s.bad : Int) == 0) = false := beq_eq_false_iff_ne.2 hb
   have H := aA (show PS ts rb a c (goR s) w from by rw [fN hb]; exact h);clear h hb hlt
   go_enter Tryz.func134, Tryz.ntmps134
   go_wp2_with fail
   go_end0
   exact ⟨rfl, H.out, aG.refl _ _⟩
theorem jX {so : Bool} {e : Int} (he : ¬ e = 0) {s : RS} (h : (bZ so e s).bad = 0) : so = true /\ s.bad = 0 := by
 cases so with
 | true => exact ⟨rfl, h⟩
 | false =>
   by_cases hb : s.bad = 0
   · exact absurd h (cX he hb)
   · rw [gA, nS hb] at h; exact absurd h hb
theorem iB (so : Bool) (e : Int) (s : RS) : (bZ so e s).pos = s.pos := by
 unfold bZ
 split
 · rfl
 · exact pO e s
theorem oU (t : Tk) : tkG t = .agg #[.int .i64 t.kind, .string ⟨t.text.toArray⟩, .int .i64 t.num, .int .i64 t.place] := rfl
set_option maxHeartbeats 8000000 in
theorem mX (ts : List Tk) (rb : Nat) (a : Option Addr) (c : Nat) (s : RS) (x : ByteArray) (w : World) (h : PS ts rb a c s w) :
 Calls Tryz.prog 83 #[.pointer (some ⟨rb, 0, none⟩), .string x] w fun e w' => e = .returned (.tuple #[]) /\ PS ts rb a c (dF ts x.data.toList s) w' /\ aG (· = rb) w w' := by
 have TL : (bK ts (atR s)).kind = 3 -> atR s < ts.length := fun hk => wJ (by rw [hk]; decide)
 have SI := Ix ts x.data.toList s;have NX := kT ts rb a c (atR s) s.bad w h;obtain ⟨t, ht⟩ : ∃ t, bK ts (atR s) = t := ⟨_, rfl⟩;rw [ht] at TL SI NX;rw [oU] at NX;rw [<- SI];clear SI ht;obtain ⟨X, hX⟩ : ∃ X : ByteArray, ⟨t.text.toArray⟩ = X := ⟨_, rfl⟩;have hXl : t.text = X.data.toList := by rw [<- hX]
 rw [hX] at NX;rw [hXl, <- Lib.toList_data, <- Lib.toList_data];obtain ⟨k, s', nn, pp⟩ := t;simp only at TL NX hX |-
 have HT := aA TL;have HN := aA NX;have HP := aA h;obtain ⟨so, hso⟩ : ∃ so, ((k == 3) && (X.toList == x.toList)) = so := ⟨_, rfl⟩;rw [hso];have HSO := aA hso;clear TL NX hX hXl h hso;have hrb := HP.out.lt
 go_enter Tryz.func83, Tryz.ntmps83
 go_wp2_with fail
 refine HN.out.mono ?_;rintro e w1 ⟨rfl, hb⟩;have P1 := HP.out.below hb;have K1 := aF hb (· = rb);have BA := (Below.refl w1.heap.size w1).alloc (Nat.le_refl _) (tkO k X nn pp);have NB := heap_alloc_new w1 (tkO k X nn pp);have P2 := aA (P1.below BA);have K2 := aA (K1.trans (aF BA (· = rb)) (fun i hi _ => hi));have CM := aA (fun so V (hV : PS ts rb a c s V) => fS ts rb a c s so 2 (by decide) V hV);obtain ⟨⟨x0, x1, x2, x3⟩, -⟩ := aJ NB;clear hb P1 K1 BA NB HN;cases hk3 : (k == 3) with
 | true =>
   have z : (k == 3) = true := hk3;have hso : (X.toList == x.toList) = so := by rw [<- HSO.out, hk3, Bool.true_and]
   have hz := HT.out (by simpa using hk3);clear hk3
   go_upto_region 1 with fail
   generalize w1.alloc (tkO k X nn pp) = W at *
   go_wp2_with fail
   refine (CM.out so _ P2.out).mono ?_;rintro e w2 ⟨rfl, P3, k3⟩;clear hso;have K3 := K2.out.trans k3 (fun i hi _ => hi);have CS := i1 ts rb a c (bZ so 2 s) (fun hh => by rw [iB]; have := (jX (by decide) hh).2; rw [jS this] at hz; exact hz) w2 P3;have HC := aA CS;have HK := aA K3;clear P3 k3 K3 CS CM P2 K2 x0 x1 x2 x3
   go_wp2_with fail
   refine HC.out.mono ?_;rintro e w3 ⟨rfl, P4, k4⟩;have P5 := aA P4;have K5 := aA (HK.out.trans k4 (fun i hi _ => hi));clear P4 k4
   go_wp2_with fail
   go_end0
   exact ⟨rfl, P5.out, K5.out⟩
 | false =>
   have z : (k == 3) = false := hk3;have hz : false = so := by rw [<- HSO.out, hk3, Bool.false_and]
   subst hz;clear hk3
   go_upto_region 1 with fail
   generalize w1.alloc (tkO k X nn pp) = W at *
   go_wp2_with fail
   refine (CM.out false _ P2.out).mono ?_;rintro e w2 ⟨rfl, P3, k3⟩;have K3 := K2.out.trans k3 (fun i hi _ => hi);have CS := i1 ts rb a c (bZ false 2 s) (fun hh => absurd (jX (by decide) hh).1 (by decide)) w2 P3;have HC := aA CS;have HK := aA K3;clear P3 k3 K3 CS CM P2 K2 x0 x1 x2 x3
   go_wp2_with fail
   refine HC.out.mono ?_;rintro e w3 ⟨rfl, P4, k4⟩;have P5 := aA P4;have K5 := aA (HK.out.trans k4 (fun i hi _ => hi));clear P4 k4
   go_wp2_with fail
   go_end0
   exact ⟨rfl, P5.out, K5.out⟩
set_option maxHeartbeats 8000000 in
theorem Ec (ts : List Tk) (rb : Nat) (a : Option Addr) (c : Nat) (s : RS) (w : World) (h : PS ts rb a c s w) :
 Calls Tryz.prog 82 #[.pointer (some ⟨rb, 0, none⟩)] w fun e w' => e = .returned (.string ⟨(bK ts (atR s)).text.toArray⟩) /\
  PS ts rb a c (goR (bZ (dH (bK ts (atR s)).text) 5 (bZ ((bK ts (atR s)).kind == 1) 2 s))) w' /\ aG (· = rb) w w' := by
 have TL : (bK ts (atR s)).kind = 1 -> atR s < ts.length := fun hk => wJ (by rw [hk]; decide)
 have NX := kT ts rb a c (atR s) s.bad w h;obtain ⟨t, ht⟩ : ∃ t, bK ts (atR s) = t := ⟨_, rfl⟩;rw [ht] at TL NX;rw [oU] at NX;rw [ht];clear ht;obtain ⟨X, hX⟩ : ∃ X : ByteArray, ⟨t.text.toArray⟩ = X := ⟨_, rfl⟩;have hXl : t.text = X.data.toList := by rw [<- hX]
 rw [hX] at NX |-
 rw [hXl];obtain ⟨k, s', nn, pp⟩ := t;simp only at TL NX hX |-
 have HT := aA TL;have HN := aA NX;have HP := aA h;obtain ⟨fo, hfo⟩ : ∃ b, dH X.data.toList = b := ⟨_, rfl⟩;rw [hfo];have HFO := aA hfo;clear TL NX hX hXl h hfo;have hrb := HP.out.lt
 go_enter Tryz.func82, Tryz.ntmps82
 go_wp2_with fail
 refine HN.out.mono ?_;rintro e w1 ⟨rfl, hb⟩;have P1 := HP.out.below hb;have K1 := aF hb (· = rb);have BA := (Below.refl w1.heap.size w1).alloc (Nat.le_refl _) (tkO k X nn pp);have NB := heap_alloc_new w1 (tkO k X nn pp);have P2 := aA (P1.below BA);have K2 := aA (K1.trans (aF BA (· = rb)) (fun i hi _ => hi));have hb1 := hb.size;have hs1 : (w1.alloc (tkO k X nn pp)).heap.size = w1.heap.size + 1 := World.size_alloc _ _;clear hb P1 K1 BA HN;obtain ⟨B, hB⟩ : ∃ B, w1.heap.size = B := ⟨_, rfl⟩;rw [hB] at NB hs1;have hBr : rb < B := by omega
 go_upto_region 2 with fail
 try rw [hB]
 generalize w1.alloc (tkO k X nn pp) = W at *;clear hB hb1;obtain ⟨⟨x0, x1, x2, x3⟩, -⟩ := aJ NB;have HNB := aA NB;have CP := aA (i6 X W);rw [HFO.out] at CP;clear NB
 go_wp2_with fail
 refine CP.out.mono ?_;rintro e w2 ⟨rfl, hb⟩;have P3 := P2.out.below hb;have K3 := K2.out.trans (aF hb (· = rb)) (fun i hi _ => hi);have N3 := (hb.block B (by omega)).trans HNB.out;have hz3 := hb.size;have BA := (Below.refl w2.heap.size w2).alloc (Nat.le_refl _) (ptO (kP X.data.toList) (eP X.data.toList) (bP X.data.toList));have P4 := aA (P3.below BA);have K4 := aA (K3.trans (aF BA (· = rb)) (fun i hi _ => hi));have N4 := aA ((BA.block B (by omega)).trans N3);clear hb P3 K3 N3 hz3 BA CP P2 K2 HNB x0 x1 x2 x3
 go_upto_region 3 with fail
 generalize w2.alloc (ptO (kP X.data.toList) (eP X.data.toList) (bP X.data.toList)) = W2 at *;obtain ⟨⟨x0, x1, x2, x3⟩, -⟩ := aJ N4.out;have CM := aA (fS ts rb a c s (k == 1) 2 (by decide) W2 P4.out)
 go_wp2_with fail
 refine CM.out.mono ?_;rintro e w3 ⟨rfl, P5, k5⟩;have N5 := k5.heap N4.out (by omega);have K5 := aA (K4.out.trans k5 (fun i hi _ => hi));have CF := aA (fS ts rb a c (bZ (k == 1) 2 s) fo 5 (by decide) w3 P5);clear P5 k5 CM P4 K4 N4 x0 x1 x2 x3;obtain ⟨⟨x0, x1, x2, x3⟩, -⟩ := aJ N5;have N6 := aA N5;clear N5
 go_wp2_with fail
 refine CF.out.mono ?_;rintro e w4 ⟨rfl, P7, k7⟩;have N7 := k7.heap N6.out (by omega);have K7 := aA (K5.out.trans k7 (fun i hi _ => hi))
 have CS := aA (i1 ts rb a c (bZ fo 5 (bZ (k == 1) 2 s)) (fun hh => by
  rw [iB, iB];have h1 := (jX (by decide) hh).2;have h2 := jX (by decide) h1;have := HT.out (by simpa using h2.1);rw [jS h2.2] at this;exact this) w4 P7)
 clear P7 k7 CF K5 N6 x0 x1 x2 x3;obtain ⟨⟨x0, x1, x2, x3⟩, -⟩ := aJ N7;have N8 := aA N7;clear N7
 go_wp2_with fail
 refine CS.out.mono ?_;rintro e w5 ⟨rfl, P9, k9⟩;have N9 := k9.heap N8.out (by omega);have K9 := aA (K7.out.trans k9 (fun i hi _ => hi));have P10 := aA P9;clear P9 k9 CS K7 N8 x0 x1 x2 x3;obtain ⟨⟨x0, x1, x2, x3⟩, -⟩ := aJ N9;clear N9
 go_wp2_with fail
 go_ret;exact ⟨rfl, P10.out, K9.out⟩
set_option maxHeartbeats 8000000 in
theorem Kt (ts : List Tk) (rb : Nat) (a : Option Addr) (c : Nat) (s : RS) (w : World) (h : PS ts rb a c s w) :
 Calls Tryz.prog 135 #[.pointer (some ⟨rb, 0, none⟩)] w fun e w' => e = .returned (.int .i64 (bK ts (atR s)).num) /\ PS ts rb a c (oS ts s) w' /\ aG (· = rb) w w' := by
 have TL : (bK ts (atR s)).kind = 2 -> atR s < ts.length := fun hk => wJ (by rw [hk]; decide)
 have NX := kT ts rb a c (atR s) s.bad w h;unfold oS;obtain ⟨t, ht⟩ : ∃ t, bK ts (atR s) = t := ⟨_, rfl⟩;rw [ht] at TL NX;rw [oU] at NX;rw [ht];clear ht;obtain ⟨X, hX⟩ : ∃ X : ByteArray, ⟨t.text.toArray⟩ = X := ⟨_, rfl⟩;rw [hX] at NX;obtain ⟨k, s', nn, pp⟩ := t;simp only at TL NX hX |-
 have HT := aA TL;have HN := aA NX;have HP := aA h;obtain ⟨so, hso⟩ : ∃ so, (decide (1 <= nn) && decide (nn <= 16)) = so := ⟨_, rfl⟩;rw [hso];have HSO := aA hso;clear TL NX hX h hso;have hrb := HP.out.lt
 go_enter Tryz.func135, Tryz.ntmps135
 go_wp2_with fail
 refine HN.out.mono ?_;rintro e w1 ⟨rfl, hb⟩;have P1 := HP.out.below hb;have K1 := aF hb (· = rb);have BA := (Below.refl w1.heap.size w1).alloc (Nat.le_refl _) (tkO k X nn pp);have NB := heap_alloc_new w1 (tkO k X nn pp);have P2 := aA (P1.below BA);have K2 := aA (K1.trans (aF BA (· = rb)) (fun i hi _ => hi));have hb1 := hb.size;have hs1 : (w1.alloc (tkO k X nn pp)).heap.size = w1.heap.size + 1 := World.size_alloc _ _;clear hb P1 K1 BA HN;obtain ⟨B, hB⟩ : ∃ B, w1.heap.size = B := ⟨_, rfl⟩;rw [hB] at NB hs1;have hBr : rb < B := by omega
 go_upto_region 2 with fail
 try rw [hB]
 generalize w1.alloc (tkO k X nn pp) = W at *;clear hB hb1;obtain ⟨⟨x0, x1, x2, x3⟩, -⟩ := aJ NB;have HNB := aA NB;have CM := aA (fS ts rb a c s (k == 2) 2 (by decide) W P2.out);clear NB
 go_wp2_with fail
 refine CM.out.mono ?_;rintro e w3 ⟨rfl, P5, k5⟩;have N5 := k5.heap HNB.out (by omega);have K5 := aA (K2.out.trans k5 (fun i hi _ => hi));have CK := aA (Am nn w3);have CF := aA (fS ts rb a c (bZ (k == 2) 2 s) (decide (1 <= nn) && decide (nn <= 16)) 1 (by decide) w3 P5);clear P5 k5 CM P2 K2 HNB x0 x1 x2 x3;obtain ⟨⟨x0, x1, x2, x3⟩, -⟩ := aJ N5;have N6 := aA N5;clear N5;rw [HSO.out] at CK CF
 go_wp2_with fail
 refine CK.out.mono ?_;rintro e w3' ⟨rfl, rfl⟩
 go_wp2_with fail
 refine CF.out.mono ?_;rintro e w4 ⟨rfl, P7, k7⟩;have N7 := k7.heap N6.out (by omega);have K7 := aA (K5.out.trans k7 (fun i hi _ => hi))
 have CS := aA (i1 ts rb a c (bZ so 1 (bZ (k == 2) 2 s)) (fun hh => by
  rw [iB, iB];have h1 := (jX (by decide) hh).2;have h2 := jX (by decide) h1;have := HT.out (by simpa using h2.1);rw [jS h2.2] at this;exact this) w4 P7)
 clear P7 k7 CF K5 N6 x0 x1 x2 x3;obtain ⟨⟨x0, x1, x2, x3⟩, -⟩ := aJ N7;have N8 := aA N7;clear N7
 go_wp2_with fail
 refine CS.out.mono ?_;rintro e w5 ⟨rfl, P9, k9⟩;have N9 := k9.heap N8.out (by omega);have K9 := aA (K7.out.trans k9 (fun i hi _ => hi));have P10 := aA P9;clear P9 k9 CS K7 N8 x0 x1 x2 x3;obtain ⟨⟨x0, x1, x2, x3⟩, -⟩ := aJ N9;clear N9
 go_wp2_with fail
 go_ret;exact ⟨rfl, P10.out, K9.out⟩
end
end Go.Proofs.YtapcjnoaofmmiaaGreatDoor
