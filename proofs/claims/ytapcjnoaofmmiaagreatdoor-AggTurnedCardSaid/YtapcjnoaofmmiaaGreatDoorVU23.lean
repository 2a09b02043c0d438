/-
 No statement: what AggTurnedCard needs, of the texts OText, OTx, OSm.
-/
import Derived.Test.YtapcjnoaofmmiaaGreatDoorVU22
namespace Go.Proofs.YtapcjnoaofmmiaaGreatDoor
section
open Go.RowKit
abbrev txB (l : List UInt8) : ByteArray := ⟨l.toArray⟩
def fU (x : AG) : List ByteArray := if kP x.fn.data.toList = true then [txB (Lib.itoa x.k)] else []
def gY (x : AG) : List ByteArray := if eP x.fn.data.toList = true then fU x ++ [txB (bI x.e)] else fU x
def jH (x : AG) : List ByteArray := if bP x.fn.data.toList = true then gY x ++ [txB (bI x.g)] else gY x
theorem Fg (x : AG) (hf : cZ x.fn.data.toList = true) : Lib.join ((jH x).map (·.data.toList)) [44, 32] = rR x := by
 unfold jH gY fU rR;obtain ⟨F, hF⟩ : ∃ F, x.fn.data.toList = F := ⟨_, rfl⟩;rw [hF] at hf |-
 have eE : eP F = !(F == aN) := by unfold eP; rw [hf, Bool.true_and]
 by_cases hc : F = aN
 · subst hc
   rfl
 · have h1 : eP F = true := by rw [eE, beq_eq_false_iff_ne.2 hc]; rfl
   rw [if_neg hc, if_pos h1]
   by_cases ht : F = eJ
   · subst ht
     rw [if_pos rfl, if_neg (show ¬ bP eJ = true by decide), if_pos (show kP eJ = true by decide)];simp [Lib.join, txB]
   · rw [if_neg ht, if_neg (show ¬ kP F = true by unfold kP; rw [beq_eq_false_iff_ne.2 ht]; decide)]
     by_cases hb : F = aT
     · subst hb
       rw [if_pos rfl, if_pos (show bP aT = true by decide)];simp [Lib.join, txB]
     · rw [if_neg hb, if_neg (show ¬ bP F = true by unfold bP; rw [beq_eq_false_iff_ne.2 hb]; decide)]
       simp [Lib.join, txB]
theorem As (x : AG) : (fU x).length <= 1 /\ (gY x).length <= 2 /\ (jH x).length <= 3 := by
 have h1 : (fU x).length <= 1 := by unfold fU; split <;> simp
 have h2 : (gY x).length <= 2 := by
  unfold gY
  split
  · rw [List.length_append, List.length_singleton]; omega
  · omega
 have h3 : (jH x).length <= 3 := by
  unfold jH
  split
  · rw [List.length_append, List.length_singleton]; omega
  · omega
 exact ⟨h1, h2, h3⟩
structure TA (G : Nat -> Prop) (w : World) (x : AG) (p : PA) (B : Nat) (v : Value) (L : List ByteArray) (V : World) : Prop where
 k : KP9 G w x p V
 t : V.heap[B]? = some (ptO (kP x.fn.data.toList) (eP x.fn.data.toList) (bP x.fn.data.toList))
 own : V.ownsRow (B + 1) 9 1 v L.length (L.map Value.string)
 lo : w.heap.size < B
theorem TA.step {G : Nat -> Prop} {w : World} {x : AG} {p : PA} {B : Nat} {v : Value} {L : List ByteArray} {V V' : World} (h : TA G w x p B v L V) (hb : Below V.heap.size V V') : TA G w x p B v L V' :=
 ⟨h.k.step hb, (hb.block _ (aC h.t)).trans h.t, bH h.own hb, h.lo⟩
theorem TA.push {G : Nat -> Prop} {w : World} {x : AG} {p : PA} {B : Nat} {v v' : Value} {L : List ByteArray} {s : ByteArray} {V V' : World} (h : TA G w x p B v L V) (hG : ∀ b, G b -> b < w.heap.size) (ho : V'.ownsRow (B + 1) 9 1 v' (L.length + 1) (L.map Value.string ++ [.string s])) (hg : V.grownBy V' v.ownBlock) : TA G w x p B v' (L ++ [s]) V' := by
 have hk := (aF.refl (fun b => v.ownBlock = some b) V).grown hg (fun k hk => .inl hk);have hlo := h.lo;have hB := aC h.t;have lo : ∀ b, v.ownBlock = some b -> B + 1 <= b := fun b hb => (h.own.lt b hb).1
 refine ⟨⟨h.k.b.trans (hk.below (B := w.heap.size) (fun b hb => by have := lo b hb; omega) h.k.z), Nat.le_trans h.k.z hk.size, hk.heap h.k.n (fun e => by have := lo _ e; omega), h.k.r.keptS hk (fun b hb hg => by have := lo b hb; have := hG b hg; omega)⟩, hk.heap h.t (fun e => by have := lo _ e; omega), ?_, hlo⟩;have e1 : (L ++ [s]).length = L.length + 1 := by simp
 have e2 : (L ++ [s]).map Value.string = L.map Value.string ++ [.string s] := by simp
 rw [e1, e2];exact ho
theorem Gt : (Tryz.prog.info? 9).map (fun i => (i.zero, i.size, i.bytes)) = some (some (.string ⟨#[]⟩), 1, 16) := by kernel_rfl
theorem wO (W : World) (v : Value) (t : TypeId) : ∀ j u, ([v] : List Value)[j]? = some u -> (W.alloc (.cells #[v] t)).cell? ((⟨W.heap.size, 0, none⟩ : Addr).add j) = some u := fun j u hu => by
 match j, hu with
 | 0, h =>
   cases h;rw [Addr.add_lit];unfold World.cell?;rw [heap_alloc_new];rfl
 | n + 1, h => simp at h
set_option maxHeartbeats 16000000 in
set_option maxRecDepth 100000 in
theorem Fe {G : Nat -> Prop} (x : AG) (p : PA) (w : World) (he : iD x = 0) (hn : i1 x) (hl : jI w) (hr : aJ G w x p) :
 Calls Tryz.prog 51 #[agV x p] w fun e w' => Below w.heap.size w w' /\ ∃ v, e = .returned v /\ w'.ownsRow w.heap.size 9 1 v (jH x).length ((jH x).map Value.string) := by
 obtain ⟨h1, h2, h3, h4, h5, h6⟩ := dY he;have hr' : aJ (fun b => b < w.heap.size) w x p := hr.imp (fun b hb _ => hb);have K0 := lD hr';have HL := aA (fun V (hV : Below w.heap.size w V) => hl.step hV);have AL := aA (As x);have HN := aA hn;generalize hW : w.alloc (agP x p) = W at K0;have HW := aA hW;have HK := aA K0;have CP := aA (iH x.fn W);have EK1 := aA (show (kP x.fn.data.toList = true -> 1 <= x.k /\ x.k <= 16) from fun h => h2 (by unfold kP at h; simpa using h));have EK2 := aA (show (eP x.fn.data.toList = true -> aI x.e = 0) from fun h => h3 (by unfold eP at h; intro hc; rw [hc] at h; simp at h));have EK3 := aA (show (bP x.fn.data.toList = true -> aI x.g = 0) from fun h => h4 (by unfold bP at h; simpa using h));unfold ptV at CP;have F1 : ∀ L, fU x = L -> fU x = L := fun _ h => h
 have D1 := aA (show fU x = if kP x.fn.data.toList = true then [txB (Lib.itoa x.k)] else [] from rfl);have D2 := aA (show gY x = if eP x.fn.data.toList = true then fU x ++ [txB (bI x.e)] else fU x from rfl);have D3 := aA (show jH x = if bP x.fn.data.toList = true then gY x ++ [txB (bI x.g)] else gY x from rfl);have DT := aA (fun B v L V => @TA.mk (fun b => b < w.heap.size) w x p B v L V);have TQ := aA (fun B v L V (h : TA (fun b => b < w.heap.size) w x p B v L V) => h.t);obtain ⟨kk, hkk⟩ : ∃ b, kP x.fn.data.toList = b := ⟨_, rfl⟩;obtain ⟨ee, hee⟩ : ∃ b, eP x.fn.data.toList = b := ⟨_, rfl⟩;obtain ⟨bb, hbb⟩ : ∃ b, bP x.fn.data.toList = b := ⟨_, rfl⟩;rw [hkk, hee, hbb] at CP TQ DT;rw [hkk] at D1 EK1;rw [hee] at D2 EK2;rw [hbb] at D3 EK3;clear hW K0 hr hr' hn hl he h1 h2 h3 h4 h5 h6 F1 hkk hee hbb;obtain ⟨m0, m1, m2, m3, m4, m5, m6, m7, m8, m9, m10⟩ := aD HK.out.n;have und := Tryz.underlying118;obtain ⟨i, hi, hz0, hz1, hz2⟩ := info_parts Gt
 go_enter Tryz.func51, Tryz.ntmps51
 go_upto_region 1 with fail
 rw [show w.alloc (.cells #[.string x.fn, .int .i64 x.k, .string x.e.op, .string x.e.nm, .int .i64 x.e.n, .slice p.ea x.e.ks.len p.ec, .string x.g.op, .string x.g.nm, .int .i64 x.g.n, .slice p.ga x.g.ks.len p.gc, .slice p.wa x.wh.length p.wc] 28) = W from HW.out]
 go_wp2_with fail
 refine CP.out.mono ?_;rintro e w1 ⟨rfl, hb1⟩;have K1 := HK.out.step hb1;have BA := (Below.refl w1.heap.size w1).alloc (Nat.le_refl _) (ptO kk ee bb);have NA := heap_alloc_new w1 (ptO kk ee bb);have K2 := aA (K1.step BA);have hlo : w.heap.size < w1.heap.size := aC K1.n;clear hb1 K1 BA CP HK m0 m1 m2 m3 m4 m5 m6 m7 m8 m9 m10
 go_upto_region 2 with fail
 generalize w1.alloc (ptO kk ee bb) = V at *;generalize w1.heap.size = B at *
 go_cut [5] (fun v5 wc => Hid (TA (fun b => b < w.heap.size) w x p B v5 [] wc))
 case first =>
  have T0 := aA (DT.out B (.slice none 0 0) [] V K2.out NA ⟨rfl, .inl ⟨rfl, rfl⟩⟩ hlo)
  go_wp2_with fail
  go_meet
  case rel => exact T0
 case rest =>
 have T0 := hcut;clear K2 NA hcut;have K2 := aA T0.out.k;have NA := TQ.out _ _ _ _ T0.out;obtain ⟨m0, m1, m2, m3, m4, m5, m6, m7, m8, m9, m10⟩ := aD K2.out.n;obtain ⟨⟨y0, y1, y2⟩, -⟩ := cL NA;clear NA K2
 go_upto_if 13 with fail
 go_cut [5] (fun v5 wc => Hid (TA (fun b => b < w.heap.size) w x p B v5 (fU x) wc))
 case first =>
  cases kk with
  | true =>
    have hk := EK1.out rfl;have CF := aA (sV x.k (by omega) (by omega) _ (HL.out _ T0.out.k.b))
    go_wp2_with fail
    refine CF.out.mono ?_;rintro e w7 ⟨rfl, hb7⟩;have BU := (Below.refl w7.heap.size w7).alloc (Nat.le_refl _) (.cells #[.string (txB (Lib.itoa x.k))] 9);have T7 := aA ((T0.out.step hb7).step BU);have NU := aA (wO w7 (.string (txB (Lib.itoa x.k))) 9);have HBS := aA (show B + 1 <= (w7.alloc (.cells #[.string (txB (Lib.itoa x.k))] 9)).heap.size from aC T7.out.t);clear hb7 BU CF T0 m0 m1 m2 m3 m4 m5 m6 m7 m8 m9 m10 y0 y1 y2
    go_wp2_with (first
     | (at_builtin
        refine aQ rfl _ _ 118 rfl (base := B + 1) und hi hz0 hz1 hz2 rfl (by decide) u5 ([] : List ByteArray).length 1 1 ⟨w7.heap.size, 0, none⟩ (([] : List ByteArray).map Value.string) [.string (txB (Lib.itoa x.k))] rfl rfl T7.out.own rfl NU.out (fun u hu => by simp only [List.mem_singleton] at hu; subst hu; rfl) (by have := AL.out; have l0 : ([] : List ByteArray).length = 0 := rfl; unfold maxLen; omega) (by have := AL.out; have l0 : ([] : List ByteArray).length = 0 := rfl; omega) HBS.out ?_;intro v9 w9 ho hg hn;have T9 := aA (T7.out.push (fun _ h => h) ho hg);clear ho hg hn T7 NU HBS)
     | fail)
    go_wp2_with fail
    go_meet
    case rel =>
     have := T9;rw [show fU x = [] ++ [txB (Lib.itoa x.k)] from D1.out];exact this
  | false =>
    go_wp2_with fail
    go_meet
    case rel =>
     have := T0;rw [show fU x = [] from D1.out];exact this
 case rest =>
  have T1 := hcut;clear T0 hcut m0 m1 m2 m3 m4 m5 m6 m7 m8 m9 m10 y0 y1 y2 D1;have NA := TQ.out _ _ _ _ T1.out;obtain ⟨m0, m1, m2, m3, m4, m5, m6, m7, m8, m9, m10⟩ := aD T1.out.k.n;obtain ⟨⟨y0, y1, y2⟩, -⟩ := cL NA
  go_upto_if 21 with fail
  go_cut [5] (fun v5 wc => Hid (TA (fun b => b < w.heap.size) w x p B v5 (gY x) wc))
  case first =>
   cases ee with
   | true =>
     have hk := EK2.out rfl;obtain ⟨ok, sz⟩ := (bJ x.e).1 hk;have CF := aA (mO x.e (fun b => b < w.heap.size) _ p.ea p.ec ok HN.out.e sz (HL.out _ T1.out.k.b) T1.out.k.r.e)
     go_wp2_with fail
     refine CF.out.mono ?_;rintro e w7 ⟨rfl, hb7⟩;have BU := (Below.refl w7.heap.size w7).alloc (Nat.le_refl _) (.cells #[.string (txB (bI x.e))] 9);have T7 := aA ((T1.out.step hb7).step BU);have NU := aA (wO w7 (.string (txB (bI x.e))) 9);have HBS := aA (show B + 1 <= (w7.alloc (.cells #[.string (txB (bI x.e))] 9)).heap.size from aC T7.out.t);clear hb7 BU CF T1 m0 m1 m2 m3 m4 m5 m6 m7 m8 m9 m10 y0 y1 y2
     go_wp2_with (first
      | (at_builtin
         refine aQ rfl _ _ 118 rfl (base := B + 1) und hi hz0 hz1 hz2 rfl (by decide) u5 (fU x).length 1 1 ⟨w7.heap.size, 0, none⟩ ((fU x).map Value.string) [.string (txB (bI x.e))] rfl rfl T7.out.own rfl NU.out (fun u hu => by simp only [List.mem_singleton] at hu; subst hu; rfl) (by have := AL.out; have l0 : ([] : List ByteArray).length = 0 := rfl; unfold maxLen; omega) (by have := AL.out; have l0 : ([] : List ByteArray).length = 0 := rfl; omega) HBS.out ?_;intro v9 w9 ho hg hn;have T9 := aA (T7.out.push (fun _ h => h) ho hg);clear ho hg hn T7 NU HBS)
      | fail)
     go_wp2_with fail
     go_meet
     case rel =>
      have := T9;rw [show gY x = fU x ++ [txB (bI x.e)] from D2.out];exact this
   | false =>
     go_wp2_with fail
     go_meet
     case rel =>
      have := T1;rw [show gY x = fU x from D2.out];exact this
  case rest =>
   have T2 := hcut;clear T1 NA hcut m0 m1 m2 m3 m4 m5 m6 m7 m8 m9 m10 y0 y1 y2 D2;have NA := TQ.out _ _ _ _ T2.out;obtain ⟨m0, m1, m2, m3, m4, m5, m6, m7, m8, m9, m10⟩ := aD T2.out.k.n;obtain ⟨⟨y0, y1, y2⟩, -⟩ := cL NA;cases bb with
   | true =>
     have hk := EK3.out rfl;obtain ⟨ok, sz⟩ := (bJ x.g).1 hk;have CF := aA (mO x.g (fun b => b < w.heap.size) _ p.ga p.gc ok HN.out.g sz (HL.out _ T2.out.k.b) T2.out.k.r.g)
     go_wp2_with fail
     refine CF.out.mono ?_;rintro e w7 ⟨rfl, hb7⟩;have BU := (Below.refl w7.heap.size w7).alloc (Nat.le_refl _) (.cells #[.string (txB (bI x.g))] 9);have T7 := aA ((T2.out.step hb7).step BU);have NU := aA (wO w7 (.string (txB (bI x.g))) 9);have HBS := aA (show B + 1 <= (w7.alloc (.cells #[.string (txB (bI x.g))] 9)).heap.size from aC T7.out.t);clear hb7 BU CF T2 m0 m1 m2 m3 m4 m5 m6 m7 m8 m9 m10 y0 y1 y2
     go_wp2_with (first
      | (at_builtin
         refine aQ rfl _ _ 118 rfl (base := B + 1) und hi hz0 hz1 hz2 rfl (by decide) u5 (gY x).length 1 1 ⟨w7.heap.size, 0, none⟩ ((gY x).map Value.string) [.string (txB (bI x.g))] rfl rfl T7.out.own rfl NU.out (fun u hu => by simp only [List.mem_singleton] at hu; subst hu; rfl) (by have := AL.out; have l0 : ([] : List ByteArray).length = 0 := rfl; unfold maxLen; omega) (by have := AL.out; have l0 : ([] : List ByteArray).length = 0 := rfl; omega) HBS.out ?_;intro v9 w9 ho hg hn;have T9 := aA (T7.out.push (fun _ h => h) ho hg);clear ho hg hn T7 NU HBS)
      | fail)
     have D4 := aA (show jH x = gY x ++ [txB (bI x.g)] from D3.out)
     go_wp2_with fail
     go_ret;refine ⟨T9.out.k.b, _, rfl, ?_⟩;rw [D4.out];exact fF T9.out.own (by have := T9.out.lo; omega)
   | false =>
     have D4 := aA (show jH x = gY x from D3.out)
     go_wp2_with fail
     go_ret;refine ⟨T2.out.k.b, _, rfl, ?_⟩;rw [D4.out];exact fF T2.out.own (by have := T2.out.lo; omega)
theorem Ei (L : List ByteArray) (v : Value) (B : Nat) (sep : ByteArray) (w : World) (ho : w.ownsRow B 9 1 v L.length (L.map Value.string)) (hN : L.length <= 1000) (hlen : (Lib.join (L.map (·.data.toList)) sep.data.toList).length <= 100000) :
 Calls Tryz.prog 50 #[v, .string sep] w fun e w' => e = .returned (.string (txB (Lib.join (L.map (·.data.toList)) sep.data.toList))) /\ Below w.heap.size w w' := by
 obtain ⟨a, c, rfl⟩ := cJ ho;have hc := (FS ho).1;cases L with
 | nil => exact (Tryz.strings_Join_none a c sep w).mono fun e w' ⟨he, hw⟩ => ⟨he, hw ▸ Below.refl _ _⟩
 | cons s r =>
   obtain ⟨g, rfl, c0⟩ := gG (j := 0) (u := .string s) ho rfl;have hlt : g < w.heap.size := by have := World.block_lt_of_cell? w _ c0; simpa using this
   exact Tryz.strings_Join g 0 c (s :: r) sep w (fun j y hj => by
    obtain ⟨g', hg', cj⟩ := gG (j := j) (u := .string y) ho (by rw [List.getElem?_map, hj]; rfl);cases hg';rw [Nat.zero_add];exact cj) hlt (by omega) hc (by omega)
structure TX (w : World) (x : AG) (p : PA) (l : List UInt8) (V : World) : Prop where
 k : KP9 (fun b => b < w.heap.size) w x p V
 bd : Bd (w.heap.size + 1) (w.heap.size + 1) (Lib.byteCells l) V
theorem TX.step {w : World} {x : AG} {p : PA} {l : List UInt8} {V V' : World} (h : TX w x p l V) (hb : Below V.heap.size V V') : TX w x p l V' := ⟨h.k.step hb, J0 h.bd hb⟩
theorem TX.str {w : World} {x : AG} {p : PA} {l : List UInt8} {V : World} (h : TX w x p l V) (s : ByteArray) (hl : l.length + s.size <= 1000000) :
 Calls Tryz.prog 49 #[.pointer (some ⟨w.heap.size + 1, 0, none⟩), .string s] V fun e w' => e = .returned (.tuple #[.int .i64 s.size, .nilIface]) /\ TX w x p (l ++ s.data.toList) w' /\ Oth (w.heap.size + 1) V w' :=
 (xM _ _ _ s V h.bd (by rw [Lib.byteCells_length]; omega) (by have := Jb h.bd; omega)).mono fun e w' ⟨he, hb, hw, hoth⟩ => by
  have hz := Jb h.bd;have hk : aF (fun b => w.heap.size + 1 <= b) V w' := ⟨hw.os, hw.tape, hw.output, hw.size, fun b _ hn => hw.block b (by omega)⟩;exact ⟨he, ⟨⟨h.k.b.trans (hk.below (B := w.heap.size) (fun b hb => by omega) h.k.z), Nat.le_trans h.k.z hk.size, hk.heap h.k.n (by omega), h.k.r.keptS hk (fun b hb hg => by omega)⟩, by rwa [uD] at hb⟩, hoth⟩
theorem TX.done {w : World} {x : AG} {p : PA} {l : List UInt8} {V : World} (h : TX w x p l V) :
 Calls Tryz.prog 53 #[.pointer (some ⟨w.heap.size + 1, 0, none⟩)] V fun e w' => e = .returned (.string ⟨l.toArray⟩) /\ Below w.heap.size w w' :=
 (Tryz.Builder_String_any _ _ l V h.bd (by have := Jb h.bd; omega)).mono fun e w' ⟨he, hb⟩ => ⟨he, h.k.b.trans (hb.mono (by omega))⟩
theorem Jj {w : World} {x : AG} {p : PA} (hr : aJ (fun b => b < w.heap.size) w x p) : TX w x p [] ((w.alloc (agP x p)).alloc (.cells #[.pointer none, .slice none 0 0] 112)) := by
 have K := lD hr;refine ⟨K.step ((Below.refl _ _).alloc (Nat.le_refl _) _), ?_⟩;have := Lib.fresh_isBuilder 112 5 (w.alloc (agP x p))
 rwa [World.size_alloc] at this
def qI (k : Nat) : ByteArray := if k = 0 then ⟨#[119, 104, 101, 114, 101]⟩ else ⟨#[97, 110, 100]⟩
theorem Az (k : Nat) : (qI k).size <= 5 := by unfold qI; split <;> decide
theorem FM {x : AG} {d : CD} {r : List CD} {k : Nat} (h : x.wh.drop k = d :: r) : nJ x k = 32 :: ((qI k).data.toList ++ 32 :: (bI d.a ++ 32 :: (d.op.data.toList ++ 32 :: bI d.b))) ++ nH r := by
 by_cases h0 : k = 0
 · rw [Du h0 h]
   unfold qI;rw [if_pos h0];simp
 · rw [zE h0, h, nH]
   unfold qI;rw [if_neg h0];simp
theorem DW (s : ByteArray) : s.data.toList.length = s.size := by simp
theorem Fs (l : List UInt8) : (txB l).size = l.length := by show l.toArray.size = _; simp
set_option maxHeartbeats 16000000 in
set_option maxRecDepth 100000 in
theorem wL {G : Nat -> Prop} (x : AG) (p : PA) (w : World) (he : iD x = 0) (hn : i1 x) (hl : jI w) (hr : aJ G w x p) :
 Calls Tryz.prog 17 #[agV x p] w fun e w' => e = .returned (.string ⟨(yI x).toArray⟩) /\ Below w.heap.size w w' := by
 obtain ⟨h1, h2, h3, h4, h5, h6⟩ := dY he;have hr' : aJ (fun b => b < w.heap.size) w x p := hr.imp (fun b hb _ => hb);have K0 := Jj hr';have HL := aA (fun V (hV : Below w.heap.size w V) => hl.step hV);have HJ := aA (Fg x h1);have AL := aA (As x);have HC := aA (iV x.wh h6);have HNC := aA hn.c;have hfz := IV h1;have CA := aA (fun V (hV : TX w x p [] V) => Fe x p V he hn (HL.out V hV.k.b) hV.k.r)
 have hiz : (rR x).length <= 1500 := by
  unfold rR;have eS : ∀ t : TN, aI t = 0 -> dU t.f -> (bI t).length <= 700 := fun t a b => nV a b
  split
  · simp
  · rename_i hc
    have l1 := eS x.e (h3 hc) hn.e
    split
    · rename_i ht
      have := h2 ht;have l2 := Lib.itoa_length_le x.k (by omega) (by omega);simp only [List.length_append, List.length_cons];omega
    · split
      · rename_i hb
        have l2 := eS x.g (h4 hb) hn.g;simp only [List.length_append, List.length_cons];omega
      · omega
 have h5' := h5;have hwl : x.wh.length <= 4 := h5;generalize hW : (w.alloc (agP x p)).alloc (.cells #[.pointer none, .slice none 0 0] 112) = W at K0;have HW := aA hW;have K1 := aA K0;have CELLS := aA (p := ∀ V, KP9 (fun b => b < w.heap.size) w x p V -> (V.cell? ⟨w.heap.size, 0, none⟩ = some (.string x.fn) /\ V.cell? ⟨w.heap.size, 1, none⟩ = some (.int .i64 x.k) /\ V.cell? ⟨w.heap.size, 2, none⟩ = some (.string x.e.op) /\ V.cell? ⟨w.heap.size, 3, none⟩ = some (.string x.e.nm) /\ V.cell? ⟨w.heap.size, 4, none⟩ = some (.int .i64 x.e.n) /\ V.cell? ⟨w.heap.size, 5, none⟩ = some (.slice p.ea x.e.ks.len p.ec) /\ V.cell? ⟨w.heap.size, 6, none⟩ = some (.string x.g.op) /\ V.cell? ⟨w.heap.size, 7, none⟩ = some (.string x.g.nm) /\ V.cell? ⟨w.heap.size, 8, none⟩ = some (.int .i64 x.g.n) /\ V.cell? ⟨w.heap.size, 9, none⟩ = some (.slice p.ga x.g.ks.len p.gc) /\ V.cell? ⟨w.heap.size, 10, none⟩ = some (.slice p.wa x.wh.length p.wc))) (fun V hV => aD hV.n);obtain ⟨J, hJ⟩ : ∃ J : ByteArray, txB (rR x) = J := ⟨_, rfl⟩;have hJz : J.size <= 1500 := by rw [<- hJ, Fs]; exact hiz
 have HJJ := aA (show ∀ V v, V.ownsRow 0 9 1 v (jH x).length ((jH x).map Value.string) -> Calls Tryz.prog 50 #[v, .string ⟨#[44, 32]⟩] V fun e w' => e = .returned (.string J) /\ Below V.heap.size V w' from fun V v ho => by
  have := Ei (jH x) v 0 ⟨#[44, 32]⟩ V ho (by have := AL.out; omega) (by
   show (Lib.join ((jH x).map (·.data.toList)) [44, 32]).length <= 100000;rw [HJ.out]; omega)
  rw [show (⟨#[44, 32]⟩ : ByteArray).data.toList = [44, 32] from rfl, HJ.out, hJ] at this;exact this)
 have x1 : (9223372036854775807 < x.fn.size + 1) = False := by rw [eq_iff_iff, iff_false]; omega
 have x2 : (9223372036854775807 < x.fn.size + 1 + J.size) = False := by rw [eq_iff_iff, iff_false]; omega
 have x3 : (9223372036854775807 < x.fn.size + 1 + J.size + 1) = False := by rw [eq_iff_iff, iff_false]; omega
 have HJL := aA (show J.data.toList = rR x by rw [<- hJ]);have HFZ := aA hfz;have HJZ := aA hJz;obtain ⟨full, hfull⟩ : ∃ l, yI x = l := ⟨_, rfl⟩;rw [hfull];have HFU := aA hfull;clear hW K0 hr hr' hn hl he h1 h2 h3 h4 h5 h5' h6 hiz hJ hfz hJz hfull;obtain ⟨m0, m1, m2, m3, m4, m5, m6, m7, m8, m9, m10⟩ := CELLS.out _ K1.out.k
 go_enter Tryz.func17, Tryz.ntmps17
 go_upto_region 2 with fail
 rw [show (w.alloc (.cells #[.string x.fn, .int .i64 x.k, .string x.e.op, .string x.e.nm, .int .i64 x.e.n, .slice p.ea x.e.ks.len p.ec, .string x.g.op, .string x.g.nm, .int .i64 x.g.n, .slice p.ga x.g.ks.len p.gc, .slice p.wa x.wh.length p.wc] 28)).alloc (.cells #[.pointer none, .slice none 0 0] 112) = W from HW.out]
 go_region_held3 (fun V => V.cell? ⟨w.heap.size, 0, none⟩ = some (.string x.fn) /\ V.cell? ⟨w.heap.size, 1, none⟩ = some (.int .i64 x.k) /\ V.cell? ⟨w.heap.size, 2, none⟩ = some (.string x.e.op) /\ V.cell? ⟨w.heap.size, 3, none⟩ = some (.string x.e.nm) /\ V.cell? ⟨w.heap.size, 4, none⟩ = some (.int .i64 x.e.n) /\ V.cell? ⟨w.heap.size, 5, none⟩ = some (.slice p.ea x.e.ks.len p.ec) /\ V.cell? ⟨w.heap.size, 6, none⟩ = some (.string x.g.op) /\ V.cell? ⟨w.heap.size, 7, none⟩ = some (.string x.g.nm) /\ V.cell? ⟨w.heap.size, 8, none⟩ = some (.int .i64 x.g.n) /\ V.cell? ⟨w.heap.size, 9, none⟩ = some (.slice p.ga x.g.ks.len p.gc) /\ V.cell? ⟨w.heap.size, 10, none⟩ = some (.slice p.wa x.wh.length p.wc)) (first | assumption | exact ⟨m0, m1, m2, m3, m4, m5, m6, m7, m8, m9, m10⟩ | exact CELLS.out _ K4.out.k | exact CELLS.out _ K3.out.k | exact CELLS.out _ K2.out.k) (first
  | (go_at_call 51
     with_reducible refine (CA.out _ (K1.out.step (cC W))).mono ?_
     rintro e v1 ⟨hb, va, rfl, ho⟩;have K2 := aA ((K1.out.step (cC W)).step hb);have c2' := CELLS.out _ K2.out.k;have JO := aA (HJJ.out v1 va (fF ho (Nat.zero_le _)));clear hb ho)
  | (go_at_call 50
     with_reducible refine JO.out.mono ?_
     rintro e v2 ⟨rfl, hb⟩;have K3 := aA (K2.out.step hb);have c3' := CELLS.out _ K3.out.k;clear hb)
  | (go_at_call 49
     with_reducible refine (K3.out.str _ (by simp only [ByteArray.size_append, List.length_nil]; have h1 : (⟨#[40]⟩ : ByteArray).size = 1 := rfl; have h2 : (⟨#[41]⟩ : ByteArray).size = 1 := rfl; have := HFZ.out; have := HJZ.out; omega)).mono ?_
     rintro e v3 ⟨rfl, hb, -⟩;have K4 := aA hb;have c4' := CELLS.out _ K4.out.k;clear hb)
  | fail)
 obtain ⟨l0, hl0⟩ : ∃ l, ([] : List UInt8) ++ (x.fn ++ (⟨#[40]⟩ : ByteArray) ++ J ++ (⟨#[41]⟩ : ByteArray)).data.toList = l := ⟨_, rfl⟩;have K5 := aA (show TX w x p l0 v3 by rw [<- hl0]; exact K4.out)
 have T0 := aA (show l0 ++ nJ x 0 = full by
  rw [<- hl0, <- HFU.out, sD];unfold yI;simp [HJL.out])
 have L0 := aA (show l0.length <= 2000 + 2000 * 0 by
  rw [<- hl0];simp only [ByteArray.data_append, Array.toList_append, List.length_append, List.nil_append];have e1 : x.fn.data.toList.length = x.fn.size := by simp
  have e2 : J.data.toList.length = J.size := by simp
  have e3 : (⟨#[40]⟩ : ByteArray).data.toList.length = 1 := rfl;have e4 : (⟨#[41]⟩ : ByteArray).data.toList.length = 1 := rfl;have e5 : ([40] : List UInt8).length = 1 := rfl;have e6 : ([41] : List UInt8).length = 1 := rfl;have := HFZ.out;have := HJZ.out;omega)
 clear K4 K3 K2 K1 JO CA HJJ hl0 HFU x1 x2 x3 c2' c3' c4' m0 m1 m2 m3 m4 m5 m6 m7 m8 m9 m10 HFZ HJZ HJL AL HJ;obtain ⟨m0, m1, m2, m3, m4, m5, m6, m7, m8, m9, m10⟩ := CELLS.out _ K5.out.k
 go_wp2_with fail
 clear m0 m1 m2 m3 m4 m5 m6 m7 m8 m9 m10
 go_loopw [4, 6, 19] (fun v4 v6 i wr => ∃ (k : Nat) (l : List UInt8) (y : Value), v4 = .string (qI k) /\ v6 = y /\ i = .int .i64 k /\ k <= x.wh.length /\ Hid (l ++ nJ x k = full) /\ Hid (l.length <= 2000 + 2000 * k) /\ Hid (TX w x p l wr)) (fun _ _ i _ => x.wh.length - (intOf i).toNat)
 case atStart => exact ⟨0, l0, _, rfl, rfl, rfl, Nat.zero_le _, T0, L0, K5⟩
 case round =>
  obtain ⟨k, l, y, rfl, rfl, rfl, hk, HT, HZ, HK⟩ := hrel;clear T0 L0 K5
  by_cases hlt : k < x.wh.length
  · obtain ⟨d, hd⟩ : ∃ d, x.wh[k]? = some d := ⟨_, List.getElem?_eq_getElem hlt⟩
    have hne : ¬ x.wh = [] := fun e => by rw [e] at hlt; simp at hlt
    obtain ⟨b, off, hwa, -, hbl, hcc⟩ := HK.out.k.r.c.resolve_left hne;obtain ⟨a1, c1, a2, c2, ⟨p0, p1, p2, p3, p4, p5, p6, p7, p8⟩, r1, r2⟩ := hcc k d hd
    have hdr : x.wh.drop k = d :: x.wh.drop (k + 1) := by
     rw [List.drop_eq_getElem_cons hlt];have := List.getElem?_eq_getElem hlt;rw [this] at hd;rw [Option.some.inj hd]
    obtain ⟨h1, h2, h3⟩ := HC.out d (List.mem_of_getElem? hd);have hnd := HNC.out d (List.mem_of_getElem? hd);have hAz := nV h2 hnd.1;have hBz := nV h3 hnd.2;have hoz : d.op.size <= 2 := Iq h1;have BD := (Below.refl wr.heap.size wr).alloc (Nat.le_refl _) (cdX d a1 c1 a2 c2);have ND := heap_alloc_new wr (cdX d a1 c1 a2 c2);have HBL := aA (Jb HK.out.bd);have K1 := aA (HK.out.step BD);have A1 := aA (fun V (hV : Below (wr.alloc (cdX d a1 c1 a2 c2)).heap.size (wr.alloc (cdX d a1 c1 a2 c2)) V) => mO d.a (fun b => b < w.heap.size) V a1 c1 ((bJ _).1 h2).1 hnd.1 ((bJ _).1 h2).2 (HL.out V (K1.out.k.step hV).b) ((r1.kept BD).kept hV));have A2 := aA (fun V (hV : Below (wr.alloc (cdX d a1 c1 a2 c2)).heap.size (wr.alloc (cdX d a1 c1 a2 c2)) V) => mO d.b (fun b => b < w.heap.size) V a2 c2 ((bJ _).1 h3).1 hnd.2 ((bJ _).1 h3).2 (HL.out V (K1.out.k.step hV).b) ((r2.kept BD).kept hV));obtain ⟨TA, hTA⟩ : ∃ S : ByteArray, ⟨(bI d.a).toArray⟩ = S := ⟨_, rfl⟩;obtain ⟨TB, hTB⟩ : ∃ S : ByteArray, ⟨(bI d.b).toArray⟩ = S := ⟨_, rfl⟩;rw [hTA] at A1;rw [hTB] at A2;have hAz : TA.size <= 700 := by rw [<- hTA]; show (bI d.a).toArray.size <= 700; rw [List.size_toArray]; exact hAz
    have hBz : TB.size <= 700 := by rw [<- hTB]; show (bI d.b).toArray.size <= 700; rw [List.size_toArray]; exact hBz
    have hwz := Az k;obtain ⟨W0, hW0⟩ : ∃ s, qI k = s := ⟨_, rfl⟩;rw [hW0] at hwz;have HW2 := aA (show ((⟨#[32]⟩ : ByteArray) ++ W0 ++ ⟨#[32]⟩ ++ TA ++ ⟨#[32]⟩ ++ d.op ++ ⟨#[32]⟩ ++ TB).data.toList ++ nH (x.wh.drop (k + 1)) = nJ x k by rw [FM hdr, hW0, <- hTA, <- hTB]; simp);have b1 : (k : Int) < (x.wh.length : Int) := by omega
    have b2 : (0 : Int) <= (k : Int) := by omega
    have b3 : ((k : Int)).toNat = k := by omega
    have x0 : (9223372036854775807 < 1 + W0.size) = False := by rw [eq_iff_iff, iff_false]; omega
    have x1 : (9223372036854775807 < 1 + W0.size + 1) = False := by rw [eq_iff_iff, iff_false]; omega
    have x2 : (9223372036854775807 < 1 + W0.size + 1 + TA.size) = False := by rw [eq_iff_iff, iff_false]; omega
    have x3 : (9223372036854775807 < 1 + W0.size + 1 + TA.size + 1) = False := by rw [eq_iff_iff, iff_false]; omega
    have x4 : (9223372036854775807 < 1 + W0.size + 1 + TA.size + 1 + d.op.size) = False := by rw [eq_iff_iff, iff_false]; omega
    have x5 : (9223372036854775807 < 1 + W0.size + 1 + TA.size + 1 + d.op.size + 1) = False := by rw [eq_iff_iff, iff_false]; omega
    have x6 : (9223372036854775807 < 1 + W0.size + 1 + TA.size + 1 + d.op.size + 1 + TB.size) = False := by rw [eq_iff_iff, iff_false]; omega
    have hsz : ((⟨#[32]⟩ : ByteArray) ++ W0 ++ ⟨#[32]⟩ ++ TA ++ ⟨#[32]⟩ ++ d.op ++ ⟨#[32]⟩ ++ TB).size <= 1500 := by simp only [ByteArray.size_append]; have h1 : (⟨#[32]⟩ : ByteArray).size = 1 := rfl; rw [h1]; omega
    have HSZ := aA hsz;rw [hW0];rw [hwa];clear hne hcc hwa hd hdr h1 h2 h3 hnd r1 r2 hTA hTB hAz hBz hoz hwz hW0 BD HK hsz;have HDN := aA (show wr.heap.size ≠ w.heap.size + 1 by have := HBL.out; omega)
    go_upto_region 7 with fail
    rw [show wr.alloc (.cells #[.string d.op, .string d.a.op, .string d.a.nm, .int .i64 d.a.n, .slice a1 d.a.ks.len c1, .string d.b.op, .string d.b.nm, .int .i64 d.b.n, .slice a2 d.b.ks.len c2] 98) = wr.alloc (cdX d a1 c1 a2 c2) from rfl];generalize wr.alloc (cdX d a1 c1 a2 c2) = V at *;generalize wr.heap.size = D at *;clear p0 p1 p2 p3 p4 p5 p6 p7 p8;have CD9 := aA (p := ∀ V' : World, Below V.heap.size V V' -> (V'.cell? ⟨D, 0, none⟩ = some (.string d.op) /\ V'.cell? ⟨D, 1, none⟩ = some (.string d.a.op) /\ V'.cell? ⟨D, 2, none⟩ = some (.string d.a.nm) /\ V'.cell? ⟨D, 3, none⟩ = some (.int .i64 d.a.n) /\ V'.cell? ⟨D, 4, none⟩ = some (.slice a1 d.a.ks.len c1) /\ V'.cell? ⟨D, 5, none⟩ = some (.string d.b.op) /\ V'.cell? ⟨D, 6, none⟩ = some (.string d.b.nm) /\ V'.cell? ⟨D, 7, none⟩ = some (.int .i64 d.b.n) /\ V'.cell? ⟨D, 8, none⟩ = some (.slice a2 d.b.ks.len c2))) (fun V' hV => jY ((hV.block D (aC ND)).trans ND));have CDX := aA (p := ∀ V' : World, V'.heap[D]? = some (cdX d a1 c1 a2 c2) -> (V'.cell? ⟨D, 0, none⟩ = some (.string d.op) /\ V'.cell? ⟨D, 1, none⟩ = some (.string d.a.op) /\ V'.cell? ⟨D, 2, none⟩ = some (.string d.a.nm) /\ V'.cell? ⟨D, 3, none⟩ = some (.int .i64 d.a.n) /\ V'.cell? ⟨D, 4, none⟩ = some (.slice a1 d.a.ks.len c1) /\ V'.cell? ⟨D, 5, none⟩ = some (.string d.b.op) /\ V'.cell? ⟨D, 6, none⟩ = some (.string d.b.nm) /\ V'.cell? ⟨D, 7, none⟩ = some (.int .i64 d.b.n) /\ V'.cell? ⟨D, 8, none⟩ = some (.slice a2 d.b.ks.len c2))) (fun V' hV => jY hV);have hDb := aC ND;have HND := aA ND
    obtain ⟨p0, p1, p2, p3, p4, p5, p6, p7, p8⟩ := jY ND
    go_region_held3 (fun V => V.cell? ⟨D, 0, none⟩ = some (.string d.op) /\ V.cell? ⟨D, 1, none⟩ = some (.string d.a.op) /\ V.cell? ⟨D, 2, none⟩ = some (.string d.a.nm) /\ V.cell? ⟨D, 3, none⟩ = some (.int .i64 d.a.n) /\ V.cell? ⟨D, 4, none⟩ = some (.slice a1 d.a.ks.len c1) /\ V.cell? ⟨D, 5, none⟩ = some (.string d.b.op) /\ V.cell? ⟨D, 6, none⟩ = some (.string d.b.nm) /\ V.cell? ⟨D, 7, none⟩ = some (.int .i64 d.b.n) /\ V.cell? ⟨D, 8, none⟩ = some (.slice a2 d.b.ks.len c2)) (first | assumption | exact ⟨p0, p1, p2, p3, p4, p5, p6, p7, p8⟩ | exact CD9.out _ B6.out | exact CD9.out _ B5.out) (first
     | (go_at_call 52
        with_reducible refine (A1.out _ (cC V)).mono ?_
        rintro e w5 ⟨rfl, hb⟩;have B5 := aA ((cC V).trans hb);have c5' := CD9.out _ B5.out;clear hb)
     | (go_at_call 52
        with_reducible refine (A2.out w5 B5.out).mono ?_
        rintro e w6 ⟨rfl, hb⟩;have B6 := aA (B5.out.trans (hb.mono B5.out.size));have c6' := CD9.out _ B6.out;clear hb)
     | (go_at_call 49
        with_reducible refine ((K1.out.step B6.out).str _ (by have := HSZ.out; have := HZ.out; omega)).mono ?_
        rintro e w7 ⟨rfl, hb, hbel⟩;have K7 := aA hb;have c7' := CDX.out w7 (hbel D _ _ HDN.out (by decide) ((B6.out.block D hDb).trans HND.out));clear hb hbel)
     | fail)
    have HT2 := aA (show (l ++ ((⟨#[32]⟩ : ByteArray) ++ W0 ++ ⟨#[32]⟩ ++ TA ++ ⟨#[32]⟩ ++ d.op ++ ⟨#[32]⟩ ++ TB).data.toList) ++ nJ x (k + 1) = full by rw [Dv, List.append_assoc, HW2.out]; exact HT.out)
    have HZ2 := aA (show (l ++ ((⟨#[32]⟩ : ByteArray) ++ W0 ++ ⟨#[32]⟩ ++ TA ++ ⟨#[32]⟩ ++ d.op ++ ⟨#[32]⟩ ++ TB).data.toList).length <= 2000 + 2000 * (k + 1) by
     rw [List.length_append, DW];have := HSZ.out;have := HZ.out;omega)
    clear B5 B6 A1 A2 c5' c6' c7' K1 CD9 CDX p0 p1 p2 p3 p4 p5 p6 p7 p8 x0 x1 x2 x3 x4 x5 x6 HT HZ
    go_wp2_with fail
    go_roundw
    case rel => exact ⟨k + 1, _, _, by unfold qI; rw [if_neg (by omega)], rfl, by go_num, by omega, HT2, HZ2, K7⟩
    case measure => simp [intOf]; omega
  · have e1 : x.wh.drop k = [] := List.drop_of_length_le (by omega)
    have TR := aA (show full = l by rw [<- HT.out, FN e1]; simp);have b1 : ¬ (k : Int) < (x.wh.length : Int) := by omega
    have b2 : decide (k < x.wh.length) = false := decide_eq_false hlt;have CD := aA (HK.out.done)
    go_wp2_with fail
    refine CD.out.mono ?_;rintro e w9 ⟨rfl, hb⟩;have HB9 := aA hb;clear hb
    go_wp2_with fail
    go_ret;exact ⟨congrArg (fun z => Ending.returned (.string ⟨List.toArray z⟩)) TR.out.symm, HB9.out⟩
def FH (b0 kk keq ee ze bb zg zc : Bool) : Bool := b0 && (!kk || keq) && (!ee || ze) && (!bb || zg) && zc
theorem FJ {x y : AG} (hf : cZ x.fn.data.toList = true) : rV x y = FH (x.fn.toList == y.fn.toList) (kP x.fn.data.toList) (x.k == y.k) (eP x.fn.data.toList) (dH x.e y.e) (bP x.fn.data.toList) (dH x.g y.g) (gV x.wh y.wh) := by
 unfold rV FH kP bP;have h1 : eP x.fn.data.toList = (x.fn.data.toList != aN) := by unfold eP; rw [hf, Bool.true_and]; rfl
 rw [h1]
 have h2 : ((x.wh.length == y.wh.length) && gV x.wh y.wh) = gV x.wh y.wh := by
  by_cases h : x.wh.length = y.wh.length
  · rw [beq_iff_eq.2 h, Bool.true_and]
  · rw [beq_eq_false_iff_ne.2 h, Bool.false_and, rW h]
 have h3 : ∀ a b c : Bool, (a && b && c) = (a && (b && c)) := fun a b c => by cases a <;> rfl
 rw [h3 _ (x.wh.length == y.wh.length), h2];have h4 : ∀ a b : Bool, (!(a && !b)) = (!a || b) := fun a b => by cases a <;> cases b <;> rfl
 have h5 : (x.k != y.k) = !(x.k == y.k) := rfl;rw [h5, h4, h4, h4]
structure SK (G G' : Nat -> Prop) (w : World) (x : AG) (p : PA) (y : AG) (q : PA) (B : Nat) (kk ee bb : Bool) (V : World) : Prop where
 b : Below w.heap.size w V
 n1 : V.heap[w.heap.size]? = some (agP x p)
 n2 : V.heap[w.heap.size + 1]? = some (agP y q)
 t : V.heap[B]? = some (ptO kk ee bb)
 r1 : aJ G V x p
 r2 : aJ G' V y q
theorem SK.step {G G' : Nat -> Prop} {w : World} {x : AG} {p : PA} {y : AG} {q : PA} {B : Nat} {kk ee bb : Bool} {V V' : World} (h : SK G G' w x p y q B kk ee bb V) (hb : Below V.heap.size V V') : SK G G' w x p y q B kk ee bb V' :=
 ⟨h.b.trans (hb.mono h.b.size), (hb.block _ (aC h.n1)).trans h.n1, (hb.block _ (aC h.n2)).trans h.n2, (hb.block _ (aC h.t)).trans h.t, h.r1.kept hb, h.r2.kept hb⟩
set_option maxHeartbeats 16000000 in
set_option maxRecDepth 100000 in
theorem oR (G G' : Nat -> Prop) (x : AG) (p : PA) (y : AG) (q : PA) (w : World) (hx : iD x = 0) (hnx : i1 x) (hy : iD y = 0) (hny : i1 y) (hrx : aJ G w x p) (hry : aJ G' w y q) :
 Calls Tryz.prog 18 #[agV x p, agV y q] w fun e w' => e = .returned (.bool (rV x y)) /\ Below w.heap.size w w' := by
 obtain ⟨h1, -, h3, h4, h5, h6⟩ := dY hx;obtain ⟨g1, -, g3, g4, g5, g6⟩ := dY hy;rw [FJ h1];have B0 := (Below.refl w.heap.size w).alloc (Nat.le_refl _) (agP x p);have N0 := heap_alloc_new w (agP x p);have hs0 : (w.alloc (agP x p)).heap.size = w.heap.size + 1 := World.size_alloc _ _;generalize hW0 : w.alloc (agP x p) = W0 at *;have B1 := (Below.refl W0.heap.size W0).alloc (Nat.le_refl _) (agP y q);have N1 := heap_alloc_new W0 (agP y q);have NA := (B1.block w.heap.size (by omega)).trans N0;have BB := B0.trans (B1.mono (by omega));generalize hW : W0.alloc (agP y q) = W at *;rw [hs0] at N1;have HW0 := aA hW0;have HW := aA hW;have HB := aA BB;have HA := aA NA;have HN := aA N1;have HX := aA hrx;have HY := aA hry;have CP := aA (iH x.fn W)
 have hfn : (x.fn.toList == y.fn.toList) = true -> x.fn.data.toList = y.fn.data.toList := fun h => by
  rw [Lib.toList_data, Lib.toList_data] at h;simpa using h
 have OX := aA (show ∀ d ∈ x.wh, OkD d from fun d hd => ⟨(iV x.wh h6 d hd).2.1, (iV x.wh h6 d hd).2.2, (hnx.c d hd).1, (hnx.c d hd).2⟩);have OY := aA (show ∀ d ∈ y.wh, OkD d from fun d hd => ⟨(iV y.wh g6 d hd).2.1, (iV y.wh g6 d hd).2.2, (hny.c d hd).1, (hny.c d hd).2⟩)
 have SE0 : (x.fn.toList == y.fn.toList) = true -> eP x.fn.data.toList = true -> ∀ V, aG G V p.ea x.e.ks -> aG G' V q.ea y.e.ks -> Calls Tryz.prog 54 #[bW x.e.op x.e.nm x.e.n p.ea x.e.ks.len p.ec, bW y.e.op y.e.nm y.e.n q.ea y.e.ks.len q.ec] V fun e w' => e = .returned (.bool (dH x.e y.e)) /\ Below V.heap.size V w' := fun hb he V ra rb => by
  have hc : ¬ x.fn.data.toList = aN := fun hc => by unfold eP at he; rw [hc] at he; simp at he
  have c1 := (bJ _).1 (h3 hc);have c2 := (bJ _).1 (g3 (by rw [<- hfn hb]; exact hc));exact mP x.e y.e G G' V p.ea q.ea p.ec q.ec c1.1 hnx.e c1.2 c2.1 hny.e c2.2 ra rb
 have SG0 : (x.fn.toList == y.fn.toList) = true -> bP x.fn.data.toList = true -> ∀ V, aG G V p.ga x.g.ks -> aG G' V q.ga y.g.ks -> Calls Tryz.prog 54 #[bW x.g.op x.g.nm x.g.n p.ga x.g.ks.len p.gc, bW y.g.op y.g.nm y.g.n q.ga y.g.ks.len q.gc] V fun e w' => e = .returned (.bool (dH x.g y.g)) /\ Below V.heap.size V w' := fun hb he V ra rb => by
  have hc : x.fn.data.toList = aT := by unfold bP at he; simpa using he
  have c1 := (bJ _).1 (h4 hc);have c2 := (bJ _).1 (g4 (by rw [<- hfn hb]; exact hc));exact mP x.g y.g G G' V p.ga q.ga p.gc q.gc c1.1 hnx.g c1.2 c2.1 hny.g c2.2 ra rb
 have hwl : x.wh.length <= 1000 := by omega
 have EC := aA (fun V (ra : eF G V p.wa x.wh) (rb : eF G' V q.wa y.wh) => tD x.wh y.wh G G' p.wa p.wc q.wa q.wc hwl V OX.out OY.out ra rb);obtain ⟨F, hF⟩ : ∃ F, x.fn.data.toList = F := ⟨_, rfl⟩;rw [hF] at CP SE0 SG0 |-
 obtain ⟨b0, hb0⟩ : ∃ z, (x.fn.toList == y.fn.toList) = z := ⟨_, rfl⟩;obtain ⟨kk, hkk⟩ : ∃ b, kP F = b := ⟨_, rfl⟩;obtain ⟨ee, hee⟩ : ∃ b, eP F = b := ⟨_, rfl⟩;obtain ⟨bb, hbb⟩ : ∃ b, bP F = b := ⟨_, rfl⟩;obtain ⟨keq, hkeq⟩ : ∃ b, (x.k == y.k) = b := ⟨_, rfl⟩;obtain ⟨ze, hze⟩ : ∃ b, dH x.e y.e = b := ⟨_, rfl⟩;obtain ⟨zg, hzg⟩ : ∃ b, dH x.g y.g = b := ⟨_, rfl⟩;obtain ⟨zc, hzc⟩ : ∃ b, gV x.wh y.wh = b := ⟨_, rfl⟩;obtain ⟨ff, hff⟩ : ∃ b, cZ F = b := ⟨_, rfl⟩;unfold ptV at CP;rw [hkk, hee, hbb, hff] at CP;rw [hb0, hee, hze] at SE0;rw [hb0, hbb, hzg] at SG0;rw [hzc] at EC;rw [hb0, hkk, hee, hbb, hkeq, hze, hzg, hzc];obtain ⟨r, hr⟩ : ∃ r, FH b0 kk keq ee ze bb zg zc = r := ⟨_, rfl⟩;rw [hr];have HR := aA hr;have SE1 := aA SE0;have SG1 := aA SG0;obtain ⟨m0, m1, m2, m3, m4, m5, m6, m7, m8, m9, m10⟩ := aD NA;clear hW0 hW B0 B1 N0 N1 NA BB hrx hry h1 h3 h4 h5 h6 g1 g3 g4 g5 g6 hx hnx hy hny hfn SE0 SG0 hkk hee hbb hze hzg hzc hr hff hwl OX OY
 go_enter Tryz.func18, Tryz.ntmps18
 go_upto_region 1 with fail
 rw [show w.alloc (.cells #[.string x.fn, .int .i64 x.k, .string x.e.op, .string x.e.nm, .int .i64 x.e.n, .slice p.ea x.e.ks.len p.ec, .string x.g.op, .string x.g.nm, .int .i64 x.g.n, .slice p.ga x.g.ks.len p.gc, .slice p.wa x.wh.length p.wc] 28) = W0 from HW0.out,
  show W0.alloc (.cells #[.string y.fn, .int .i64 y.k, .string y.e.op, .string y.e.nm, .int .i64 y.e.n, .slice q.ea y.e.ks.len q.ec, .string y.g.op, .string y.g.nm, .int .i64 y.g.n, .slice q.ga y.g.ks.len q.gc, .slice q.wa y.wh.length q.wc] 28) = W from HW.out]
 go_wp2_with fail
 refine CP.out.mono ?_;rintro e w1 ⟨rfl, hb1⟩;have BA := (Below.refl w1.heap.size w1).alloc (Nat.le_refl _) (ptO kk ee bb);have NP := heap_alloc_new w1 (ptO kk ee bb);have hz := HB.out.size;have hz1 := hb1.size
 have K2 := aA (show SK G G' w x p y q w1.heap.size kk ee bb (w1.alloc (ptO kk ee bb)) from
  ⟨(HB.out.trans (hb1.mono hz)).trans (BA.mono (by omega)), (BA.block _ (by have := aC HA.out; omega)).trans ((hb1.block _ (aC HA.out)).trans HA.out), (BA.block _ (by have := aC HN.out; omega)).trans ((hb1.block _ (aC HN.out)).trans HN.out), NP, ((HX.out.kept (HB.out)).kept hb1).kept BA, ((HY.out.kept (HB.out)).kept hb1).kept BA⟩)
 clear hb1 BA NP CP HA HN HX HY hz hz1 m0 m1 m2 m3 m4 m5 m6 m7 m8 m9 m10
 go_upto_region 2 with fail
 generalize w1.alloc (ptO kk ee bb) = V at *;generalize w1.heap.size = B at *;obtain ⟨m0, m1, m2, m3, m4, m5, m6, m7, m8, m9, m10⟩ := aD K2.out.n1;obtain ⟨n0, n1, n2, n3, n4, n5, n6, n7, n8, n9, n10⟩ := aD K2.out.n2;obtain ⟨⟨y0, y1, y2⟩, -⟩ := cL K2.out.t;cases b0 with
 | false =>
   have TR := aA (show false = r from HR.out)
   go_wp2_with fail
   go_ret;exact ⟨congrArg (fun z => Ending.returned (.bool z)) TR.out, K2.out.b⟩
 | true =>
   cases kk with
   | false =>
     cases ee with
     | false =>
       cases bb with
       | false =>
         have TR := aA (show zc = r from HR.out)
         go_wp2_with fail
         refine (EC.out _ K2.out.r1.c K2.out.r2.c).mono ?_;rintro e w9 ⟨rfl, hb9⟩;have HB9 := aA (K2.out.b.trans (hb9.mono K2.out.b.size));clear hb9
         go_wp2_with fail
         go_ret;exact ⟨congrArg (fun z => Ending.returned (.bool z)) TR.out, HB9.out⟩
       | true =>
         go_wp2_with fail
         refine (SG1.out (by first | rfl | trivial) (by first | rfl | trivial) _ K2.out.r1.g K2.out.r2.g).mono ?_;rintro e w8 ⟨rfl, hb8⟩;have K8 := aA (K2.out.step hb8);clear hb8;clear m0 m1 m2 m3 m4 m5 m6 m7 m8 m9 m10 n0 n1 n2 n3 n4 n5 n6 n7 n8 n9 n10 y0 y1 y2;obtain ⟨m0, m1, m2, m3, m4, m5, m6, m7, m8, m9, m10⟩ := aD K8.out.n1;obtain ⟨n0, n1, n2, n3, n4, n5, n6, n7, n8, n9, n10⟩ := aD K8.out.n2;obtain ⟨⟨y0, y1, y2⟩, -⟩ := cL K8.out.t;cases zg with
         | false =>
           have TR := aA (show false = r from HR.out)
           go_wp2_with fail
           go_ret;exact ⟨congrArg (fun z => Ending.returned (.bool z)) TR.out, K8.out.b⟩
         | true =>
           have TR := aA (show zc = r from HR.out)
           go_wp2_with fail
           refine (EC.out _ K8.out.r1.c K8.out.r2.c).mono ?_;rintro e w9 ⟨rfl, hb9⟩;have HB9 := aA (K8.out.b.trans (hb9.mono K8.out.b.size));clear hb9
           go_wp2_with fail
           go_ret;exact ⟨congrArg (fun z => Ending.returned (.bool z)) TR.out, HB9.out⟩
     | true =>
       go_wp2_with fail
       refine (SE1.out (by first | rfl | trivial) (by first | rfl | trivial) _ K2.out.r1.e K2.out.r2.e).mono ?_;rintro e w7 ⟨rfl, hb7⟩;have K7 := aA (K2.out.step hb7);clear hb7;clear m0 m1 m2 m3 m4 m5 m6 m7 m8 m9 m10 n0 n1 n2 n3 n4 n5 n6 n7 n8 n9 n10 y0 y1 y2;obtain ⟨m0, m1, m2, m3, m4, m5, m6, m7, m8, m9, m10⟩ := aD K7.out.n1;obtain ⟨n0, n1, n2, n3, n4, n5, n6, n7, n8, n9, n10⟩ := aD K7.out.n2;obtain ⟨⟨y0, y1, y2⟩, -⟩ := cL K7.out.t;cases ze with
       | false =>
         have TR := aA (show false = r from HR.out)
         go_wp2_with fail
         go_ret;exact ⟨congrArg (fun z => Ending.returned (.bool z)) TR.out, K7.out.b⟩
       | true =>
         cases bb with
         | false =>
           have TR := aA (show zc = r from HR.out)
           go_wp2_with fail
           refine (EC.out _ K7.out.r1.c K7.out.r2.c).mono ?_;rintro e w9 ⟨rfl, hb9⟩;have HB9 := aA (K7.out.b.trans (hb9.mono K7.out.b.size));clear hb9
           go_wp2_with fail
           go_ret;exact ⟨congrArg (fun z => Ending.returned (.bool z)) TR.out, HB9.out⟩
         | true =>
           go_wp2_with fail
           refine (SG1.out (by first | rfl | trivial) (by first | rfl | trivial) _ K7.out.r1.g K7.out.r2.g).mono ?_;rintro e w8 ⟨rfl, hb8⟩;have K8 := aA (K7.out.step hb8);clear hb8;clear m0 m1 m2 m3 m4 m5 m6 m7 m8 m9 m10 n0 n1 n2 n3 n4 n5 n6 n7 n8 n9 n10 y0 y1 y2;obtain ⟨m0, m1, m2, m3, m4, m5, m6, m7, m8, m9, m10⟩ := aD K8.out.n1;obtain ⟨n0, n1, n2, n3, n4, n5, n6, n7, n8, n9, n10⟩ := aD K8.out.n2;obtain ⟨⟨y0, y1, y2⟩, -⟩ := cL K8.out.t;cases zg with
           | false =>
             have TR := aA (show false = r from HR.out)
             go_wp2_with fail
             go_ret;exact ⟨congrArg (fun z => Ending.returned (.bool z)) TR.out, K8.out.b⟩
           | true =>
             have TR := aA (show zc = r from HR.out)
             go_wp2_with fail
             refine (EC.out _ K8.out.r1.c K8.out.r2.c).mono ?_;rintro e w9 ⟨rfl, hb9⟩;have HB9 := aA (K8.out.b.trans (hb9.mono K8.out.b.size));clear hb9
             go_wp2_with fail
             go_ret;exact ⟨congrArg (fun z => Ending.returned (.bool z)) TR.out, HB9.out⟩
   | true =>
     cases keq with
     | false =>
       have TR := aA (show false = r from HR.out)
       go_wp2_with fail
       go_ret;exact ⟨congrArg (fun z => Ending.returned (.bool z)) TR.out, K2.out.b⟩
     | true =>
       cases ee with
       | false =>
         cases bb with
         | false =>
           have TR := aA (show zc = r from HR.out)
           go_wp2_with fail
           refine (EC.out _ K2.out.r1.c K2.out.r2.c).mono ?_;rintro e w9 ⟨rfl, hb9⟩;have HB9 := aA (K2.out.b.trans (hb9.mono K2.out.b.size));clear hb9
           go_wp2_with fail
           go_ret;exact ⟨congrArg (fun z => Ending.returned (.bool z)) TR.out, HB9.out⟩
         | true =>
           go_wp2_with fail
           refine (SG1.out (by first | rfl | trivial) (by first | rfl | trivial) _ K2.out.r1.g K2.out.r2.g).mono ?_;rintro e w8 ⟨rfl, hb8⟩;have K8 := aA (K2.out.step hb8);clear hb8;clear m0 m1 m2 m3 m4 m5 m6 m7 m8 m9 m10 n0 n1 n2 n3 n4 n5 n6 n7 n8 n9 n10 y0 y1 y2;obtain ⟨m0, m1, m2, m3, m4, m5, m6, m7, m8, m9, m10⟩ := aD K8.out.n1;obtain ⟨n0, n1, n2, n3, n4, n5, n6, n7, n8, n9, n10⟩ := aD K8.out.n2;obtain ⟨⟨y0, y1, y2⟩, -⟩ := cL K8.out.t;cases zg with
           | false =>
             have TR := aA (show false = r from HR.out)
             go_wp2_with fail
             go_ret;exact ⟨congrArg (fun z => Ending.returned (.bool z)) TR.out, K8.out.b⟩
           | true =>
             have TR := aA (show zc = r from HR.out)
             go_wp2_with fail
             refine (EC.out _ K8.out.r1.c K8.out.r2.c).mono ?_;rintro e w9 ⟨rfl, hb9⟩;have HB9 := aA (K8.out.b.trans (hb9.mono K8.out.b.size));clear hb9
             go_wp2_with fail
             go_ret;exact ⟨congrArg (fun z => Ending.returned (.bool z)) TR.out, HB9.out⟩
       | true =>
         go_wp2_with fail
         refine (SE1.out (by first | rfl | trivial) (by first | rfl | trivial) _ K2.out.r1.e K2.out.r2.e).mono ?_;rintro e w7 ⟨rfl, hb7⟩;have K7 := aA (K2.out.step hb7);clear hb7;clear m0 m1 m2 m3 m4 m5 m6 m7 m8 m9 m10 n0 n1 n2 n3 n4 n5 n6 n7 n8 n9 n10 y0 y1 y2;obtain ⟨m0, m1, m2, m3, m4, m5, m6, m7, m8, m9, m10⟩ := aD K7.out.n1;obtain ⟨n0, n1, n2, n3, n4, n5, n6, n7, n8, n9, n10⟩ := aD K7.out.n2;obtain ⟨⟨y0, y1, y2⟩, -⟩ := cL K7.out.t;cases ze with
         | false =>
           have TR := aA (show false = r from HR.out)
           go_wp2_with fail
           go_ret;exact ⟨congrArg (fun z => Ending.returned (.bool z)) TR.out, K7.out.b⟩
         | true =>
           cases bb with
           | false =>
             have TR := aA (show zc = r from HR.out)
             go_wp2_with fail
             refine (EC.out _ K7.out.r1.c K7.out.r2.c).mono ?_;rintro e w9 ⟨rfl, hb9⟩;have HB9 := aA (K7.out.b.trans (hb9.mono K7.out.b.size));clear hb9
             go_wp2_with fail
             go_ret;exact ⟨congrArg (fun z => Ending.returned (.bool z)) TR.out, HB9.out⟩
           | true =>
             go_wp2_with fail
             refine (SG1.out (by first | rfl | trivial) (by first | rfl | trivial) _ K7.out.r1.g K7.out.r2.g).mono ?_;rintro e w8 ⟨rfl, hb8⟩;have K8 := aA (K7.out.step hb8);clear hb8;clear m0 m1 m2 m3 m4 m5 m6 m7 m8 m9 m10 n0 n1 n2 n3 n4 n5 n6 n7 n8 n9 n10 y0 y1 y2;obtain ⟨m0, m1, m2, m3, m4, m5, m6, m7, m8, m9, m10⟩ := aD K8.out.n1;obtain ⟨n0, n1, n2, n3, n4, n5, n6, n7, n8, n9, n10⟩ := aD K8.out.n2;obtain ⟨⟨y0, y1, y2⟩, -⟩ := cL K8.out.t;cases zg with
             | false =>
               have TR := aA (show false = r from HR.out)
               go_wp2_with fail
               go_ret;exact ⟨congrArg (fun z => Ending.returned (.bool z)) TR.out, K8.out.b⟩
             | true =>
               have TR := aA (show zc = r from HR.out)
               go_wp2_with fail
               refine (EC.out _ K8.out.r1.c K8.out.r2.c).mono ?_;rintro e w9 ⟨rfl, hb9⟩;have HB9 := aA (K8.out.b.trans (hb9.mono K8.out.b.size));clear hb9
               go_wp2_with fail
               go_ret;exact ⟨congrArg (fun z => Ending.returned (.bool z)) TR.out, HB9.out⟩
end
end Go.Proofs.YtapcjnoaofmmiaaGreatDoor
