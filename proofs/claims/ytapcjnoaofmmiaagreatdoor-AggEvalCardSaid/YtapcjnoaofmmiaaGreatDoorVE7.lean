/-
 No statement: what AggEvalCard needs, of the texts OE9.
-/
import Derived.Test.YtapcjnoaofmmiaaGreatDoorVE6
namespace Go.Proofs.YtapcjnoaofmmiaaGreatDoor
section
section
open Go.RowKit
theorem G5 {n : Int} (h : 0 <= n) : Lib.itoa n = Lib.decDigits n.toNat := by unfold Lib.itoa; rw [if_neg (by omega)]
def DW (c : UInt8) : Prop := c = 40 \/ c = 41 \/ c = 43 \/ c = 45 \/ c = 42 \/ c = 47 \/ c = 37
def yU (o m : ByteArray) (n : Int) (ts : List (List (Int × List UInt8 × Int))) : List (Int × List UInt8 × Int) :=
 if bH o = true then [(2, Lib.itoa n, n)] else if a8 o = true then [(1, m.data.toList, 0)]
 else if dO o = true then (3, [45], 0) :: ts.headD [] else (3, [40], 0) :: (ts.headD [] ++ (3, o.data.toList, 0) :: (ts.tail.headD [] ++ [(3, [41], 0)]))
def FX : F -> List (List (Int × List UInt8 × Int))
 | .nil => []
 | .cons o m n ks r => yU o m n (FX ks) :: FX r
def wK (t : TN) : List (Int × List UInt8 × Int) := yU t.op t.nm t.n (FX t.ks)
theorem Bn {o m : ByteArray} {n : Int} {ks : F} (h : nV o m n ks.len = 0) :
 (bH o = true /\ ks = .nil /\ 0 <= n) \/ (bH o = false /\ a8 o = true /\ ks = .nil /\ cK m.data.toList = true) \/
 (bH o = false /\ a8 o = false /\ dO o = true /\ ∃ a : TN, ks = a.f) \/
 (bH o = false /\ a8 o = false /\ dO o = false /\ jN o = true /\ ∃ a b : TN, ks = .cons a.op a.nm a.n a.ks b.f) := by
 unfold nV at h
 split at h
 · cases h
 · rename_i h1
   split at h
   · cases h
   · rename_i h2
     split at h
     · cases h
     · rename_i h3
       have ha : bE o = (ks.len : Int) := by simpa using h1
       unfold bE at ha;cases e1 : bH o with
       | true =>
         rw [e1, Bool.true_or, if_pos rfl] at ha;rw [e1] at h3;refine .inl ⟨rfl, ?_, by simpa using h3⟩;cases ks with
         | nil => rfl
         | cons _ _ _ _ _ => rw [F.len] at ha; omega
       | false =>
         cases e2 : a8 o with
         | true =>
           rw [e1, e2, Bool.or_true, if_pos rfl] at ha;rw [e2] at h2;refine .inr (.inl ⟨rfl, rfl, ?_, by simpa using h2⟩);cases ks with
           | nil => rfl
           | cons _ _ _ _ _ => rw [F.len] at ha; omega
         | false =>
           rw [e1, e2, Bool.or_false, if_neg (by decide)] at ha;cases e3 : dO o with
           | true =>
             rw [e3, if_pos rfl] at ha;refine .inr (.inr (.inl ⟨rfl, rfl, rfl, ?_⟩));cases ks with
             | nil => rw [F.len] at ha; omega
             | cons o' m' n' k' r' =>
               cases r' with
               | nil => exact ⟨⟨o', m', n', k'⟩, rfl⟩
               | cons _ _ _ _ _ => rw [F.len, F.len] at ha; omega
           | false =>
             rw [e3, if_neg (by decide)] at ha;cases e4 : jN o with
             | true =>
               rw [e4, if_pos rfl] at ha;refine .inr (.inr (.inr ⟨rfl, rfl, rfl, rfl, ?_⟩));cases ks with
               | nil => rw [F.len] at ha; omega
               | cons o' m' n' k' r' =>
                 cases r' with
                 | nil => rw [F.len, F.len] at ha; omega
                 | cons o2 m2 n2 k2 r2 =>
                   cases r2 with
                   | nil => exact ⟨⟨o', m', n', k'⟩, ⟨o2, m2, n2, k2⟩, rfl⟩
                   | cons _ _ _ _ _ => rw [F.len, F.len, F.len] at ha; omega
             | false =>
               rw [e4, if_neg (by decide)] at ha;omega
theorem yQ {o : ByteArray} (h : jN o = true) : r9 o.data.toList /\ ∃ c, o.data.toList = [c] /\ DW c := by
 unfold jN at h;simp only [Bool.or_eq_true, beq_iff_eq] at h
 rcases h with (((h | h) | h) | h) | h
 · exact ⟨.inl h, 43, h, .inr (.inr (.inl rfl))⟩
 · exact ⟨.inr (.inl h), 45, h, .inr (.inr (.inr (.inl rfl)))⟩
 · exact ⟨.inr (.inr (.inl h)), 42, h, .inr (.inr (.inr (.inr (.inl rfl))))⟩
 · exact ⟨.inr (.inr (.inr (.inl h))), 47, h, .inr (.inr (.inr (.inr (.inr (.inl rfl)))))⟩
 · exact ⟨.inr (.inr (.inr (.inr h))), 37, h, .inr (.inr (.inr (.inr (.inr (.inr rfl)))))⟩
def d9 : F -> Prop
 | .nil => True
 | .cons _ _ n ks r => n <= 9223372036854775807 /\ d9 ks /\ d9 r
def eT (P : TN -> Prop) : F -> Prop
 | .nil => True
 | .cons o m n ks r => P ⟨o, m, n, ks⟩ /\ eT P r
theorem mC {P : TN -> Prop} (hnum : ∀ o m n, bH o = true -> 0 <= n -> n <= 9223372036854775807 -> P ⟨o, m, n, .nil⟩)
 (hname : ∀ o m n, bH o = false -> a8 o = true -> cK m.data.toList = true -> P ⟨o, m, n, .nil⟩)
 (hneg : ∀ o m n (a : TN), bH o = false -> a8 o = false -> dO o = true -> P a -> P ⟨o, m, n, a.f⟩)
 (htwo : ∀ o m n (a b : TN), bH o = false -> a8 o = false -> dO o = false -> jN o = true -> P a -> P b -> P ⟨o, m, n, .cons a.op a.nm a.n a.ks b.f⟩) :
 ∀ f : F, bC f = 0 -> d9 f -> eT P f
 | .nil, _, _ => trivial
 | .cons o m n ks r, h, hn => by
   rw [bC] at h
   by_cases h1 : nV o m n ks.len = 0
   · rw [if_pos h1] at h
     by_cases h2 : bC ks = 0
     · rw [if_pos h2] at h
       have ik := mC hnum hname hneg htwo ks h2 hn.2.1;refine ⟨?_, mC hnum hname hneg htwo r h hn.2.2⟩
       rcases Bn h1 with ⟨a, rfl, b⟩ | ⟨a, b, rfl, c⟩ | ⟨a, b, c, k, rfl⟩ | ⟨a, b, c, d, k, l, rfl⟩
       · exact hnum o m n a b hn.1
       · exact hname o m n a b c
       · exact hneg o m n k a b c ik.1
       · exact htwo o m n k l a b c d ik.1 ik.2.1
     · rw [if_neg h2] at h; exact absurd h h2
   · rw [if_neg h1] at h; exact absurd h h1
theorem iU {P : TN -> Prop} (hnum : ∀ o m n, bH o = true -> 0 <= n -> n <= 9223372036854775807 -> P ⟨o, m, n, .nil⟩)
 (hname : ∀ o m n, bH o = false -> a8 o = true -> cK m.data.toList = true -> P ⟨o, m, n, .nil⟩)
 (hneg : ∀ o m n (a : TN), bH o = false -> a8 o = false -> dO o = true -> P a -> P ⟨o, m, n, a.f⟩)
 (htwo : ∀ o m n (a b : TN), bH o = false -> a8 o = false -> dO o = false -> jN o = true -> P a -> P b -> P ⟨o, m, n, .cons a.op a.nm a.n a.ks b.f⟩)
 (t : TN) (h : OkT t) (hn : d9 t.f) : P t := (mC hnum hname hneg htwo t.f h hn).1
theorem yW {o m : ByteArray} {n : Int} {ks : F} (h : bH o = true) : bV ⟨o, m, n, ks⟩ = Lib.itoa n /\ wK ⟨o, m, n, ks⟩ = [(2, Lib.itoa n, n)] := by
 unfold bV wK yP yU; rw [if_pos h, if_pos h]; exact ⟨rfl, rfl⟩
theorem uS {o m : ByteArray} {n : Int} {ks : F} (h : bH o = false) (h2 : a8 o = true) : bV ⟨o, m, n, ks⟩ = m.data.toList /\ wK ⟨o, m, n, ks⟩ = [(1, m.data.toList, 0)] := by
 unfold bV wK yP yU;simp only;rw [if_neg (by rw [h]; decide), if_pos h2, if_neg (by rw [h]; decide), if_pos h2]; exact ⟨rfl, rfl⟩
theorem rX {o m : ByteArray} {n : Int} (a : TN) (h : bH o = false) (h2 : a8 o = false) (h3 : dO o = true) : bV ⟨o, m, n, a.f⟩ = 45 :: bV a /\ wK ⟨o, m, n, a.f⟩ = (3, [45], 0) :: wK a := by
 show yP o m n (FQ a.f) = _ /\ yU o m n (FX a.f) = _;rw [yP, yU, if_neg (by rw [h]; decide), if_neg (by rw [h2]; decide), if_pos h3, if_neg (by rw [h]; decide), if_neg (by rw [h2]; decide), if_pos h3]; exact ⟨rfl, rfl⟩
theorem rW {o m : ByteArray} {n : Int} (a b : TN) (h : bH o = false) (h2 : a8 o = false) (h3 : dO o = false) :
 bV ⟨o, m, n, .cons a.op a.nm a.n a.ks b.f⟩ = 40 :: (bV a ++ 32 :: (o.data.toList ++ 32 :: (bV b ++ [41]))) /\
 wK ⟨o, m, n, .cons a.op a.nm a.n a.ks b.f⟩ = (3, [40], 0) :: (wK a ++ (3, o.data.toList, 0) :: (wK b ++ [(3, [41], 0)])) := by
 show yP o m n (FQ (.cons a.op a.nm a.n a.ks b.f)) = _ /\ yU o m n (FX (.cons a.op a.nm a.n a.ks b.f)) = _;rw [yP, yU, if_neg (by rw [h]; decide), if_neg (by rw [h2]; decide), if_neg (by rw [h3]; decide), if_neg (by rw [h]; decide), if_neg (by rw [h2]; decide), if_neg (by rw [h3]; decide)]; exact ⟨rfl, rfl⟩
theorem Ko {o : ByteArray} (h : bH o = true) : o = ⟨#[110, 117, 109]⟩ := by
 unfold bH gP at h;exact iV (by rw [beq_iff_eq.1 h])
end
section
open Go.RowKit
theorem G1 {n : Int} (h0 : 0 <= n) (h1 : n <= 9223372036854775807) : (Lib.itoa n).length <= 19 := by
 rw [G5 h0];exact xW 18 _ (by omega)
theorem Av {x : List UInt8} (h : cK x = true) : x.length <= 8 := by
 cases x with
 | nil => simp
 | cons c r =>
   rw [nQ] at h;simp only [Bool.and_eq_true, decide_eq_true_eq] at h;have := h.1.2;simp; omega
theorem yX (t : TN) (h : OkT t) (hn : d9 t.f) : (bV t).length <= 19 * aQ t := by
 refine iU (P := fun t => (bV t).length <= 19 * aQ t) ?_ ?_ ?_ ?_ t h hn
 · intro o m n h1 h2 h3
   rw [(yW h1).1];have := G1 h2 h3;have hs : aQ ⟨o, m, n, .nil⟩ = 1 := rfl;omega
 · intro o m n h1 h2 h3
   rw [(uS h1 h2).1];have := Av h3;have hs : aQ ⟨o, m, n, .nil⟩ = 1 := rfl;omega
 · intro o m n a h1 h2 h3 ih
   rw [(rX a h1 h2 h3).1];have hs : aQ ⟨o, m, n, a.f⟩ = 1 + aQ a := by unfold aQ; rw [show (⟨o, m, n, a.f⟩ : TN).ks = a.f from rfl, oJ]; rfl
   rw [hs, List.length_cons];omega
 · intro o m n a b h1 h2 h3 h4 ia ib
   rw [(rW a b h1 h2 h3).1];obtain ⟨_, c, hc, _⟩ := yQ h4;have hs : aQ ⟨o, m, n, .cons a.op a.nm a.n a.ks b.f⟩ = 1 + aQ a + aQ b := by unfold aQ; simp only; rw [bY, oJ]; unfold aQ; omega
   rw [hs, hc];simp only [List.length_cons, List.length_append, List.length_nil];omega
end
section
open Go.RowKit
theorem DG {L : List Tk} {p o n : Nat} {sg : List (List UInt8 × Nat)} {dn : List TN} (hp : p <= L.length) : eD L true ⟨p, o, n, sg, dn⟩ =
 if isS L [40] p = true then eD L true ⟨p + 1, o + 1, n, sg, dn⟩
 else if isS L [45] p = true then (if n = 32 then .bad p 4 else eD L true ⟨p + 1, o, n + 1, (fE, 3 + o * 3) :: sg, dn⟩)
 else if (eA L p).kind = 2 /\ 0 <= (eA L p).num then (if n = 32 then .bad p 4 else eD L false ⟨p + 1, o, n + 1, sg, sU (eA L p).num :: dn⟩)
 else if (eA L p).kind = 1 /\ cK (eA L p).text = true then (if n = 32 then .bad p 4 else eD L false ⟨p + 1, o, n + 1, sg, eJ (eA L p).text :: dn⟩)
 else .bad p 2 := by
 have h := zL (L := L) (s := ⟨p, o, n, sg, dn⟩) hp;simp only at h;rw [h];unfold eA;cases e : L[p]? with
 | none =>
   have hz : ¬ (zTk.kind = 2 /\ 0 <= zTk.num) := by decide
   have hz1 : ¬ (zTk.kind = 1 /\ cK zTk.text = true) := by decide
   simp only [if_neg hz, if_neg hz1]
 | some t => rfl
def Cl (ts : List Tk) (rb : Nat) (a : Option Addr) (c p0 : Nat) (r0 : qQ) (w0 : World) (e : Ending) (w' : World) : Prop :=
 cF rb w0 w' /\ ∃ (er : Int) (p o n : Nat) (sg : List (List UInt8 × Nat)) (dn : List TN) (sv dv : Value) (q : List (Option Addr × Nat)), e = .returned (.int .i64 er) /\ RG ts rb a c p o n sg dn sv dv q w' /\
  ((er = 0 /\ r0 = eD ts false ⟨p, o, n, sg, dn⟩ /\ mP sg /\ dn.length = iZ sg + 1 /\ p0 < p /\ o <= p) \/ (er ≠ 0 /\ r0 = .bad p er))
theorem BI {ts : List Tk} (hL : ∀ t ∈ ts, eN t) (p : Nat) : eA ts p = zTk \/ eN (eA ts p) /\ p < ts.length := by
 by_cases h : p < ts.length
 · right; rw [rU h]; exact ⟨hL _ (List.getElem_mem h), h⟩
 · left; exact rV (Nat.le_of_not_lt h)
set_option maxHeartbeats 8000000 in
set_option maxRecDepth 100000 in
theorem BZ (ts : List Tk) (hL : ∀ t ∈ ts, eN t) (rb : Nat) (a : Option Addr) (c p0 o0 n0 : Nat) (sg0 : List (List UInt8 × Nat)) (dn : List TN) (sv0 dv : Value) (q : List (Option Addr × Nat)) (w : World) (H : RG ts rb a c p0 o0 n0 sg0 dn sv0 dv q w) (hs : mP sg0) (hd : dn.length = iZ sg0) (ho : o0 <= p0) :
 Calls Tryz.prog 210 #[.pointer (some ⟨rb, 0, none⟩)] w (Cl ts rb a c p0 (eD ts true ⟨p0, o0, n0, sg0, dn⟩) w) := by
 obtain ⟨r0, hr0⟩ : ∃ r, eD ts true ⟨p0, o0, n0, sg0, dn⟩ = r := ⟨_, rfl⟩;rw [hr0];have K0 := aA (cF.refl rb w);have HR := aA H;have HS := aA hs;have HD := aA hd;have HE := aA hr0;have HL := aA hL;have hn : ts.length <= 100000 := H.g.hl;have hp0 := H.g.hp;clear hs hd hr0 H hL
 go_enter Tryz.func210, Tryz.ntmps210
 go_wp2_with fail
 go_loopg [] ts.length (fun g wr => ∃ (p o n : Nat) (sg : List (List UInt8 × Nat)) (sv : Value), p0 <= p /\ o <= p /\ p <= ts.length /\ ts.length - p <= g /\ Hid (RG ts rb a c p o n sg dn sv dv q wr) /\ Hid (mP sg) /\ Hid (dn.length = iZ sg) /\ Hid (eD ts true ⟨p, o, n, sg, dn⟩ = r0) /\ Hid (cF rb w wr))
 case atStart => exact ⟨p0, o0, n0, sg0, sv0, Nat.le_refl _, ho, hp0, Nat.sub_le _ _, HR, HS, HD, HE, K0⟩
 case round =>
  obtain ⟨p, o, n, sg, sv, hp, hop, hpl, hg, hR, hS, hD, hE, hK⟩ := hrel;have CN := aA (pG ts rb a c p o n sv dv wr hR.out.g);have RF := aA (hE.out.symm.trans (DG (o := o) (n := n) (sg := sg) (dn := dn) hpl));have hgt := aA (BI HL.out p);have D := aA (fun x w => Da ts x p w);obtain ⟨tk, htk⟩ : ∃ t, eA ts p = t := ⟨_, rfl⟩
  have LT : Hid (¬ tk = zTk -> p < ts.length) := aA (fun hne => by
   rcases hgt.out with h1 | h1
   · exact absurd (htk.symm.trans h1) hne
   · exact h1.2)
  rw [htk] at CN RF hgt D;have HTK := aA htk;clear htk;obtain ⟨X, hX⟩ : ∃ X : ByteArray, ⟨tk.text.toArray⟩ = X := ⟨_, rfl⟩;have hag : tkG tk = .agg #[.int .i64 tk.kind, .string X, .int .i64 tk.num, .int .i64 tk.place] := by rw [<- hX]; rfl
  rw [hag] at CN D;have HX := aA hX;clear hag hX;have hob : o <= 100000 := by omega
  go_wp2_with fail
  refine CN.out.mono ?_;rintro e w1 ⟨rfl, hb1⟩;have hrw := hR.out.lt;have hsz := hb1.size;have R1 := hR.out.below hb1;have K1 := hK.out.trans (cF.below hb1);have BA := (Below.refl w1.heap.size w1).alloc (Nat.le_refl _) (.cells #[.int .i64 tk.kind, .string X, .int .i64 tk.num, .int .i64 tk.place] 158);have NA := heap_alloc_new w1 (.cells #[.int .i64 tk.kind, .string X, .int .i64 tk.num, .int .i64 tk.place] 158);have R2 := R1.below BA;have K2 := K1.trans (cF.below BA);obtain ⟨tb, htb⟩ : ∃ b, w1.heap.size = b := ⟨_, rfl⟩
  go_upto_region 3 with fail
  generalize hW : w1.alloc (.cells #[.int .i64 tk.kind, .string X, .int .i64 tk.num, .int .i64 tk.place] 158) = W at R2 K2 NA
  try rw [hW]
  rw [htb] at NA
  try rw [htb]
  have HR2 := aA R2;have HK2 := aA K2;have HNA := aA NA;obtain ⟨⟨x0, x1, x2, x3⟩, -⟩ := aJ NA;clear hb1 R1 K1 BA R2 K2 NA hW htb CN
  go_wp2_with fail
  refine (D.out ⟨#[40]⟩ W).mono ?_;rintro e w2 ⟨rfl, hb2⟩;have hE40 : isS ts (⟨#[40]⟩ : ByteArray).data.toList p = isS ts [40] p := rfl;rw [hE40];have R3 := HR2.out.below hb2;have K3 := HK2.out.trans (cF.below hb2);have N3 := (hb2.block _ (Array.getElem?_eq_some_iff.1 HNA.out).1).trans HNA.out;have HR3 := aA R3;have HK3 := aA K3;have HN3 := aA N3;clear x0 x1 x2 x3 hb2 hE40 R3 K3 N3 HR2 HK2 HNA
  by_cases h40 : isS ts [40] p = true
  · have hlt := oN h40
    have E2 := aA (show eD ts true ⟨p + 1, o + 1, n, sg, dn⟩ = r0 by have := RF.out; rw [if_pos h40] at this; exact this.symm);obtain ⟨⟨c0, c1, c2, c3, c4, c5⟩, f1, f2, f3, f4, f5⟩ := HR3.out.g.r.cells;have H1 := HR3.out.set (p' := p) (o' := o + 1) (n' := n) (y := 2) (v := .int .i64 ((o : Int) + 1)) hpl (by omega) HR3.out.g.hn (Nat.le_refl _) rfl;have H2 := aA (H1.set (p' := p + 1) (o' := o + 1) (n' := n) (y := 1) (v := .int .i64 ((p : Int) + 1)) (by omega) (by omega) HR3.out.g.hn (Nat.le_refl _) rfl);have K4 := aA ((HK3.out.set 2 (.int .i64 ((o : Int) + 1))).set 1 (.int .i64 ((p : Int) + 1)));rw [h40];clear H1 h40 D RF
    go_wp2_with fail
    go_roundg (ts.length - (p + 1))
    case measure => omega
    case rel => exact ⟨p + 1, o + 1, n, sg, sv, by omega, by omega, by omega, Nat.le_refl _, H2, hS, hD, E2, K4⟩
  · rw [if_neg h40] at RF
    have h40' : isS ts [40] p = false := by simpa using h40
    rw [h40'];have H40 := aA h40';obtain ⟨⟨x0, x1, x2, x3⟩, -⟩ := aJ HN3.out;clear h40 h40'
    go_wp2_with fail
    refine (D.out ⟨#[45]⟩ w2).mono ?_;rintro e w3 ⟨rfl, hb3⟩;have HR4 := aA (HR3.out.below hb3);have HK4 := aA (HK3.out.trans (cF.below hb3));have HN4 := aA ((hb3.block _ (Array.getElem?_eq_some_iff.1 HN3.out).1).trans HN3.out);clear x0 x1 x2 x3 hb3 HR3 HK3 HN3 D;obtain ⟨⟨x0, x1, x2, x3⟩, -⟩ := aJ HN4.out;obtain ⟨⟨c0, c1, c2, c3, c4, c5⟩, f1, f2, f3, f4, f5⟩ := HR4.out.g.r.cells
    by_cases h45 : isS ts [45] p = true
    · have hlt := oN h45
      have CW := yJ ts rb a c p o n sg dn sv dv q (fE, 3 + o * 3) w3 HR4.out hlt;rw [show (((fE, 3 + o * 3) : List UInt8 × Nat).2 : Int) = 3 + (o : Int) * 3 by simp] at CW;have HCW := aA CW;rw [if_pos h45] at RF;rw [h45];clear h45 CW
      by_cases h32 : n = 32
      · rw [if_pos h32] at RF
        have G32 := aA h32;clear h32
        go_wp2_with fail
        refine HCW.out.mono ?_;rintro e w4 ⟨k4, hA, -⟩;obtain ⟨rfl, r4⟩ := hA G32.out;have P := aA (show Cl ts rb a c p0 r0 w (.returned (.int .i64 4)) w4 from ⟨HK4.out.trans k4, 4, p, o, n, sg, dn, sv, dv, q, rfl, r4, .inr ⟨by decide, RF.out⟩⟩);clear c0 c1 c2 c3 c4 c5 f1 f2 f3 f4 f5 x0 x1 x2 x3
        go_wp2_with fail
        go_ret;exact P.out
      · rw [if_neg h32] at RF
        have G32 := aA h32;clear h32
        go_wp2_with fail
        refine HCW.out.mono ?_;rintro e w4 ⟨k4, -, hB⟩;obtain ⟨rfl, sv', r4⟩ := hB G32.out;have R5 := aA r4;have K5 := aA (HK4.out.trans k4);have S5 := aA (show mP ((fE, 3 + o * 3) :: sg) from fun x hx => (List.mem_cons.1 hx).elim (fun e => .inl (by rw [e])) (hS.out x));have D5 := aA (show dn.length = iZ ((fE, 3 + o * 3) :: sg) by rw [iZ, if_pos rfl]; exact hD.out);have E5 := aA RF.out.symm;clear c0 c1 c2 c3 c4 c5 f1 f2 f3 f4 f5 x0 x1 x2 x3 hB
        go_wp2_with fail
        go_roundg (ts.length - (p + 1))
        case measure => omega
        case rel => exact ⟨p + 1, o, n + 1, _, sv', by omega, by omega, by omega, Nat.le_refl _, R5, S5, D5, E5, K5⟩
    · rw [if_neg h45] at RF
      have h45' : isS ts [45] p = false := by simpa using h45
      rw [h45'];clear h45 h45' H40
      by_cases hk2 : tk.kind = 2
      · obtain ⟨hm, hlt⟩ : 0 <= tk.num /\ p < ts.length := by
         rcases hgt.out with h1 | ⟨h1, h2⟩
         · rw [h1] at hk2; exact absurd hk2 (by decide)
         · rcases h1 with ⟨h3, _⟩ | ⟨_, h3, _⟩ | h3
           · rw [h3] at hk2; exact absurd hk2 (by decide)
           · exact ⟨h3, h2⟩
           · rw [h3] at hk2; exact absurd hk2 (by decide)
        rw [if_pos ⟨hk2, hm⟩] at RF;have CL := aA (Ao ts rb a c p o n sg dn sv dv q (sU tk.num) rfl w3 HR4.out hlt);have b1 : (tk.kind == 2) = true := by rw [hk2]; rfl
        have HK := aA hk2;clear hk2
        by_cases h32 : n = 32
        · rw [if_pos h32] at RF
          have G32 := aA h32;clear h32
          go_wp2_with fail
          refine CL.out.mono ?_;rintro e w4 ⟨k4, hA, -⟩;obtain ⟨rfl, r4⟩ := hA G32.out;have P := aA (show Cl ts rb a c p0 r0 w (.returned (.int .i64 4)) w4 from ⟨HK4.out.trans k4, 4, p, o, n, sg, dn, sv, dv, q, rfl, r4, .inr ⟨by decide, RF.out⟩⟩);clear c0 c1 c2 c3 c4 c5 f1 f2 f3 f4 f5 x0 x1 x2 x3
          go_wp2_with fail
          go_ret;exact P.out
        · rw [if_neg h32] at RF
          have G32 := aA h32;clear h32
          go_wp2_with fail
          refine CL.out.mono ?_;rintro e w4 ⟨k4, -, hB⟩;obtain ⟨rfl, dv', q', r4⟩ := hB G32.out;have P := aA (show Cl ts rb a c p0 r0 w (.returned (.int .i64 0)) w4 from ⟨HK4.out.trans k4, 0, p + 1, o, n + 1, sg, _, sv, dv', q', rfl, r4, .inl ⟨rfl, RF.out, hS.out, by rw [List.length_cons, hD.out], by omega, by omega⟩⟩);clear c0 c1 c2 c3 c4 c5 f1 f2 f3 f4 f5 x0 x1 x2 x3 hB
          go_wp2_with fail
          go_ret;exact P.out
      · rw [if_neg (fun h => hk2 h.1)] at RF
        have b1 : (tk.kind == 2) = false := by simpa using hk2
        by_cases hk1 : tk.kind = 1
        · obtain ⟨hm, hlt⟩ : cK tk.text = true /\ p < ts.length := by
           rcases hgt.out with h1 | ⟨h1, h2⟩
           · rw [h1] at hk1; exact absurd hk1 (by decide)
           · rcases h1 with ⟨_, h3⟩ | ⟨h3, _⟩ | h3
             · exact ⟨h3, h2⟩
             · rw [h3] at hk1; exact absurd hk1 (by decide)
             · rw [h3] at hk1; exact absurd hk1 (by decide)
          rw [if_pos ⟨hk1, hm⟩] at RF;have b2 : (tk.kind == 1) = true := by rw [hk1]; rfl
          have CL := fun w4 (h : RG ts rb a c p o n sg dn sv dv q w4) => Ao ts rb a c p o n sg dn sv dv q (eJ tk.text) rfl w4 h hlt
          have CX : (eJ tk.text).nm = X := HX.out;rw [CX] at CL;have HCL := aA CL;have NM := aA (fun w => uQ X (by rw [<- HX.out]; have := Av hm; show tk.text.toArray.size <= _; rw [List.size_toArray]; omega) w);have NM2 : cK X.data.toList = true := by rw [<- HX.out]; simpa using hm
          rw [NM2] at NM;clear hk1 hk2 CL CX NM2 hm;have PB := aA (p := ∀ w4, cF rb w3 w4 -> RG ts rb a c p o n sg dn sv dv q w4 -> n = 32 -> Cl ts rb a c p0 r0 w (.returned (.int .i64 4)) w4) (fun w4 k4 r4 h32 => ⟨HK4.out.trans k4, 4, p, o, n, sg, dn, sv, dv, q, rfl, r4, .inr ⟨by decide, by rw [RF.out, if_pos h32]⟩⟩);have PG := aA (p := ∀ w4 dv' q', cF rb w3 w4 -> ¬ n = 32 -> RG ts rb a c (p + 1) o (n + 1) sg (eJ tk.text :: dn) sv dv' q' w4 -> Cl ts rb a c p0 r0 w (.returned (.int .i64 0)) w4) (fun w4 dv' q' k4 h32 r4 => ⟨HK4.out.trans k4, 0, p + 1, o, n + 1, sg, _, sv, dv', q', rfl, r4, .inl ⟨rfl, by rw [RF.out, if_neg h32], hS.out, by rw [List.length_cons, hD.out], by omega, by omega⟩⟩)
          go_wp2_with fail
          refine (NM.out _).mono ?_;rintro e w4 ⟨rfl, rfl⟩
          go_wp2_with fail
          refine (HCL.out _ HR4.out).mono ?_;rintro e w4 ⟨k4, hA, hB⟩
          by_cases h32 : n = 32
          · obtain ⟨rfl, r4⟩ := hA h32
            have P := aA (PB.out w4 k4 r4 h32);clear c0 c1 c2 c3 c4 c5 f1 f2 f3 f4 f5 x0 x1 x2 x3 hA hB h32
            go_wp2_with fail
            go_ret;exact P.out
          · obtain ⟨rfl, dv', q', r4⟩ := hB h32
            have P := aA (PG.out w4 dv' q' k4 h32 r4);clear c0 c1 c2 c3 c4 c5 f1 f2 f3 f4 f5 x0 x1 x2 x3 hA hB h32
            go_wp2_with fail
            go_ret;exact P.out
        · rw [if_neg (fun h => hk1 h.1)] at RF
          have b2 : (tk.kind == 1) = false := by simpa using hk1
          have P := aA (show Cl ts rb a c p0 r0 w (.returned (.int .i64 2)) w3 from ⟨HK4.out, 2, p, o, n, sg, dn, sv, dv, q, rfl, HR4.out, .inr ⟨by decide, RF.out⟩⟩);clear hk1 hk2
          go_wp2_with fail
          go_ret;exact P.out
end
section
open Go.RowKit
def JT (ts : List Tk) (rb : Nat) (a : Option Addr) (c : Nat) (r0 : qQ) (w0 : World) (e : Ending) (w' : World) : Prop :=
 cF rb w0 w' /\ ∃ (er : Int) (p o n : Nat) (sg : List (List UInt8 × Nat)) (dn : List TN) (sv dv : Value) (q : List (Option Addr × Nat)), e = .returned (.int .i64 er) /\ RG ts rb a c p o n sg dn sv dv q w' /\
  ((er = 0 /\ r0 = .ok ⟨p, o, n, sg, dn⟩ /\ mP sg /\ dn.length = iZ sg + 1) \/ (er ≠ 0 /\ r0 = .bad p er))
theorem JN (ts : List Tk) (p : Nat) (w : World) : Calls Tryz.prog 212 #[tkG (eA ts p)] w fun e w' => e = .returned (.int .i64 (cR ts p : Nat)) /\ Below w.heap.size w w' := by
 have h := AH (eA ts p).kind ⟨(eA ts p).text.toArray⟩ (eA ts p).num (eA ts p).place w;have e : pT (eA ts p).kind (⟨(eA ts p).text.toArray⟩ : ByteArray).data.toList = cR ts p := FY ts p;rw [e] at h;exact h
theorem Bz {ts : List Tk} {p : Nat} (h : ¬ cR ts p = 0) : r9 (gD ts p) /\ p < ts.length /\ cR ts p <= 2 := by
 unfold cR at h |-
 by_cases hA : isA ts p = true
 · rw [if_pos hA]; exact ⟨opA hA, xJ hA, by omega⟩
 · rw [if_neg hA] at h |-
   by_cases hM : isM ts p = true
   · rw [if_pos hM]; exact ⟨opM hM, xH hM, by omega⟩
   · rw [if_neg hM] at h; exact absurd rfl h
theorem BT (k m pl : Int) (X : ByteArray) (w : World) : (Instr.field 158 (.agg #[.int .i64 k, .string X, .int .i64 m, .int .i64 pl]) 1).run Tryz.prog w = .ok (.string X) w := by
 simp [Instr.field, go_sem, asAgg]
set_option maxHeartbeats 8000000 in
set_option maxRecDepth 100000 in
theorem F5 (ts : List Tk) (hL : ∀ t ∈ ts, eN t) (rb : Nat) (a : Option Addr) (c p0 o0 n0 : Nat) (sg0 : List (List UInt8 × Nat)) (dn0 : List TN) (sv0 dv0 : Value) (q0 : List (Option Addr × Nat)) (w : World) (H : RG ts rb a c p0 o0 n0 sg0 dn0 sv0 dv0 q0 w) (hs : mP sg0) (hd : dn0.length = iZ sg0) (ho : o0 <= p0) :
 Calls Tryz.prog 186 #[.pointer (some ⟨rb, 0, none⟩)] w (JT ts rb a c (eD ts true ⟨p0, o0, n0, sg0, dn0⟩) w) := by
 obtain ⟨r0, hr0⟩ : ∃ r, eD ts true ⟨p0, o0, n0, sg0, dn0⟩ = r := ⟨_, rfl⟩;rw [hr0];have K0 := aA (cF.refl rb w);have HR := aA H;have HS := aA hs;have HD := aA hd;have HE := aA hr0;have HL := aA hL;have hn : ts.length <= 100000 := H.g.hl;have hp0 := H.g.hp;clear hs hd hr0 H hL
 go_enter Tryz.func186, Tryz.ntmps186
 go_wp2_with fail
 go_loopg [] ts.length (fun g wr => ∃ (p o n : Nat) (sg : List (List UInt8 × Nat)) (dn : List TN) (sv dv : Value) (q : List (Option Addr × Nat)), o <= p /\ p <= ts.length /\ ts.length - p <= g /\ Hid (RG ts rb a c p o n sg dn sv dv q wr) /\ Hid (mP sg) /\ Hid (dn.length = iZ sg) /\ Hid (eD ts true ⟨p, o, n, sg, dn⟩ = r0) /\ Hid (cF rb w wr))
 case atStart => exact ⟨p0, o0, n0, sg0, dn0, sv0, dv0, q0, ho, hp0, Nat.sub_le _ _, HR, HS, HD, HE, K0⟩
 case round =>
  obtain ⟨p, o, n, sg, dn, sv, dv, q, hop, hpl, hg, hR, hS, hD, hE, hK⟩ := hrel;have CF := aA (BZ ts HL.out rb a c p o n sg dn sv dv q wr hR.out hS.out hD.out hop);rw [hE.out] at CF;clear hR hS hD hE
  go_wp2_with fail
  refine CF.out.mono ?_;rintro e w1 ⟨k1, er, p1, o1, n1, sg1, dn1, sv1, dv1, q1, rfl, R1, h⟩
  rcases h with ⟨rfl, hE1, S1, D1, hp1, ho1⟩ | ⟨hne, hE1⟩
  · have HR1 := aA R1
    have HE1 := aA hE1;have HS1 := aA S1;have HD1 := aA D1;have HK1 := aA (hK.out.trans k1);clear R1 hE1 S1 D1 k1 hK CF
    go_wp2_with fail
    refine (F9 ts rb a c p1 o1 n1 sg1 dn1 sv1 dv1 q1 w1 HR1.out).mono ?_;rintro e w2 ⟨rfl, k2, p2, o2, R2, hp2, ho2, hE2, hno⟩;have hpl2 : p2 <= ts.length := R2.g.hp;have RF := kM (L := ts) (s := ⟨p2, o2, n1, sg1, dn1⟩) hpl2;simp only at RF;rw [if_neg (fun hh => by rw [hno hh.1] at hh; exact absurd hh.2 (by decide)), hE2, <- HE1.out] at RF;have HRF := aA RF;have HR2 := aA R2;have HK2 := aA (HK1.out.trans k2);have CN := aA (fun w (h : RG ts rb a c p2 o2 n1 sg1 dn1 sv1 dv1 q1 w) => pG ts rb a c p2 o2 n1 sv1 dv1 w h.g);have CB := aA (fun w => JN ts p2 w);obtain ⟨hh, hhh⟩ : ∃ x, cR ts p2 = x := ⟨_, rfl⟩;have hsg := @Bz ts p2;rw [hhh] at HRF CB hsg;have HSG := aA hsg;clear R2 k2 RF hE2 hno HE1 HR1 HK1 hsg hhh
    go_wp2_with fail
    refine (CN.out w2 HR2.out).mono ?_;rintro e w3 ⟨rfl, b3⟩;have HR3 := aA (HR2.out.below b3);have HK3 := aA (HK2.out.trans (cF.below b3));clear b3 HR2 HK2
    go_wp2_with fail
    refine (CB.out w3).mono ?_;rintro e w4 ⟨rfl, b4⟩;have HR4 := aA (HR3.out.below b4);have HK4 := aA (HK3.out.trans (cF.below b4));clear b4 HR3 HK3 CB
    by_cases h0 : hh = 0
    · rw [if_pos h0] at HRF
      have a1 : ((hh : Int) == 0) = true := by rw [h0]; rfl
      have CE := aA (JF ts rb a c p2 o2 n1 sv1 dv1 w4 HR4.out.g)
      have P := aA (p := ∀ x : Int, x = (if 0 < o2 then 2 else 0) -> JT ts rb a c r0 w (.returned (.int .i64 x)) w4) (fun x hx => ⟨HK4.out, x, p2, o2, n1, sg1, dn1, sv1, dv1, q1, rfl, HR4.out, by
       by_cases h2 : 0 < o2
       · rw [if_pos h2] at hx
         refine .inr ⟨by rw [hx]; decide, ?_⟩;rw [HRF.out, if_pos h2, hx]
       · rw [if_neg h2] at hx
         refine .inl ⟨hx, ?_, HS1.out, HD1.out⟩;rw [HRF.out, if_neg h2]⟩)
      clear h0 CN
      go_wp2_with fail
      refine CE.out.mono ?_;rintro e w5 ⟨rfl, rfl⟩;generalize hx : (if 0 < o2 then (2 : Int) else 0) = x at P |-
      have P2 := aA (P.out x rfl);clear P hx
      go_wp2_with fail
      go_ret;exact P2.out
    · rw [if_neg h0] at HRF
      obtain ⟨hso, hlt, h2⟩ := HSG.out h0;have HSO := aA hso;have a1 : ((hh : Int) == 0) = false := by rw [beq_eq_false_iff_ne]; omega
      have ho100 : o2 <= 100000 := by omega
      have CJ := aA (G0 ts rb a c p2 o2 n1 (hh + o2 * 3) sg1 dn1 sv1 dv1 q1 w4 HR4.out HS1.out HD1.out);rw [show ((hh + o2 * 3 : Nat) : Int) = (hh : Int) + (o2 : Int) * 3 by simp] at CJ;have JB := aA (As (h := hh + o2 * 3) HS1.out HD1.out);obtain ⟨⟨J1, J2⟩, hJ⟩ : ∃ r, cN (hh + o2 * 3) sg1 dn1 = r := ⟨_, rfl⟩;rw [hJ] at CJ JB HRF;simp only at JB HRF;obtain ⟨⟨c0, c1, c2, c3, c4, c5⟩, f1, f2, f3, f4, f5⟩ := HR4.out.g.r.cells;clear h0 hJ hso HSG
      go_wp2_with fail
      refine CJ.out.mono ?_;rintro e w5 ⟨rfl, k5, sv5, dv5, q5, R5⟩;have HR5 := aA R5;have HK5 := aA (HK4.out.trans k5);have CN2 := aA (pG ts rb a c p2 o2 n1 sv5 dv5 w5 R5.g);obtain ⟨tk, htk⟩ : ∃ t, eA ts p2 = t := ⟨_, rfl⟩;have hop2 := It ts p2;rw [htk] at CN2 hop2;obtain ⟨X, hX⟩ : ∃ X : ByteArray, ⟨tk.text.toArray⟩ = X := ⟨_, rfl⟩;have hag : tkG tk = .agg #[.int .i64 tk.kind, .string X, .int .i64 tk.num, .int .i64 tk.place] := by rw [<- hX]; rfl
      rw [hag] at CN2;have CW := fun w (h : RG ts rb a c p2 o2 n1 J1 J2 sv5 dv5 q5 w) => yJ ts rb a c p2 o2 n1 J1 J2 sv5 dv5 q5 (gD ts p2, hh + o2 * 3) w h hlt
      have e1 : (⟨(gD ts p2).toArray⟩ : ByteArray) = X := by rw [<- hop2]; exact hX
      have e2 : (((gD ts p2, hh + o2 * 3) : List UInt8 × Nat).2 : Int) = (hh : Int) + (o2 : Int) * 3 := by simp
      simp only [e1, e2] at CW;have HCW := aA CW;clear R5 k5 CJ c0 c1 c2 c3 c4 c5 f1 f2 f3 f4 f5 HR4 HK4 htk hX hop2 hag e1 e2 CW CN
      go_wp2_with fail
      refine CN2.out.mono ?_;rintro e w6 ⟨rfl, b6⟩;have HR6 := aA (HR5.out.below b6);have HK6 := aA (HK5.out.trans (cF.below b6));clear b6 HR5 HK5 CN2
      go_wp2_with fail
      rw [BT];simp only [Result.andThen];rw [Oper.upon_value]
      go_wp2_with fail
      refine (HCW.out w6 HR6.out).mono ?_;rintro e w7 ⟨k7, hA, hB⟩
      by_cases h32 : n1 = 32
      · obtain ⟨rfl, r7⟩ := hA h32
        have P := aA (show JT ts rb a c r0 w (.returned (.int .i64 4)) w7 from ⟨HK6.out.trans k7, 4, p2, o2, n1, J1, J2, sv5, dv5, q5, rfl, r7, .inr ⟨by decide, by rw [HRF.out, if_pos h32]⟩⟩);clear hA hB h32
        go_wp2_with fail
        go_ret;exact P.out
      · obtain ⟨rfl, sv', r7⟩ := hB h32
        have R8 := aA r7;have K8 := aA (HK6.out.trans k7);have S8 := aA (show mP ((gD ts p2, hh + o2 * 3) :: J1) from fun x hx => (List.mem_cons.1 hx).elim (fun e => .inr (by rw [e]; exact HSO.out)) (JB.out.1 x));have D8 := aA (show J2.length = iZ ((gD ts p2, hh + o2 * 3) :: J1) by rw [iZ, if_neg (tW HSO.out).2]; exact JB.out.2);have E8 := aA (show eD ts true ⟨p2 + 1, o2, n1 + 1, (gD ts p2, hh + o2 * 3) :: J1, J2⟩ = r0 by rw [HRF.out, if_neg h32]);clear hA hB h32
        go_wp2_with fail
        go_roundg (ts.length - (p2 + 1))
        case measure => omega
        case rel => exact ⟨p2 + 1, o2, n1 + 1, _, J2, sv', dv5, q5, by omega, by omega, Nat.le_refl _, R8, S8, D8, E8, K8⟩
  · have b1 : ((er : Int) != 0) = true := by simpa using hne
    have P := aA (show JT ts rb a c r0 w (.returned (.int .i64 er)) w1 from ⟨hK.out.trans k1, er, p1, o1, n1, sg1, dn1, sv1, dv1, q1, rfl, R1, .inr ⟨hne, hE1⟩⟩);clear hne hE1 R1 k1
    go_wp2_with fail
    go_ret;exact P.out
end
section
open Go.RowKit
abbrev ndG (o m : ByteArray) (n : Int) (a : Option Addr) (l c : Nat) : Obj := .cells #[.string o, .string m, .int .i64 n, .slice a l c] 25
theorem RGx.mark {ts : List Tk} {rb : Nat} {a : Option Addr} {c p o n : Nat} {sg : List (List UInt8 × Nat)} {dn : List TN} {sv dv : Value} {q : List (Option Addr × Nat)} {w : World} (h : RG ts rb a c p o n sg dn sv dv q w) (ob : Obj) : RGx w.heap.size ts rb a c p o n sg dn sv dv q (w.alloc ob) := by
 have hb := (Below.refl w.heap.size w).alloc (Nat.le_refl _) ob;have h2 := h.below hb;exact ⟨h2.g, h2.so, h2.dw, (h.dk.imp (fun b hlt hg => (⟨hg.1, by omega, hg.2.2⟩ : Gk w.heap.size rb sv dv b))).keptS (aF hb (fun _ => False)) (fun _ h => h.elim), h2.ap, by rw [World.size_alloc]; omega, h2.hs, h2.hd⟩
set_option maxHeartbeats 8000000 in
set_option maxRecDepth 100000 in
theorem Dr (ts : List Tk) (rb : Nat) (a : Option Addr) (c p o n : Nat) (sg : List (List UInt8 × Nat)) (dn : List TN) (sv dv : Value) (q : List (Option Addr × Nat)) (w : World) (H : RG ts rb a c p o n sg dn sv dv q w) (hs : mP sg) (hd : dn.length = iZ sg + 1) (t : TN) (hj : cN 0 sg dn = ([], [t])) :
 Calls Tryz.prog 187 #[.pointer (some ⟨rb, 0, none⟩)] w fun e w' => ∃ ad cc, e = .returned (cH t.op t.nm t.n ad t.ks.len cc) /\ cF rb w w' /\ aH (fun b => rb < b) w' ad t.ks /\ w'.cell? ⟨rb, 1, none⟩ = some (.int .i64 p) := by
 have hrb := H.lt;have HX := H.mark (ndG ⟨#[]⟩ ⟨#[]⟩ 0 none 0 0);have KA := cF.below (rb := rb) ((Below.refl w.heap.size w).alloc (Nat.le_refl _) (ndG ⟨#[]⟩ ⟨#[]⟩ 0 none 0 0));have NB := heap_alloc_new w (ndG ⟨#[]⟩ ⟨#[]⟩ 0 none 0 0);have hs0 : (w.alloc (ndG ⟨#[]⟩ ⟨#[]⟩ 0 none 0 0)).heap.size = w.heap.size + 1 := World.size_alloc _ _;generalize hW : w.alloc (ndG ⟨#[]⟩ ⟨#[]⟩ 0 none 0 0) = W at HX KA NB hs0;have CJ := C8 w.heap.size ts rb a c p o n 0 sg dn sv dv q W HX hs hd;rw [hj] at CJ;have HCJ := aA CJ;have HSV := aA (fun (e : sv.ownBlock = some w.heap.size) => (Nat.lt_irrefl _ (H.svNe e).2));have HDV := aA (fun (e : dv.ownBlock = some w.heap.size) => (Nat.lt_irrefl _ (H.dvNe e).2));have HW := aA hW;have HNB := aA NB;have HKA := aA KA;clear hW HX CJ hs hd hj H NB KA
 go_enter Tryz.func187, Tryz.ntmps187
 go_upto_region 1 with fail
 rw [HW.out]
 go_wp2_with fail
 refine HCJ.out.mono ?_;rintro e w2 ⟨rfl, ⟨k2, sv2, dv2, q2, R2⟩, hf⟩;have N2 := (hf w.heap.size (by omega) (by omega) HSV.out HDV.out).trans HNB.out;obtain ⟨g, vc, hv, -, -, hcs⟩ := cZ R2.dw (by simp);subst hv
 obtain ⟨qa, rfl⟩ : ∃ x, q2 = [x] := by
  have := rQ R2.dk
  match q2, this with
  | [x], _ => exact ⟨x, rfl⟩
 have hx0 := hcs 0 _ rfl;have hx1 := hcs 1 _ rfl;have hx2 := hcs 2 _ rfl;have hx3 := hcs 3 _ rfl;have RK := R2.dk.1;obtain ⟨⟨c0, c1, c2, c3, c4, c5⟩, -⟩ := R2.g.r.cells;obtain ⟨⟨z0, z1, z2, z3⟩, y0, y1, y2, y3⟩ := aJ N2;have HN2 := aA N2;have HK2 := aA (HKA.out.trans k2);have HRK := aA RK;have hgr := (R2.g.r);have HGR := aA hgr;have hl1 : ([t] : List TN).length = 1 := rfl;rw [hl1] at c5;clear hcs R2 k2 hf N2 RK hgr HCJ hl1
 go_wp2_with fail
 have h4 := aP HN2.out (.string t.op) (.string t.nm) (.int .i64 t.n) (.slice qa.1 t.ks.len qa.2);obtain ⟨⟨d0, d1, d2, d3⟩, -⟩ := aJ h4;have KP := ((((aG.refl (· = w.heap.size) w2).setCell (p := ⟨w.heap.size, 0, none⟩) (.inl rfl) (.string t.op)).setCell (p := ⟨w.heap.size, 1, none⟩) (.inl rfl) (.string t.nm)).setCell (p := ⟨w.heap.size, 2, none⟩) (.inl rfl) (.int .i64 t.n)).setCell (p := ⟨w.heap.size, 3, none⟩) (.inl rfl) (.slice qa.1 t.ks.len qa.2);have RF := (HRK.out.keptS KP (fun k hk hg => hg.2.1 hk)).imp (H := fun b => rb < b) (fun b _ hg => hg.1);have KF := HK2.out.trans (KP.mono (T := fun b => rb <= b) (fun i hi _ => by omega));have GF : IsG _ rb a ts.length c p o n sv2 (Value.slice (some ⟨g, 0, none⟩) [t].length vc) := KP.heap HGR.out (by omega);exact bodyPost_ret (v := cH t.op t.nm t.n qa.1 t.ks.len qa.2) (by simp [results, Tryz.results187, go_sem, d0, d1, d2, d3]) rfl ⟨qa.1, qa.2, rfl, KF, RF, GF.cells.1.2.1⟩
theorem Gf {ts : List Tk} {rb : Nat} {a : Option Addr} {c p : Nat} {w : World} (h : w.heap[rb]? = some (.cells #[.slice a ts.length c, .int .i64 p, .int .i64 0, .int .i64 0, .slice none 0 0, .slice none 0 0] 245 (0, 0))) (ht : yG rb w a ts) (hp : p <= ts.length) (hl : ts.length <= 100000) :
 RG ts rb a c p 0 0 [] [] (.slice none 0 0) (.slice none 0 0) [] w :=
 ⟨⟨h, ht, hp, hl, by omega, by omega⟩, World.ownsRow_nil _ _ _ _, World.ownsRow_nil _ _ _ _, trivial, (fun _ h => by cases h), (Array.getElem?_eq_some_iff.1 h).1, Nat.le_refl _, Nat.le_refl _⟩
set_option maxHeartbeats 8000000 in
set_option maxRecDepth 100000 in
theorem IZ (ts : List Tk) (hL : ∀ t ∈ ts, eN t) (a : Option Addr) (c p : Nat) (hn : ts.length <= 100000) (hp : p <= ts.length) (w : World) (hr : gQ w a ts) :
 Calls Tryz.prog 165 #[.slice a ts.length c, .int .i64 p] w fun e w' => qR (ofL ts p) w e w' /\ ∀ q er, ofL ts p = .bad q er -> q <= ts.length := by
 have B1 := (Below.refl w.heap.size w).alloc (Nat.le_refl _) (ndG ⟨#[]⟩ ⟨#[]⟩ 0 none 0 0);have NB := heap_alloc_new w (ndG ⟨#[]⟩ ⟨#[]⟩ 0 none 0 0);have hs0 : (w.alloc (ndG ⟨#[]⟩ ⟨#[]⟩ 0 none 0 0)).heap.size = w.heap.size + 1 := World.size_alloc _ _;generalize hW : w.alloc (ndG ⟨#[]⟩ ⟨#[]⟩ 0 none 0 0) = W at B1 NB hs0;have B2 := (Below.refl W.heap.size W).alloc (Nat.le_refl _) (.cells #[.slice a ts.length c, .int .i64 p, .int .i64 0, .int .i64 0, .slice none 0 0, .slice none 0 0] 245);have NV := heap_alloc_new W (.cells #[.slice a ts.length c, .int .i64 p, .int .i64 0, .int .i64 0, .slice none 0 0, .slice none 0 0] 245);have hs1 : (W.alloc (.cells #[.slice a ts.length c, .int .i64 p, .int .i64 0, .int .i64 0, .slice none 0 0, .slice none 0 0] 245)).heap.size = w.heap.size + 2 := by rw [World.size_alloc]; omega
 generalize hV : W.alloc (.cells #[.slice a ts.length c, .int .i64 p, .int .i64 0, .int .i64 0, .slice none 0 0, .slice none 0 0] 245) = V at B2 NV hs1;rw [hs0] at NV;have R0 := Gf NV ((Cq (hr.kept B1)).kept (aF B2 (fun _ => False)) (fun _ h => h.elim) |>.imp id (fun ⟨b, off, e, hlt, hc⟩ => ⟨b, off, e, by omega, hc⟩)) hp hn;have BV := aA (B1.trans (B2.mono (by omega)));have NDV := aA ((B2.block w.heap.size (by omega)).trans NB);have CS := aA (F5 ts hL (w.heap.size + 1) a c p 0 0 [] [] (.slice none 0 0) (.slice none 0 0) [] V R0 (fun _ hx => by cases hx) rfl (Nat.zero_le _));have RO := Kc hL hp;obtain ⟨rO, hrO⟩ : ∃ r, ofL ts p = r := ⟨_, rfl⟩;rw [hrO] at RO |-
 have RO := aA RO;clear hrO;have HW := aA hW;have HV := aA hV;have a1 : ¬ (p : Int) < 0 := by omega
 have a2 : (p : Int) <= (ts.length : Int) := by omega
 have a3 : min (p : Int) (ts.length : Int) = p := by omega
 clear hW hV B1 B2 NV NB R0 hr hL
 go_enter Tryz.func165, Tryz.ntmps165
 go_upto_region 1 with fail
 rw [HW.out]
 go_upto_region 4 with fail
 rw [HV.out];clear a1 a2 a3 HW HV
 go_wp2_with fail
 refine CS.out.mono ?_;rintro e w1 ⟨k1, er, p1, o1, n1, sg1, dn1, sv1, dv1, q1, rfl, R1, h⟩;have hz1 := k1.size;have N1 := k1.heap NDV.out (by omega);have B1 := BV.out.trans (aG.below k1 (B := w.heap.size) (fun k hk => by omega) (by omega));obtain ⟨⟨c0, c1, c2, c3, c4, c5⟩, -⟩ := R1.g.r.cells;obtain ⟨⟨z0, z1, z2, z3⟩, y0, y1, y2, y3⟩ := aJ N1;have HN1 := aA N1;have HB1 := aA B1;have HR1 := aA R1;have HO := RO.out;cases rO with
 | bad qb eb =>
   have h0 := HO.1 qb eb rfl;rw [h0] at h
   obtain ⟨hne, rfl, rfl⟩ : er ≠ 0 /\ qb = p1 /\ eb = er := by
    rcases h with ⟨_, h, _⟩ | ⟨hne, h⟩
    · cases h
    · cases h; exact ⟨hne, rfl, rfl⟩
   have b1 : ((eb : Int) != 0) = true := by simpa using hne
   clear HO h h0 hne N1 B1 R1 k1 CS RO
   go_wp2_with fail
   go_region
   go_wp2_with fail
   have h4 := aP (W := w1) HN1.out (.string ⟨#[]⟩) (.string ⟨#[]⟩) (.int .i64 0) (.slice none 0 0);obtain ⟨⟨d0, d1, d2, d3⟩, -⟩ := aJ h4;have KP := jR (b := w.heap.size) HB1.out (Nat.le_refl _) (by omega) 1 (.string ⟨#[]⟩) (.string ⟨#[]⟩) (.int .i64 0) (.slice none 0 0);exact bodyPost_ret (v := .tuple #[cH ⟨#[]⟩ ⟨#[]⟩ 0 none 0 0, .int .i64 (qb : Nat), .int .i64 eb]) (by simp [results, Tryz.results165, go_sem, d0, d1, d2, d3]) rfl ⟨⟨KP, rfl⟩, fun q er h => by cases h; exact HR1.out.g.hp⟩
 | ok t qo =>
   obtain ⟨s, h0, hsp, hql, hj⟩ := HO.2 t qo rfl;rw [h0] at h
   obtain ⟨rfl, rfl, S1, D1⟩ : er = 0 /\ s = ⟨p1, o1, n1, sg1, dn1⟩ /\ mP sg1 /\ dn1.length = iZ sg1 + 1 := by
    rcases h with ⟨he, h, h1, h2⟩ | ⟨hne, h⟩
    · cases h; exact ⟨he, rfl, h1, h2⟩
    · cases h
   simp only at hsp hj;subst hsp;have CW := aA (Dr ts (w.heap.size + 1) a c p1 o1 n1 sg1 dn1 sv1 dv1 q1 w1.drew (HR1.out.below ⟨rfl, rfl, rfl, Nat.le_refl _, fun _ _ => rfl⟩) S1 D1 t hj);have HN1d := aA (show w1.drew.heap[w.heap.size]? = some (ndG ⟨#[]⟩ ⟨#[]⟩ 0 none 0 0) from HN1.out);have HB1d := aA (show Below w.heap.size w w1.drew from ⟨HB1.out.os, HB1.out.tape, HB1.out.output, HB1.out.size, HB1.out.block⟩);have hz1d : V.heap.size <= w1.drew.heap.size := hz1;clear HO h h0 N1 B1 R1 k1 CS RO S1 D1 hj
   go_wp2_with fail
   go_region_law (first
    | (go_simp
       go_at_call 187
       refine CW.out.mono ?_;rintro e w2 ⟨ad, cc, rfl, k2, rr, cc1⟩;have N2 := k2.heap HN1d.out (by omega);have hz2 := k2.size;have HB2 := aA (HB1d.out.trans (aG.below k2 (B := w.heap.size) (fun k hk => by omega) (by omega)));have HRR := aA rr;have HN2 := aA N2;clear z0 z1 z2 z3 y0 y1 y2 y3 c0 c1 c2 c3 c4 c5 k2 rr;obtain ⟨⟨z0, z1, z2, z3⟩, y0, y1, y2, y3⟩ := aJ N2;clear N2)
    | fail)
   all_goals
    go_wp2_with fail
    have KP := ((((aG.refl (· = w.heap.size) w2).setCell (p := ⟨w.heap.size, 0, none⟩) (.inl rfl) (.string t.op)).setCell (p := ⟨w.heap.size, 1, none⟩) (.inl rfl) (.string t.nm)).setCell (p := ⟨w.heap.size, 2, none⟩) (.inl rfl) (.int .i64 t.n)).setCell (p := ⟨w.heap.size, 3, none⟩) (.inl rfl) (.slice ad t.ks.len cc);obtain ⟨⟨d0, d1, d2, d3⟩, -⟩ := aJ (aP (W := w2) HN2.out (.string t.op) (.string t.nm) (.int .i64 t.n) (.slice ad t.ks.len cc));have BF := HB2.out.trans (aG.below KP (B := w.heap.size) (fun k hk => by omega) (by omega));have RF := (HRR.out.keptS KP (fun k hk hg => by omega)).imp (H := fun b => w.heap.size <= b) (fun b _ hg => by omega);exact bodyPost_ret (v := .tuple #[cH t.op t.nm t.n ad t.ks.len cc, .int .i64 p1, .int .i64 0]) (by simp [results, Tryz.results165, go_sem, Act.put, d0, d1, d2, d3]) (by simp [Act.put]) ⟨⟨BF, ad, cc, rfl, RF⟩, fun _ _ h => by cases h⟩
end
end
end Go.Proofs.YtapcjnoaofmmiaaGreatDoor
