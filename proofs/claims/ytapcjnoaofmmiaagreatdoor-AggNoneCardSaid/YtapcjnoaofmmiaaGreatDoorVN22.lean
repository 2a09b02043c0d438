/-
 No statement: what AggNoneCard needs, of the texts OSame, OEvM, OEv, OBuild.
-/
import Derived.Test.YtapcjnoaofmmiaaGreatDoorVN21
namespace Go.Proofs.YtapcjnoaofmmiaaGreatDoor
section
open Go.RowKit
def OkD (d : CD) : Prop := aI d.a = 0 /\ aI d.b = 0 /\ dR d.a.f /\ dR d.b.f
def xP (c d : CD) : Bool := (c.op.toList == d.op.toList) && f8 c.a d.a && f8 c.b d.b
theorem qW (c d : CD) (r q : List CD) : gO (c :: r) (d :: q) = (xP c d && gO r q) := rfl
theorem qV : ∀ {x y : List CD}, x.length ≠ y.length -> gO x y = false
 | [], [], h => absurd rfl h
 | [], _ :: _, _ => rfl
 | _ :: _, [], _ => rfl
 | a :: x, b :: y, h => by rw [qW, qV (by simpa using h), Bool.and_false]
set_option maxHeartbeats 8000000 in
set_option maxRecDepth 100000 in
theorem uY (x y : CD) (G G' : Nat -> Prop) (a1 : Option Addr) (c1 : Nat) (a2 : Option Addr) (c2 : Nat) (a3 : Option Addr) (c3 : Nat) (a4 : Option Addr) (c4 : Nat) (w : World) (hx : OkD x) (hy : OkD y)
 (r1 : aH G w a1 x.a.ks) (r2 : aH G w a2 x.b.ks) (r3 : aH G' w a3 y.a.ks) (r4 : aH G' w a4 y.b.ks) :
 Calls Tryz.prog 56 #[cdV x a1 c1 a2 c2, cdV y a3 c3 a4 c4] w fun e w' => e = .returned (.bool (xP x y)) /\ Below w.heap.size w w' := by
 have B0 := (Below.refl w.heap.size w).alloc (Nat.le_refl _) (cdX x a1 c1 a2 c2);have N0 := heap_alloc_new w (cdX x a1 c1 a2 c2);have hs0 : (w.alloc (cdX x a1 c1 a2 c2)).heap.size = w.heap.size + 1 := World.size_alloc _ _;generalize hW0 : w.alloc (cdX x a1 c1 a2 c2) = W0 at *;have B1 := (Below.refl W0.heap.size W0).alloc (Nat.le_refl _) (cdX y a3 c3 a4 c4);have N1 := heap_alloc_new W0 (cdX y a3 c3 a4 c4);have NA := (B1.block w.heap.size (by omega)).trans N0;have BB := B0.trans (B1.mono (by omega));generalize hW : W0.alloc (cdX y a3 c3 a4 c4) = W at *;rw [hs0] at N1;have HW0 := aA hW0;have HW := aA hW;have HB := aA BB;have HA := aA NA;have HN := aA N1;obtain ⟨x1, x2, x3, x4⟩ := hx;obtain ⟨y1, y2, y3, y4⟩ := hy;have SA := aA (fun V (hV : Below w.heap.size w V) => l7 x.a y.a G G' V a1 a3 c1 c3 ((bG _).1 x1).1 x3 ((bG _).1 x1).2 ((bG _).1 y1).1 y3 ((bG _).1 y1).2 (r1.kept hV) (r3.kept hV));have SB := aA (fun V (hV : Below w.heap.size w V) => l7 x.b y.b G G' V a2 a4 c2 c4 ((bG _).1 x2).1 x4 ((bG _).1 x2).2 ((bG _).1 y2).1 y4 ((bG _).1 y2).2 (r2.kept hV) (r4.kept hV));obtain ⟨z0, hz0⟩ : ∃ z, (x.op.toList == y.op.toList) = z := ⟨_, rfl⟩;obtain ⟨z1, hz1⟩ : ∃ z, f8 x.a y.a = z := ⟨_, rfl⟩;obtain ⟨z2, hz2⟩ : ∃ z, f8 x.b y.b = z := ⟨_, rfl⟩;unfold xP;rw [hz0, hz1, hz2];rw [hz1] at SA;rw [hz2] at SB;obtain ⟨p0, p1, p2, p3, p4, p5, p6, p7, p8⟩ := jM NA;obtain ⟨q0, q1, q2, q3, q4, q5, q6, q7, q8⟩ := jM N1;obtain ⟨r, hr⟩ : ∃ r, (z0 && z1 && z2) = r := ⟨_, rfl⟩;rw [hr];have HR := aA hr;clear hW0 hW B0 B1 N0 N1 NA BB r1 r2 r3 r4 x1 x2 x3 x4 y1 y2 y3 y4 hz1 hz2 hr hs0
 go_enter Tryz.func56, Tryz.ntmps56
 go_upto_region 1 with fail
 rw [show w.alloc (.cells #[.string x.op, .string x.a.op, .string x.a.nm, .int .i64 x.a.n, .slice a1 x.a.ks.len c1, .string x.b.op, .string x.b.nm, .int .i64 x.b.n, .slice a2 x.b.ks.len c2] 98) = W0 from HW0.out,
  show W0.alloc (.cells #[.string y.op, .string y.a.op, .string y.a.nm, .int .i64 y.a.n, .slice a3 y.a.ks.len c3, .string y.b.op, .string y.b.nm, .int .i64 y.b.n, .slice a4 y.b.ks.len c4] 98) = W from HW.out]
 cases z0 with
 | false =>
   have TR := aA (show false = r from HR.out)
   go_wp2_with fail
   go_ret;exact ⟨congrArg (fun z => Ending.returned (.bool z)) TR.out, HB.out⟩
 | true =>
   go_wp2_with fail
   refine (SA.out W HB.out).mono ?_;rintro e w2 ⟨rfl, hb⟩;have HB2 := aA (HB.out.trans (hb.mono HB.out.size));have N2 := (hb.block _ (aC HN.out)).trans HN.out;have A2 := (hb.block _ (aC HA.out)).trans HA.out;clear hb SA p0 p1 p2 p3 p4 p5 p6 p7 p8 q0 q1 q2 q3 q4 q5 q6 q7 q8;obtain ⟨p0, p1, p2, p3, p4, p5, p6, p7, p8⟩ := jM A2;obtain ⟨q0, q1, q2, q3, q4, q5, q6, q7, q8⟩ := jM N2;clear N2 A2;cases z1 with
   | false =>
     have TR := aA (show false = r from HR.out)
     go_wp2_with fail
     go_ret;exact ⟨congrArg (fun z => Ending.returned (.bool z)) TR.out, HB2.out⟩
   | true =>
     have TR := aA (show z2 = r from HR.out)
     go_wp2_with fail
     refine (SB.out w2 HB2.out).mono ?_;rintro e w3 ⟨rfl, hb⟩;have HB3 := aA (HB2.out.trans (hb.mono HB2.out.size));clear hb
     go_wp2_with fail
     go_ret;exact ⟨congrArg (fun z => Ending.returned (.bool z)) TR.out, HB3.out⟩
set_option maxHeartbeats 16000000 in
set_option maxRecDepth 100000 in
theorem sC (la lb : List CD) (G G' : Nat -> Prop) (aa : Option Addr) (ca : Nat) (ab : Option Addr) (cb : Nat) (hla : la.length <= 1000) (w : World) (ha : ∀ d ∈ la, OkD d) (hb : ∀ d ∈ lb, OkD d) (h1 : d9 G w aa la) (h2 : d9 G' w ab lb) :
 Calls Tryz.prog 55 #[.slice aa la.length ca, .slice ab lb.length cb, .func (.func 56) #[] #[]] w fun e w' => e = .returned (.bool (gO la lb)) /\ Below w.heap.size w w' := by
 have H1 := aA h1;have H2 := aA h2;have HA := aA ha;have HBB := aA hb;have B0 := aA (Below.refl w.heap.size w);clear h1 h2 ha hb
 by_cases hl : la.length = lb.length
 · have a1 : ((la.length : Int) != (lb.length : Int)) = false := by rw [hl]; simp
   obtain ⟨r, hr⟩ : ∃ r, gO la lb = r := ⟨_, rfl⟩;rw [hr];have HRr := aA hr;have HL := aA hl;have hlb : lb.length <= 1000 := by omega
   clear hr hl
   go_enter Tryz.func55, Tryz.ntmps55
   go_wp2_with fail
   go_loopw [7, 8, 9, 17] (fun v7 v8 v9 i wr => ∃ (k : Nat) (y7 y8 y9 : Value), v7 = y7 /\ v8 = y8 /\ v9 = y9 /\ i = .int .i64 k /\ k <= la.length /\ Hid (gO (la.drop k) (lb.drop k) = r) /\ Hid (Below w.heap.size w wr)) (fun _ _ _ i _ => la.length - (intOf i).toNat)
   case atStart => exact ⟨0, _, _, _, rfl, rfl, rfl, rfl, Nat.zero_le _, HRr, B0⟩
   case round =>
    obtain ⟨k, y7, y8, y9, rfl, rfl, rfl, rfl, hk, hD, hB⟩ := hrel
    by_cases hlt : k < la.length
    · have hlt2 : k < lb.length := by have := HL.out; omega
      obtain ⟨da, hda⟩ : ∃ d, la[k]? = some d := ⟨_, List.getElem?_eq_getElem hlt⟩;obtain ⟨db, hdb⟩ : ∃ d, lb[k]? = some d := ⟨_, List.getElem?_eq_getElem hlt2⟩;have hna : ¬ la = [] := fun e => by rw [e] at hlt; simp at hlt
      have hnb : ¬ lb = [] := fun e => by rw [e] at hlt2; simp at hlt2
      obtain ⟨b1, o1, hw1, -, hl1, cc1⟩ := (H1.out.kept hB.out).resolve_left hna;obtain ⟨a1', c1, a2', c2, ⟨p0, p1, p2, p3, p4, p5, p6, p7, p8⟩, r1, r2⟩ := cc1 k da hda;have hz := hB.out.size;have BA1 := (Below.refl wr.heap.size wr).alloc (Nat.le_refl _) (cdX da a1' c1 a2' c2);have NB1 := heap_alloc_new wr (cdX da a1' c1 a2' c2);have hs1 : (wr.alloc (cdX da a1' c1 a2' c2)).heap.size = wr.heap.size + 1 := World.size_alloc _ _;have r1' := r1.kept BA1;have r2' := r2.kept BA1;generalize hV : wr.alloc (cdX da a1' c1 a2' c2) = V at BA1 NB1 hs1 r1' r2';have HBV := hB.out.trans (BA1.mono (by omega));obtain ⟨b2, o2, hw2, -, hl2, cc2⟩ := (H2.out.kept HBV).resolve_left hnb;obtain ⟨a3', c3, a4', c4, ⟨q0, q1, q2, q3, q4, q5, q6, q7, q8⟩, r3, r4⟩ := cc2 k db hdb;have BA2 := (Below.refl V.heap.size V).alloc (Nat.le_refl _) (cdX db a3' c3 a4' c4);have NB2 := heap_alloc_new V (cdX db a3' c3 a4' c4);have hs2 : (V.alloc (cdX db a3' c3 a4' c4)).heap.size = wr.heap.size + 2 := by rw [World.size_alloc]; omega
      have CA := uY da db G G' a1' c1 a2' c2 a3' c3 a4' c4 (V.alloc (cdX db a3' c3 a4' c4)) (HA.out da (List.mem_of_getElem? hda)) (HBB.out db (List.mem_of_getElem? hdb)) (r1'.kept BA2) (r2'.kept BA2) (r3.kept BA2) (r4.kept BA2);generalize hU : V.alloc (cdX db a3' c3 a4' c4) = U at BA2 NB2 hs2 CA;rw [hs1] at NB2;have N1 := (BA2.block wr.heap.size (by omega)).trans NB1;have HBU := aA (HBV.trans (BA2.mono (by omega)));have HV := aA hV;have HU := aA hU;have HCA := aA CA
      have dr : ∀ (l : List CD) (d : CD), l[k]? = some d -> l.drop k = d :: l.drop (k + 1) := fun l d h => by
       have hlt' := (List.getElem?_eq_some_iff.1 h).1;rw [List.drop_eq_getElem_cons hlt', (List.getElem?_eq_some_iff.1 h).2]
      have HD2 := aA (show (xP da db && gO (la.drop (k + 1)) (lb.drop (k + 1))) = r by rw [<- hD.out, dr la da hda, dr lb db hdb, qW]);have a2 : (k : Int) < (la.length : Int) := by omega
      have a3 : (k : Int) < (lb.length : Int) := by omega
      have a4 : (0 : Int) <= (k : Int) := by omega
      have a5 : ((k : Int)).toNat = k := by omega
      obtain ⟨m0, m1, m2, m3, m4, m5, m6, m7, m8⟩ := jM N1;obtain ⟨n0, n1, n2, n3, n4, n5, n6, n7, n8⟩ := jM NB2;obtain ⟨z, hz2⟩ : ∃ z, xP da db = z := ⟨_, rfl⟩;rw [hz2] at HCA HD2;rw [hw1, hw2];clear hV hU NB1 NB2 N1 BA1 BA2 HBV hz2 CA hda hdb hna hnb hw1 hw2 cc1 cc2 r1 r2 r3 r4 r1' r2' dr
      go_upto_region 6 with fail
      rw [show wr.alloc (.cells #[.string da.op, .string da.a.op, .string da.a.nm, .int .i64 da.a.n, .slice a1' da.a.ks.len c1, .string da.b.op, .string da.b.nm, .int .i64 da.b.n, .slice a2' da.b.ks.len c2] 98) = V from HV.out]
      go_upto_region 7 with fail
      rw [show V.alloc (.cells #[.string db.op, .string db.a.op, .string db.a.nm, .int .i64 db.a.n, .slice a3' db.a.ks.len c3, .string db.b.op, .string db.b.nm, .int .i64 db.b.n, .slice a4' db.b.ks.len c4] 98) = U from HU.out];clear p0 p1 p2 p3 p4 p5 p6 p7 p8 q0 q1 q2 q3 q4 q5 q6 q7 q8
      go_wp2_with fail
      refine HCA.out.mono ?_;rintro e w3 ⟨rfl, hb3⟩;have B3 := aA (HBU.out.trans (hb3.mono (by omega)));clear hb3 HCA m0 m1 m2 m3 m4 m5 m6 m7 m8 n0 n1 n2 n3 n4 n5 n6 n7 n8;cases z with
      | true =>
        have D3 := aA (show gO (la.drop (k + 1)) (lb.drop (k + 1)) = r by have := HD2.out; rwa [Bool.true_and] at this)
        go_wp2_with fail
        go_roundw
        case rel => exact ⟨k + 1, _, _, _, rfl, rfl, rfl, by go_num, by omega, D3, B3⟩
        case measure => simp [intOf]; omega
      | false =>
        have D3 := aA (show r = false by have := HD2.out; rw [Bool.false_and] at this; exact this.symm)
        go_wp2_with fail
        go_ret;rw [D3.out];exact ⟨rfl, B3.out⟩
    · obtain rfl : k = la.length := by omega
      have D3 := aA (show r = true by rw [<- hD.out, List.drop_of_length_le (Nat.le_refl _), List.drop_of_length_le (by rw [HL.out]; exact Nat.le_refl _)]; rfl)
      go_wp2_with fail
      go_ret;rw [D3.out];exact ⟨rfl, hB.out⟩
 · have a1 : ((la.length : Int) != (lb.length : Int)) = true := by rw [bne_iff_ne]; omega
   rw [qV hl]
   go_enter Tryz.func55, Tryz.ntmps55
   go_wp2_with fail
   go_ret;exact ⟨rfl, B0.out⟩
theorem zO {x : AG} (h : x.fn.data.toList = aM) (gs : List (ByteArray -> Option Int)) : fC x gs = (fB x gs).map (fun _ => ((0 : Int), (0 : Int))) := by
 have hE : eP x.fn.data.toList = false := by rw [h]; decide
 have hB : bP x.fn.data.toList = false := by rw [h]; decide
 unfold fC fB
 induction gs with
 | nil => rfl
 | cons g gs ih =>
   have h1 : iC x g = if cS g x.wh = true then some (0, 0) else none := by unfold iC; rw [hE, hB]; cases cS g x.wh <;> rfl
   rw [List.filterMap_cons, List.filter_cons, h1];cases cS g x.wh
   · simpa using ih
   · simp [ih]
theorem uS {x : AG} (hE : eP x.fn.data.toList = true) (hB : bP x.fn.data.toList = false) (gs : List (ByteArray -> Option Int)) : fC x gs = (vW x gs).map (fun e => (e, (0 : Int))) := by
 unfold fC vW fB
 induction gs with
 | nil => rfl
 | cons g gs ih =>
   have h1 : iC x g = if cS g x.wh = true then (evT g x.e).map (fun e => (e, 0)) else none := by unfold iC; rw [hE, hB]; cases cS g x.wh <;> cases evT g x.e <;> rfl
   rw [List.filterMap_cons, List.filter_cons, h1];cases cS g x.wh
   · simpa using ih
   · cases he : evT g x.e <;> simp [he, ih]
theorem Ib {x : AG} (hE : eP x.fn.data.toList = true) (hB : bP x.fn.data.toList = true) (gs : List (ByteArray -> Option Int)) : fC x gs = nC x gs := by
 unfold fC nC fB
 induction gs with
 | nil => rfl
 | cons g gs ih =>
   have h1 : iC x g = if cS g x.wh = true then (match evT g x.e, evT g x.g with | some e, some b => some (e, b) | _, _ => none) else none := by unfold iC; rw [hE, hB]; cases cS g x.wh <;> cases evT g x.e <;> cases evT g x.g <;> rfl
   rw [List.filterMap_cons, List.filter_cons, h1];cases cS g x.wh
   · simpa using ih
   · cases he : evT g x.e <;> cases hg : evT g x.g <;> simp [he, hg, ih]
abbrev sW (pre : List Q64) : Int := pre.foldl (fun s q => cW (s + q.1.1)) 0
theorem BK (pre : List Q64) (q : Q64) : sW (pre ++ [q]) = cW (sW pre + q.1.1) := by simp [sW]
theorem Gi : ∀ (pre : List Q64), bE (sW pre) := by
 intro pre;have z : bE 0 := by unfold bE; omega
 have : ∀ (l : List Q64) (s : Int), bE s -> bE (l.foldl (fun s q => cW (s + q.1.1)) s) := by
  intro l
  induction l with
  | nil => exact fun s h => h
  | cons q l ih => exact fun s _ => ih _ (jU _)
 exact this pre 0 z
theorem vT {L : List Q64} {evs : List Int} (h : L.map Subtype.val = evs.map (fun e => (e, (0 : Int)))) : L.map (fun q => q.1.1) = evs := by
 have h2 := congrArg (List.map Prod.fst) h;simpa [List.map_map, Function.comp_def] using h2
theorem Ic {L : List Q64} {evs : List Int} (h : L.map (fun q => q.1.1) = evs) : sW L = evs.foldl (fun s e => cW (s + e)) 0 := by rw [<- h, List.foldl_map]
theorem H9 {L : List Q64} {evs : List Int} (h : L.map (fun q => q.1.1) = evs) (most : Nat) : oO most L = gD most (evs.foldl (fE lsL) []) := by
 subst h;rw [<- Dc most (L.map (fun q => q.1.1)) [] List.Pairwise.nil, List.foldl_map];simp [oO, gD]
theorem Gj {K K' : Type} (f : K -> K') {less : K -> K -> Bool} {less' : K' -> K' -> Bool} (h : ∀ a b, less a b = less' (f a) (f b)) (l : List K) : ∀ (o : Option K), (l.foldl (stB less) o).map f = (l.map f).foldl (stB less') (o.map f) := by
 induction l with
 | nil => intro o; rfl
 | cons q l ih =>
   intro o;rw [List.foldl_cons, ih, List.map_cons, List.foldl_cons]
   congr 1
   cases o with
   | none => rfl
   | some b =>
     simp only [stB, Option.map_some];rw [<- h]
     split <;> rfl
theorem sJ {K K' : Type} (f : K -> K') {less : K -> K -> Bool} {less' : K' -> K' -> Bool} (h : ∀ a b, less a b = less' (f a) (f b)) (l : List K) : (aT less l).map f = aT less' (l.map f) := Gj f h l none
theorem oT {x : AG} (h : iL x = 0) (hn : iT x) (hS : SzG x) : OkX x := by
 obtain ⟨h1, h2, h3, h4, h5, h6⟩ := eG h;refine ⟨fun he => ?_, fun he => ?_, fun d hd => ?_, by omega⟩
 · have hc : ¬ x.fn.data.toList = aM := fun hc => by unfold eP at he; rw [hc] at he; simp at he
   exact ⟨h3 hc, hn.e, hS.e⟩
 · have hc : x.fn.data.toList = aV := by unfold bP at he; simpa using he
   exact ⟨h4 hc, hn.g, hS.g⟩
 · have := iM x.wh h6 d hd
   exact ⟨⟨(this.2.1), (hn.c d hd).1, (hS.c d hd).1⟩, ⟨(this.2.2), (hn.c d hd).2, (hS.c d hd).2⟩⟩
structure EPW (w : World) (x : AG) (p : PA) (V : World) : Prop where
 k : KP9 (fun b => b < w.heap.size) w x p V
 o : V.heap[w.heap.size + 1]? = some (vlA 0 0 none 0 0)
theorem EPW.step {w V V' : World} {x : AG} {p : PA} (h : EPW w x p V) (hb : Below V.heap.size V V') : EPW w x p V' :=
 ⟨h.k.step hb, (hb.block _ (aC h.o)).trans h.o⟩
theorem mH {w : World} {x : AG} {p : PA} (hr : aJ (fun b => b < w.heap.size) w x p) : EPW w x p ((w.alloc (agP x p)).alloc (vlA 0 0 none 0 0)) := by
 have hz : (w.alloc (agP x p)).heap.size = w.heap.size + 1 := World.size_alloc _ _;have n2 := heap_alloc_new (w.alloc (agP x p)) (vlA 0 0 none 0 0);rw [hz] at n2;exact ⟨(kT hr).step ((Below.refl _ _).alloc (Nat.le_refl _) _), n2⟩
theorem EPW.put {w V : World} {x : AG} {p : PA} (h : EPW w x p V) (u0 u1 u2 u3 : Value) :
 Below w.heap.size w ((((V.setCell ⟨w.heap.size + 1, 0, none⟩ u0).setCell ⟨w.heap.size + 1, 1, none⟩ u1).setCell ⟨w.heap.size + 1, 2, none⟩ u2).setCell ⟨w.heap.size + 1, 3, none⟩ u3) :=
 h.k.b.trans ((((((aG.refl (· = w.heap.size + 1) V).setCell (p := ⟨w.heap.size + 1, 0, none⟩) (.inl rfl) _).setCell (p := ⟨w.heap.size + 1, 1, none⟩) (.inl rfl) _).setCell (p := ⟨w.heap.size + 1, 2, none⟩) (.inl rfl) _).setCell (p := ⟨w.heap.size + 1, 3, none⟩) (.inl rfl) _).below (fun b hb => by omega) h.k.z)
theorem Jg {V w : World} {B : Nat} {T : List Int} {ta : Option Addr} {tc : Nat} (hB : w.heap.size + 1 < B) (ho : V.ownsRow B 2 1 (.slice ta T.length tc) T.length (ivK T)) {u0 u1 u2 u3 : Value} : T = [] \/ ∃ b off, ta = some ⟨b, off, none⟩ /\ w.heap.size <= b /\ b < ((((V.setCell ⟨w.heap.size + 1, 0, none⟩ u0).setCell ⟨w.heap.size + 1, 1, none⟩ u1).setCell ⟨w.heap.size + 1, 2, none⟩ u2).setCell ⟨w.heap.size + 1, 3, none⟩ u3).heap.size /\ ∀ j n, T[j]? = some n -> ((((V.setCell ⟨w.heap.size + 1, 0, none⟩ u0).setCell ⟨w.heap.size + 1, 1, none⟩ u1).setCell ⟨w.heap.size + 1, 2, none⟩ u2).setCell ⟨w.heap.size + 1, 3, none⟩ u3).cell? ⟨b, off + j, none⟩ = some (.int .i64 n) := by
 cases T with
 | nil => exact .inl rfl
 | cons t T =>
   right;obtain ⟨g, hg, c0⟩ := jL ho (show (ivK (t :: T))[0]? = some (.int .i64 t) from rfl);have hlt := (ho.lt g (by rw [hg]; rfl));refine ⟨g, 0, hg, by have := hlt.1; omega, by simp only [World.size_setCell]; exact hlt.2, fun j n hj => ?_⟩;obtain ⟨g', hg', c⟩ := jL ho (show (ivK (t :: T))[j]? = some (.int .i64 n) by rw [List.getElem?_map, hj]; rfl);rw [hg] at hg';cases hg';rw [Nat.zero_add]
   exact (((((aG.refl (· = w.heap.size + 1) V).setCell (p := ⟨w.heap.size + 1, 0, none⟩) (.inl rfl) u0).setCell (p := ⟨w.heap.size + 1, 1, none⟩) (.inl rfl) u1).setCell (p := ⟨w.heap.size + 1, 2, none⟩) (.inl rfl) u2).setCell (p := ⟨w.heap.size + 1, 3, none⟩) (.inl rfl) u3).cell c (fun e => by
    have h1 := hlt.1;simp only at e;omega)
theorem uN {f : Nat} {args : Array Value} {w : World} {Q : Ending -> World -> Prop} (h : CallsIn Fence.wide 4 Tryz.prog f args w Q) : Calls Tryz.prog f args w Q := callsIn_wide.1 h
set_option maxHeartbeats 8000000 in
set_option maxRecDepth 100000 in
theorem Ci {G : Nat -> Prop} (x : AG) (p : PA) (rs : List RW) (ya : Option Addr) (yc : Nat) (w : World) (h : iL x = 0) (hn : iT x) (hS : SzG x) (hU : ∀ r ∈ rs, fO r.A r.n r.g) (hl : rs.length <= 1000) (hr : aJ G w x p) (hy : cD w ya rs) (hc : x.fn.data.toList = aM) :
 Calls Tryz.prog 20 #[agV x p, .slice ya rs.length yc] w (nJ (evG x (rs.map RW.g)) w) := by
 have hX := oT h hn hS;have gCount : (x.fn.toList == [99, 111, 117, 110, 116]) = true := bH (by rw [hc]; decide);have gSum : (x.fn.toList == [115, 117, 109]) = false := aE (by rw [hc]; decide);have gTop : (x.fn.toList == [116, 111, 112]) = false := aE (by rw [hc]; decide);have gMin : (x.fn.toList == [109, 105, 110]) = false := aE (by rw [hc]; decide);have gMax : (x.fn.toList == [109, 97, 120]) = false := aE (by rw [hc]; decide);have gFirst : (x.fn.toList == [102, 105, 114, 115, 116]) = false := aE (by rw [hc]; decide);have hr' : aJ (fun b => b < w.heap.size) w x p := hr.imp (fun b hb _ => hb);have E0 := mH hr';have K1 := hX.l;obtain ⟨L, hL⟩ := iF _ (lW hX hU)
 have hLl : L.length <= 1000 := by
  have h1 : (fC x (rs.map RW.g)).length <= (rs.map RW.g).length := List.length_filterMap_le ..;rw [<- hL, List.length_map, List.length_map] at h1;omega
 have hcl := DB hc (rs.map RW.g)
 rw [show ((fB x (rs.map RW.g)).length : Int) = (L.length : Int) by
  have h1 := congrArg List.length (hL.trans (zO hc _));rw [List.length_map, List.length_map] at h1;rw [h1]] at hcl
 rw [hcl];have HX := aA hX;have HU := aA hU;have HL := aA hL;have HLl := aA hLl;have HY := aA (fun V (hV : Below w.heap.size w V) => dB hy hV);have CK := aA (fun V (rd : aJ (fun b => b < w.heap.size) V x p) => dH x p V hS (by omega) rd);rw [h] at CK;generalize hW1 : w.alloc (agP x p) = W1 at E0;generalize hW : W1.alloc (vlA 0 0 none 0 0) = W at E0;have HW1 := aA hW1;have HW := aA hW;have HK := aA E0;clear hW1 hW E0 h hn hS hU hr hr' hy hX hL hLl hcl;obtain ⟨m0, m1, m2, m3, m4, m5, m6, m7, m8, m9, m10⟩ := aD HK.out.k.n
 go_enter Tryz.func20, Tryz.ntmps20
 go_upto_region 1 with fail
 rw [show w.alloc (.cells #[.string x.fn, .int .i64 x.k, .string x.e.op, .string x.e.nm, .int .i64 x.e.n, .slice p.ea x.e.ks.len p.ec, .string x.g.op, .string x.g.nm, .int .i64 x.g.n, .slice p.ga x.g.ks.len p.gc, .slice p.wa x.wh.length p.wc] 28) = W1 from HW1.out, show W1.alloc (.cells #[.int .i64 0, .int .i64 0, .string ⟨#[]⟩, .slice none 0 0] 53) = W from HW.out]
 go_wp2_with fail
 refine (CK.out _ HK.out.k.r).mono ?_;rintro e w1 ⟨rfl, hb1⟩;have K1 := aA (HK.out.step hb1);clear hb1 m0 m1 m2 m3 m4 m5 m6 m7 m8 m9 m10;obtain ⟨m0, m1, m2, m3, m4, m5, m6, m7, m8, m9, m10⟩ := aD K1.out.k.n;have TO := aA (eY x p rs ya yc w1 K1.out.k.r (HY.out _ K1.out.k.b))
 go_wp2_with fail
 refine TO.out.mono ?_;rintro e w2 ⟨bl, ba, bp, rfl, ta, hb2⟩;have TA := aA ta;have K2 := aA (K1.out.step hb2);clear hb2 ta TO m0 m1 m2 m3 m4 m5 m6 m7 m8 m9 m10;obtain ⟨m0, m1, m2, m3, m4, m5, m6, m7, m8, m9, m10⟩ := aD K2.out.k.n
 have FD := aA (uN (Fm bl ba bp L w2 w2 HLl.out (eX 2 HX.out HU.out (by omega) TA.out L HL.out) (Below.refl _ _) (fun pre : List Q64 => (pre.length : Int)) rfl (fun pre q V hlt => by
  have h9 := HLl.out;refine (BQ (pre.length : Int) q.1.1 q.1.2 V (by omega) (by omega)).mono ?_;rintro e V' ⟨rfl, hb⟩;exact ⟨by simp, hb⟩)))
 go_wp2_with fail
 refine FD.out.mono ?_;rintro e w3 ⟨rfl, hb3⟩;have K3 := aA (K2.out.step hb3);clear hb3 FD m0 m1 m2 m3 m4 m5 m6 m7 m8 m9 m10;obtain ⟨m0, m1, m2, m3, m4, m5, m6, m7, m8, m9, m10⟩ := aD K3.out.k.n;have NU := aA (fun V => gA ((L.length : Int)) V)
 go_wp2_with fail
 refine (NU.out _).mono ?_;rintro e w4 ⟨rfl, hb4⟩;have K4 := aA (K3.out.step hb4);clear hb4 NU m0 m1 m2 m3 m4 m5 m6 m7 m8 m9 m10;obtain ⟨⟨o0, o1, o2, o3⟩, z0, z1, z2, z3⟩ := aK K4.out.o
 go_wp2_with fail
 obtain ⟨⟨y0, y1, y2, y3⟩, -⟩ := aK (aQ K4.out.o (.int .i64 1) (.int .i64 ((L.length : Int))) (.string ⟨#[]⟩) (.slice none 0 0));exact bodyPost_ret (v := .tuple #[vlV 1 ((L.length : Int)) none 0 0, .bool true]) (by simp [results, Tryz.results20, go_sem, y0, y1, y2, y3]) rfl ⟨K4.out.put _ _ _ _, rfl⟩
set_option maxHeartbeats 8000000 in
set_option maxRecDepth 100000 in
theorem Bb {G : Nat -> Prop} (x : AG) (p : PA) (rs : List RW) (ya : Option Addr) (yc : Nat) (w : World) (h : iL x = 0) (hn : iT x) (hS : SzG x) (hU : ∀ r ∈ rs, fO r.A r.n r.g) (hl : rs.length <= 1000) (hr : aJ G w x p) (hy : cD w ya rs) (hc : x.fn.data.toList = iV) :
 Calls Tryz.prog 20 #[agV x p, .slice ya rs.length yc] w (nJ (evG x (rs.map RW.g)) w) := by
 have hX := oT h hn hS;have gCount : (x.fn.toList == [99, 111, 117, 110, 116]) = false := aE (by rw [hc]; decide);have gSum : (x.fn.toList == [115, 117, 109]) = true := bH (by rw [hc]; decide);have gTop : (x.fn.toList == [116, 111, 112]) = false := aE (by rw [hc]; decide);have gMin : (x.fn.toList == [109, 105, 110]) = false := aE (by rw [hc]; decide);have gMax : (x.fn.toList == [109, 97, 120]) = false := aE (by rw [hc]; decide);have gFirst : (x.fn.toList == [102, 105, 114, 115, 116]) = false := aE (by rw [hc]; decide);have hr' : aJ (fun b => b < w.heap.size) w x p := hr.imp (fun b hb _ => hb);have E0 := mH hr';have K1 := hX.l;obtain ⟨L, hL⟩ := iF _ (lW hX hU)
 have hLl : L.length <= 1000 := by
  have h1 : (fC x (rs.map RW.g)).length <= (rs.map RW.g).length := List.length_filterMap_le ..;rw [<- hL, List.length_map, List.length_map] at h1;omega
 have hcl := Hd hc (rs.map RW.g);rw [<- Ic (vT (hL.trans (uS (by rw [hc]; decide) (by rw [hc]; decide) _)))] at hcl;rw [hcl];have HX := aA hX;have HU := aA hU;have HL := aA hL;have HLl := aA hLl;have HY := aA (fun V (hV : Below w.heap.size w V) => dB hy hV);have CK := aA (fun V (rd : aJ (fun b => b < w.heap.size) V x p) => dH x p V hS (by omega) rd);rw [h] at CK;generalize hW1 : w.alloc (agP x p) = W1 at E0;generalize hW : W1.alloc (vlA 0 0 none 0 0) = W at E0;have HW1 := aA hW1;have HW := aA hW;have HK := aA E0;clear hW1 hW E0 h hn hS hU hr hr' hy hX hL hLl hcl;obtain ⟨m0, m1, m2, m3, m4, m5, m6, m7, m8, m9, m10⟩ := aD HK.out.k.n
 go_enter Tryz.func20, Tryz.ntmps20
 go_upto_region 1 with fail
 rw [show w.alloc (.cells #[.string x.fn, .int .i64 x.k, .string x.e.op, .string x.e.nm, .int .i64 x.e.n, .slice p.ea x.e.ks.len p.ec, .string x.g.op, .string x.g.nm, .int .i64 x.g.n, .slice p.ga x.g.ks.len p.gc, .slice p.wa x.wh.length p.wc] 28) = W1 from HW1.out, show W1.alloc (.cells #[.int .i64 0, .int .i64 0, .string ⟨#[]⟩, .slice none 0 0] 53) = W from HW.out]
 go_wp2_with fail
 refine (CK.out _ HK.out.k.r).mono ?_;rintro e w1 ⟨rfl, hb1⟩;have K1 := aA (HK.out.step hb1);clear hb1 m0 m1 m2 m3 m4 m5 m6 m7 m8 m9 m10;obtain ⟨m0, m1, m2, m3, m4, m5, m6, m7, m8, m9, m10⟩ := aD K1.out.k.n;have TO := aA (eY x p rs ya yc w1 K1.out.k.r (HY.out _ K1.out.k.b))
 go_wp2_with fail
 refine TO.out.mono ?_;rintro e w2 ⟨bl, ba, bp, rfl, ta, hb2⟩;have TA := aA ta;have K2 := aA (K1.out.step hb2);clear hb2 ta TO m0 m1 m2 m3 m4 m5 m6 m7 m8 m9 m10;obtain ⟨m0, m1, m2, m3, m4, m5, m6, m7, m8, m9, m10⟩ := aD K2.out.k.n
 have FD := aA (uN (Fl bl ba bp L w2 w2 HLl.out (eX 2 HX.out HU.out (by omega) TA.out L HL.out) (Below.refl _ _) sW rfl (fun pre q V _ => by
  refine (BP (sW pre) q.1.1 q.1.2 V (Gi pre) q.2.1).mono ?_;rintro e V' ⟨rfl, hb⟩;exact ⟨by rw [BK], hb⟩)))
 go_wp2_with fail
 refine FD.out.mono ?_;rintro e w3 ⟨rfl, hb3⟩;have K3 := aA (K2.out.step hb3);clear hb3 FD m0 m1 m2 m3 m4 m5 m6 m7 m8 m9 m10;obtain ⟨m0, m1, m2, m3, m4, m5, m6, m7, m8, m9, m10⟩ := aD K3.out.k.n;have NU := aA (fun V => gA (sW L) V)
 go_wp2_with fail
 refine (NU.out _).mono ?_;rintro e w4 ⟨rfl, hb4⟩;have K4 := aA (K3.out.step hb4);clear hb4 NU m0 m1 m2 m3 m4 m5 m6 m7 m8 m9 m10;obtain ⟨⟨o0, o1, o2, o3⟩, z0, z1, z2, z3⟩ := aK K4.out.o
 go_wp2_with fail
 obtain ⟨⟨y0, y1, y2, y3⟩, -⟩ := aK (aQ K4.out.o (.int .i64 1) (.int .i64 (sW L)) (.string ⟨#[]⟩) (.slice none 0 0));exact bodyPost_ret (v := .tuple #[vlV 1 (sW L) none 0 0, .bool true]) (by simp [results, Tryz.results20, go_sem, y0, y1, y2, y3]) rfl ⟨K4.out.put _ _ _ _, rfl⟩
set_option maxHeartbeats 8000000 in
set_option maxRecDepth 100000 in
theorem Ba {G : Nat -> Prop} (x : AG) (p : PA) (rs : List RW) (ya : Option Addr) (yc : Nat) (w : World) (h : iL x = 0) (hn : iT x) (hS : SzG x) (hU : ∀ r ∈ rs, fO r.A r.n r.g) (hl : rs.length <= 1000) (hr : aJ G w x p) (hy : cD w ya rs) (hc : x.fn.data.toList = dZ) :
 Calls Tryz.prog 20 #[agV x p, .slice ya rs.length yc] w (nJ (evG x (rs.map RW.g)) w) := by
 have hX := oT h hn hS;have gCount : (x.fn.toList == [99, 111, 117, 110, 116]) = false := aE (by rw [hc]; decide);have gSum : (x.fn.toList == [115, 117, 109]) = false := aE (by rw [hc]; decide);have gTop : (x.fn.toList == [116, 111, 112]) = true := bH (by rw [hc]; decide);have gMin : (x.fn.toList == [109, 105, 110]) = false := aE (by rw [hc]; decide);have gMax : (x.fn.toList == [109, 97, 120]) = false := aE (by rw [hc]; decide);have gFirst : (x.fn.toList == [102, 105, 114, 115, 116]) = false := aE (by rw [hc]; decide);have hr' : aJ (fun b => b < w.heap.size) w x p := hr.imp (fun b hb _ => hb);have E0 := mH hr';have K1 := hX.l;obtain ⟨L, hL⟩ := iF _ (lW hX hU)
 have hLl : L.length <= 1000 := by
  have h1 : (fC x (rs.map RW.g)).length <= (rs.map RW.g).length := List.length_filterMap_le ..;rw [<- hL, List.length_map, List.length_map] at h1;omega
 obtain ⟨hk1, hk2⟩ := (eG h).2.1 hc;obtain ⟨most, hK⟩ : ∃ most : Nat, x.k = (most : Int) := ⟨x.k.toNat, by omega⟩;have hcl := Hc hc (rs.map RW.g);rw [show x.k.toNat = most by omega] at hcl;have hto := H9 (vT (hL.trans (uS (by rw [hc]; decide) (by rw [hc]; decide) _))) most;unfold gD at hto;rw [<- hto] at hcl;obtain ⟨T, hT⟩ : ∃ T, oO most L = T := ⟨_, rfl⟩;rw [hT] at hcl;obtain ⟨R, hR⟩ : ∃ R, evG x (rs.map RW.g) = R := ⟨_, rfl⟩;rw [hR] at hcl |-
 have HR := aA hcl;have HKK := aA hK;have HT := aA hT;have HK1 := aA (show 1 <= most /\ most <= 1000 by omega);clear hR hK hT hk1 hk2 hto;have HX := aA hX;have HU := aA hU;have HL := aA hL;have HLl := aA hLl;have HY := aA (fun V (hV : Below w.heap.size w V) => dB hy hV);have CK := aA (fun V (rd : aJ (fun b => b < w.heap.size) V x p) => dH x p V hS (by omega) rd);rw [h] at CK;generalize hW1 : w.alloc (agP x p) = W1 at E0;generalize hW : W1.alloc (vlA 0 0 none 0 0) = W at E0;have HW1 := aA hW1;have HW := aA hW;have HK := aA E0;clear hW1 hW E0 h hn hS hU hr hr' hy hX hL hLl hcl;obtain ⟨m0, m1, m2, m3, m4, m5, m6, m7, m8, m9, m10⟩ := aD HK.out.k.n
 go_enter Tryz.func20, Tryz.ntmps20
 go_upto_region 1 with fail
 rw [show w.alloc (.cells #[.string x.fn, .int .i64 x.k, .string x.e.op, .string x.e.nm, .int .i64 x.e.n, .slice p.ea x.e.ks.len p.ec, .string x.g.op, .string x.g.nm, .int .i64 x.g.n, .slice p.ga x.g.ks.len p.gc, .slice p.wa x.wh.length p.wc] 28) = W1 from HW1.out, show W1.alloc (.cells #[.int .i64 0, .int .i64 0, .string ⟨#[]⟩, .slice none 0 0] 53) = W from HW.out]
 go_wp2_with fail
 refine (CK.out _ HK.out.k.r).mono ?_;rintro e w1 ⟨rfl, hb1⟩;have K1 := aA (HK.out.step hb1);clear hb1 m0 m1 m2 m3 m4 m5 m6 m7 m8 m9 m10;obtain ⟨m0, m1, m2, m3, m4, m5, m6, m7, m8, m9, m10⟩ := aD K1.out.k.n;have TO := aA (eY x p rs ya yc w1 K1.out.k.r (HY.out _ K1.out.k.b))
 go_wp2_with fail
 refine TO.out.mono ?_;rintro e w2 ⟨bl, ba, bp, rfl, ta, hb2⟩;have TA := aA ta;have K2 := aA (K1.out.step hb2);clear hb2 ta TO m0 m1 m2 m3 m4 m5 m6 m7 m8 m9 m10;obtain ⟨m0, m1, m2, m3, m4, m5, m6, m7, m8, m9, m10⟩ := aD K2.out.k.n;have FD := aA (uN (Fk bl ba bp w.heap.size x p most L w2 w2 HKK.out HK1.out.1 HK1.out.2 K2.out.k.n (eX 2 HX.out HU.out (by omega) TA.out L HL.out) (Below.refl _ _)));rw [HT.out] at FD
 go_wp2_with fail
 refine FD.out.mono ?_;rintro e w3 ⟨v, rfl, ro, hb3⟩;obtain ⟨va, vc, rfl⟩ := cI ro;have HRO := aA ro;have K3 := aA (K2.out.step hb3);have HB2 := aA K2.out.k.z;have HN2 := aA (aC K2.out.o);clear hb3 FD ro m0 m1 m2 m3 m4 m5 m6 m7 m8 m9 m10;obtain ⟨⟨o0, o1, o2, o3⟩, z0, z1, z2, z3⟩ := aK K3.out.o
 go_wp2_with fail
 obtain ⟨⟨y0, y1, y2, y3⟩, -⟩ := aK (aQ K3.out.o (.int .i64 3) (.int .i64 0) (.string ⟨#[]⟩) (.slice va T.length vc));refine bodyPost_ret (v := .tuple #[vlV 3 0 va T.length vc, .bool true]) (by simp [results, Tryz.results20, go_sem, y0, y1, y2, y3]) rfl (by rw [HR.out]; refine ⟨K3.out.put _ _ _ _, va, vc, rfl, Jg HN2.out HRO.out⟩)
set_option maxHeartbeats 8000000 in
set_option maxRecDepth 100000 in
theorem Gx {G : Nat -> Prop} (x : AG) (p : PA) (rs : List RW) (ya : Option Addr) (yc : Nat) (w : World) (h : iL x = 0) (hn : iT x) (hS : SzG x) (hU : ∀ r ∈ rs, fO r.A r.n r.g) (hl : rs.length <= 1000) (hr : aJ G w x p) (hy : cD w ya rs) (hc : x.fn.data.toList = iW) :
 Calls Tryz.prog 20 #[agV x p, .slice ya rs.length yc] w (nJ (evG x (rs.map RW.g)) w) := by
 have hX := oT h hn hS;have gCount : (x.fn.toList == [99, 111, 117, 110, 116]) = false := aE (by rw [hc]; decide);have gSum : (x.fn.toList == [115, 117, 109]) = false := aE (by rw [hc]; decide);have gTop : (x.fn.toList == [116, 111, 112]) = false := aE (by rw [hc]; decide);have gMin : (x.fn.toList == [109, 105, 110]) = true := bH (by rw [hc]; decide);have gMax : (x.fn.toList == [109, 97, 120]) = false := aE (by rw [hc]; decide);have gFirst : (x.fn.toList == [102, 105, 114, 115, 116]) = false := aE (by rw [hc]; decide);have hr' : aJ (fun b => b < w.heap.size) w x p := hr.imp (fun b hb _ => hb);have E0 := mH hr';have K1 := hX.l;obtain ⟨L, hL⟩ := iF _ (lW hX hU)
 have hLl : L.length <= 1000 := by
  have h1 : (fC x (rs.map RW.g)).length <= (rs.map RW.g).length := List.length_filterMap_le ..;rw [<- hL, List.length_map, List.length_map] at h1;omega
 have hcl := He hc (rs.map RW.g);rw [<- (vT (hL.trans (uS (by rw [hc]; decide) (by rw [hc]; decide) _))), <- sJ (less := fun a b : Q64 => decide (a.1.1 < b.1.1)) (fun q => q.1.1) (fun a b => by simp [lsL])] at hcl;obtain ⟨o, ho⟩ : ∃ o, aT (fun a b : Q64 => decide (a.1.1 < b.1.1)) L = o := ⟨_, rfl⟩;rw [ho] at hcl;obtain ⟨R, hR⟩ : ∃ R, evG x (rs.map RW.g) = R := ⟨_, rfl⟩;rw [hR] at hcl |-
 have HR := aA hcl;clear hR;have HX := aA hX;have HU := aA hU;have HL := aA hL;have HLl := aA hLl;have HY := aA (fun V (hV : Below w.heap.size w V) => dB hy hV);have CK := aA (fun V (rd : aJ (fun b => b < w.heap.size) V x p) => dH x p V hS (by omega) rd);rw [h] at CK;generalize hW1 : w.alloc (agP x p) = W1 at E0;generalize hW : W1.alloc (vlA 0 0 none 0 0) = W at E0;have HW1 := aA hW1;have HW := aA hW;have HK := aA E0;clear hW1 hW E0 h hn hS hU hr hr' hy hX hL hLl hcl;obtain ⟨m0, m1, m2, m3, m4, m5, m6, m7, m8, m9, m10⟩ := aD HK.out.k.n
 go_enter Tryz.func20, Tryz.ntmps20
 go_upto_region 1 with fail
 rw [show w.alloc (.cells #[.string x.fn, .int .i64 x.k, .string x.e.op, .string x.e.nm, .int .i64 x.e.n, .slice p.ea x.e.ks.len p.ec, .string x.g.op, .string x.g.nm, .int .i64 x.g.n, .slice p.ga x.g.ks.len p.gc, .slice p.wa x.wh.length p.wc] 28) = W1 from HW1.out, show W1.alloc (.cells #[.int .i64 0, .int .i64 0, .string ⟨#[]⟩, .slice none 0 0] 53) = W from HW.out]
 go_wp2_with fail
 refine (CK.out _ HK.out.k.r).mono ?_;rintro e w1 ⟨rfl, hb1⟩;have K1 := aA (HK.out.step hb1);clear hb1 m0 m1 m2 m3 m4 m5 m6 m7 m8 m9 m10;obtain ⟨m0, m1, m2, m3, m4, m5, m6, m7, m8, m9, m10⟩ := aD K1.out.k.n;have TO := aA (eY x p rs ya yc w1 K1.out.k.r (HY.out _ K1.out.k.b))
 go_wp2_with fail
 refine TO.out.mono ?_;rintro e w2 ⟨bl, ba, bp, rfl, ta, hb2⟩;have TA := aA ta;have K2 := aA (K1.out.step hb2);clear hb2 ta TO m0 m1 m2 m3 m4 m5 m6 m7 m8 m9 m10;obtain ⟨m0, m1, m2, m3, m4, m5, m6, m7, m8, m9, m10⟩ := aD K2.out.k.n;have FD := aA (uN (FN bl ba bp L w2 w2 (eX 2 HX.out HU.out (by omega) TA.out L HL.out) (Below.refl _ _) (fun a b : Q64 => decide (a.1.1 < b.1.1)) (fun a b V => Cy a.1.1 a.1.2 b.1.1 b.1.2 V)));rw [ho] at FD;have BO := aA (wC x.fn w2 hc);clear ho;cases o with
 | none =>
   go_wp2_with fail
   refine BO.out.mono ?_;rintro e w2' ⟨rfl, rfl⟩
   go_wp2_with fail
   refine FD.out.mono ?_;rintro e w3 ⟨rfl, hb3⟩;have K3 := aA (K2.out.step hb3);clear hb3 FD BO m0 m1 m2 m3 m4 m5 m6 m7 m8 m9 m10;have K4 := aA (K3.out.step ((Below.refl _ w3).alloc (Nat.le_refl _) (aL 0 0)));obtain ⟨⟨o0, o1, o2, o3⟩, z0, z1, z2, z3⟩ := aK K4.out.o
   go_wp2_with fail
   obtain ⟨⟨y0, y1, y2, y3⟩, -⟩ := aK (aQ K4.out.o (.int .i64 0) (.int .i64 0) (.string ⟨#[]⟩) (.slice none 0 0));exact bodyPost_ret (v := .tuple #[vlV 0 0 none 0 0, .bool false]) (by simp [results, Tryz.results20, go_sem, y0, y1, y2, y3]) rfl (by rw [HR.out]; exact ⟨K4.out.put _ _ _ _, rfl⟩)
 | some q =>
   obtain ⟨⟨q0, q1⟩, hq⟩ := q
   go_wp2_with fail
   refine BO.out.mono ?_;rintro e w2' ⟨rfl, rfl⟩
   go_wp2_with fail
   refine FD.out.mono ?_;rintro e w3 ⟨rfl, hb3⟩;have K3 := aA (K2.out.step hb3);clear hb3 FD BO m0 m1 m2 m3 m4 m5 m6 m7 m8 m9 m10;have N4 := heap_alloc_new w3 (aL q0 q1);have K4 := aA (K3.out.step ((Below.refl _ w3).alloc (Nat.le_refl _) (aL q0 q1)));generalize hV : w3.alloc (aL q0 q1) = V at N4 K4;have HV := aA hV;obtain ⟨⟨n0, n1⟩, -⟩ := two N4;clear hV N4;have NU := aA (fun V => gA q0 V);dsimp only [cJ, Option.isSome]
   go_upto_region 13 with fail
   rw [show w3.alloc (.cells #[.int .i64 q0, .int .i64 q1] 131) = V from HV.out]
   go_wp2_with fail
   refine (NU.out _).mono ?_;rintro e w4 ⟨rfl, hb4⟩;have K5 := aA (K4.out.step hb4);clear hb4 NU n0 n1;obtain ⟨⟨o0, o1, o2, o3⟩, z0, z1, z2, z3⟩ := aK K5.out.o
   go_wp2_with fail
   obtain ⟨⟨y0, y1, y2, y3⟩, -⟩ := aK (aQ K5.out.o (.int .i64 1) (.int .i64 q0) (.string ⟨#[]⟩) (.slice none 0 0));exact bodyPost_ret (v := .tuple #[vlV 1 q0 none 0 0, .bool true]) (by simp [results, Tryz.results20, go_sem, y0, y1, y2, y3]) rfl (by rw [HR.out]; exact ⟨K5.out.put _ _ _ _, rfl⟩)
set_option maxHeartbeats 8000000 in
set_option maxRecDepth 100000 in
theorem Gy {G : Nat -> Prop} (x : AG) (p : PA) (rs : List RW) (ya : Option Addr) (yc : Nat) (w : World) (h : iL x = 0) (hn : iT x) (hS : SzG x) (hU : ∀ r ∈ rs, fO r.A r.n r.g) (hl : rs.length <= 1000) (hr : aJ G w x p) (hy : cD w ya rs) (hc : x.fn.data.toList = j0) :
 Calls Tryz.prog 20 #[agV x p, .slice ya rs.length yc] w (nJ (evG x (rs.map RW.g)) w) := by
 have hX := oT h hn hS;have gCount : (x.fn.toList == [99, 111, 117, 110, 116]) = false := aE (by rw [hc]; decide);have gSum : (x.fn.toList == [115, 117, 109]) = false := aE (by rw [hc]; decide);have gTop : (x.fn.toList == [116, 111, 112]) = false := aE (by rw [hc]; decide);have gMin : (x.fn.toList == [109, 105, 110]) = false := aE (by rw [hc]; decide);have gMax : (x.fn.toList == [109, 97, 120]) = true := bH (by rw [hc]; decide);have gFirst : (x.fn.toList == [102, 105, 114, 115, 116]) = false := aE (by rw [hc]; decide);have hr' : aJ (fun b => b < w.heap.size) w x p := hr.imp (fun b hb _ => hb);have E0 := mH hr';have K1 := hX.l;obtain ⟨L, hL⟩ := iF _ (lW hX hU)
 have hLl : L.length <= 1000 := by
  have h1 : (fC x (rs.map RW.g)).length <= (rs.map RW.g).length := List.length_filterMap_le ..;rw [<- hL, List.length_map, List.length_map] at h1;omega
 have hcl := Hf hc (rs.map RW.g);rw [<- (vT (hL.trans (uS (by rw [hc]; decide) (by rw [hc]; decide) _))), <- sJ (less := fun a b : Q64 => decide (b.1.1 < a.1.1)) (fun q => q.1.1) (fun a b => by simp [lsG])] at hcl;obtain ⟨o, ho⟩ : ∃ o, aT (fun a b : Q64 => decide (b.1.1 < a.1.1)) L = o := ⟨_, rfl⟩;rw [ho] at hcl;obtain ⟨R, hR⟩ : ∃ R, evG x (rs.map RW.g) = R := ⟨_, rfl⟩;rw [hR] at hcl |-
 have HR := aA hcl;clear hR;have HX := aA hX;have HU := aA hU;have HL := aA hL;have HLl := aA hLl;have HY := aA (fun V (hV : Below w.heap.size w V) => dB hy hV);have CK := aA (fun V (rd : aJ (fun b => b < w.heap.size) V x p) => dH x p V hS (by omega) rd);rw [h] at CK;generalize hW1 : w.alloc (agP x p) = W1 at E0;generalize hW : W1.alloc (vlA 0 0 none 0 0) = W at E0;have HW1 := aA hW1;have HW := aA hW;have HK := aA E0;clear hW1 hW E0 h hn hS hU hr hr' hy hX hL hLl hcl;obtain ⟨m0, m1, m2, m3, m4, m5, m6, m7, m8, m9, m10⟩ := aD HK.out.k.n
 go_enter Tryz.func20, Tryz.ntmps20
 go_upto_region 1 with fail
 rw [show w.alloc (.cells #[.string x.fn, .int .i64 x.k, .string x.e.op, .string x.e.nm, .int .i64 x.e.n, .slice p.ea x.e.ks.len p.ec, .string x.g.op, .string x.g.nm, .int .i64 x.g.n, .slice p.ga x.g.ks.len p.gc, .slice p.wa x.wh.length p.wc] 28) = W1 from HW1.out, show W1.alloc (.cells #[.int .i64 0, .int .i64 0, .string ⟨#[]⟩, .slice none 0 0] 53) = W from HW.out]
 go_wp2_with fail
 refine (CK.out _ HK.out.k.r).mono ?_;rintro e w1 ⟨rfl, hb1⟩;have K1 := aA (HK.out.step hb1);clear hb1 m0 m1 m2 m3 m4 m5 m6 m7 m8 m9 m10;obtain ⟨m0, m1, m2, m3, m4, m5, m6, m7, m8, m9, m10⟩ := aD K1.out.k.n;have TO := aA (eY x p rs ya yc w1 K1.out.k.r (HY.out _ K1.out.k.b))
 go_wp2_with fail
 refine TO.out.mono ?_;rintro e w2 ⟨bl, ba, bp, rfl, ta, hb2⟩;have TA := aA ta;have K2 := aA (K1.out.step hb2);clear hb2 ta TO m0 m1 m2 m3 m4 m5 m6 m7 m8 m9 m10;obtain ⟨m0, m1, m2, m3, m4, m5, m6, m7, m8, m9, m10⟩ := aD K2.out.k.n;have FD := aA (uN (FM bl ba bp L w2 w2 (eX 2 HX.out HU.out (by omega) TA.out L HL.out) (Below.refl _ _) (fun a b : Q64 => decide (b.1.1 < a.1.1)) (fun a b V => Cx a.1.1 a.1.2 b.1.1 b.1.2 V)));rw [ho] at FD;have BO := aA (wD x.fn w2 hc);clear ho;cases o with
 | none =>
   go_wp2_with fail
   refine BO.out.mono ?_;rintro e w2' ⟨rfl, rfl⟩
   go_wp2_with fail
   refine FD.out.mono ?_;rintro e w3 ⟨rfl, hb3⟩;have K3 := aA (K2.out.step hb3);clear hb3 FD BO m0 m1 m2 m3 m4 m5 m6 m7 m8 m9 m10;have K4 := aA (K3.out.step ((Below.refl _ w3).alloc (Nat.le_refl _) (aL 0 0)));obtain ⟨⟨o0, o1, o2, o3⟩, z0, z1, z2, z3⟩ := aK K4.out.o
   go_wp2_with fail
   obtain ⟨⟨y0, y1, y2, y3⟩, -⟩ := aK (aQ K4.out.o (.int .i64 0) (.int .i64 0) (.string ⟨#[]⟩) (.slice none 0 0));exact bodyPost_ret (v := .tuple #[vlV 0 0 none 0 0, .bool false]) (by simp [results, Tryz.results20, go_sem, y0, y1, y2, y3]) rfl (by rw [HR.out]; exact ⟨K4.out.put _ _ _ _, rfl⟩)
 | some q =>
   obtain ⟨⟨q0, q1⟩, hq⟩ := q
   go_wp2_with fail
   refine BO.out.mono ?_;rintro e w2' ⟨rfl, rfl⟩
   go_wp2_with fail
   refine FD.out.mono ?_;rintro e w3 ⟨rfl, hb3⟩;have K3 := aA (K2.out.step hb3);clear hb3 FD BO m0 m1 m2 m3 m4 m5 m6 m7 m8 m9 m10;have N4 := heap_alloc_new w3 (aL q0 q1);have K4 := aA (K3.out.step ((Below.refl _ w3).alloc (Nat.le_refl _) (aL q0 q1)));generalize hV : w3.alloc (aL q0 q1) = V at N4 K4;have HV := aA hV;obtain ⟨⟨n0, n1⟩, -⟩ := two N4;clear hV N4;have NU := aA (fun V => gA q0 V);dsimp only [cJ, Option.isSome]
   go_upto_region 13 with fail
   rw [show w3.alloc (.cells #[.int .i64 q0, .int .i64 q1] 131) = V from HV.out]
   go_wp2_with fail
   refine (NU.out _).mono ?_;rintro e w4 ⟨rfl, hb4⟩;have K5 := aA (K4.out.step hb4);clear hb4 NU n0 n1;obtain ⟨⟨o0, o1, o2, o3⟩, z0, z1, z2, z3⟩ := aK K5.out.o
   go_wp2_with fail
   obtain ⟨⟨y0, y1, y2, y3⟩, -⟩ := aK (aQ K5.out.o (.int .i64 1) (.int .i64 q0) (.string ⟨#[]⟩) (.slice none 0 0));exact bodyPost_ret (v := .tuple #[vlV 1 q0 none 0 0, .bool true]) (by simp [results, Tryz.results20, go_sem, y0, y1, y2, y3]) rfl (by rw [HR.out]; exact ⟨K5.out.put _ _ _ _, rfl⟩)
set_option maxHeartbeats 8000000 in
set_option maxRecDepth 100000 in
theorem Ch {G : Nat -> Prop} (x : AG) (p : PA) (rs : List RW) (ya : Option Addr) (yc : Nat) (w : World) (h : iL x = 0) (hn : iT x) (hS : SzG x) (hU : ∀ r ∈ rs, fO r.A r.n r.g) (hl : rs.length <= 1000) (hr : aJ G w x p) (hy : cD w ya rs) (hc : x.fn.data.toList = aV) :
 Calls Tryz.prog 20 #[agV x p, .slice ya rs.length yc] w (nJ (evG x (rs.map RW.g)) w) := by
 have hX := oT h hn hS;have gCount : (x.fn.toList == [99, 111, 117, 110, 116]) = false := aE (by rw [hc]; decide);have gSum : (x.fn.toList == [115, 117, 109]) = false := aE (by rw [hc]; decide);have gTop : (x.fn.toList == [116, 111, 112]) = false := aE (by rw [hc]; decide);have gMin : (x.fn.toList == [109, 105, 110]) = false := aE (by rw [hc]; decide);have gMax : (x.fn.toList == [109, 97, 120]) = false := aE (by rw [hc]; decide);have gFirst : (x.fn.toList == [102, 105, 114, 115, 116]) = true := bH (by rw [hc]; decide);have hr' : aJ (fun b => b < w.heap.size) w x p := hr.imp (fun b hb _ => hb);have E0 := mH hr';have K1 := hX.l;obtain ⟨L, hL⟩ := iF _ (lW hX hU)
 have hLl : L.length <= 1000 := by
  have h1 : (fC x (rs.map RW.g)).length <= (rs.map RW.g).length := List.length_filterMap_le ..;rw [<- hL, List.length_map, List.length_map] at h1;omega
 have hcl := DA hc (rs.map RW.g);rw [<- (hL.trans (Ib (by rw [hc]; decide) (by rw [hc]; decide) _)), <- sJ (less := fun a b : Q64 => decide (a.1.2 < b.1.2)) (Subtype.val) (fun a b => by simp [lsP])] at hcl;obtain ⟨o, ho⟩ : ∃ o, aT (fun a b : Q64 => decide (a.1.2 < b.1.2)) L = o := ⟨_, rfl⟩;rw [ho] at hcl;obtain ⟨R, hR⟩ : ∃ R, evG x (rs.map RW.g) = R := ⟨_, rfl⟩;rw [hR] at hcl |-
 have HR := aA hcl;clear hR;have HX := aA hX;have HU := aA hU;have HL := aA hL;have HLl := aA hLl;have HY := aA (fun V (hV : Below w.heap.size w V) => dB hy hV);have CK := aA (fun V (rd : aJ (fun b => b < w.heap.size) V x p) => dH x p V hS (by omega) rd);rw [h] at CK;generalize hW1 : w.alloc (agP x p) = W1 at E0;generalize hW : W1.alloc (vlA 0 0 none 0 0) = W at E0;have HW1 := aA hW1;have HW := aA hW;have HK := aA E0;clear hW1 hW E0 h hn hS hU hr hr' hy hX hL hLl hcl;obtain ⟨m0, m1, m2, m3, m4, m5, m6, m7, m8, m9, m10⟩ := aD HK.out.k.n
 go_enter Tryz.func20, Tryz.ntmps20
 go_upto_region 1 with fail
 rw [show w.alloc (.cells #[.string x.fn, .int .i64 x.k, .string x.e.op, .string x.e.nm, .int .i64 x.e.n, .slice p.ea x.e.ks.len p.ec, .string x.g.op, .string x.g.nm, .int .i64 x.g.n, .slice p.ga x.g.ks.len p.gc, .slice p.wa x.wh.length p.wc] 28) = W1 from HW1.out, show W1.alloc (.cells #[.int .i64 0, .int .i64 0, .string ⟨#[]⟩, .slice none 0 0] 53) = W from HW.out]
 go_wp2_with fail
 refine (CK.out _ HK.out.k.r).mono ?_;rintro e w1 ⟨rfl, hb1⟩;have K1 := aA (HK.out.step hb1);clear hb1 m0 m1 m2 m3 m4 m5 m6 m7 m8 m9 m10;obtain ⟨m0, m1, m2, m3, m4, m5, m6, m7, m8, m9, m10⟩ := aD K1.out.k.n;have TO := aA (eY x p rs ya yc w1 K1.out.k.r (HY.out _ K1.out.k.b))
 go_wp2_with fail
 refine TO.out.mono ?_;rintro e w2 ⟨bl, ba, bp, rfl, ta, hb2⟩;have TA := aA ta;have K2 := aA (K1.out.step hb2);clear hb2 ta TO m0 m1 m2 m3 m4 m5 m6 m7 m8 m9 m10;obtain ⟨m0, m1, m2, m3, m4, m5, m6, m7, m8, m9, m10⟩ := aD K2.out.k.n;have FD := aA (uN (FL bl ba bp L w2 w2 (eX 2 HX.out HU.out (by omega) TA.out L HL.out) (Below.refl _ _) (fun a b : Q64 => decide (a.1.2 < b.1.2)) (fun a b V => Cw a.1.1 a.1.2 b.1.1 b.1.2 V)));rw [ho] at FD;have BO := aA (sI x.fn w2 hc);clear ho;cases o with
 | none =>
   go_wp2_with fail
   refine BO.out.mono ?_;rintro e w2' ⟨rfl, rfl⟩
   go_wp2_with fail
   refine FD.out.mono ?_;rintro e w3 ⟨rfl, hb3⟩;have K3 := aA (K2.out.step hb3);clear hb3 FD BO m0 m1 m2 m3 m4 m5 m6 m7 m8 m9 m10;have K4 := aA (K3.out.step ((Below.refl _ w3).alloc (Nat.le_refl _) (aL 0 0)));obtain ⟨⟨o0, o1, o2, o3⟩, z0, z1, z2, z3⟩ := aK K4.out.o
   go_wp2_with fail
   obtain ⟨⟨y0, y1, y2, y3⟩, -⟩ := aK (aQ K4.out.o (.int .i64 0) (.int .i64 0) (.string ⟨#[]⟩) (.slice none 0 0));exact bodyPost_ret (v := .tuple #[vlV 0 0 none 0 0, .bool false]) (by simp [results, Tryz.results20, go_sem, y0, y1, y2, y3]) rfl (by rw [HR.out]; exact ⟨K4.out.put _ _ _ _, rfl⟩)
 | some q =>
   obtain ⟨⟨q0, q1⟩, hq⟩ := q
   go_wp2_with fail
   refine BO.out.mono ?_;rintro e w2' ⟨rfl, rfl⟩
   go_wp2_with fail
   refine FD.out.mono ?_;rintro e w3 ⟨rfl, hb3⟩;have K3 := aA (K2.out.step hb3);clear hb3 FD BO m0 m1 m2 m3 m4 m5 m6 m7 m8 m9 m10;have N4 := heap_alloc_new w3 (aL q0 q1);have K4 := aA (K3.out.step ((Below.refl _ w3).alloc (Nat.le_refl _) (aL q0 q1)));generalize hV : w3.alloc (aL q0 q1) = V at N4 K4;have HV := aA hV;obtain ⟨⟨n0, n1⟩, -⟩ := two N4;clear hV N4;have NU := aA (fun V => gA q0 V);dsimp only [cJ, Option.isSome]
   go_upto_region 13 with fail
   rw [show w3.alloc (.cells #[.int .i64 q0, .int .i64 q1] 131) = V from HV.out]
   go_wp2_with fail
   refine (NU.out _).mono ?_;rintro e w4 ⟨rfl, hb4⟩;have K5 := aA (K4.out.step hb4);clear hb4 NU n0 n1;obtain ⟨⟨o0, o1, o2, o3⟩, z0, z1, z2, z3⟩ := aK K5.out.o
   go_wp2_with fail
   obtain ⟨⟨y0, y1, y2, y3⟩, -⟩ := aK (aQ K5.out.o (.int .i64 1) (.int .i64 q0) (.string ⟨#[]⟩) (.slice none 0 0));exact bodyPost_ret (v := .tuple #[vlV 1 q0 none 0 0, .bool true]) (by simp [results, Tryz.results20, go_sem, y0, y1, y2, y3]) rfl (by rw [HR.out]; exact ⟨K5.out.put _ _ _ _, rfl⟩)
theorem vD {G : Nat -> Prop} (x : AG) (p : PA) (rs : List RW) (ya : Option Addr) (yc : Nat) (w : World) (h : iL x = 0) (hn : iT x) (hS : SzG x) (hU : ∀ r ∈ rs, fO r.A r.n r.g) (hl : rs.length <= 1000) (hr : aJ G w x p) (hy : cD w ya rs) :
 Calls Tryz.prog 20 #[agV x p, .slice ya rs.length yc] w (nJ (evG x (rs.map RW.g)) w) := by
 have h1 := (eG h).1;unfold cZ at h1;simp only [Bool.or_eq_true, beq_iff_eq] at h1
 rcases h1 with ((((h1 | h1) | h1) | h1) | h1) | h1
 · exact Ci x p rs ya yc w h hn hS hU hl hr hy h1
 · exact Gx x p rs ya yc w h hn hS hU hl hr hy h1
 · exact Gy x p rs ya yc w h hn hS hU hl hr hy h1
 · exact Bb x p rs ya yc w h hn hS hU hl hr hy h1
 · exact Ch x p rs ya yc w h hn hS hU hl hr hy h1
 · exact Ba x p rs ya yc w h hn hS hU hl hr hy h1
def Oth (b : Nat) (w w' : World) : Prop := ∀ (k : Nat) (cs : Array Value) (t : TypeId), k ≠ b -> t ≠ 5 -> w.heap[k]? = some (.cells cs t (0, 0)) -> w'.heap[k]? = some (.cells cs t (0, 0))
theorem Hq : (Tryz.prog.info? 112).map (·.size) = some 2 := by kernel_rfl
theorem Hr : liesAt Tryz.prog Tryz.prog.depth 112 (2 / Tryz.prog.cellsOf 112) 0 112 1 = true := by kernel_rfl
theorem Hs : (Tryz.prog.info? 5).map (fun i => (i.zero, i.size, i.bytes)) = some (some (.int .u8 0), 1, 1) := by kernel_rfl
set_option maxHeartbeats 1000000 in
set_option maxRecDepth 100000 in
theorem AR (B b : Nat) (bs : List Value) (w : World) (h : Bd B b bs w) : Calls Tryz.prog 98 #[.pointer (some ⟨b, 0, none⟩)] w fun e w' =>
 e = .returned (.tuple #[]) /\ Lib.BuilderAt 112 5 B b (.pointer (some ⟨b, 0, none⟩)) bs w' /\ Below B w w' /\ Oth b w w' := by
 obtain ⟨j, hj, hjs⟩ := Option.map_eq_some_iff.1 Hq
 rcases h with h | h
 · have h0 := h.cell0
   have hf := h.frozen0;have hsh := h.shape;have H := aA h;clear h
   go_enter Tryz.func98, Tryz.ntmps98
   go_wp2
   rw [Lib.run_to_unsafe w ⟨b, 0, none⟩ Tryz.underlying109 Tryz.underlying210 hj (by rw [hjs]; decide) hsh (Nat.zero_lt_succ 1)];simp only [Result.andThen];rw [Oper.upon_value]
   go_wp2
   rw [run_callFunc_extern Tryz.func143 (by kernel_rfl) (by kernel_rfl) (by kernel_rfl) (e := Extern.AbiNoEscape.same) (by kernel_rfl)];rw [Lib.run_noEscape];simp only [Result.andThen];rw [Oper.upon_value]
   go_wp2
   rw [Lib.run_from_unsafe w ⟨b, 0, none⟩ Tryz.underlying210 Tryz.underlying109 hj hsh Hr];simp only [Result.andThen];rw [Oper.upon_value]
   go_wp2
   go_end0
   exact ⟨rfl, H.out.used _, (Below.refl B w).setCell (p := ⟨b, 0, none⟩) H.out.1 _, fun k cs t hk _ h => (Below.heap_setCell _ ⟨b, 0, none⟩ _ k hk).trans h⟩
 · have h0 := h.cell0
   have H := aA h;clear h
   go_enter Tryz.func98, Tryz.ntmps98
   go_wp2
   rw [Lib.run_neq_ptr_same w _ Tryz.underlying109 hj]
   go_wp2
   go_end0
   exact ⟨rfl, H.out, Below.refl B _, fun _ _ _ _ _ h => h⟩
theorem FO {w : World} {B : Nat} {e : TypeId} {v : Value} {n : Nat} {xs : List Value} (h : w.ownsRow B e 1 v n xs) : ∃ a l c, v = .slice a l c := by
 rcases h.2 with ⟨h, _⟩ | ⟨g, cap, _, h, _⟩
 · exact ⟨_, _, _, h⟩
 · exact ⟨_, _, _, h⟩
theorem uT (s : ByteArray) : (Lib.strCells s).length = s.size := by simp [Lib.strCells]
theorem II {B b n : Nat} {bs bs' : List Value} {v v' : Value} {w w1 w2 w3 : World} (hB : B <= b) (hown : w1.ownsRow B 5 1 v n bs) (hoth : Oth b w w1) (hk2 : ∀ k, k < w1.heap.size -> w2.heap[k]? = w1.heap[k]?) (hs2 : w1.heap.size <= w2.heap.size) (hb : w1.heap[b]? = some (.cells #[.pointer (some ⟨b, 0, none⟩), v] 112 (0, 0))) (hne : v.ownBlock ≠ some b)
 (b1 : Below B w w1) (b2 : Below B w1 w2) (hk : w2.heap[b]? = w1.heap[b]?) (hv : ∀ k, v.ownBlock = some k -> B <= k) (hBw : B <= w2.heap.size) (ho : w3.ownsRow B 5 1 v' bs'.length bs') (hg : w2.grownBy w3 v.ownBlock) :
 (w3.cell? ⟨b, 0, none⟩ = some (.pointer (some ⟨b, 0, none⟩)) /\ w3.cell? ⟨b, 1, none⟩ = some v /\ w3.frozen? ⟨b, 1, none⟩ = false) /\ Bd B b bs' (w3.setCell ⟨b, 1, none⟩ v') /\ Below B w (w3.setCell ⟨b, 1, none⟩ v') /\ Oth b w (w3.setCell ⟨b, 1, none⟩ v') := by
 have hlt : b < w2.heap.size := by
  rcases Nat.lt_or_ge b w2.heap.size with h' | h'
  · exact h'
  · rw [<- hk] at hb; simp [Array.getElem?_eq_none h'] at hb
 have hb3 : w3.heap[b]? = some (.cells #[.pointer (some ⟨b, 0, none⟩), v] 112 (0, 0)) := by rw [hg.block b hlt (fun e => hne e.symm), hk]; exact hb
 refine ⟨⟨by rw [Lib.cell_of_heap hb3]; rfl, by rw [Lib.cell_of_heap hb3]; rfl, Lib.frozen_of_heap hb3 1⟩, .inr (Lib.BuilderAt.put hB hb3 ho (by decide)), ?_⟩;refine ⟨((b1.trans b2).grown hg hBw hv).setCell (p := ⟨b, 1, none⟩) hB _, fun k cs t hkb ht h => ?_⟩;have h1 := hoth k cs t hkb ht h;have hl1 := lt_of_block h1;rw [Below.heap_setCell _ ⟨b, 1, none⟩ _ k hkb, hg.block k (by omega) (fun e => ?_), hk2 k hl1]
 · exact h1
 · rcases hown.2 with ⟨hv0, _⟩ | ⟨g, cap, cur, hv0, _, hgg, _⟩
   · rw [hv0] at e; cases e
   · rw [hv0] at e
     obtain rfl : k = g := by simpa [Value.ownBlock] using e
     rw [h1] at hgg;simp only [Option.some.injEq, Obj.cells.injEq] at hgg;exact ht hgg.2.1
set_option maxHeartbeats 2000000 in
set_option maxRecDepth 100000 in
theorem wE (B b : Nat) (bs : List Value) (s : ByteArray) (w : World) (h : Bd B b bs w) (hl : bs.length + s.size <= 1000000000) (hBw : B <= w.heap.size) :
 Calls Tryz.prog 49 #[.pointer (some ⟨b, 0, none⟩), .string s] w fun e w' => e = .returned (.tuple #[.int .i64 s.size, .nilIface]) /\ Bd B b (bs ++ Lib.strCells s) w' /\ Below B w w' /\ Oth b w w' := by
 obtain ⟨i0, hi, hz0, hz1, hz2⟩ := info_parts Hs;have C := aA (AR B b bs w h);clear h
 go_enter Tryz.func49, Tryz.ntmps49
 go_wp2_with fail
 refine C.out.mono ?_;rintro e w1 ⟨rfl, ⟨hB, v, hbk, hown, hne⟩, hb1, ho1⟩;have c0 : w1.cell? ⟨b, 0, none⟩ = some (.pointer (some ⟨b, 0, none⟩)) := by rw [Lib.cell_of_heap hbk]; rfl
 have c1 : w1.cell? ⟨b, 1, none⟩ = some v := by rw [Lib.cell_of_heap hbk]; rfl
 have H1 := aA (And.intro hbk (And.intro hown (And.intro hne (And.intro hb1 ho1))));have hz := hb1.size;clear hbk hown hne hb1 ho1 C
 go_wp2_with (at_builtin; refine Lib.wpList_append_own_string _ rfl _ _ 110 9 rfl B 5 i0 Tryz.underlying110 Tryz.underlying9 hi hz0 hz1 hz2 v bs.length bs rfl H1.out.2.1 s rfl (by unfold maxLen; omega) (by omega) (by omega) ?_)
 intro v' w2 ho hg _;obtain ⟨ao, no, co, rfl⟩ := FO ho;obtain ⟨⟨d0, d1, f1⟩, hbd, hbel, hoth⟩ := II (bs' := bs ++ Lib.strCells s) hB H1.out.2.1 H1.out.2.2.2.2 (fun _ _ => rfl) (Nat.le_refl _) H1.out.1 H1.out.2.2.1 H1.out.2.2.2.1 (Below.refl B w1) rfl (fun k hk => (H1.out.2.1.lt k hk).1) (by omega) (by rw [List.length_append, uT]; exact ho) hg;have R := aA (And.intro hbd (And.intro hbel hoth));clear ho hg hbd hbel hoth c0 c1
 go_wp2
 go_ret2;exact ⟨rfl, R.out.1, R.out.2⟩
theorem IJ {B b : Nat} {bs : List Value} {w w' : World} (h : Bd B b bs w) (hb : Below w.heap.size w w') : Bd B b bs w' := by
 have one : ∀ p, Lib.BuilderAt 112 5 B b p bs w -> Lib.BuilderAt 112 5 B b p bs w' := fun p ⟨hB, v, hk, ho, hne⟩ =>
  ⟨hB, v, (hb.block b (lt_of_block hk)).trans hk, ho.kept (row := none) ⟨hb.os, hb.tape, hb.output, hb.size, fun k hk _ => hb.block k hk⟩ (by cases v.ownBlock <;> simp), hne⟩
 rcases h with h | h
 · exact .inl (one _ h)
 · exact .inr (one _ h)
theorem Ht {B b : Nat} {bs : List Value} {w : World} (h : Bd B b bs w) : b < w.heap.size := by
 rcases h with h | h
 · exact h.lt
 · exact h.lt
theorem tF (l : List UInt8) (s : ByteArray) : Lib.byteCells l ++ Lib.strCells s = Lib.byteCells (l ++ s.data.toList) := by simp [Lib.byteCells, Lib.strCells]
end
end Go.Proofs.YtapcjnoaofmmiaaGreatDoor
