/-
 No statement: what AggEvalCard needs, of the texts NodeOf, AggOf, OGood, OGk, HPut, QGood, OEvalP, QTables, AggEvalWalk, OLaid.
-/
import Derived.Test.YtapcjnoaofmmiaaGreatDoorVE30
import Derived.Test.YtapcjnoaofmmiaaGreatDoorTie
import Derived.ProofKit
import Derived.OpenShut
import Derived.LaidMore
import Derived.Lay
import Derived.SevenTiedAt
import Derived.Stop.Joined
import Derived.Stop.LaidErr
import Derived.Lib.LaidTab
import Derived.Carry
namespace Go.Proofs.YtapcjnoaofmmiaaGreatDoor
section
open Go.RowKit Go.ChangeShapes Go.WideShapes Go.Deep
theorem qA : Tryz.prog.cellsOf 25 = 4 := by kernel_rfl
def nY : F -> Prop
 | .nil => True
 | .cons o m n ks r => o.size <= maxLen /\ m.size <= maxLen /\ aN n /\ ks.len <= maxLen /\ nY ks /\ nY r
theorem nY.lens : ∀ {f : F}, nY f -> nX f
 | .nil, _ => trivial
 | .cons _ _ _ _ _, ⟨_, _, _, h, hk, hr⟩ => ⟨by unfold maxLen at h; omega, hk.lens, hr.lens⟩
theorem nY.nums : ∀ {f : F}, nY f -> d9 f
 | .nil, _ => trivial
 | .cons _ _ _ _ _, ⟨_, _, h, _, hk, hr⟩ => ⟨by unfold aN at h; omega, hk.nums, hr.nums⟩
theorem xM {n : Int} (h : (Lit.int .i64 n).wf = true) : aN n := by
 simp [Lit.wf, IntKind.min, IntKind.max, IntKind.bits, IntKind.signed] at h;exact ⟨by omega, by omega⟩
set_option maxRecDepth 100000 in
theorem lN {H : Type} {enc : TypeId × Value -> H} {W : World} : ∀ (n : Nat) (cs : List Value) (x : DataW H × List MemPlace), DataW.trod enc Tryz.prog W 0 (fun _ => true) true n 25 cs = some x ->
 ∃ (o m : ByteArray) (k : Int) (a : Option Addr) (ks : F) (c : Nat), cs = [.string o, .string m, .int .i64 k, .slice a ks.len c] /\ (o.size <= maxLen /\ m.size <= maxLen /\ aN k /\ ks.len <= maxLen /\ nY ks) /\ aH (fun b => b < W.heap.size) W a ks := by
 intro n
 induction n using Nat.strongRecOn with
 | ind n ih =>
   intro cs x h;obtain ⟨ys, m, hn, -, hlen, hyl, hf⟩ := DataW.trod_struct Tryz.underlying25 h;rw [qA] at hlen
   match cs, hlen with
   | [c0, c1, c2, c3], _ =>
     have y4 : ys.length = 4 := hyl
     match ys, y4 with
     | [y0, y1, y2, y3], _ =>
       have h0 : DataW.trod enc Tryz.prog W 0 (fun _ => true) true m 9 [c0] = some y0 := hf 0 _ rfl;have h1 : DataW.trod enc Tryz.prog W 0 (fun _ => true) true m 9 [c1] = some y1 := hf 1 _ rfl;have h2 : DataW.trod enc Tryz.prog W 0 (fun _ => true) true m 2 [c2] = some y2 := hf 2 _ rfl;have h3 : DataW.trod enc Tryz.prog W 0 (fun _ => true) true m 23 [c3] = some y3 := hf 3 _ rfl;obtain ⟨o, e0, -, w0⟩ := DataW.trod_string Tryz.underlying9 h0;obtain ⟨s, e1, -, w1⟩ := DataW.trod_string Tryz.underlying9 h1;obtain ⟨k, e2, -, w2⟩ := DataW.trod_int Tryz.underlying2 h2;cases e0; cases e1; cases e2
       rcases DataW.trod_slice Tryz.underlying23 h3 with ⟨hcs, -⟩ | ⟨a, len, cap, elems, rest, q, hq, hcs, -, -, hl, hc, hel, hat, -, -⟩
       · cases hcs
         exact ⟨o, s, k, none, .nil, 0, rfl, ⟨w0, w1, xM w2, Nat.zero_le _, trivial⟩, .inl rfl⟩
       · cases hcs
         have hqn : q < n := by omega
         have hsp : 0 < len -> a.spot = none := by
          intro h0;have hj2 := hat 0 h0;rw [List.getElem?_eq_getElem (by omega), Option.bind_eq_some_iff] at hj2;obtain ⟨cs', hcs', -⟩ := hj2;rw [qA] at hcs';obtain ⟨-, hl4, hcl⟩ := World.cells?_some hcs';have p1 := hcl 0 (by omega);rw [List.getElem?_eq_getElem (by omega)] at p1;simpa [Addr.add] using World.cell?_spot p1
         have main : ∀ d j, j + d = len -> ∃ f : F, f.len = d /\ nY f /\ (f = .nil \/ ∃ b off, a = ⟨b, off, none⟩ /\ eH (fun b => b < W.heap.size) W f b (off + j * 4)) := by
          intro d
          induction d with
          | zero => exact fun j _ => ⟨.nil, rfl, trivial, .inl rfl⟩
          | succ d ihd =>
            intro j hj;obtain ⟨g, hg, hgb, hgr⟩ := ihd (j + 1) (by omega);have hj2 := hat j (by omega);rw [List.getElem?_eq_getElem (by omega), Option.bind_eq_some_iff] at hj2;obtain ⟨cs', hcs', ht⟩ := hj2;obtain ⟨o2, m2, k2, a2, ks2, c2, rfl, hb2, hr2⟩ := ih q hqn cs' _ ht;rw [qA] at hcs';obtain ⟨-, -, hcl⟩ := World.cells?_some hcs';have e : ∀ i, (a.add (j * 4)).add i = a.add (j * 4 + i) := fun i => Go.Deep.add_add _ _ _
            have p0 : W.cell? (a.add (j * 4 + 0)) = some (.string o2) := by have := hcl 0 (by omega); rw [e 0] at this; exact this
            have p1 : W.cell? (a.add (j * 4 + 1)) = some (.string m2) := by have := hcl 1 (by omega); rw [e 1] at this; exact this
            have p2 : W.cell? (a.add (j * 4 + 2)) = some (.int .i64 k2) := by have := hcl 2 (by omega); rw [e 2] at this; exact this
            have p3 : W.cell? (a.add (j * 4 + 3)) = some (.slice a2 ks2.len c2) := by have := hcl 3 (by omega); rw [e 3] at this; exact this
            obtain ⟨b, off, spot⟩ := a;have hspot : spot = none := hsp (by omega);subst hspot;rw [Addr.add_lit] at p0 p1 p2 p3;have hlt : b < W.heap.size := World.block_lt_of_cell? W _ p0;refine ⟨.cons o2 m2 k2 ks2 g, by rw [F.len, hg], ⟨hb2.1, hb2.2.1, hb2.2.2.1, hb2.2.2.2.1, hb2.2.2.2.2, hgb⟩, .inr ⟨b, off, rfl, hlt, hlt, ⟨a2, c2, ⟨by simpa using p0, p1, p2, p3⟩, hr2⟩, ?_⟩⟩
            rcases hgr with rfl | ⟨b', off', he, hgr⟩
            · trivial
            · cases he
              rw [show off + j * 4 + 4 = off + (j + 1) * 4 by omega];exact hgr
         obtain ⟨f, hfl, hfb, hfr⟩ := main len 0 (by omega);subst hfl;refine ⟨o, s, k, some a, f, cap, rfl, ⟨w0, w1, xM w2, Nat.le_trans hl hc, hfb⟩, ?_⟩
         rcases hfr with h9 | ⟨b, off, ha9, h9⟩
         · exact .inl h9
         · rw [Nat.zero_mul, Nat.add_zero] at h9
           exact .inr ⟨b, off, by rw [ha9], h9⟩
end
section
open Go.RowKit Go.ChangeShapes Go.WideShapes Go.Deep
theorem vY : Tryz.prog.cellsOf 98 = 9 := by kernel_rfl
theorem H6 : Tryz.prog.cellsOf 28 = 11 := by kernel_rfl
def KW (l : List CD) : Prop := ∀ d ∈ l, d.op.size <= maxLen /\ nY d.a.f /\ nY d.b.f
structure FK (x : AG) : Prop where
 fn : x.fn.size <= maxLen
 k : aN x.k
 e : nY x.e.f
 g : nY x.g.f
 wh : x.wh.length <= maxLen
 c : KW x.wh
section
variable {H : Type} {enc : TypeId × Value -> H} {W : World}
set_option maxRecDepth 100000 in
theorem Cc (n : Nat) (cs : List Value) (x : DataW H × List MemPlace) (h : DataW.trod enc Tryz.prog W 0 (fun _ => true) true n 98 cs = some x) :
 ∃ (d : CD) (a1 : Option Addr) (c1 : Nat) (a2 : Option Addr) (c2 : Nat), cs = [.string d.op, .string d.a.op, .string d.a.nm, .int .i64 d.a.n, .slice a1 d.a.ks.len c1, .string d.b.op, .string d.b.nm, .int .i64 d.b.n, .slice a2 d.b.ks.len c2] /\ (d.op.size <= maxLen /\ nY d.a.f /\ nY d.b.f) /\ aH (fun b => b < W.heap.size) W a1 d.a.ks /\ aH (fun b => b < W.heap.size) W a2 d.b.ks := by
 obtain ⟨ys, m, hn, -, hlen, hyl, hf⟩ := DataW.trod_struct Tryz.underlying98 h;rw [vY] at hlen
 match cs, hlen with
 | [c0, c1, c2, c3, c4, c5, c6, c7, c8], _ =>
   have y3 : ys.length = 3 := hyl
   match ys, y3 with
   | [y0, y1, y2], _ =>
     have h0 : DataW.trod enc Tryz.prog W 0 (fun _ => true) true m 9 [c0] = some y0 := hf 0 _ rfl;have h1 : DataW.trod enc Tryz.prog W 0 (fun _ => true) true m 25 [c1, c2, c3, c4] = some y1 := hf 1 _ rfl;have h2 : DataW.trod enc Tryz.prog W 0 (fun _ => true) true m 25 [c5, c6, c7, c8] = some y2 := hf 2 _ rfl;obtain ⟨o, e0, -, w0⟩ := DataW.trod_string Tryz.underlying9 h0;obtain ⟨o1, m1, k1, a1, ks1, n1, e1, ⟨b1, b2, b3, b4, b5⟩, r1⟩ := lN m _ _ h1;obtain ⟨o2, m2, k2, a2, ks2, n2, e2, ⟨d1, d2, d3, d4, d5⟩, r2⟩ := lN m _ _ h2;cases e0;simp only [List.cons.injEq, and_true] at e1 e2;obtain ⟨rfl, rfl, rfl, rfl⟩ := e1;obtain ⟨rfl, rfl, rfl, rfl⟩ := e2;exact ⟨⟨o, ⟨o1, m1, k1, ks1⟩, ⟨o2, m2, k2, ks2⟩⟩, a1, n1, a2, n2, rfl, ⟨w0, ⟨b1, b2, b3, b4, b5, trivial⟩, ⟨d1, d2, d3, d4, d5, trivial⟩⟩, r1, r2⟩
set_option maxRecDepth 100000 in
theorem AF {m : Nat} {c : Value} {y : DataW H × List MemPlace} (h3 : DataW.trod enc Tryz.prog W 0 (fun _ => true) true m 26 [c] = some y) :
 ∃ (l : List CD) (a : Option Addr) (cap : Nat), c = .slice a l.length cap /\ l.length <= maxLen /\ KW l /\ eI (fun b => b < W.heap.size) W a l := by
 rcases DataW.trod_slice Tryz.underlying26 h3 with ⟨hcs, -⟩ | ⟨a, len, cap, elems, rest, q, hq, hcs, -, -, hl, hc, hel, hat, -, -⟩
 · cases hcs
   exact ⟨[], none, 0, rfl, Nat.zero_le _, (fun d hd => by cases hd), .inl rfl⟩
 · cases hcs
   have one : ∀ j, j < len -> ∃ (d : CD) (a1 : Option Addr) (c1 : Nat) (a2 : Option Addr) (c2 : Nat), (∀ i u, ([.string d.op, .string d.a.op, .string d.a.nm, .int .i64 d.a.n, .slice a1 d.a.ks.len c1, .string d.b.op, .string d.b.nm, .int .i64 d.b.n, .slice a2 d.b.ks.len c2] : List Value)[i]? = some u -> W.cell? (a.add (j * 9 + i)) = some u) /\ (d.op.size <= maxLen /\ nY d.a.f /\ nY d.b.f) /\ aH (fun b => b < W.heap.size) W a1 d.a.ks /\ aH (fun b => b < W.heap.size) W a2 d.b.ks := fun j hj => by
    have hj2 := hat j hj;rw [List.getElem?_eq_getElem (by omega), Option.bind_eq_some_iff] at hj2;obtain ⟨cs', hcs', ht⟩ := hj2;obtain ⟨d, a1, c1, a2, c2, rfl, hb, r1, r2⟩ := Cc q cs' _ ht;rw [vY] at hcs';obtain ⟨-, -, hcl⟩ := World.cells?_some hcs';refine ⟨d, a1, c1, a2, c2, fun i u hu => ?_, hb, r1, r2⟩;have hi : i < 9 := (List.getElem?_eq_some_iff.1 hu).1;have := hcl i (by omega);rw [Go.Deep.add_add] at this;rw [<- hu];exact this
   have main : ∀ k, k <= len -> ∃ l : List CD, l.length = k /\ KW l /\ ∀ j d, l[j]? = some d -> ∃ a1 c1 a2 c2, (∀ i u, ([.string d.op, .string d.a.op, .string d.a.nm, .int .i64 d.a.n, .slice a1 d.a.ks.len c1, .string d.b.op, .string d.b.nm, .int .i64 d.b.n, .slice a2 d.b.ks.len c2] : List Value)[i]? = some u -> W.cell? (a.add (j * 9 + i)) = some u) /\ aH (fun b => b < W.heap.size) W a1 d.a.ks /\ aH (fun b => b < W.heap.size) W a2 d.b.ks := by
    intro k
    induction k with
    | zero => exact fun _ => ⟨[], rfl, (fun d hd => by cases hd), fun j d hj => by simp at hj⟩
    | succ k ih =>
      intro hk;obtain ⟨l, h1, h2, h4⟩ := ih (by omega);obtain ⟨d, a1, c1, a2, c2, g1, g2, g3, g4⟩ := one k (by omega);refine ⟨l ++ [d], by simp [h1], fun x hx => ?_, fun j x hj => ?_⟩
      · rcases List.mem_append.1 hx with hx | hx
        · exact h2 x hx
        · rw [List.mem_singleton.1 hx]; exact g2
      · rcases Nat.lt_or_ge j l.length with hlt | hge
        · rw [List.getElem?_append_left hlt] at hj
          exact h4 j x hj
        · rw [List.getElem?_append_right hge] at hj
          cases hm : j - l.length with
          | zero =>
            rw [hm] at hj;cases hj;obtain rfl : j = k := by omega
            exact ⟨a1, c1, a2, c2, g1, g3, g4⟩
          | succ z => rw [hm] at hj; simp at hj
   obtain ⟨l, h1, h2, h4⟩ := main len (Nat.le_refl _);subst h1;refine ⟨l, some a, cap, rfl, Nat.le_trans hl hc, h2, ?_⟩
   by_cases hne : l = []
   · exact .inl hne
   · obtain ⟨d0, hd0⟩ : ∃ d, l[0]? = some d := by
      cases l with
      | nil => exact absurd rfl hne
      | cons d r => exact ⟨d, rfl⟩
     obtain ⟨_, _, _, _, g, -, -⟩ := h4 0 d0 hd0;have p0 := g 0 _ rfl;have hspot : a.spot = none := by simpa [Addr.add] using World.cell?_spot p0
     obtain ⟨b, off, spot⟩ := a;have hs : spot = none := hspot;subst hs;rw [Addr.add_lit] at p0;have hlt : b < W.heap.size := World.block_lt_of_cell? W _ p0;refine .inr ⟨b, off, rfl, hlt, hlt, fun j d hj => ?_⟩;obtain ⟨a1, c1, a2, c2, g, r1, r2⟩ := h4 j d hj
     have get : ∀ i u, ([.string d.op, .string d.a.op, .string d.a.nm, .int .i64 d.a.n, .slice a1 d.a.ks.len c1, .string d.b.op, .string d.b.nm, .int .i64 d.b.n, .slice a2 d.b.ks.len c2] : List Value)[i]? = some u -> W.cell? ⟨b, off + j * 9 + i, none⟩ = some u := fun i u hu => by
      have := g i u hu;rw [Addr.add_lit] at this;rw [show off + j * 9 + i = off + (j * 9 + i) by omega];exact this
     exact ⟨a1, c1, a2, c2, ⟨get 0 _ rfl, get 1 _ rfl, get 2 _ rfl, get 3 _ rfl, get 4 _ rfl, get 5 _ rfl, get 6 _ rfl, get 7 _ rfl, get 8 _ rfl⟩, r1, r2⟩
set_option maxRecDepth 100000 in
/-- A fold that came in, opened. -/
theorem KM {base : Nat} {v : Value} {d : DataW H} {p : List MemPlace} (hv : Value.okWide Tryz.prog W .any base 28 v) (h : DataW.Trod enc Tryz.prog W 0 (fun _ => true) true 28 v d p) :
 ∃ (x : AG) (q : PA), v = agV x q /\ FK x /\ aI (fun b => b < W.heap.size) W x q := by
 obtain ⟨cs, rfl, hsz⟩ := okWide_struct Tryz.underlying28 hv;obtain ⟨fuel, hf⟩ := h;obtain ⟨l⟩ := cs;obtain ⟨ys, m, hn, -, hlen, hyl, hf⟩ := DataW.trod_struct Tryz.underlying28 hf;rw [H6] at hlen
 match l, hlen with
 | [c0, c1, c2, c3, c4, c5, c6, c7, c8, c9, c10], _ =>
   have y5 : ys.length = 5 := hyl
   match ys, y5 with
   | [y0, y1, y2, y3, y4], _ =>
     have h0 : DataW.trod enc Tryz.prog W 0 (fun _ => true) true m 9 [c0] = some y0 := hf 0 _ rfl;have h1 : DataW.trod enc Tryz.prog W 0 (fun _ => true) true m 2 [c1] = some y1 := hf 1 _ rfl;have h2 : DataW.trod enc Tryz.prog W 0 (fun _ => true) true m 25 [c2, c3, c4, c5] = some y2 := hf 2 _ rfl;have h3 : DataW.trod enc Tryz.prog W 0 (fun _ => true) true m 25 [c6, c7, c8, c9] = some y3 := hf 3 _ rfl;have h4 : DataW.trod enc Tryz.prog W 0 (fun _ => true) true m 26 [c10] = some y4 := hf 4 _ rfl;obtain ⟨fn, e0, -, w0⟩ := DataW.trod_string Tryz.underlying9 h0;obtain ⟨k, e1, -, w1⟩ := DataW.trod_int Tryz.underlying2 h1;obtain ⟨o1, m1, k1, a1, ks1, n1, e2, ⟨b1, b2, b3, b4, b5⟩, r1⟩ := lN m _ _ h2;obtain ⟨o2, m2, k2, a2, ks2, n2, e3, ⟨d1, d2, d3, d4, d5⟩, r2⟩ := lN m _ _ h3;obtain ⟨wh, a3, n3, rfl, hwl, hwb, hwr⟩ := AF h4;cases e0;cases e1;simp only [List.cons.injEq, and_true] at e2 e3;obtain ⟨rfl, rfl, rfl, rfl⟩ := e2;obtain ⟨rfl, rfl, rfl, rfl⟩ := e3;exact ⟨⟨fn, k, ⟨o1, m1, k1, ks1⟩, ⟨o2, m2, k2, ks2⟩, wh⟩, ⟨a1, n1, a2, n2, a3, n3⟩, rfl, ⟨w0, xM w1, ⟨b1, b2, b3, b4, b5, trivial⟩, ⟨d1, d2, d3, d4, d5, trivial⟩, hwl, hwb⟩, ⟨r1, r2, hwr⟩⟩
end
theorem FK.ln {x : AG} (h : FK x) : LnG x :=
 ⟨h.e.lens, h.g.lens, fun d hd => ⟨(h.c d hd).2.1.lens, (h.c d hd).2.2.lens⟩, by have := h.fn; unfold maxLen at this; omega, fun d hd => by have := (h.c d hd).1; unfold maxLen at this; omega, by have := h.wh; unfold maxLen at this; omega⟩
theorem FK.nums {x : AG} (h : FK x) : fD x := ⟨h.e.nums, h.g.nums, fun d hd => ⟨(h.c d hd).2.1.nums, (h.c d hd).2.2.nums⟩⟩
theorem qD : ∀ (f : F) (l : Int), 0 <= l -> l <= 1000 -> 0 <= eL f l -> (bY f : Int) <= l - eL f l /\ SzF f
 | .nil, l, _, _, _ => ⟨by rw [eL, bY]; omega, trivial⟩
 | .cons o m _ ks r, l, h0, h9, h => by
   rw [eL, if_neg (by omega)] at h |-
   cases hw : qV o m with
   | true =>
     rw [hw, if_pos rfl] at h;exfalso;cases r with
     | nil => rw [eL] at h; omega
     | cons _ _ _ _ _ => rw [eL, if_pos (by decide)] at h; omega
   | false =>
     rw [hw, if_neg (by decide)] at h;rw [if_neg (by decide)]
     have hk : 0 <= eL ks (l - 1) := by
      rcases Int.lt_or_le (eL ks (l - 1)) 0 with hn | hn
      · exfalso
        have h2 := nJ r (eL ks (l - 1));omega
      · exact hn
     have hl1 : 0 <= l - 1 := by
      have := nJ ks (l - 1);omega
     obtain ⟨k1, k2⟩ := qD ks (l - 1) hl1 (by omega) hk;have hk9 : eL ks (l - 1) <= 1000 := by have := nJ ks (l - 1); omega
     obtain ⟨r1, r2⟩ := qD r _ hk hk9 h;refine ⟨by rw [bY]; omega, ?_, ?_, k2, r2⟩
     · unfold qV at hw
       simp only [Bool.or_eq_false_iff, decide_eq_false_iff_not] at hw;omega
     · have : ∀ f : F, f.len <= bY f := by
        intro f
        induction f with
        | nil => exact Nat.le_refl _
        | cons _ _ _ _ r _ ih => rw [F.len, bY]; omega
       have := this ks;omega
theorem Hh {t : TN} (h : 0 <= jM t 60) (hl : t.ks.len <= 9223372036854775807) : aQ t <= 60 /\ SzF t.f := by
 unfold jM at h;cases hw : qV t.op t.nm with
 | true => rw [hw, if_pos rfl] at h; omega
 | false =>
   rw [hw, if_neg (by decide)] at h;obtain ⟨h1, h2⟩ := qD t.ks (60 - 1) (by decide) (by decide) h;unfold qV at hw;simp only [Bool.or_eq_false_iff, decide_eq_false_iff_not] at hw;refine ⟨by unfold aQ; omega, by omega, hl, h2, trivial⟩
open Go.RowKit
open Go.RowKit
open Go.RowKit
open Go.RowKit
open Go.RowKit
theorem i8 {t : TN} (h : qI t = true) (hL : nX t.f) : aQ t <= 60 /\ SzF t.f := Hh (of_decide_eq_true h) hL.1
theorem tH : ∀ (l : List CD), rI l = true -> ∀ d ∈ l, d.op.size <= 20 /\ qI d.a = true /\ qI d.b = true
 | [], _, d, hd => by cases hd
 | c :: r, h, d, hd => by
   simp only [rI, Bool.and_eq_true, decide_eq_true_eq] at h
   rcases List.mem_cons.1 hd with rfl | hd
   · exact ⟨h.1.1.1, h.1.1.2, h.1.2⟩
   · exact tH r h.2 d hd
theorem Fe {x : AG} (h : Ff x = true) (hL : LnG x) : SmG x /\ SzG x := by
 simp only [Ff, Bool.and_eq_true, decide_eq_true_eq] at h;obtain ⟨⟨⟨⟨h1, h2⟩, h3⟩, h4⟩, h5⟩ := h;have e := i8 h2 hL.e;have g := i8 h3 hL.g;refine ⟨⟨by omega, by omega, fun d hd => ?_, by omega⟩, ⟨e.2, g.2, fun d hd => ?_⟩⟩
 · obtain ⟨-, a, b⟩ := tH _ h5 d hd
   have a := i8 a (hL.c d hd).1;have b := i8 b (hL.c d hd).2;exact ⟨by omega, by omega⟩
 · obtain ⟨-, a, b⟩ := tH _ h5 d hd
   exact ⟨(i8 a (hL.c d hd).1).2, (i8 b (hL.c d hd).2).2⟩
structure Ic (w : World) (x : AG) (p : PA) (V : World) : Prop where
 b : Below w.heap.size w V
 l : mQ V
 z : w.heap.size <= V.heap.size
 n : V.heap[w.heap.size]? = some (agP x p)
 r : aI (fun b => b < w.heap.size) V x p
theorem Ic.step {w V V' : World} {x : AG} {p : PA} (h : Ic w x p V) (hb : Below V.heap.size V V') : Ic w x p V' :=
 ⟨h.b.trans (hb.mono h.z), h.l.step hb, Nat.le_trans h.z hb.size, (hb.block _ (aC h.n)).trans h.n, h.r.kept hb⟩
theorem GW {w : World} {x : AG} {p : PA} (hl : mQ w) (hr : aI (fun b => b < w.heap.size) w x p) : Ic w x p (w.alloc (agP x p)) := by
 have B := (Below.refl w.heap.size w).alloc (Nat.le_refl _) (agP x p);exact ⟨B, hl.step B, B.size, heap_alloc_new w _, hr.kept B⟩
end
end Go.Proofs.YtapcjnoaofmmiaaGreatDoor
namespace Go.Proofs.YtapcjnoaofmmiaaGreatDoor.Wr
open Go.RowKit
def OkA (x : AD) : Prop := FewA x /\ cK x.m.data.toList = true /\ tI x.k x.s x.len x.z = 0
def OkL (L : List AD) : Prop := L.length <= 32 /\ (∀ x ∈ L, OkA x) /\ bQ lsS (nmD L)
theorem qK : ∀ (L : List AD) (p : ByteArray), fC p L = 0 ↔ (∀ x ∈ L, cK x.m.data.toList = true /\ tI x.k x.s x.len x.z = 0) /\ bQ lsS (p :: nmD L)
 | [], p => by simp [fC, nmD, bQ]
 | x :: r, p => by
   have ih := qK r x.m
   have hA : kD p x = 0 ↔ (cK x.m.data.toList = true /\ tI x.k x.s x.len x.z = 0) /\ lsS p x.m = true := by
    unfold kD
    by_cases h1 : cK x.m.data.toList = false
    · rw [if_pos h1, h1]; simp
    · rw [if_neg h1]
      have h1' : cK x.m.data.toList = true := by simpa using h1
      by_cases h2 : lsS p x.m = false
      · rw [if_pos h2, h2]; simp
      · rw [if_neg h2]
        have h2' : lsS p x.m = true := by simpa using h2
        rw [h1', h2']; simp
   have hE : fC p (x :: r) = 0 ↔ kD p x = 0 /\ fC x.m r = 0 := by
    show (if kD p x = 0 then fC x.m r else kD p x) = 0 ↔ _
    by_cases h : kD p x = 0
    · rw [if_pos h]; exact ⟨fun h' => ⟨h, h'⟩, fun h' => h'.2⟩
    · rw [if_neg h]; exact ⟨fun h' => absurd h' h, fun h' => absurd h'.1 h⟩
   rw [hE, hA, ih]
   have hR : bQ lsS (p :: nmD (x :: r)) ↔ lsS p x.m = true /\ bQ lsS (x.m :: nmD r) := by
    show List.Pairwise _ (p :: x.m :: nmD r) ↔ _;rw [List.pairwise_cons];constructor
    · intro ⟨h1, h2⟩; exact ⟨h1 _ (List.Mem.head _), h2⟩
    · intro ⟨h1, h2⟩
      refine ⟨fun y hy => ?_, h2⟩
      rcases List.mem_cons.1 hy with rfl | hy
      · exact h1
      · exact e9.trans _ _ _ h1 ((List.pairwise_cons.1 h2).1 y hy)
   rw [hR];constructor
   · rintro ⟨⟨h1, h2⟩, h3, h4⟩
     refine ⟨fun y hy => ?_, h2, h4⟩
     rcases List.mem_cons.1 hy with rfl | hy
     · exact h1
     · exact h3 y hy
   · rintro ⟨h1, h2, h3⟩
     exact ⟨⟨h1 x (List.Mem.head _), h2⟩, fun y hy => h1 y (List.Mem.tail _ hy), h3⟩
theorem KG : Ay 0 0 0 ⟨#[47, 97]⟩ = 0 := by kernel_rfl
theorem KE : cK [107] = true := by decide
theorem KH (n : Nat) (A : Nat -> AD) : Az (Ge n A) = if 32 < n then 4 else fC ⟨#[]⟩ (fromA A n 0) := by
 show (if cK [107] = false then (5 : Int) else if Ay 0 0 0 ⟨#[47, 97]⟩ = 0 then (if 32 < n then 4 else fC ⟨#[]⟩ (fromA A n 0)) else Ay 0 0 0 ⟨#[47, 97]⟩) = _;rw [KE, KG]; simp
theorem fromA_len (A : Nat -> AD) (n : Nat) : (fromA A n 0).length = n := by simp [fromA]
theorem goodL_iff (n : Nat) (A : Nat -> AD) : goodL n A = true ↔ OkL (fromA A n 0) := by
 unfold goodL OkL tG mL;rw [KH, fromA_len];simp only [Bool.and_eq_true, decide_eq_true_eq, List.all_eq_true];constructor
 · rintro ⟨⟨h1, h2⟩, h3⟩
   by_cases h : 32 < n
   · rw [if_pos h] at h3; cases h3
   · rw [if_neg h] at h3
     obtain ⟨h4, h5⟩ := (qK _ _).1 h3;refine ⟨by omega, fun x hx => ⟨?_, h4 x hx⟩, (List.pairwise_cons.1 h5).2⟩;have := h2 x hx;unfold BY at this;simp only [Bool.and_eq_true, decide_eq_true_eq] at this;unfold FewA; omega
 · rintro ⟨h1, h2, h3⟩
   refine ⟨⟨by omega, fun x hx => ?_⟩, ?_⟩
   · have := (h2 x hx).1
     unfold FewA at this;unfold BY;simp only [Bool.and_eq_true, decide_eq_true_eq];omega
   · rw [if_neg (by omega), qK]
     refine ⟨fun x hx => (h2 x hx).2, List.pairwise_cons.2 ⟨fun y hy => ?_, h3⟩⟩;obtain ⟨x, hx, rfl⟩ := List.mem_map.1 hy;exact vC (h2 x hx).2.1
end Go.Proofs.YtapcjnoaofmmiaaGreatDoor.Wr
namespace Go.Proofs.YtapcjnoaofmmiaaGreatDoor
open Go.RowKit
theorem IC {A : Nat -> Wr.AD} {n : Nat} (h : bQ lsS (Wr.nmD (Wr.fromA A n 0))) : Wr.RiseA A n := by
 intro i j hij hj;have e : Wr.nmD (Wr.fromA A n 0) = (List.range n).map (fun j => (A j).m) := by simp [Wr.nmD, Wr.fromA]
 rw [e] at h;exact nA h hij (by rw [List.getElem?_map, List.getElem?_range (by omega)]; rfl) (by rw [List.getElem?_map, List.getElem?_range hj]; rfl)
def ET (A : Nat -> Wr.AD) (n : Nat) (x : ByteArray) : Option Int :=
 match (List.range n).find? (fun j => decide ((A j).m = x)) with
 | some j => if (A j).k = 1 then some (A j).n else none
 | none => none
theorem Jy {A : Nat -> Wr.AD} {n : Nat} (hR : Wr.RiseA A n) (hN : ∀ j, j < n -> aN (A j).n) : wI A n (ET A n) where
 yes := fun j hj => by
  unfold ET;cases hf : (List.range n).find? (fun i => decide ((A i).m = (A j).m)) with
  | none =>
    rw [List.find?_eq_none] at hf;have := hf j (List.mem_range.2 hj);simp at this
  | some i =>
    have h1 := List.find?_some hf;have h2 := List.mem_range.1 (List.mem_of_find?_eq_some hf);have hm : (A i).m = (A j).m := by simpa using h1
    have hij : i = j := by
     rcases Nat.lt_trichotomy i j with h | h | h
     · have := hR i j h hj; rw [hm, e9.irrefl] at this; cases this
     · exact h
     · have := hR j i h h2; rw [hm, e9.irrefl] at this; cases this
    subst hij;rfl
 no := fun x h => by
  unfold ET;rw [List.find?_eq_none.2 (fun j hj => by simpa using h j (List.mem_range.1 hj))]
 fit := fun x v h => by
  unfold ET at h
  split at h
  · rename_i j hf
    have h2 := List.mem_range.1 (List.mem_of_find?_eq_some hf)
    split at h
    · cases h; exact hN j h2
    · cases h
  · cases h
section
open Go.RowKit
def mH : List RW -> Bool
 | [] => true
 | r :: l => Wr.goodL r.n r.A && mH l
def tA (rs : List RW) : Bool := decide (rs.length <= 70) && mH rs
set_option maxHeartbeats 8000000 in
set_option maxRecDepth 100000 in
theorem xO (rs : List RW) (ya : Option Addr) (yc : Nat) (w : World) (hS : ∀ r ∈ rs, ∀ j, j < r.n -> Wr.SizA (r.A j)) (hy : aS w ya rs) (hl : rs.length <= 9223372036854775807) :
 Calls Tryz.prog 19 #[.slice ya rs.length yc] w fun e w' => e = .returned (.bool (tA rs)) /\ Below w.heap.size w w' := by
 obtain ⟨r, hR⟩ : ∃ r, tA rs = r := ⟨_, rfl⟩;rw [hR];unfold tA at hR;have HS := aA hS;have HY := aA hy;clear hS hy
 by_cases h70 : rs.length <= 70
 · have T0 := aA (show mH (rs.drop 0) = r by rw [List.drop_zero, <- hR, decide_eq_true h70]; rfl)
   have l1 : ¬ (70 : Int) < (rs.length : Int) := by omega
   have B0 := aA (Below.refl w.heap.size w);clear hR
   go_enter Tryz.func19, Tryz.ntmps19
   go_wp2_with fail
   go_loopw [3] (fun i wr => ∃ (k : Nat), i = .int .i64 k /\ k <= rs.length /\ Hid (mH (rs.drop k) = r) /\ Hid (Below w.heap.size w wr)) (fun i _ => rs.length - (intOf i).toNat)
   case atStart => exact ⟨0, rfl, Nat.zero_le _, T0, B0⟩
   case round =>
    obtain ⟨k, rfl, hk, HT, HB⟩ := hrel
    by_cases hlt : k < rs.length
    · obtain ⟨rw, hrw⟩ : ∃ r, rs[k]? = some r := ⟨_, List.getElem?_eq_getElem hlt⟩
      have hne : ¬ rs = [] := fun e => by rw [e] at hlt; simp at hlt
      obtain ⟨b, off, hya, hbl, hcc⟩ := HY.out.resolve_left hne;subst hya;obtain ⟨y, cy, pc, hry⟩ := hcc k rw hrw
      have hdr : rs.drop k = rw :: rs.drop (k + 1) := by
       obtain ⟨h1, e⟩ := List.getElem?_eq_some_iff.1 hrw;rw [List.drop_eq_getElem_cons h1, e]
      have hT := HT.out;rw [hdr, mH] at hT;have rc := (HB.out.cell (p := ⟨b, off + k, none⟩) hbl).trans pc;have GA := aA (Wr.good_any y rw.n cy rw.A (HS.out rw (List.mem_of_getElem? hrw)) wr (hry.kept HB.out));obtain ⟨z, hz⟩ : ∃ z, Wr.goodL rw.n rw.A = z := ⟨_, rfl⟩;rw [hz] at GA hT;have HT2 := aA hT;have b1 : (k : Int) < (rs.length : Int) := by omega
      have b2 : (0 : Int) <= (k : Int) := by omega
      have b3 : ((k : Int)).toNat = k := by omega
      clear hne hcc hrw pc hry hdr hT hz
      go_wp2_with fail
      refine GA.out.mono ?_;rintro e w2 ⟨rfl, hb⟩;have B2 := aA (HB.out.trans (hb.mono HB.out.size));clear hb GA rc;cases z with
      | false =>
        have TR := aA (show false = r by rw [<- HT2.out]; rfl)
        go_wp2_with fail
        go_ret;exact ⟨congrArg (fun z => Ending.returned (.bool z)) TR.out, B2.out⟩
      | true =>
        have HT3 := aA (show mH (rs.drop (k + 1)) = r by rw [<- HT2.out, Bool.true_and])
        go_wp2_with fail
        go_roundw
        case rel => exact ⟨k + 1, by go_num, by omega, HT3, B2⟩
        case measure => simp [intOf]; omega
    · have TR := aA (show true = r by rw [<- HT.out, List.drop_of_length_le (by omega)]; rfl)
      have b1 : ¬ (k : Int) < (rs.length : Int) := by omega
      go_wp2_with fail
      go_ret;exact ⟨congrArg (fun z => Ending.returned (.bool z)) TR.out, HB.out⟩
 · have TR := aA (show false = r by rw [<- hR, decide_eq_false h70]; rfl)
   have l1 : (70 : Int) < (rs.length : Int) := by omega
   clear hR
   go_enter Tryz.func19, Tryz.ntmps19
   go_wp2_with fail
   go_ret;exact ⟨congrArg (fun z => Ending.returned (.bool z)) TR.out, Below.refl _ _⟩
def Ij (rs : List RW) : Prop := ∀ r ∈ rs, r.g = ET r.A r.n /\ (∀ j, Wr.SizA (r.A j)) /\ ∀ j, Wr.NumA (r.A j)
theorem vO : ∀ (rs : List RW), mH rs = true -> ∀ r ∈ rs, Wr.goodL r.n r.A = true
 | [], _, r, h => by cases h
 | q :: l, h, r, hr => by
   rw [mH, Bool.and_eq_true] at h
   rcases List.mem_cons.1 hr with rfl | hr
   · exact h.1
   · exact vO l h.2 r hr
theorem Aw {rs : List RW} (h : tA rs = true) (hc : Ij rs) : rs.length <= 70 /\ ∀ r ∈ rs, dU r.A r.n r.g /\ r.n <= 1000 := by
 unfold tA at h;rw [Bool.and_eq_true, decide_eq_true_eq] at h;refine ⟨h.1, fun r hr => ?_⟩;obtain ⟨hg, hS, hN⟩ := hc r hr;obtain ⟨g1, g2, g3⟩ := (Wr.goodL_iff r.n r.A).1 (vO rs h.2 r hr);rw [Wr.fromA_len] at g1;have hR := IC g3
 have hLen : ∀ j, j < r.n -> (r.A j).len <= 1000000 := fun j hj => by
  have := (g2 (r.A j) (List.mem_map.2 ⟨j, List.mem_range.2 hj, by rw [Nat.zero_add]⟩)).1;unfold Wr.FewA at this;omega
 exact ⟨by rw [hg]; exact ⟨Jy hR (fun j _ => (hN j).2.1), hR, by omega, hLen⟩, by omega⟩
def rzK : EvR -> Int | .no => 0 | .num _ => 1 | .list _ => 3
def rzN : EvR -> Int | .num n => n | _ => 0
def rzL : EvR -> List Int | .list l => l | _ => []
def Iz : EvR -> Bool | .no => false | _ => true
abbrev rzZ (R : EvR) (j : Nat) : Int := (rzL R).getD j 0
theorem Dj {x : AG} (h : fO x = 0) (gs : List (ByteArray -> Option Int)) : (rzL (evG x gs)).length <= 16 := by
 obtain ⟨h1, h2, -⟩ := cQ h;unfold dH at h1;simp only [Bool.or_eq_true, beq_iff_eq] at h1
 rcases h1 with ((((h1 | h1) | h1) | h1) | h1) | h1
 · rw [vV h1]; exact Nat.zero_le _
 · rw [Dh h1]; split <;> exact Nat.zero_le _
 · rw [Di h1]; split <;> exact Nat.zero_le _
 · rw [Dg h1]; exact Nat.zero_le _
 · rw [vU h1]; split <;> exact Nat.zero_le _
 · rw [Df h1]
   have := h2 h1;simp only [rzL, List.length_drop];omega
theorem De {R : EvR} (hl : (rzL R).length <= 16) {w0 w' : World} {e : Ending} (h : fP R w0 e w') : Below w0.heap.size w0 w' /\ ∃ a c, e = .returned (.tuple #[vlV (rzK R) (rzN R) a (rzL R).length c, .bool (Iz R)]) /\ Wr.Reads w' a (rzL R).length (rzZ R) := by
 obtain ⟨hb, h⟩ := h;refine ⟨hb, ?_⟩;cases R with
 | no => exact ⟨none, 0, h, by unfold maxLen; simp [rzL], .inl rfl⟩
 | num n => exact ⟨none, 0, h, by unfold maxLen; simp [rzL], .inl rfl⟩
 | list l =>
   obtain ⟨a, c, rfl, hx⟩ := h;refine ⟨a, c, rfl, by unfold maxLen; simp only [rzL] at hl |-; omega, hx.imp (fun e => by rw [e]; rfl) ?_⟩;rintro ⟨b, off, rfl, -, -, hc⟩;refine ⟨b, off, rfl, fun j hj => ?_⟩;have hj' : j < l.length := hj;have := hc j l[j] (List.getElem?_eq_getElem hj');rw [this];simp [rzZ, rzL, List.getD, List.getElem?_eq_getElem hj']
theorem kZ (a : Int) : Wr.cmpI a a = 0 := by
 unfold Wr.cmpI;rw [if_neg (by omega), if_neg (by omega)]
theorem wA : ∀ l : List Int, Wr.cmpL l l = 0
 | [] => rfl
 | a :: r => by rw [Wr.cmpL, kZ, if_pos rfl, wA r]
theorem Fq (a : ByteArray) : Wr.cmpS a a = 0 := by
 unfold Wr.cmpS;have : Op.bytesLess a.toList a.toList = false := e9.irrefl a;rw [this];rfl
theorem Fp (k n : Int) (s : ByteArray) (l : Nat) (z : Nat -> Int) : Wr.cmpV k n s l z k n s l z = 0 := by
 unfold Wr.cmpV;rw [if_pos rfl]
 split
 · exact kZ n
 split
 · exact Fq s
 split
 · exact wA _
 · rfl
abbrev slv (r : RW) (q : Option Addr × Nat) : Value := .slice q.1 r.n q.2
def slL : List RW -> List (Option Addr × Nat) -> List Value
 | r :: l, q :: s => slv r q :: slL l s
 | _, _ => []
theorem Cs : ∀ (l : List RW) (q : List (Option Addr × Nat)) (r : RW) (p : Option Addr × Nat), q.length = l.length -> slL (l ++ [r]) (q ++ [p]) = slL l q ++ [slv r p]
 | [], [], _, _, _ => rfl
 | [], _ :: _, _, _, h => by simp at h
 | _ :: _, [], _, _, h => by simp at h
 | a :: l, b :: q, r, p, h => by rw [List.cons_append, List.cons_append, slL, slL, Cs l q r p (by simpa using h), List.cons_append]
theorem A7 : ∀ (l : List RW) (q : List (Option Addr × Nat)) {k : Nat} {r : RW} (_ : q.length = l.length) (_ : l[k]? = some r), ∃ p, q[k]? = some p /\ (slL l q)[k]? = some (slv r p)
 | [], _, k, r, _, hk => by simp at hk
 | _ :: _, [], k, r, h, _ => by simp at h
 | a :: l, b :: q, 0, r, h, hk => by cases hk; exact ⟨b, rfl, rfl⟩
 | a :: l, b :: q, k + 1, r, h, hk => by
   obtain ⟨p, h1, h2⟩ := A7 l q (k := k) (r := r) (by simpa using h) (by simpa using hk);exact ⟨p, by simpa using h1, by rw [slL]; simpa using h2⟩
structure TBK (w : World) (rs : List RW) (k : Nat) (oa : Option Addr) (oc : Nat) (qs : List (Option Addr × Nat)) (V : World) : Prop where
 b : Below w.heap.size w V
 own : V.ownsRow w.heap.size 142 1 (.slice oa k oc) k (slL (rs.take k) qs)
 ql : qs.length = k
 rd : ∀ (j : Nat) (r : RW) (q : Option Addr × Nat), rs[j]? = some r -> qs[j]? = some q -> ∀ w3, aG (fun b => (Value.slice oa k oc).ownBlock = some b) V w3 -> Wr.ReadsA w3 q.1 r.n r.A
theorem KB : (Tryz.prog.info? 142).map (fun i => (i.zero, i.size, i.bytes)) = some (some (.slice none 0 0), 1, 24) := by kernel_rfl
theorem FZ {w : World} {rs : List RW} {k : Nat} {oa : Option Addr} {oc : Nat} {qs : List (Option Addr × Nat)} {V V2 V3 : World} (h : TBK w rs k oa oc qs V) {r : RW} (hr : rs[k]? = some r) {q : Option Addr × Nat} {oa' : Option Addr} {oc' : Nat}
 (hb : Below V.heap.size V V2) (hq : ∀ w3, aG (fun b => w.heap.size <= b /\ b < V.heap.size) V2 w3 -> Wr.ReadsA w3 q.1 r.n r.A) (hk : aG (fun b => (Value.slice oa k oc).ownBlock = some b) V2 V3)
 (ho : V3.ownsRow w.heap.size 142 1 (.slice oa' (k + 1) oc') (k + 1) (slL (rs.take k) qs ++ [slv r q])) (hn : ∀ b, (Value.slice oa' (k + 1) oc').ownBlock = some b -> (Value.slice oa k oc).ownBlock = some b \/ V2.heap.size <= b) :
 TBK w rs (k + 1) oa' oc' (qs ++ [q]) V3 := by
 have hl : rs.take (k + 1) = rs.take k ++ [r] := by
  obtain ⟨h1, e⟩ := List.getElem?_eq_some_iff.1 hr;rw [List.take_succ_eq_append_getElem h1, e]
 have hlk : (rs.take k).length = k := by rw [List.length_take]; have := (List.getElem?_eq_some_iff.1 hr).1; omega
 have lo := fun b (hb : (Value.slice oa k oc).ownBlock = some b) => h.own.lt b hb
 have hz := hb.size;refine ⟨(h.b.trans (hb.mono h.b.size)).trans (hk.below (fun b e => (lo b e).1) (by have := h.b.size; omega)), ?_, by rw [List.length_append, h.ql]; rfl, fun j r' q' e1 e2 w3 k3 => ?_⟩
 · rw [hl, Cs _ _ _ _ (by rw [h.ql, hlk])]; exact ho
 · rcases Nat.lt_or_ge j k with hj | hj
   · rw [List.getElem?_append_left (by rw [h.ql]; exact hj)] at e2
     refine h.rd j r' q' e1 e2 w3 (((aF hb _).trans hk (fun i hi _ => hi)).trans k3 (fun i hi hlt => ?_))
     rcases hn i hi with h1 | h1
     · exact h1
     · omega
   · rw [List.getElem?_append_right (by rw [h.ql]; exact hj), h.ql] at e2
     cases hm : j - k with
     | zero =>
       rw [hm] at e2;cases e2;obtain rfl : j = k := by omega
       rw [hr] at e1;cases e1;refine hq w3 ((hk.mono (fun i hi _ => lo i hi)).trans k3 (fun i hi hlt => ?_))
       rcases hn i hi with h1 | h1
       · exact lo i h1
       · omega
     | succ m => rw [hm] at e2; simp at e2
set_option maxHeartbeats 8000000 in
set_option maxRecDepth 100000 in
theorem AY (rs : List RW) (ya : Option Addr) (yc : Nat) (w : World) (hS : ∀ r ∈ rs, r.n <= 1000) (hy : aS w ya rs) (hl : rs.length <= 1000) :
 Calls Tryz.prog 22 #[.slice ya rs.length yc] w fun e w' => ∃ a c, e = .returned (.slice a rs.length c) /\ aS w' a rs /\ Below w.heap.size w w' := by
 have und := Tryz.underlying59;obtain ⟨i, hi, hz0, hz1, hz2⟩ := vN KB;have HS := aA hS;have HY := aA hy;have T0 := aA (show TBK w rs 0 none 0 [] w from ⟨Below.refl _ _, ⟨rfl, .inl ⟨rfl, rfl⟩⟩, rfl, fun j r q _ h => by simp at h⟩);clear hS hy
 go_enter Tryz.func22, Tryz.ntmps22
 go_wp2_with fail
 go_loopw [3, 4] (fun v i wr => ∃ (k : Nat) (oa : Option Addr) (oc : Nat) (qs : List (Option Addr × Nat)), v = .slice oa k oc /\ i = .int .i64 k /\ k <= rs.length /\ Hid (TBK w rs k oa oc qs wr)) (fun _ i _ => rs.length - (intOf i).toNat)
 case atStart => exact ⟨0, none, 0, [], rfl, rfl, Nat.zero_le _, T0⟩
 case round =>
  obtain ⟨k, oa, oc, qs, rfl, rfl, hk, HT⟩ := hrel;clear T0
  by_cases hlt : k < rs.length
  · obtain ⟨rw, hrw⟩ : ∃ r, rs[k]? = some r := ⟨_, List.getElem?_eq_getElem hlt⟩
    have hne : ¬ rs = [] := fun e => by rw [e] at hlt; simp at hlt
    obtain ⟨b, off, hya, hbl, hcc⟩ := HY.out.resolve_left hne;subst hya;obtain ⟨y, cy, pc, hry⟩ := hcc k rw hrw;have rc := (HT.out.b.cell (p := ⟨b, off + k, none⟩) hbl).trans pc;have OA := aA (Wr.ofAttrs_any y rw.n cy rw.A (HS.out rw (List.mem_of_getElem? hrw)) w wr hry HT.out.b);have HRW := aA hrw;have b1 : (k : Int) < (rs.length : Int) := by omega
    have b2 : (0 : Int) <= (k : Int) := by omega
    have b3 : ((k : Int)).toNat = k := by omega
    have hk9 : k <= 1000 := by omega
    clear hne hcc hrw pc hry
    go_wp2_with (first
     | (go_at_call 73
        refine OA.out.mono ?_;rintro e w2 ⟨⟨a2, c2, rfl, hq⟩, hb⟩;have HQ := aA hq;have HB := aA hb;have OWN := aA ((aT HT.out.own hb).alloc (.cells #[.slice a2 rw.n c2] 142));have NEW := aA (show qS (w2.alloc (.cells #[.slice a2 rw.n c2] 142)) (.slice (some ⟨w2.heap.size, 0, none⟩) 1 1) 1 [slv rw (a2, c2)] from mI ((cell_of_row _ _ _ _ _ (0, 0) (heap_alloc_new w2 _)).trans rfl));have HZ := aA (show w.heap.size <= (w2.alloc (.cells #[.slice a2 rw.n c2] 142)).heap.size by rw [World.size_alloc]; have := HT.out.b.size; have := hb.size; omega);clear hq hb rc OA)
     | (at_builtin
        refine aZ rfl _ _ 59 rfl (base := w.heap.size) und hi hz0 hz1 hz2 rfl (by decide) (.slice oa k oc) k 1 1 ⟨w2.heap.size, 0, none⟩ (slL (rs.take k) qs) [slv rw (a2, c2)] rfl rfl OWN.out rfl (by rcases NEW.out with h | ⟨a, c, e, -, h⟩; cases h.1; cases e; exact h) (fun u hu => by rw [List.mem_singleton.1 hu]; rfl) (by unfold maxLen; omega) (by omega) HZ.out ?_;intro v4 w4 ho hg hn;obtain ⟨oa', oc', hv⟩ := bW ho;subst hv;have KA := ((aG.refl (fun b => (Value.slice oa k oc).ownBlock = some b) w2).alloc (.cells #[.slice a2 rw.n c2] 142)).grown hg (fun k hk => .inl hk)
        have T1 := aA (FZ HT.out HRW.out HB.out HQ.out KA ho (fun b hb => by
         rcases hn b hb with h | h
         · exact .inl h
         · right; rw [World.size_alloc] at h; omega))
        clear ho hg hn KA)
     | fail)
    go_roundw
    case rel => exact ⟨k + 1, _, _, _, rfl, by go_num, by omega, T1⟩
    case measure => simp [intOf]; omega
  · obtain rfl : k = rs.length := by omega
    have b1 : ¬ (rs.length : Int) < (rs.length : Int) := by omega
    have HF := aA (show aS wr oa rs by
     by_cases hn : rs = []
     · exact .inl hn
     have ho := HT.out.own;rw [List.take_length] at ho;right
     obtain ⟨r0, hr0⟩ : ∃ r, rs[0]? = some r := by
      cases rs with
      | nil => exact absurd rfl hn
      | cons a l => exact ⟨a, rfl⟩
     obtain ⟨p0, -, hp0⟩ := A7 rs qs HT.out.ql hr0;obtain ⟨g, hg, c0⟩ := cV ho hp0;refine ⟨g, 0, hg, (ho.lt g (by rw [hg]; rfl)).2, fun j r hj => ?_⟩;obtain ⟨p, hp, hc⟩ := A7 rs qs HT.out.ql hj;obtain ⟨g', hg', c⟩ := cV ho hc;rw [hg] at hg';cases hg';rw [Nat.zero_add];exact ⟨p.1, p.2, c, HT.out.rd j r p hj hp wr (aG.refl _ _)⟩)
    go_wp2_with fail
    go_ret;exact ⟨oa, ⟨oc, rfl⟩, HF.out, HT.out.b⟩
structure AN (w : World) (x : AG) (p : PA) (ya : Option Addr) (rs : List RW) (V : World) : Prop where
 k : Ic w x p V
 y : aS V ya rs
theorem AN.step {w V V' : World} {x : AG} {p : PA} {ya : Option Addr} {rs : List RW} (h : AN w x p ya rs V) (hb : Below V.heap.size V V') : AN w x p ya rs V' := ⟨h.k.step hb, dB h.y hb⟩
set_option maxHeartbeats 16000000 in
set_option maxRecDepth 100000 in
theorem yD (x : AG) (p : PA) (rs : List RW) (ya : Option Addr) (yc : Nat) (hB : FK x) (hle : rs.length <= maxLen) (hC : Ij rs) (w : World) (hr : aI (fun b => b < w.heap.size) w x p) (hy : aS w ya rs) (hw : mQ w) :
 Calls Tryz.prog 5 #[agV x p, .slice ya rs.length yc] w fun e w' => e = .returned (.bool true) /\ Below w.heap.size w w' := by
 have K0 : AN w x p ya rs (w.alloc (agP x p)) := ⟨GW hw hr, dB hy ((Below.refl _ w).alloc (Nat.le_refl _) _)⟩;generalize hW : w.alloc (agP x p) = W at K0;have HW := aA hW;have KN := aA (Aq W K0.k.l);have HK := aA K0;have HB := aA hB;have HC := aA hC;have GA := aA (p := ∀ V, AN w x p ya rs V -> Calls Tryz.prog 19 #[.slice ya rs.length yc] V fun e w' => e = .returned (.bool (tA rs)) /\ Below V.heap.size V w') (fun V hV => xO rs ya yc V (fun r h j _ => (hC r h).2.1 j) hV.y (by unfold maxLen at hle; omega));clear hW K0 hr hw hB hy hC hle
 go_enter Tryz.func5, Tryz.ntmps5
 go_upto_region 1 with fail
 rw [show w.alloc (.cells #[.string x.fn, .int .i64 x.k, .string x.e.op, .string x.e.nm, .int .i64 x.e.n, .slice p.ea x.e.ks.len p.ec, .string x.g.op, .string x.g.nm, .int .i64 x.g.n, .slice p.ga x.g.ks.len p.gc, .slice p.wa x.wh.length p.wc] 28) = W from HW.out]
 go_wp2_with fail
 refine KN.out.mono ?_;rintro e w1 ⟨rfl, hb⟩;have K1 := aA (HK.out.step hb);clear hb HK HW KN;obtain ⟨m0, m1, m2, m3, m4, m5, m6, m7, m8, m9, m10⟩ := aD K1.out.k.n;have FW := aA (Hj x p w1 HB.out.ln K1.out.k.r);cases hf : Ff x with
 | false =>
   rw [hf] at FW;clear hf
   go_wp2_with fail
   refine FW.out.mono ?_;rintro e w2 ⟨rfl, hb⟩;have K2 := aA (K1.out.step hb);clear hb
   go_wp2_with fail
   go_ret;exact ⟨rfl, K2.out.k.b⟩
 | true =>
   rw [hf] at FW;have HG := aA (Fe hf HB.out.ln);clear hf
   go_wp2_with fail
   refine FW.out.mono ?_;rintro e w2 ⟨rfl, hb⟩;have K2 := aA (K1.out.step hb);clear hb K1 FW m0 m1 m2 m3 m4 m5 m6 m7 m8 m9 m10;obtain ⟨m0, m1, m2, m3, m4, m5, m6, m7, m8, m9, m10⟩ := aD K2.out.k.n;have CO := aA (p := ∀ V, AN w x p ya rs V -> Calls Tryz.prog 12 #[agV x p] V fun e w' => ∃ p', e = .returned (agV x p') /\ aI (fun b => V.heap.size <= b) w' x p' /\ Below V.heap.size V w') (fun V hV => GG x p V HG.out.1 hV.k.r);have OF := aA (CO.out w2 K2.out)
   go_wp2_with fail
   refine OF.out.mono ?_;rintro e w3 ⟨q, rfl, hr3, hb⟩;have K3 := aA (K2.out.step hb);have CK := aA (uG x q w3 HG.out.2 hr3);clear hb hr3 K2 OF m0 m1 m2 m3 m4 m5 m6 m7 m8 m9 m10;obtain ⟨er, her⟩ : ∃ r, fO x = r := ⟨_, rfl⟩;rw [her] at CK;have HER := aA her;clear her
   go_wp2_with fail
   refine CK.out.mono ?_;rintro e w4 ⟨rfl, hb⟩;have K4 := aA (K3.out.step hb);clear hb K3 CK
   by_cases h0 : er = 0
   · subst h0
     have G4 := aA (GA.out w4 K4.out);cases hg : tA rs with
     | false =>
       rw [hg] at G4;clear hg
       go_wp2_with fail
       refine G4.out.mono ?_;rintro e w5 ⟨rfl, hb⟩;have K5 := aA (K4.out.step hb);clear hb
       go_wp2_with fail
       go_ret;exact ⟨rfl, K5.out.k.b⟩
     | true =>
       rw [hg] at G4;have HU := aA (Aw hg HC.out);clear hg
       go_wp2_with fail
       refine G4.out.mono ?_;rintro e w5 ⟨rfl, hb⟩;have K5 := aA (K4.out.step hb);clear hb K4 G4 GA;have EV := aA (p := ∀ V, AN w x p ya rs V -> Calls Tryz.prog 20 #[agV x p, .slice ya rs.length yc] V fun e w' => Below V.heap.size V w' /\ ∃ a c, e = .returned (.tuple #[vlV (rzK (evG x (rs.map RW.g))) (rzN (evG x (rs.map RW.g))) a (rzL (evG x (rs.map RW.g))).length c, .bool (Iz (evG x (rs.map RW.g)))]) /\ Wr.Reads w' a (rzL (evG x (rs.map RW.g))).length (rzZ (evG x (rs.map RW.g)))) (fun V hV => (wY x p rs ya yc V HER.out HB.out.nums HG.out.2 (fun r h => (HU.out.2 r h).1) (by have := HU.out.1; omega) hV.k.r hV.y).mono fun e w' h => De (Dj HER.out _) h);have RV := aA (p := ∀ (G : Nat -> Prop) p' a c V, aI G V x p' -> aS V a rs -> Calls Tryz.prog 21 #[agV x p', .slice a rs.length c] V fun e w' => Below V.heap.size V w' /\ ∃ a c, e = .returned (.tuple #[vlV (rzK (evG x (rs.map RW.g))) (rzN (evG x (rs.map RW.g))) a (rzL (evG x (rs.map RW.g))).length c, .bool (Iz (evG x (rs.map RW.g)))]) /\ Wr.Reads w' a (rzL (evG x (rs.map RW.g))).length (rzZ (evG x (rs.map RW.g)))) (fun G p' a c V hr hy => (DO x p' rs a c V HER.out HB.out.nums (fun r h => (HU.out.2 r h).1) (by have := HU.out.1; omega) hr hy).mono fun e w' h => De (Dj HER.out _) h);have TB := aA (p := ∀ V, AN w x p ya rs V -> Calls Tryz.prog 22 #[.slice ya rs.length yc] V fun e w' => ∃ a c, e = .returned (.slice a rs.length c) /\ aS w' a rs /\ Below V.heap.size V w') (fun V hV => AY rs ya yc V (fun r h => (HU.out.2 r h).2) hV.y (by have := HU.out.1; omega))
       obtain ⟨K, hK⟩ : ∃ K, rzK (evG x (rs.map RW.g)) = K := ⟨_, rfl⟩;obtain ⟨N, hN⟩ : ∃ N, rzN (evG x (rs.map RW.g)) = N := ⟨_, rfl⟩;obtain ⟨ln, hln⟩ : ∃ l, (rzL (evG x (rs.map RW.g))).length = l := ⟨_, rfl⟩;obtain ⟨Z, hZ⟩ : ∃ Z, rzZ (evG x (rs.map RW.g)) = Z := ⟨_, rfl⟩;obtain ⟨ok, hok⟩ : ∃ o, Iz (evG x (rs.map RW.g)) = o := ⟨_, rfl⟩;rw [hK, hN, hln, hok, hZ] at EV RV;clear hK hN hln hZ hok HU;obtain ⟨m0, m1, m2, m3, m4, m5, m6, m7, m8, m9, m10⟩ := aD K5.out.k.n;have E5 := aA (EV.out w5 K5.out)
       go_wp2_with fail
       refine E5.out.mono ?_;rintro e w6 ⟨hb, a5, c5, rfl, rd5⟩;have BA := (Below.refl w6.heap.size w6).alloc (Nat.le_refl _) (vlA K N a5 ln c5);have N6 := heap_alloc_new w6 (vlA K N a5 ln c5);have R6 := rd5.kept BA;have S6 := (K5.out.step hb).step BA;generalize hW6 : w6.alloc (vlA K N a5 ln c5) = W6 at N6 R6 S6;generalize hB5 : w6.heap.size = B5 at N6;have HW6 := aA hW6;have HB5 := aA hB5;have HN6 := aA N6;have HR6 := aA R6;have HS6 := aA S6;clear hb rd5 BA N6 R6 S6 hW6 hB5 E5 EV K5 m0 m1 m2 m3 m4 m5 m6 m7 m8 m9 m10
       go_upto_region 6 with fail
       rw [show w6.alloc (.cells #[.int .i64 K, .int .i64 N, .string ⟨#[]⟩, .slice a5 ln c5] 53) = W6 from HW6.out, HB5.out];clear HW6 HB5;obtain ⟨m0, m1, m2, m3, m4, m5, m6, m7, m8, m9, m10⟩ := aD HS6.out.k.n;have O6 := aA (CO.out W6 HS6.out)
       go_wp2_with fail
       refine O6.out.mono ?_;rintro e w7 ⟨q7, rfl, hr7, hb7⟩;have S7 := aA (HS6.out.step hb7);have T7 := aA (TB.out w7 S7.out);have HN7 := aA ((hb7.block _ (aC HN6.out)).trans HN6.out);have HR7 := aA (HR6.out.kept hb7);have HQ7 := aA hr7;clear hb7 hr7 O6 HS6 HN6 HR6 TB CO m0 m1 m2 m3 m4 m5 m6 m7 m8 m9 m10
       go_wp2_with fail
       refine T7.out.mono ?_;rintro e w8 ⟨ta, tc, rfl, hty, hb8⟩;have S8 := aA (S7.out.step hb8);have HN8 := aA ((hb8.block _ (aC HN7.out)).trans HN7.out);have HR8 := aA (HR7.out.kept hb8);have E8 := aA (RV.out _ q7 ta tc w8 (HQ7.out.kept hb8) hty);clear hb8 hty S7 T7 HN7 HR7 HQ7 RV
       go_wp2_with fail
       refine E8.out.mono ?_;rintro e w9 ⟨hb, a7, c7, rfl, rd9⟩;have BA := (Below.refl w9.heap.size w9).alloc (Nat.le_refl _) (vlO K N a7 ln c7);have N10 := heap_alloc_new w9 (vlO K N a7 ln c7);have R10 := rd9.kept BA;have S10 := (S8.out.step hb).step BA;have N8' := (BA.block _ (aC ((hb.block _ (aC HN8.out)).trans HN8.out))).trans ((hb.block _ (aC HN8.out)).trans HN8.out);have R8' := (HR8.out.kept hb).kept BA;generalize hWA : w9.alloc (vlO K N a7 ln c7) = WA at N10 R10 S10 N8' R8';generalize hB7 : w9.heap.size = B7 at N10;have HWA := aA hWA;have HB7 := aA hB7;have HNA := aA N10;have HNB := aA N8';have HRA := aA R10;have HRB := aA R8';have HSA := aA S10;clear hb rd9 BA N10 R10 S10 N8' R8' hWA hB7 E8 S8 HN8 HR8
       go_upto_region 7 with fail
       rw [show w9.alloc (.cells #[.int .i64 K, .int .i64 N, .string ⟨#[]⟩, .slice a7 ln c7] 56) = WA from HWA.out, HB7.out];clear HWA HB7;obtain ⟨⟨u0, u1, u2, u3⟩, -⟩ := aJ HNB.out;obtain ⟨⟨v0, v1, v2, v3⟩, -⟩ := aJ HNA.out;have g1 : (ok == ok) = true := by simp
       have g2 : (K == K) = true := by simp
       cases ok with
       | false =>
         go_quiet (fail)
         go_wp2_with fail
         go_ret;exact ⟨rfl, eX HSA.out.k.b _⟩
       | true =>
         have CELLS := aA (p := ∀ w', Below WA.heap.size WA w' -> (w'.cell? ⟨B5, 0, none⟩ = some (.int .i64 K) /\ w'.cell? ⟨B5, 1, none⟩ = some (.int .i64 N) /\ w'.cell? ⟨B5, 2, none⟩ = some (.string ⟨#[]⟩) /\ w'.cell? ⟨B5, 3, none⟩ = some (.slice a5 ln c5) /\ w'.cell? ⟨B7, 0, none⟩ = some (.int .i64 K) /\ w'.cell? ⟨B7, 1, none⟩ = some (.int .i64 N) /\ w'.cell? ⟨B7, 2, none⟩ = some (.string ⟨#[]⟩) /\ w'.cell? ⟨B7, 3, none⟩ = some (.slice a7 ln c7))) (fun w' h => by
          obtain ⟨⟨u0, u1, u2, u3⟩, -⟩ := aJ ((h.block _ (aC HNB.out)).trans HNB.out);obtain ⟨⟨v0, v1, v2, v3⟩, -⟩ := aJ ((h.block _ (aC HNA.out)).trans HNA.out);exact ⟨u0, u1, u2, u3, v0, v1, v2, v3⟩)
         have OV := aA (p := ∀ V, Calls Tryz.prog 24 #[vlV K N a5 ln c5] V fun e w' => e = .returned (vlV K N a5 ln c5) /\ Below V.heap.size V w') (fun V => Wr.of_any K N ⟨#[]⟩ a5 ln c5 V)
         have CV := aA (p := ∀ V, Below WA.heap.size WA V -> Calls Tryz.prog 23 #[vlV K N a5 ln c5, vlV K N a7 ln c7] V fun e w' => e = .returned (.int .i64 0) /\ Below V.heap.size V w') (fun V hV => by
          have h := Wr.rCompare_any K N ⟨#[]⟩ a5 ln c5 Z K N ⟨#[]⟩ a7 ln c7 Z V (HRB.out.kept hV) (HRA.out.kept hV);rw [Fp] at h;exact h)
         have D0 := aA (aM WA)
         go_region_held3 (fun w' => w'.cell? ⟨B5, 0, none⟩ = some (.int .i64 K) /\ w'.cell? ⟨B5, 1, none⟩ = some (.int .i64 N) /\ w'.cell? ⟨B5, 2, none⟩ = some (.string ⟨#[]⟩) /\ w'.cell? ⟨B5, 3, none⟩ = some (.slice a5 ln c5) /\ w'.cell? ⟨B7, 0, none⟩ = some (.int .i64 K) /\ w'.cell? ⟨B7, 1, none⟩ = some (.int .i64 N) /\ w'.cell? ⟨B7, 2, none⟩ = some (.string ⟨#[]⟩) /\ w'.cell? ⟨B7, 3, none⟩ = some (.slice a7 ln c7)) (first | assumption | exact ⟨u0, u1, u2, u3, v0, v1, v2, v3⟩ | exact CELLS.out _ B1.out | exact CELLS.out _ B2.out) (first
          | (go_at_call 24
             with_reducible refine (OV.out WA.drew).mono ?_
             rintro e z1 ⟨rfl, hb⟩;have B1 := aA (D0.out.trans (hb.mono D0.out.size));have cc1 := CELLS.out _ B1.out;clear hb)
          | (go_at_call 23
             with_reducible refine (CV.out z1 B1.out).mono ?_
             rintro e z2 ⟨rfl, hb⟩;have B2 := aA (B1.out.trans (hb.mono B1.out.size));have cc2 := CELLS.out _ B2.out;clear hb)
          | fail)
         have HE := aA ((HSA.out.step B2.out).k.b);clear CELLS u0 u1 u2 u3 v0 v1 v2 v3 cc1 cc2
         go_wp2_with fail
         go_ret;exact ⟨rfl, HE.out⟩
   · have e1 : (er == 0) = false := by simpa using h0
     have e2 : (er != 0) = true := by simpa using h0
     go_wp2_with fail
     go_ret;exact ⟨rfl, K4.out.k.b⟩
end
section
open Go.ChangeShapes Go.WideShapes Go.ChangeAt Go.RowKit
theorem D7 : ownKnob Tryz.prog.godebug = none := by kernel_rfl
theorem vJ : laidOutB Tryz.prog = true := by kernel_rfl
theorem rC {w : World} {n : String} {g : Nat} {cs : Array Value} (hg : Tryz.prog.globalNamed n = some g) (h : w.var? Tryz.prog n = some cs) : ∃ t f, w.heap[g]? = some (.cells cs t f) := by
 unfold World.var? at h;rw [hg] at h;simp only [Option.bind_some] at h
 split at h
 · rename_i cs' t f e
   cases h;exact ⟨t, f, e⟩
 · cases h
abbrev oF : List (String × DataW Unit) := Rows.aggNoneRow.laid
theorem zF : "*" ++ "errors.errorString" = "*errors.errorString" := by decide
theorem IA (u : TypeId) (h : Tryz.prog.typeName? 3 u = some "*errors.errorString") : u = 288 :=
 typeName_ptr_named (nm := "errors.errorString") (by rw [zF]; kernel_rfl) (by kernel_rfl) (by decide) u (by rw [zF]; exact h)
theorem GT {W : World} (h : laidMetH Tryz.prog oF W) : j0 W := by
 rw [MakeChecks.laidMetH_plain _ _ _ (by kernel_rfl)] at h;have h2 := h.tail.tail;have htab := Lib.tabIs_of_head (g := 1) (k := .u64) (zs := Lib.pow10Tab) (by kernel_rfl) (by kernel_rfl) Tryz.underlying249 Tryz.underlying203 (by kernel_rfl) (by kernel_rfl) h2;unfold Lib.TabIs World.var? at htab;rw [show Tryz.prog.globalNamed "internal/strconv.uint64pow10" = some 1 by kernel_rfl] at htab;simp only [Option.bind_some] at htab
 split at htab
 · rename_i cs' t f e
   cases htab;exact ⟨t, f, e⟩
 · cases htab
theorem GS {W : World} (h : laidMetH Tryz.prog oF W) : iJ W := by
 rw [MakeChecks.laidMetH_plain _ _ _ (by kernel_rfl)] at h;have h4 := h.tail.tail.tail;have h5 := h4.tail;have hrow : ∀ u, Tryz.prog.typeName? 3 u = some "*errors.errorString" -> u = 288 := IA;obtain ⟨a0, s0, v0, -, -, -⟩ := laid_sentinel (g := 3) h4 (by kernel_rfl) (by kernel_rfl) Tryz.underlying114 hrow Tryz.underlying288 Tryz.underlying290 rfl rfl Tryz.underlying9 (by kernel_rfl) (by kernel_rfl);obtain ⟨a1, s1, v1, -, -, -⟩ := laid_sentinel (g := 2) h5 (by kernel_rfl) (by kernel_rfl) Tryz.underlying114 hrow Tryz.underlying288 Tryz.underlying290 rfl rfl Tryz.underlying9 (by kernel_rfl) (by kernel_rfl);obtain ⟨t1, f1, p1⟩ := rC (g := 3) (by kernel_rfl) v0;obtain ⟨t2, f2, p2⟩ := rC (g := 2) (by kernel_rfl) v1;exact ⟨⟨_, _, t2, f2, p2⟩, ⟨_, _, t1, f1, p1⟩⟩
theorem GR {W : World} (h : laidMetH Tryz.prog oF W) : mQ W := ⟨GS h, GT h⟩
theorem A6 (os : Os) (args : Array Value) : laidMetH Tryz.prog oF ((World.laidAll Tryz.prog os oF).forCall (fun _ _ => 0) ⟨#[], args, []⟩).memory := by
 rw [MakeChecks.laidMetH_plain _ _ _ (by kernel_rfl)];exact laidMet_laidAll _ (by kernel_rfl) (by kernel_rfl)
theorem uE (os : Os) : (World.laidAll Tryz.prog os oF).Shaped Tryz.prog := World.shaped_of_ZipB (by kernel_rfl) (by kernel_rfl)
end
end Go.Proofs.YtapcjnoaofmmiaaGreatDoor
