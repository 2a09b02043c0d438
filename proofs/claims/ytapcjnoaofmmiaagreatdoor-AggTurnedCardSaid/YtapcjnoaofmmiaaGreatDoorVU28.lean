/-
 No statement: what AggTurnedCard needs, of the texts NodeOf, AggOf, OGood, OGk, HPut, QGood, OEvalP, AggEvalWalk, QTurn, AggTurnedWalk, OLaid.
-/
import Derived.Test.YtapcjnoaofmmiaaGreatDoorVU27
import Derived.Test.YtapcjnoaofmmiaaGreatDoorTie
import Derived.ProofKit
import Derived.OpenShut
import Derived.LaidMore
import Derived.Lay
import Derived.SevenTiedAt
import Derived.Stop.Joined
import Derived.Stop.LaidErr
import Derived.Lib.LaidTab
import Derived.Carry
namespace Go.Proofs.YtapcjnoaofmmiaaGreatDoor
section
open Go.RowKit Go.ChangeShapes Go.WideShapes Go.Deep
theorem pP : Tryz.prog.cellsOf 25 = 4 := by kernel_rfl
def nG : F -> Prop
 | .nil => True
 | .cons o m n ks r => o.size <= maxLen /\ m.size <= maxLen /\ aW n /\ ks.len <= maxLen /\ nG ks /\ nG r
theorem nG.lens : ∀ {f : F}, nG f -> mB f
 | .nil, _ => trivial
 | .cons _ _ _ _ _, ⟨_, _, _, h, hk, hr⟩ => ⟨by unfold maxLen at h; omega, hk.lens, hr.lens⟩
theorem nG.nums : ∀ {f : F}, nG f -> dU f
 | .nil, _ => trivial
 | .cons _ _ _ _ _, ⟨_, _, h, _, hk, hr⟩ => ⟨by unfold aW at h; omega, hk.nums, hr.nums⟩
theorem wZ {n : Int} (h : (Lit.int .i64 n).wf = true) : aW n := by
 simp [Lit.wf, IntKind.min, IntKind.max, IntKind.bits, IntKind.signed] at h;exact ⟨by omega, by omega⟩
set_option maxRecDepth 100000 in
theorem k8 {H : Type} {enc : TypeId × Value -> H} {W : World} : ∀ (n : Nat) (cs : List Value) (x : DataW H × List MemPlace), DataW.trod enc Tryz.prog W 0 (fun _ => true) true n 25 cs = some x ->
 ∃ (o m : ByteArray) (k : Int) (a : Option Addr) (ks : F) (c : Nat), cs = [.string o, .string m, .int .i64 k, .slice a ks.len c] /\ (o.size <= maxLen /\ m.size <= maxLen /\ aW k /\ ks.len <= maxLen /\ nG ks) /\ aG (fun b => b < W.heap.size) W a ks := by
 intro n
 induction n using Nat.strongRecOn with
 | ind n ih =>
   intro cs x h;obtain ⟨ys, m, hn, -, hlen, hyl, hf⟩ := DataW.trod_struct Tryz.underlying25 h;rw [pP] at hlen
   match cs, hlen with
   | [c0, c1, c2, c3], _ =>
     have y4 : ys.length = 4 := hyl
     match ys, y4 with
     | [y0, y1, y2, y3], _ =>
       have h0 : DataW.trod enc Tryz.prog W 0 (fun _ => true) true m 9 [c0] = some y0 := hf 0 _ rfl;have h1 : DataW.trod enc Tryz.prog W 0 (fun _ => true) true m 9 [c1] = some y1 := hf 1 _ rfl;have h2 : DataW.trod enc Tryz.prog W 0 (fun _ => true) true m 2 [c2] = some y2 := hf 2 _ rfl;have h3 : DataW.trod enc Tryz.prog W 0 (fun _ => true) true m 23 [c3] = some y3 := hf 3 _ rfl;obtain ⟨o, e0, -, w0⟩ := DataW.trod_string Tryz.underlying9 h0;obtain ⟨s, e1, -, w1⟩ := DataW.trod_string Tryz.underlying9 h1;obtain ⟨k, e2, -, w2⟩ := DataW.trod_int Tryz.underlying2 h2;cases e0; cases e1; cases e2
       rcases DataW.trod_slice Tryz.underlying23 h3 with ⟨hcs, -⟩ | ⟨a, len, cap, elems, rest, q, hq, hcs, -, -, hl, hc, hel, hat, -, -⟩
       · cases hcs
         exact ⟨o, s, k, none, .nil, 0, rfl, ⟨w0, w1, wZ w2, Nat.zero_le _, trivial⟩, .inl rfl⟩
       · cases hcs
         have hqn : q < n := by omega
         have hsp : 0 < len -> a.spot = none := by
          intro h0;have hj2 := hat 0 h0;rw [List.getElem?_eq_getElem (by omega), Option.bind_eq_some_iff] at hj2;obtain ⟨cs', hcs', -⟩ := hj2;rw [pP] at hcs';obtain ⟨-, hl4, hcl⟩ := World.cells?_some hcs';have p1 := hcl 0 (by omega);rw [List.getElem?_eq_getElem (by omega)] at p1;simpa [Addr.add] using World.cell?_spot p1
         have main : ∀ d j, j + d = len -> ∃ f : F, f.len = d /\ nG f /\ (f = .nil \/ ∃ b off, a = ⟨b, off, none⟩ /\ dZ (fun b => b < W.heap.size) W f b (off + j * 4)) := by
          intro d
          induction d with
          | zero => exact fun j _ => ⟨.nil, rfl, trivial, .inl rfl⟩
          | succ d ihd =>
            intro j hj;obtain ⟨g, hg, hgb, hgr⟩ := ihd (j + 1) (by omega);have hj2 := hat j (by omega);rw [List.getElem?_eq_getElem (by omega), Option.bind_eq_some_iff] at hj2;obtain ⟨cs', hcs', ht⟩ := hj2;obtain ⟨o2, m2, k2, a2, ks2, c2, rfl, hb2, hr2⟩ := ih q hqn cs' _ ht;rw [pP] at hcs';obtain ⟨-, -, hcl⟩ := World.cells?_some hcs';have e : ∀ i, (a.add (j * 4)).add i = a.add (j * 4 + i) := fun i => Go.Deep.add_add _ _ _
            have p0 : W.cell? (a.add (j * 4 + 0)) = some (.string o2) := by have := hcl 0 (by omega); rw [e 0] at this; exact this
            have p1 : W.cell? (a.add (j * 4 + 1)) = some (.string m2) := by have := hcl 1 (by omega); rw [e 1] at this; exact this
            have p2 : W.cell? (a.add (j * 4 + 2)) = some (.int .i64 k2) := by have := hcl 2 (by omega); rw [e 2] at this; exact this
            have p3 : W.cell? (a.add (j * 4 + 3)) = some (.slice a2 ks2.len c2) := by have := hcl 3 (by omega); rw [e 3] at this; exact this
            obtain ⟨b, off, spot⟩ := a;have hspot : spot = none := hsp (by omega);subst hspot;rw [Addr.add_lit] at p0 p1 p2 p3;have hlt : b < W.heap.size := World.block_lt_of_cell? W _ p0;refine ⟨.cons o2 m2 k2 ks2 g, by rw [F.len, hg], ⟨hb2.1, hb2.2.1, hb2.2.2.1, hb2.2.2.2.1, hb2.2.2.2.2, hgb⟩, .inr ⟨b, off, rfl, hlt, hlt, ⟨a2, c2, ⟨by simpa using p0, p1, p2, p3⟩, hr2⟩, ?_⟩⟩
            rcases hgr with rfl | ⟨b', off', he, hgr⟩
            · trivial
            · cases he
              rw [show off + j * 4 + 4 = off + (j + 1) * 4 by omega];exact hgr
         obtain ⟨f, hfl, hfb, hfr⟩ := main len 0 (by omega);subst hfl;refine ⟨o, s, k, some a, f, cap, rfl, ⟨w0, w1, wZ w2, Nat.le_trans hl hc, hfb⟩, ?_⟩
         rcases hfr with h9 | ⟨b, off, ha9, h9⟩
         · exact .inl h9
         · rw [Nat.zero_mul, Nat.add_zero] at h9
           exact .inr ⟨b, off, by rw [ha9], h9⟩
end
section
open Go.RowKit Go.ChangeShapes Go.WideShapes Go.Deep
theorem vN : Tryz.prog.cellsOf 98 = 9 := by kernel_rfl
theorem Ha : Tryz.prog.cellsOf 28 = 11 := by kernel_rfl
def J8 (l : List CD) : Prop := ∀ d ∈ l, d.op.size <= maxLen /\ nG d.a.f /\ nG d.b.f
structure Fk (x : AG) : Prop where
 fn : x.fn.size <= maxLen
 k : aW x.k
 e : nG x.e.f
 g : nG x.g.f
 wh : x.wh.length <= maxLen
 c : J8 x.wh
section
variable {H : Type} {enc : TypeId × Value -> H} {W : World}
set_option maxRecDepth 100000 in
theorem BC (n : Nat) (cs : List Value) (x : DataW H × List MemPlace) (h : DataW.trod enc Tryz.prog W 0 (fun _ => true) true n 98 cs = some x) :
 ∃ (d : CD) (a1 : Option Addr) (c1 : Nat) (a2 : Option Addr) (c2 : Nat), cs = [.string d.op, .string d.a.op, .string d.a.nm, .int .i64 d.a.n, .slice a1 d.a.ks.len c1, .string d.b.op, .string d.b.nm, .int .i64 d.b.n, .slice a2 d.b.ks.len c2] /\ (d.op.size <= maxLen /\ nG d.a.f /\ nG d.b.f) /\ aG (fun b => b < W.heap.size) W a1 d.a.ks /\ aG (fun b => b < W.heap.size) W a2 d.b.ks := by
 obtain ⟨ys, m, hn, -, hlen, hyl, hf⟩ := DataW.trod_struct Tryz.underlying98 h;rw [vN] at hlen
 match cs, hlen with
 | [c0, c1, c2, c3, c4, c5, c6, c7, c8], _ =>
   have y3 : ys.length = 3 := hyl
   match ys, y3 with
   | [y0, y1, y2], _ =>
     have h0 : DataW.trod enc Tryz.prog W 0 (fun _ => true) true m 9 [c0] = some y0 := hf 0 _ rfl;have h1 : DataW.trod enc Tryz.prog W 0 (fun _ => true) true m 25 [c1, c2, c3, c4] = some y1 := hf 1 _ rfl;have h2 : DataW.trod enc Tryz.prog W 0 (fun _ => true) true m 25 [c5, c6, c7, c8] = some y2 := hf 2 _ rfl;obtain ⟨o, e0, -, w0⟩ := DataW.trod_string Tryz.underlying9 h0;obtain ⟨o1, m1, k1, a1, ks1, n1, e1, ⟨b1, b2, b3, b4, b5⟩, r1⟩ := k8 m _ _ h1;obtain ⟨o2, m2, k2, a2, ks2, n2, e2, ⟨d1, d2, d3, d4, d5⟩, r2⟩ := k8 m _ _ h2;cases e0;simp only [List.cons.injEq, and_true] at e1 e2;obtain ⟨rfl, rfl, rfl, rfl⟩ := e1;obtain ⟨rfl, rfl, rfl, rfl⟩ := e2;exact ⟨⟨o, ⟨o1, m1, k1, ks1⟩, ⟨o2, m2, k2, ks2⟩⟩, a1, n1, a2, n2, rfl, ⟨w0, ⟨b1, b2, b3, b4, b5, trivial⟩, ⟨d1, d2, d3, d4, d5, trivial⟩⟩, r1, r2⟩
set_option maxRecDepth 100000 in
theorem Am {m : Nat} {c : Value} {y : DataW H × List MemPlace} (h3 : DataW.trod enc Tryz.prog W 0 (fun _ => true) true m 26 [c] = some y) :
 ∃ (l : List CD) (a : Option Addr) (cap : Nat), c = .slice a l.length cap /\ l.length <= maxLen /\ J8 l /\ eF (fun b => b < W.heap.size) W a l := by
 rcases DataW.trod_slice Tryz.underlying26 h3 with ⟨hcs, -⟩ | ⟨a, len, cap, elems, rest, q, hq, hcs, -, -, hl, hc, hel, hat, -, -⟩
 · cases hcs
   exact ⟨[], none, 0, rfl, Nat.zero_le _, (fun d hd => by cases hd), .inl rfl⟩
 · cases hcs
   have one : ∀ j, j < len -> ∃ (d : CD) (a1 : Option Addr) (c1 : Nat) (a2 : Option Addr) (c2 : Nat), (∀ i u, ([.string d.op, .string d.a.op, .string d.a.nm, .int .i64 d.a.n, .slice a1 d.a.ks.len c1, .string d.b.op, .string d.b.nm, .int .i64 d.b.n, .slice a2 d.b.ks.len c2] : List Value)[i]? = some u -> W.cell? (a.add (j * 9 + i)) = some u) /\ (d.op.size <= maxLen /\ nG d.a.f /\ nG d.b.f) /\ aG (fun b => b < W.heap.size) W a1 d.a.ks /\ aG (fun b => b < W.heap.size) W a2 d.b.ks := fun j hj => by
    have hj2 := hat j hj;rw [List.getElem?_eq_getElem (by omega), Option.bind_eq_some_iff] at hj2;obtain ⟨cs', hcs', ht⟩ := hj2;obtain ⟨d, a1, c1, a2, c2, rfl, hb, r1, r2⟩ := BC q cs' _ ht;rw [vN] at hcs';obtain ⟨-, -, hcl⟩ := World.cells?_some hcs';refine ⟨d, a1, c1, a2, c2, fun i u hu => ?_, hb, r1, r2⟩;have hi : i < 9 := (List.getElem?_eq_some_iff.1 hu).1;have := hcl i (by omega);rw [Go.Deep.add_add] at this;rw [<- hu];exact this
   have main : ∀ k, k <= len -> ∃ l : List CD, l.length = k /\ J8 l /\ ∀ j d, l[j]? = some d -> ∃ a1 c1 a2 c2, (∀ i u, ([.string d.op, .string d.a.op, .string d.a.nm, .int .i64 d.a.n, .slice a1 d.a.ks.len c1, .string d.b.op, .string d.b.nm, .int .i64 d.b.n, .slice a2 d.b.ks.len c2] : List Value)[i]? = some u -> W.cell? (a.add (j * 9 + i)) = some u) /\ aG (fun b => b < W.heap.size) W a1 d.a.ks /\ aG (fun b => b < W.heap.size) W a2 d.b.ks := by
    intro k
    induction k with
    | zero => exact fun _ => ⟨[], rfl, (fun d hd => by cases hd), fun j d hj => by simp at hj⟩
    | succ k ih =>
      intro hk;obtain ⟨l, h1, h2, h4⟩ := ih (by omega);obtain ⟨d, a1, c1, a2, c2, g1, g2, g3, g4⟩ := one k (by omega);refine ⟨l ++ [d], by simp [h1], fun x hx => ?_, fun j x hj => ?_⟩
      · rcases List.mem_append.1 hx with hx | hx
        · exact h2 x hx
        · rw [List.mem_singleton.1 hx]; exact g2
      · rcases Nat.lt_or_ge j l.length with hlt | hge
        · rw [List.getElem?_append_left hlt] at hj
          exact h4 j x hj
        · rw [List.getElem?_append_right hge] at hj
          cases hm : j - l.length with
          | zero =>
            rw [hm] at hj;cases hj;obtain rfl : j = k := by omega
            exact ⟨a1, c1, a2, c2, g1, g3, g4⟩
          | succ z => rw [hm] at hj; simp at hj
   obtain ⟨l, h1, h2, h4⟩ := main len (Nat.le_refl _);subst h1;refine ⟨l, some a, cap, rfl, Nat.le_trans hl hc, h2, ?_⟩
   by_cases hne : l = []
   · exact .inl hne
   · obtain ⟨d0, hd0⟩ : ∃ d, l[0]? = some d := by
      cases l with
      | nil => exact absurd rfl hne
      | cons d r => exact ⟨d, rfl⟩
     obtain ⟨_, _, _, _, g, -, -⟩ := h4 0 d0 hd0;have p0 := g 0 _ rfl;have hspot : a.spot = none := by simpa [Addr.add] using World.cell?_spot p0
     obtain ⟨b, off, spot⟩ := a;have hs : spot = none := hspot;subst hs;rw [Addr.add_lit] at p0;have hlt : b < W.heap.size := World.block_lt_of_cell? W _ p0;refine .inr ⟨b, off, rfl, hlt, hlt, fun j d hj => ?_⟩;obtain ⟨a1, c1, a2, c2, g, r1, r2⟩ := h4 j d hj
     have get : ∀ i u, ([.string d.op, .string d.a.op, .string d.a.nm, .int .i64 d.a.n, .slice a1 d.a.ks.len c1, .string d.b.op, .string d.b.nm, .int .i64 d.b.n, .slice a2 d.b.ks.len c2] : List Value)[i]? = some u -> W.cell? ⟨b, off + j * 9 + i, none⟩ = some u := fun i u hu => by
      have := g i u hu;rw [Addr.add_lit] at this;rw [show off + j * 9 + i = off + (j * 9 + i) by omega];exact this
     exact ⟨a1, c1, a2, c2, ⟨get 0 _ rfl, get 1 _ rfl, get 2 _ rfl, get 3 _ rfl, get 4 _ rfl, get 5 _ rfl, get 6 _ rfl, get 7 _ rfl, get 8 _ rfl⟩, r1, r2⟩
set_option maxRecDepth 100000 in
/-- A fold that came in, opened. -/
theorem J4 {base : Nat} {v : Value} {d : DataW H} {p : List MemPlace} (hv : Value.okWide Tryz.prog W .any base 28 v) (h : DataW.Trod enc Tryz.prog W 0 (fun _ => true) true 28 v d p) :
 ∃ (x : AG) (q : PA), v = agV x q /\ Fk x /\ aJ (fun b => b < W.heap.size) W x q := by
 obtain ⟨cs, rfl, hsz⟩ := okWide_struct Tryz.underlying28 hv;obtain ⟨fuel, hf⟩ := h;obtain ⟨l⟩ := cs;obtain ⟨ys, m, hn, -, hlen, hyl, hf⟩ := DataW.trod_struct Tryz.underlying28 hf;rw [Ha] at hlen
 match l, hlen with
 | [c0, c1, c2, c3, c4, c5, c6, c7, c8, c9, c10], _ =>
   have y5 : ys.length = 5 := hyl
   match ys, y5 with
   | [y0, y1, y2, y3, y4], _ =>
     have h0 : DataW.trod enc Tryz.prog W 0 (fun _ => true) true m 9 [c0] = some y0 := hf 0 _ rfl;have h1 : DataW.trod enc Tryz.prog W 0 (fun _ => true) true m 2 [c1] = some y1 := hf 1 _ rfl;have h2 : DataW.trod enc Tryz.prog W 0 (fun _ => true) true m 25 [c2, c3, c4, c5] = some y2 := hf 2 _ rfl;have h3 : DataW.trod enc Tryz.prog W 0 (fun _ => true) true m 25 [c6, c7, c8, c9] = some y3 := hf 3 _ rfl;have h4 : DataW.trod enc Tryz.prog W 0 (fun _ => true) true m 26 [c10] = some y4 := hf 4 _ rfl;obtain ⟨fn, e0, -, w0⟩ := DataW.trod_string Tryz.underlying9 h0;obtain ⟨k, e1, -, w1⟩ := DataW.trod_int Tryz.underlying2 h1;obtain ⟨o1, m1, k1, a1, ks1, n1, e2, ⟨b1, b2, b3, b4, b5⟩, r1⟩ := k8 m _ _ h2;obtain ⟨o2, m2, k2, a2, ks2, n2, e3, ⟨d1, d2, d3, d4, d5⟩, r2⟩ := k8 m _ _ h3;obtain ⟨wh, a3, n3, rfl, hwl, hwb, hwr⟩ := Am h4;cases e0;cases e1;simp only [List.cons.injEq, and_true] at e2 e3;obtain ⟨rfl, rfl, rfl, rfl⟩ := e2;obtain ⟨rfl, rfl, rfl, rfl⟩ := e3;exact ⟨⟨fn, k, ⟨o1, m1, k1, ks1⟩, ⟨o2, m2, k2, ks2⟩, wh⟩, ⟨a1, n1, a2, n2, a3, n3⟩, rfl, ⟨w0, wZ w1, ⟨b1, b2, b3, b4, b5, trivial⟩, ⟨d1, d2, d3, d4, d5, trivial⟩, hwl, hwb⟩, ⟨r1, r2, hwr⟩⟩
end
theorem Fk.ln {x : AG} (h : Fk x) : LnG x :=
 ⟨h.e.lens, h.g.lens, fun d hd => ⟨(h.c d hd).2.1.lens, (h.c d hd).2.2.lens⟩, by have := h.fn; unfold maxLen at this; omega, fun d hd => by have := (h.c d hd).1; unfold maxLen at this; omega, by have := h.wh; unfold maxLen at this; omega⟩
theorem Fk.nums {x : AG} (h : Fk x) : i1 x := ⟨h.e.nums, h.g.nums, fun d hd => ⟨(h.c d hd).2.1.nums, (h.c d hd).2.2.nums⟩⟩
theorem pS : ∀ (f : F) (l : Int), 0 <= l -> l <= 1000 -> 0 <= eA f l -> (bK f : Int) <= l - eA f l /\ SzF f
 | .nil, l, _, _, _ => ⟨by rw [eA, bK]; omega, trivial⟩
 | .cons o m _ ks r, l, h0, h9, h => by
   rw [eA, if_neg (by omega)] at h |-
   cases hw : qJ o m with
   | true =>
     rw [hw, if_pos rfl] at h;exfalso;cases r with
     | nil => rw [eA] at h; omega
     | cons _ _ _ _ _ => rw [eA, if_pos (by decide)] at h; omega
   | false =>
     rw [hw, if_neg (by decide)] at h;rw [if_neg (by decide)]
     have hk : 0 <= eA ks (l - 1) := by
      rcases Int.lt_or_le (eA ks (l - 1)) 0 with hn | hn
      · exfalso
        have h2 := mT r (eA ks (l - 1));omega
      · exact hn
     have hl1 : 0 <= l - 1 := by
      have := mT ks (l - 1);omega
     obtain ⟨k1, k2⟩ := pS ks (l - 1) hl1 (by omega) hk;have hk9 : eA ks (l - 1) <= 1000 := by have := mT ks (l - 1); omega
     obtain ⟨r1, r2⟩ := pS r _ hk hk9 h;refine ⟨by rw [bK]; omega, ?_, ?_, k2, r2⟩
     · unfold qJ at hw
       simp only [Bool.or_eq_false_iff, decide_eq_false_iff_not] at hw;omega
     · have : ∀ f : F, f.len <= bK f := by
        intro f
        induction f with
        | nil => exact Nat.le_refl _
        | cons _ _ _ _ r _ ih => rw [F.len, bK]; omega
       have := this ks;omega
theorem GH {t : TN} (h : 0 <= iU t 60) (hl : t.ks.len <= 9223372036854775807) : aM t <= 60 /\ SzF t.f := by
 unfold iU at h;cases hw : qJ t.op t.nm with
 | true => rw [hw, if_pos rfl] at h; omega
 | false =>
   rw [hw, if_neg (by decide)] at h;obtain ⟨h1, h2⟩ := pS t.ks (60 - 1) (by decide) (by decide) h;unfold qJ at hw;simp only [Bool.or_eq_false_iff, decide_eq_false_iff_not] at hw;refine ⟨by unfold aM; omega, by omega, hl, h2, trivial⟩
open Go.RowKit
open Go.RowKit
open Go.RowKit
open Go.RowKit
open Go.RowKit
theorem iI {t : TN} (h : pX t = true) (hL : mB t.f) : aM t <= 60 /\ SzF t.f := GH (of_decide_eq_true h) hL.1
theorem sZ : ∀ (l : List CD), qY l = true -> ∀ d ∈ l, d.op.size <= 20 /\ pX d.a = true /\ pX d.b = true
 | [], _, d, hd => by cases hd
 | c :: r, h, d, hd => by
   simp only [qY, Bool.and_eq_true, decide_eq_true_eq] at h
   rcases List.mem_cons.1 hd with rfl | hd
   · exact ⟨h.1.1.1, h.1.1.2, h.1.2⟩
   · exact sZ r h.2 d hd
theorem EG {x : AG} (h : EH x = true) (hL : LnG x) : SmG x /\ SzG x := by
 simp only [EH, Bool.and_eq_true, decide_eq_true_eq] at h;obtain ⟨⟨⟨⟨h1, h2⟩, h3⟩, h4⟩, h5⟩ := h;have e := iI h2 hL.e;have g := iI h3 hL.g;refine ⟨⟨by omega, by omega, fun d hd => ?_, by omega⟩, ⟨e.2, g.2, fun d hd => ?_⟩⟩
 · obtain ⟨-, a, b⟩ := sZ _ h5 d hd
   have a := iI a (hL.c d hd).1;have b := iI b (hL.c d hd).2;exact ⟨by omega, by omega⟩
 · obtain ⟨-, a, b⟩ := sZ _ h5 d hd
   exact ⟨(iI a (hL.c d hd).1).2, (iI b (hL.c d hd).2).2⟩
structure Hh (w : World) (x : AG) (p : PA) (V : World) : Prop where
 b : Below w.heap.size w V
 l : mC V
 z : w.heap.size <= V.heap.size
 n : V.heap[w.heap.size]? = some (agP x p)
 r : aJ (fun b => b < w.heap.size) V x p
theorem Hh.step {w V V' : World} {x : AG} {p : PA} (h : Hh w x p V) (hb : Below V.heap.size V V') : Hh w x p V' :=
 ⟨h.b.trans (hb.mono h.z), h.l.step hb, Nat.le_trans h.z hb.size, (hb.block _ (aC h.n)).trans h.n, h.r.kept hb⟩
theorem Gl {w : World} {x : AG} {p : PA} (hl : mC w) (hr : aJ (fun b => b < w.heap.size) w x p) : Hh w x p (w.alloc (agP x p)) := by
 have B := (Below.refl w.heap.size w).alloc (Nat.le_refl _) (agP x p);exact ⟨B, hl.step B, B.size, heap_alloc_new w _, hr.kept B⟩
end
end Go.Proofs.YtapcjnoaofmmiaaGreatDoor
namespace Go.Proofs.YtapcjnoaofmmiaaGreatDoor.Wr
open Go.RowKit
def OkA (x : AD) : Prop := FewA x /\ cB x.m.data.toList = true /\ s9 x.k x.s x.len x.z = 0
def OkL (L : List AD) : Prop := L.length <= 32 /\ (∀ x ∈ L, OkA x) /\ bG lsS (nmD L)
theorem pY : ∀ (L : List AD) (p : ByteArray), eV p L = 0 ↔ (∀ x ∈ L, cB x.m.data.toList = true /\ s9 x.k x.s x.len x.z = 0) /\ bG lsS (p :: nmD L)
 | [], p => by simp [eV, nmD, bG]
 | x :: r, p => by
   have ih := pY r x.m
   have hA : jM p x = 0 ↔ (cB x.m.data.toList = true /\ s9 x.k x.s x.len x.z = 0) /\ lsS p x.m = true := by
    unfold jM
    by_cases h1 : cB x.m.data.toList = false
    · rw [if_pos h1, h1]; simp
    · rw [if_neg h1]
      have h1' : cB x.m.data.toList = true := by simpa using h1
      by_cases h2 : lsS p x.m = false
      · rw [if_pos h2, h2]; simp
      · rw [if_neg h2]
        have h2' : lsS p x.m = true := by simpa using h2
        rw [h1', h2']; simp
   have hE : eV p (x :: r) = 0 ↔ jM p x = 0 /\ eV x.m r = 0 := by
    show (if jM p x = 0 then eV x.m r else jM p x) = 0 ↔ _
    by_cases h : jM p x = 0
    · rw [if_pos h]; exact ⟨fun h' => ⟨h, h'⟩, fun h' => h'.2⟩
    · rw [if_neg h]; exact ⟨fun h' => absurd h' h, fun h' => absurd h'.1 h⟩
   rw [hE, hA, ih]
   have hR : bG lsS (p :: nmD (x :: r)) ↔ lsS p x.m = true /\ bG lsS (x.m :: nmD r) := by
    show List.Pairwise _ (p :: x.m :: nmD r) ↔ _;rw [List.pairwise_cons];constructor
    · intro ⟨h1, h2⟩; exact ⟨h1 _ (List.Mem.head _), h2⟩
    · intro ⟨h1, h2⟩
      refine ⟨fun y hy => ?_, h2⟩
      rcases List.mem_cons.1 hy with rfl | hy
      · exact h1
      · exact eQ.trans _ _ _ h1 ((List.pairwise_cons.1 h2).1 y hy)
   rw [hR];constructor
   · rintro ⟨⟨h1, h2⟩, h3, h4⟩
     refine ⟨fun y hy => ?_, h2, h4⟩
     rcases List.mem_cons.1 hy with rfl | hy
     · exact h1
     · exact h3 y hy
   · rintro ⟨h1, h2, h3⟩
     exact ⟨⟨h1 x (List.Mem.head _), h2⟩, fun y hy => h1 y (List.Mem.tail _ hy), h3⟩
theorem JW : Ae 0 0 0 ⟨#[47, 97]⟩ = 0 := by kernel_rfl
theorem JV : cB [107] = true := by decide
theorem JX (n : Nat) (A : Nat -> AD) : Af (FK n A) = if 32 < n then 4 else eV ⟨#[]⟩ (fromA A n 0) := by
 show (if cB [107] = false then (5 : Int) else if Ae 0 0 0 ⟨#[47, 97]⟩ = 0 then (if 32 < n then 4 else eV ⟨#[]⟩ (fromA A n 0)) else Ae 0 0 0 ⟨#[47, 97]⟩) = _;rw [JV, JW]; simp
theorem fromA_len (A : Nat -> AD) (n : Nat) : (fromA A n 0).length = n := by simp [fromA]
theorem goodL_iff (n : Nat) (A : Nat -> AD) : goodL n A = true ↔ OkL (fromA A n 0) := by
 unfold goodL OkL sY l8;rw [JX, fromA_len];simp only [Bool.and_eq_true, decide_eq_true_eq, List.all_eq_true];constructor
 · rintro ⟨⟨h1, h2⟩, h3⟩
   by_cases h : 32 < n
   · rw [if_pos h] at h3; cases h3
   · rw [if_neg h] at h3
     obtain ⟨h4, h5⟩ := (pY _ _).1 h3;refine ⟨by omega, fun x hx => ⟨?_, h4 x hx⟩, (List.pairwise_cons.1 h5).2⟩;have := h2 x hx;unfold Bs at this;simp only [Bool.and_eq_true, decide_eq_true_eq] at this;unfold FewA; omega
 · rintro ⟨h1, h2, h3⟩
   refine ⟨⟨by omega, fun x hx => ?_⟩, ?_⟩
   · have := (h2 x hx).1
     unfold FewA at this;unfold Bs;simp only [Bool.and_eq_true, decide_eq_true_eq];omega
   · rw [if_neg (by omega), pY]
     refine ⟨fun x hx => (h2 x hx).2, List.pairwise_cons.2 ⟨fun y hy => ?_, h3⟩⟩;obtain ⟨x, hx, rfl⟩ := List.mem_map.1 hy;exact uT (h2 x hx).2.1
end Go.Proofs.YtapcjnoaofmmiaaGreatDoor.Wr
namespace Go.Proofs.YtapcjnoaofmmiaaGreatDoor
open Go.RowKit
theorem If {A : Nat -> Wr.AD} {n : Nat} (h : bG lsS (Wr.nmD (Wr.fromA A n 0))) : Wr.RiseA A n := by
 intro i j hij hj;have e : Wr.nmD (Wr.fromA A n 0) = (List.range n).map (fun j => (A j).m) := by simp [Wr.nmD, Wr.fromA]
 rw [e] at h;exact mL h hij (by rw [List.getElem?_map, List.getElem?_range (by omega)]; rfl) (by rw [List.getElem?_map, List.getElem?_range hj]; rfl)
def Et (A : Nat -> Wr.AD) (n : Nat) (x : ByteArray) : Option Int :=
 match (List.range n).find? (fun j => decide ((A j).m = x)) with
 | some j => if (A j).k = 1 then some (A j).n else none
 | none => none
theorem IU {A : Nat -> Wr.AD} {n : Nat} (hR : Wr.RiseA A n) (hN : ∀ j, j < n -> aW (A j).n) : C9 A n (Et A n) where
 yes := fun j hj => by
  unfold Et;cases hf : (List.range n).find? (fun i => decide ((A i).m = (A j).m)) with
  | none =>
    rw [List.find?_eq_none] at hf;have := hf j (List.mem_range.2 hj);simp at this
  | some i =>
    have h1 := List.find?_some hf;have h2 := List.mem_range.1 (List.mem_of_find?_eq_some hf);have hm : (A i).m = (A j).m := by simpa using h1
    have hij : i = j := by
     rcases Nat.lt_trichotomy i j with h | h | h
     · have := hR i j h hj; rw [hm, eQ.irrefl] at this; cases this
     · exact h
     · have := hR j i h h2; rw [hm, eQ.irrefl] at this; cases this
    subst hij;rfl
 no := fun x h => by
  unfold Et;rw [List.find?_eq_none.2 (fun j hj => by simpa using h j (List.mem_range.1 hj))]
 fit := fun x v h => by
  unfold Et at h
  split at h
  · rename_i j hf
    have h2 := List.mem_range.1 (List.mem_of_find?_eq_some hf)
    split at h
    · cases h; exact hN j h2
    · cases h
  · cases h
section
open Go.RowKit
def l4 : List RW -> Bool
 | [] => true
 | r :: l => Wr.goodL r.n r.A && l4 l
def sS (rs : List RW) : Bool := decide (rs.length <= 70) && l4 rs
set_option maxHeartbeats 8000000 in
set_option maxRecDepth 100000 in
theorem xB (rs : List RW) (ya : Option Addr) (yc : Nat) (w : World) (hS : ∀ r ∈ rs, ∀ j, j < r.n -> Wr.SizA (r.A j)) (hy : aX w ya rs) (hl : rs.length <= 9223372036854775807) :
 Calls Tryz.prog 19 #[.slice ya rs.length yc] w fun e w' => e = .returned (.bool (sS rs)) /\ Below w.heap.size w w' := by
 obtain ⟨r, hR⟩ : ∃ r, sS rs = r := ⟨_, rfl⟩;rw [hR];unfold sS at hR;have HS := aA hS;have HY := aA hy;clear hS hy
 by_cases h70 : rs.length <= 70
 · have T0 := aA (show l4 (rs.drop 0) = r by rw [List.drop_zero, <- hR, decide_eq_true h70]; rfl)
   have l1 : ¬ (70 : Int) < (rs.length : Int) := by omega
   have B0 := aA (Below.refl w.heap.size w);clear hR
   go_enter Tryz.func19, Tryz.ntmps19
   go_wp2_with fail
   go_loopw [3] (fun i wr => ∃ (k : Nat), i = .int .i64 k /\ k <= rs.length /\ Hid (l4 (rs.drop k) = r) /\ Hid (Below w.heap.size w wr)) (fun i _ => rs.length - (intOf i).toNat)
   case atStart => exact ⟨0, rfl, Nat.zero_le _, T0, B0⟩
   case round =>
    obtain ⟨k, rfl, hk, HT, HB⟩ := hrel
    by_cases hlt : k < rs.length
    · obtain ⟨rw, hrw⟩ : ∃ r, rs[k]? = some r := ⟨_, List.getElem?_eq_getElem hlt⟩
      have hne : ¬ rs = [] := fun e => by rw [e] at hlt; simp at hlt
      obtain ⟨b, off, hya, hbl, hcc⟩ := HY.out.resolve_left hne;subst hya;obtain ⟨y, cy, pc, hry⟩ := hcc k rw hrw
      have hdr : rs.drop k = rw :: rs.drop (k + 1) := by
       obtain ⟨h1, e⟩ := List.getElem?_eq_some_iff.1 hrw;rw [List.drop_eq_getElem_cons h1, e]
      have hT := HT.out;rw [hdr, l4] at hT;have rc := (HB.out.cell (p := ⟨b, off + k, none⟩) hbl).trans pc;have GA := aA (Wr.good_any y rw.n cy rw.A (HS.out rw (List.mem_of_getElem? hrw)) wr (hry.kept HB.out));obtain ⟨z, hz⟩ : ∃ z, Wr.goodL rw.n rw.A = z := ⟨_, rfl⟩;rw [hz] at GA hT;have HT2 := aA hT;have b1 : (k : Int) < (rs.length : Int) := by omega
      have b2 : (0 : Int) <= (k : Int) := by omega
      have b3 : ((k : Int)).toNat = k := by omega
      clear hne hcc hrw pc hry hdr hT hz
      go_wp2_with fail
      refine GA.out.mono ?_;rintro e w2 ⟨rfl, hb⟩;have B2 := aA (HB.out.trans (hb.mono HB.out.size));clear hb GA rc;cases z with
      | false =>
        have TR := aA (show false = r by rw [<- HT2.out]; rfl)
        go_wp2_with fail
        go_ret;exact ⟨congrArg (fun z => Ending.returned (.bool z)) TR.out, B2.out⟩
      | true =>
        have HT3 := aA (show l4 (rs.drop (k + 1)) = r by rw [<- HT2.out, Bool.true_and])
        go_wp2_with fail
        go_roundw
        case rel => exact ⟨k + 1, by go_num, by omega, HT3, B2⟩
        case measure => simp [intOf]; omega
    · have TR := aA (show true = r by rw [<- HT.out, List.drop_of_length_le (by omega)]; rfl)
      have b1 : ¬ (k : Int) < (rs.length : Int) := by omega
      go_wp2_with fail
      go_ret;exact ⟨congrArg (fun z => Ending.returned (.bool z)) TR.out, HB.out⟩
 · have TR := aA (show false = r by rw [<- hR, decide_eq_false h70]; rfl)
   have l1 : (70 : Int) < (rs.length : Int) := by omega
   clear hR
   go_enter Tryz.func19, Tryz.ntmps19
   go_wp2_with fail
   go_ret;exact ⟨congrArg (fun z => Ending.returned (.bool z)) TR.out, Below.refl _ _⟩
def Ho (rs : List RW) : Prop := ∀ r ∈ rs, r.g = Et r.A r.n /\ (∀ j, Wr.SizA (r.A j)) /\ ∀ j, Wr.NumA (r.A j)
theorem vE : ∀ (rs : List RW), l4 rs = true -> ∀ r ∈ rs, Wr.goodL r.n r.A = true
 | [], _, r, h => by cases h
 | q :: l, h, r, hr => by
   rw [l4, Bool.and_eq_true] at h
   rcases List.mem_cons.1 hr with rfl | hr
   · exact h.1
   · exact vE l h.2 r hr
theorem Ac {rs : List RW} (h : sS rs = true) (hc : Ho rs) : rs.length <= 70 /\ ∀ r ∈ rs, fS r.A r.n r.g /\ r.n <= 1000 := by
 unfold sS at h;rw [Bool.and_eq_true, decide_eq_true_eq] at h;refine ⟨h.1, fun r hr => ?_⟩;obtain ⟨hg, hS, hN⟩ := hc r hr;obtain ⟨g1, g2, g3⟩ := (Wr.goodL_iff r.n r.A).1 (vE rs h.2 r hr);rw [Wr.fromA_len] at g1;have hR := If g3
 have hLen : ∀ j, j < r.n -> (r.A j).len <= 1000000 := fun j hj => by
  have := (g2 (r.A j) (List.mem_map.2 ⟨j, List.mem_range.2 hj, by rw [Nat.zero_add]⟩)).1;unfold Wr.FewA at this;omega
 exact ⟨by rw [hg]; exact ⟨IU hR (fun j _ => (hN j).2.1), hR, by omega, hLen⟩, by omega⟩
def rzK : EvR -> Int | .no => 0 | .num _ => 1 | .list _ => 3
def rzN : EvR -> Int | .num n => n | _ => 0
def rzL : EvR -> List Int | .list l => l | _ => []
def Kc : EvR -> Bool | .no => false | _ => true
abbrev rzZ (R : EvR) (j : Nat) : Int := (rzL R).getD j 0
theorem CH {x : AG} (h : iD x = 0) (gs : List (ByteArray -> Option Int)) : (rzL (evG x gs)).length <= 16 := by
 obtain ⟨h1, h2, -⟩ := dY h;unfold cZ at h1;simp only [Bool.or_eq_true, beq_iff_eq] at h1
 rcases h1 with ((((h1 | h1) | h1) | h1) | h1) | h1
 · rw [nA h1]; exact Nat.zero_le _
 · rw [rF h1]; split <;> exact Nat.zero_le _
 · rw [rG h1]; split <;> exact Nat.zero_le _
 · rw [Cz h1]; exact Nat.zero_le _
 · rw [vL h1]; split <;> exact Nat.zero_le _
 · rw [rE h1]
   have := h2 h1;simp only [rzL, List.length_drop];omega
theorem Cx {R : EvR} (hl : (rzL R).length <= 16) {w0 w' : World} {e : Ending} (h : mD R w0 e w') : Below w0.heap.size w0 w' /\ ∃ a c, e = .returned (.tuple #[vlV (rzK R) (rzN R) a (rzL R).length c, .bool (Kc R)]) /\ Wr.Reads w' a (rzL R).length (rzZ R) := by
 obtain ⟨hb, h⟩ := h;refine ⟨hb, ?_⟩;cases R with
 | no => exact ⟨none, 0, h, by unfold maxLen; simp [rzL], .inl rfl⟩
 | num n => exact ⟨none, 0, h, by unfold maxLen; simp [rzL], .inl rfl⟩
 | list l =>
   obtain ⟨a, c, rfl, hx⟩ := h;refine ⟨a, c, rfl, by unfold maxLen; simp only [rzL] at hl |-; omega, hx.imp (fun e => by rw [e]; rfl) ?_⟩;rintro ⟨b, off, rfl, -, -, hc⟩;refine ⟨b, off, rfl, fun j hj => ?_⟩;have hj' : j < l.length := hj;have := hc j l[j] (List.getElem?_eq_getElem hj');rw [this];simp [rzZ, rzL, List.getD, List.getElem?_eq_getElem hj']
theorem kF (a : Int) : Wr.cmpI a a = 0 := by
 unfold Wr.cmpI;rw [if_neg (by omega), if_neg (by omega)]
theorem vP : ∀ l : List Int, Wr.cmpL l l = 0
 | [] => rfl
 | a :: r => by rw [Wr.cmpL, kF, if_pos rfl, vP r]
theorem EZ (a : ByteArray) : Wr.cmpS a a = 0 := by
 unfold Wr.cmpS;have : Op.bytesLess a.toList a.toList = false := eQ.irrefl a;rw [this];rfl
theorem EY (k n : Int) (s : ByteArray) (l : Nat) (z : Nat -> Int) : Wr.cmpV k n s l z k n s l z = 0 := by
 unfold Wr.cmpV;rw [if_pos rfl]
 split
 · exact kF n
 split
 · exact EZ s
 split
 · exact vP _
 · rfl
structure Av (w : World) (x : AG) (p : PA) (ya : Option Addr) (rs : List RW) (V : World) : Prop where
 k : Hh w x p V
 y : aX V ya rs
theorem Av.step {w V V' : World} {x : AG} {p : PA} {ya : Option Addr} {rs : List RW} (h : Av w x p ya rs V) (hb : Below V.heap.size V V') : Av w x p ya rs V' := ⟨h.k.step hb, cQ h.y hb⟩
theorem oF {α : Type} (l : List α) (t i : Nat) (hi : i < l.length) : (l.drop (t % l.length) ++ l.take (t % l.length))[i]? = l[(i + t) % l.length]? := by
 have hr0 : t % l.length < l.length := Nat.mod_lt _ (by omega);have hr1 := hr0;obtain ⟨r, hr'⟩ : ∃ r, t % l.length = r := ⟨_, rfl⟩;have e : (i + t) % l.length = (i + r) % l.length := by rw [<- hr', Nat.add_mod, Nat.mod_eq_of_lt hi]
 rw [hr'] at hr1;rw [e, hr']
 rcases Nat.lt_or_ge i (l.length - r) with h | h
 · rw [List.getElem?_append_left (by rw [List.length_drop]; exact h), List.getElem?_drop, Nat.mod_eq_of_lt (by omega), Nat.add_comm]
 · rw [List.getElem?_append_right (by rw [List.length_drop]; exact h), List.length_drop, List.getElem?_take_of_lt (by omega)]
   have e2 : (i + r) % l.length = i - (l.length - r) := by
    have hr2 : r < l.length := hr1;rw [show i + r = (i - (l.length - r)) + l.length by omega, Nat.add_mod_right, Nat.mod_eq_of_lt (by omega)]
   rw [e2]
theorem Hs {α : Type} {l m : List α} {t : Nat} (hl : m.length = l.length) (h : ∀ i, i < l.length -> m[i]? = l[(i + t) % l.length]?) : m = l.drop (t % l.length) ++ l.take (t % l.length) := by
 apply List.ext_getElem?
 intro i
 rcases Nat.lt_or_ge i l.length with hi | hi
 · rw [h i hi, oF l t i hi]
 · rw [List.getElem?_eq_none (by omega), List.getElem?_eq_none (by simp; omega)]
theorem Bu {a : AG} (h1 : cZ a.fn.data.toList = true) (h2 : ¬ a.fn.data.toList = i7) (h3 : ¬ a.fn.data.toList = aT) {gs ms : List (ByteArray -> Option Int)} {t : Nat} (hl : ms.length = gs.length) (h : ∀ i, i < gs.length -> ms[i]? = gs[(i + t) % gs.length]?) : evG a ms = evG a gs := by
 rw [Hs hl h, GS h1 h2 h3, List.take_append_drop]
theorem Dr {w : World} {ya : Option Addr} {rs : List RW} (h : aX w ya rs) : ∃ vs : List Value, vs.length = rs.length /\ ∀ (j : Nat) (r : RW), rs[j]? = some r -> ∃ b off y cy, ya = some ⟨b, off, none⟩ /\ b < w.heap.size /\ vs[j]? = some (.slice y r.n cy) /\ w.cell? ⟨b, off + j, none⟩ = some (.slice y r.n cy) /\ Wr.ReadsA w y r.n r.A := by
 rcases h with rfl | ⟨b, off, rfl, hb, hc⟩
 · exact ⟨[], rfl, fun j r hj => by simp at hj⟩
 · refine ⟨(List.range rs.length).map (fun j => (w.cell? ⟨b, off + j, none⟩).getD (.bool false)), by simp, fun j r hj => ?_⟩
   obtain ⟨y, cy, c, rd⟩ := hc j r hj;have hl := (List.getElem?_eq_some_iff.1 hj).1;exact ⟨b, off, y, cy, rfl, hb, by rw [List.getElem?_map, List.getElem?_range hl]; simp [c], c, rd⟩
abbrev jB {α : Type} (l : List α) (t : Nat) : List α := l.drop (t % l.length) ++ l.take (t % l.length)
theorem iF {α : Type} (l : List α) (t : Nat) : (jB l t).length = l.length := by
 rcases Nat.eq_zero_or_pos l.length with h | h
 · obtain rfl := List.length_eq_zero_iff.1 h
   simp
 · have := Nat.mod_lt t h
   rw [List.length_append, List.length_drop, List.length_take]; omega
theorem JU : (Tryz.prog.info? 64).map (fun i => (i.zero, i.size, i.bytes)) = some (some (.slice none 0 0), 1, 24) := by kernel_rfl
structure Hd (w : World) (vals : List Value) (k : Nat) (oa : Option Addr) (oc : Nat) (V : World) : Prop where
 b : Below w.heap.size w V
 own : V.ownsRow w.heap.size 64 1 (.slice oa k oc) k (vals.take k)
theorem Hx {w V V3 : World} {vals : List Value} {k : Nat} {oa oa' : Option Addr} {oc oc' : Nat} (h : Hd w vals k oa oc V) {v : Value} (hv : vals[k]? = some v) (hk : aF (fun b => (Value.slice oa k oc).ownBlock = some b) V V3)
 (ho : V3.ownsRow w.heap.size 64 1 (.slice oa' (k + 1) oc') (k + 1) (vals.take k ++ [v])) : Hd w vals (k + 1) oa' oc' V3 := by
 have hl : vals.take (k + 1) = vals.take k ++ [v] := by
  obtain ⟨h1, e⟩ := List.getElem?_eq_some_iff.1 hv;rw [List.take_succ_eq_append_getElem h1, e]
 exact ⟨h.b.trans (hk.below (fun b e => (h.own.lt b e).1) h.b.size), by rw [hl]; exact ho⟩
theorem Fw {w V : World} {ya : Option Addr} {rs : List RW} {vs : List Value} {t : Nat} {oa : Option Addr} {oc : Nat} (hvl : vs.length = rs.length)
 (hv : ∀ (j : Nat) (r : RW), rs[j]? = some r -> ∃ b off y cy, ya = some ⟨b, off, none⟩ /\ b < w.heap.size /\ vs[j]? = some (.slice y r.n cy) /\ w.cell? ⟨b, off + j, none⟩ = some (.slice y r.n cy) /\ Wr.ReadsA w y r.n r.A)
 (h : Hd w (jB vs t) rs.length oa oc V) : aX V oa (jB rs t) := by
 by_cases hn : rs.length = 0
 · have : rs = [] := List.length_eq_zero_iff.1 hn
   subst this;exact .inl (by simp)
 · right
   have ho := h.own;rw [List.take_of_length_le (by rw [iF, hvl]; exact Nat.le_refl _)] at ho
   have at' : ∀ (j : Nat) (r : RW), (jB rs t)[j]? = some r -> ∃ y cy, (jB vs t)[j]? = some (.slice y r.n cy) /\ Wr.ReadsA w y r.n r.A := fun j r hj => by
    have hlt : j < rs.length := by have := (List.getElem?_eq_some_iff.1 hj).1; rwa [iF] at this
    rw [oF rs t j hlt] at hj;obtain ⟨b, off, y, cy, -, -, h1, -, h3⟩ := hv _ r hj;exact ⟨y, cy, by rw [oF vs t j (by rw [hvl]; exact hlt), hvl]; exact h1, h3⟩
   obtain ⟨r0, hr0⟩ : ∃ r, (jB rs t)[0]? = some r := ⟨_, List.getElem?_eq_getElem (by rw [iF]; omega)⟩;obtain ⟨y0, c0, e0, -⟩ := at' 0 r0 hr0;obtain ⟨g, hg, -⟩ := gG ho e0;refine ⟨g, 0, hg, (ho.lt g (by rw [hg]; rfl)).2, fun j r hj => ?_⟩;obtain ⟨y, cy, e1, rd⟩ := at' j r hj;obtain ⟨g', hg', c⟩ := gG ho e1;rw [hg] at hg';cases hg';rw [Nat.zero_add];exact ⟨y, cy, c, rd.kept h.b⟩
theorem Cv (rs : List RW) (t : Nat) : ((jB rs t).map RW.g).length = (rs.map RW.g).length /\ ∀ i, i < (rs.map RW.g).length -> ((jB rs t).map RW.g)[i]? = (rs.map RW.g)[(i + t) % (rs.map RW.g).length]? := by
 refine ⟨by rw [List.length_map, List.length_map, iF], fun i hi => ?_⟩;rw [List.length_map] at hi |-
 rw [List.getElem?_map, List.getElem?_map, oF rs t i hi]
theorem qK : ∀ l : List Wr.AD, Wr.sameAs l l = true
 | [] => rfl
 | a :: r => by rw [Wr.sameAs, qK r]; unfold Wr.sameAD; rw [EY]; simp
theorem AF (n : Nat) (A : Nat -> Wr.AD) : Wr.sameL n n A A = true := by unfold Wr.sameL; rw [qK]; simp
def A12 (K N : Int) (ln : Nat) (Z : Nat -> Int) (_j : Nat) : Wr.AD := ⟨⟨#[97]⟩, K, N, ⟨#[]⟩, ln, Z⟩
abbrev o12 (K N : Int) (a : Option Addr) (ln c : Nat) : Obj := .cells #[.string ⟨#[97]⟩, .int .i64 K, .int .i64 N, .string ⟨#[]⟩, .slice a ln c] 67
theorem Cg {w : World} {b : Nat} {K N : Int} {a : Option Addr} {ln c : Nat} {Z : Nat -> Int} (h : w.heap[b]? = some (o12 K N a ln c)) (hr : Wr.Reads w a ln Z) : Wr.ReadsA w (some ⟨b, 0, none⟩) 1 (A12 K N ln Z) := by
 refine ⟨by unfold maxLen; omega, .inr ⟨b, 0, rfl, fun j hj => ?_⟩⟩;obtain rfl : j = 0 := by omega
 exact ⟨a, c, ⟨by simp [World.cell?, h, A12], by simp [World.cell?, h, A12], by simp [World.cell?, h, A12], by simp [World.cell?, h, A12], by simp [World.cell?, h, A12]⟩, hr⟩
set_option maxHeartbeats 16000000 in
set_option maxRecDepth 100000 in
theorem tP (x : AG) (p : PA) (rs : List RW) (ya : Option Addr) (yc : Nat) (t : Nat) (hB : Fk x) (hle : rs.length <= maxLen) (hC : Ho rs) (ht : t < 256) (w : World) (hr : aJ (fun b => b < w.heap.size) w x p) (hy : aX w ya rs) (hw : mC w) :
 Calls Tryz.prog 6 #[agV x p, .slice ya rs.length yc, .int .u8 t] w fun e w' => e = .returned (.bool true) /\ Below w.heap.size w w' := by
 have K0 : Av w x p ya rs (w.alloc (agP x p)) := ⟨Gl hw hr, cQ hy ((Below.refl _ w).alloc (Nat.le_refl _) _)⟩;generalize hW : w.alloc (agP x p) = W at K0;have HW := aA hW;have KN := aA (zW W K0.k.l);have HK := aA K0;have HB := aA hB;have HC := aA hC;have GA := aA (p := ∀ V, Av w x p ya rs V -> Calls Tryz.prog 19 #[.slice ya rs.length yc] V fun e w' => e = .returned (.bool (sS rs)) /\ Below V.heap.size V w') (fun V hV => xB rs ya yc V (fun r h j _ => (hC r h).2.1 j) hV.y (by unfold maxLen at hle; omega));clear hW K0 hr hw hB hy hC hle
 go_enter Tryz.func6, Tryz.ntmps6
 go_upto_region 1 with fail
 rw [show w.alloc (.cells #[.string x.fn, .int .i64 x.k, .string x.e.op, .string x.e.nm, .int .i64 x.e.n, .slice p.ea x.e.ks.len p.ec, .string x.g.op, .string x.g.nm, .int .i64 x.g.n, .slice p.ga x.g.ks.len p.gc, .slice p.wa x.wh.length p.wc] 28) = W from HW.out]
 go_wp2_with fail
 refine KN.out.mono ?_;rintro e w1 ⟨rfl, hb⟩;have K1 := aA (HK.out.step hb);clear hb HK HW KN;obtain ⟨m0, m1, m2, m3, m4, m5, m6, m7, m8, m9, m10⟩ := aD K1.out.k.n;have FW := aA (GJ x p w1 HB.out.ln K1.out.k.r);cases hf : EH x with
 | false =>
   rw [hf] at FW;clear hf
   go_wp2_with fail
   refine FW.out.mono ?_;rintro e w2 ⟨rfl, hb⟩;have K2 := aA (K1.out.step hb);clear hb
   go_wp2_with fail
   go_ret;exact ⟨rfl, K2.out.k.b⟩
 | true =>
   rw [hf] at FW;have HG := aA (EG hf HB.out.ln);clear hf
   go_wp2_with fail
   refine FW.out.mono ?_;rintro e w2 ⟨rfl, hb⟩;have K2 := aA (K1.out.step hb);clear hb K1 FW m0 m1 m2 m3 m4 m5 m6 m7 m8 m9 m10;obtain ⟨m0, m1, m2, m3, m4, m5, m6, m7, m8, m9, m10⟩ := aD K2.out.k.n;have CO := aA (p := ∀ V, Av w x p ya rs V -> Calls Tryz.prog 12 #[agV x p] V fun e w' => ∃ p', e = .returned (agV x p') /\ aJ (fun b => V.heap.size <= b) w' x p' /\ Below V.heap.size V w') (fun V hV => F7 x p V HG.out.1 hV.k.r);have OF := aA (CO.out w2 K2.out)
   go_wp2_with fail
   refine OF.out.mono ?_;rintro e w3 ⟨q, rfl, hr3, hb⟩;have K3 := aA (K2.out.step hb);have CK := aA (t6 x q w3 HG.out.2 hr3);clear hb hr3 K2 OF m0 m1 m2 m3 m4 m5 m6 m7 m8 m9 m10;obtain ⟨er, her⟩ : ∃ r, iD x = r := ⟨_, rfl⟩;rw [her] at CK;have HER := aA her;clear her
   go_wp2_with fail
   refine CK.out.mono ?_;rintro e w4 ⟨rfl, hb⟩;have K4 := aA (K3.out.step hb);clear hb K3 CK
   by_cases h0 : er = 0
   · subst h0
     have G4 := aA (GA.out w4 K4.out);cases hg : sS rs with
     | false =>
       rw [hg] at G4;clear hg
       go_wp2_with fail
       refine G4.out.mono ?_;rintro e w5 ⟨rfl, hb⟩;have K5 := aA (K4.out.step hb);clear hb
       go_wp2_with fail
       go_ret;exact ⟨rfl, K5.out.k.b⟩
     | true =>
       rw [hg] at G4;have HU := aA (Ac hg HC.out);clear hg
       go_wp2_with fail
       refine G4.out.mono ?_;rintro e w5 ⟨rfl, hb⟩;have K5 := aA (K4.out.step hb);clear hb K4 G4 GA;obtain ⟨m0, m1, m2, m3, m4, m5, m6, m7, m8, m9, m10⟩ := aD K5.out.k.n;cases h1 : (x.fn.toList == [115, 117, 109]) with
       | true =>
         go_wp2_with fail
         go_ret;exact ⟨rfl, K5.out.k.b⟩
       | false =>
         cases h2 : (x.fn.toList == [102, 105, 114, 115, 116]) with
         | true =>
           go_wp2_with fail
           go_ret;exact ⟨rfl, K5.out.k.b⟩
         | false =>
           have nS : ¬ x.fn.data.toList = i7 := fun e => by rw [Lib.toList_data, e] at h1; revert h1; decide
           have nF : ¬ x.fn.data.toList = aT := fun e => by rw [Lib.toList_data, e] at h2; revert h2; decide
           have TURN := aA (Bu (dY HER.out).1 nS nF (Cv rs t).1 (Cv rs t).2);obtain ⟨vs, hvl, hvv⟩ := Dr K5.out.y;have VL := aA hvl;have VV := aA hvv;have T0 := aA (show Hd w5 (jB vs t) 0 none 0 w5 from ⟨Below.refl _ _, ⟨rfl, .inl ⟨rfl, rfl⟩⟩⟩);have und := Tryz.underlying49;obtain ⟨i, hi, hz0, hz1, hz2⟩ := Em JU;clear nS nF hvl hvv
           go_wp2_with fail
           clear h1 h2 m0 m1 m2 m3 m4 m5 m6 m7 m8 m9 m10
           go_loopw [7, 8] (fun v i wr => ∃ (k : Nat) (oa : Option Addr) (oc : Nat), v = .slice oa k oc /\ i = .int .i64 k /\ k <= rs.length /\ Hid (Hd w5 (jB vs t) k oa oc wr)) (fun _ i _ => rs.length - (intOf i).toNat)
           case atStart => exact ⟨0, none, 0, rfl, rfl, Nat.zero_le _, T0⟩
           case round =>
            obtain ⟨k, oa, oc, rfl, rfl, hk, HT⟩ := hrel;clear T0
            by_cases hlt : k < rs.length
            · have hn70 := HU.out.1
              obtain ⟨d, hd⟩ : ∃ d, (k + t) % rs.length = d := ⟨_, rfl⟩;have hdl : d < rs.length := by rw [<- hd]; exact Nat.mod_lt _ (by omega)
              obtain ⟨r, hr⟩ : ∃ r, rs[d]? = some r := ⟨_, List.getElem?_eq_getElem hdl⟩;obtain ⟨b, off, y, cy, hya, hbl, hv1, hc1, -⟩ := VV.out d r hr;subst hya;have hvk : (jB vs t)[k]? = some (.slice y r.n cy) := by rw [oF vs t k (by rw [VL.out]; exact hlt), VL.out, hd]; exact hv1
              have rc := (HT.out.b.cell (p := ⟨b, off + d, none⟩) hbl).trans hc1;have HVK := aA hvk;have b1 : (k : Int) < (rs.length : Int) := by omega
              have b4 : (d : Int) < (rs.length : Int) := by omega
              have b5 : (0 : Int) <= (d : Int) := by omega
              have b6 : ((d : Int)).toNat = d := by omega
              have b7 : Int.tmod ((k : Int) + (t : Int)) (rs.length : Int) = (d : Int) := by
               rw [<- hd, Int.tmod_eq_emod_of_nonneg (by omega)];exact (Int.natCast_emod (k + t) rs.length).symm
              have b8 : ¬ (rs.length : Int) = 0 := by omega
              have OWN := aA (HT.out.own.alloc (.cells #[.slice y r.n cy] 64));have HZ := aA (show w5.heap.size <= (wr.alloc (.cells #[.slice y r.n cy] 64)).heap.size by rw [World.size_alloc]; have := HT.out.b.size; omega);have NEW := aA (show Hi (wr.alloc (.cells #[.slice y r.n cy] 64)) (.slice (some ⟨wr.heap.size, 0, none⟩) 1 1) 1 [.slice y r.n cy] from Gx ((cell_of_row _ _ _ _ _ (0, 0) (heap_alloc_new wr _)).trans rfl));have hk9 : k <= 1000 := by omega
              clear hd hr hv1 hc1 hvk
              go_wp2_with (first
               | (at_builtin
                  refine aQ rfl _ _ 49 rfl (base := w5.heap.size) und hi hz0 hz1 hz2 rfl (by decide) (.slice oa k oc) k 1 1 ⟨wr.heap.size, 0, none⟩ ((jB vs t).take k) [.slice y r.n cy] rfl rfl OWN.out rfl (by rcases NEW.out with h | ⟨a, c, e, -, h⟩; cases h.1; cases e; exact h) (fun u hu => by rw [List.mem_singleton.1 hu]; rfl) (by unfold maxLen; omega) (by omega) HZ.out ?_;intro v4 w4 ho hg hn;obtain ⟨oa', oc', hv⟩ := cJ ho;subst hv;have KA := ((aF.refl (fun b => (Value.slice oa k oc).ownBlock = some b) wr).alloc (.cells #[.slice y r.n cy] 64)).grown hg (fun k hk => .inl hk);have T1 := aA (Hx HT.out HVK.out KA ho);clear ho hg hn KA)
               | fail)
              exact ⟨⟨k + 1, _, _, rfl, by go_num, by omega, T1⟩, by simp [intOf]; omega⟩
            · obtain rfl : k = rs.length := by omega
              have b1 : ¬ (rs.length : Int) < (rs.length : Int) := by omega
              have K6 := aA (K5.out.step HT.out.b);have HM := aA (Fw VL.out VV.out HT.out);clear HT VV VL K5;have E0 := fun (V : World) (hV : Av w x p ya rs V) => (oS x p rs ya yc V HER.out HB.out.nums HG.out.2 (fun r h => (HU.out.2 r h).1) (by have := HU.out.1; omega) hV.k.r hV.y).mono fun e w' h => Cx (CH HER.out _) h
              have F0 := fun (V : World) (hV : Av w x p ya rs V) (hM : aX V oa (jB rs t)) => (oS x p (jB rs t) oa oc V HER.out HB.out.nums HG.out.2 (fun r h => (HU.out.2 r (by
               rcases List.mem_append.1 h with h | h
               · exact List.mem_of_mem_drop h
               · exact List.mem_of_mem_take h)).1) (by rw [iF]; have := HU.out.1; omega) hV.k.r hM).mono fun e w' h => Cx (CH HER.out _) h
              rw [iF, TURN.out] at F0;obtain ⟨K, hK⟩ : ∃ K, rzK (evG x (rs.map RW.g)) = K := ⟨_, rfl⟩;obtain ⟨N, hN⟩ : ∃ N, rzN (evG x (rs.map RW.g)) = N := ⟨_, rfl⟩;obtain ⟨ln, hln⟩ : ∃ l, (rzL (evG x (rs.map RW.g))).length = l := ⟨_, rfl⟩;obtain ⟨Z, hZ⟩ : ∃ Z, rzZ (evG x (rs.map RW.g)) = Z := ⟨_, rfl⟩;obtain ⟨ok, hok⟩ : ∃ o, Kc (evG x (rs.map RW.g)) = o := ⟨_, rfl⟩;rw [hK, hN, hln, hok, hZ] at E0 F0;have EV := aA E0;have FV := aA F0;clear E0 F0 hK hN hln hZ hok HU TURN;obtain ⟨m0, m1, m2, m3, m4, m5, m6, m7, m8, m9, m10⟩ := aD K6.out.k.n;have E5 := aA (EV.out wr K6.out)
              go_wp2_with fail
              refine E5.out.mono ?_;rintro e w6 ⟨hb, a5, c5, rfl, rd5⟩;have BA := (Below.refl w6.heap.size w6).alloc (Nat.le_refl _) (vlA K N a5 ln c5);have N6 := heap_alloc_new w6 (vlA K N a5 ln c5);have R6 := rd5.kept BA;have S6 := (K6.out.step hb).step BA;have M6 := cQ (cQ HM.out hb) BA;generalize hW6 : w6.alloc (vlA K N a5 ln c5) = W6 at N6 R6 S6 M6;generalize hB5 : w6.heap.size = B5 at N6;have HW6 := aA hW6;have HB5 := aA hB5;have HN6 := aA N6;have HR6 := aA R6;have HS6 := aA S6;have E6 := aA (FV.out W6 S6 M6);clear hb rd5 BA N6 R6 S6 M6 hW6 hB5 E5 EV FV K6 HM m0 m1 m2 m3 m4 m5 m6 m7 m8 m9 m10
              go_upto_region 11 with fail
              rw [show w6.alloc (.cells #[.int .i64 K, .int .i64 N, .string ⟨#[]⟩, .slice a5 ln c5] 53) = W6 from HW6.out, HB5.out];clear HW6 HB5;obtain ⟨m0, m1, m2, m3, m4, m5, m6, m7, m8, m9, m10⟩ := aD HS6.out.k.n
              go_wp2_with fail
              refine E6.out.mono ?_;rintro e w7 ⟨hb, a7, c7, rfl, rd7⟩;have BA := (Below.refl w7.heap.size w7).alloc (Nat.le_refl _) (vlA K N a7 ln c7);have N7 := heap_alloc_new w7 (vlA K N a7 ln c7);have R7 := rd7.kept BA;have S7 := (HS6.out.step hb).step BA;have N6' := (BA.block _ (aC ((hb.block _ (aC HN6.out)).trans HN6.out))).trans ((hb.block _ (aC HN6.out)).trans HN6.out);have R6' := (HR6.out.kept hb).kept BA;generalize hW7 : w7.alloc (vlA K N a7 ln c7) = W7 at N7 R7 S7 N6' R6';generalize hB7 : w7.heap.size = B7 at N7;have HW7 := aA hW7;have HB7 := aA hB7;have HNA := aA N7;have HNB := aA N6';have HRA := aA R7;have HRB := aA R6';have HS7 := aA S7;clear hb rd7 BA N7 R7 S7 N6' R6' hW7 hB7 E6 HS6 HN6 HR6 m0 m1 m2 m3 m4 m5 m6 m7 m8 m9 m10
              go_upto_region 12 with fail
              rw [show w7.alloc (.cells #[.int .i64 K, .int .i64 N, .string ⟨#[]⟩, .slice a7 ln c7] 53) = W7 from HW7.out, HB7.out];clear HW7 HB7;have NB := HNB.out;have NA := HNA.out;obtain ⟨⟨u0, u1, u2, u3⟩, -⟩ := aK NB;obtain ⟨⟨v0, v1, v2, v3⟩, -⟩ := aK NA;have B1 := (Below.refl W7.heap.size W7).alloc (Nat.le_refl _) (o12 K N a5 ln c5);have N1 := heap_alloc_new W7 (o12 K N a5 ln c5);have s1 : (W7.alloc (o12 K N a5 ln c5)).heap.size = W7.heap.size + 1 := World.size_alloc _ _;obtain ⟨⟨v0', v1', v2', v3'⟩, -⟩ := aK ((B1.block _ (aC NA)).trans NA);generalize hX1 : W7.alloc (o12 K N a5 ln c5) = X1 at B1 N1 s1 v0' v1' v2' v3';have B2 := (Below.refl X1.heap.size X1).alloc (Nat.le_refl _) (o12 K N a7 ln c7);have N2 := heap_alloc_new X1 (o12 K N a7 ln c7);have N1' := (B2.block _ (aC N1)).trans N1;have R1 := (HRB.out.kept B1).kept B2;have R2 := (HRA.out.kept B1).kept B2;have SS := (HS7.out.step B1).step B2;generalize hX2 : X1.alloc (o12 K N a7 ln c7) = X2 at B2 N2 N1' R1 R2 SS;have SA := Wr.sameAttrs_any (some ⟨W7.heap.size, 0, none⟩) (some ⟨X1.heap.size, 0, none⟩) 1 1 1 1 (A12 K N ln Z) (A12 K N ln Z) (by decide) X2 (Cg N1' R1) (Cg N2 R2);rw [AF, s1] at SA;have SAH := aA SA;have SSH := aA SS;have g1 : (ok == ok) = true := by simp
              clear SA SS R1 R2 N1 N1' N2 B1 B2 NA NB HNA HNB HRA HRB HS7
              go_wp2_with fail
              refine SAH.out.mono ?_;rintro e w8 ⟨rfl, hb⟩;have HE := aA ((SSH.out.step hb).k.b);clear hb
              go_wp2_with fail
              go_ret;exact ⟨rfl, HE.out⟩
   · have e1 : (er == 0) = false := by simpa using h0
     have e2 : (er != 0) = true := by simpa using h0
     go_wp2_with fail
     go_ret;exact ⟨rfl, K4.out.k.b⟩
end
section
open Go.ChangeShapes Go.WideShapes Go.ChangeAt Go.RowKit
theorem DI : ownKnob Tryz.prog.godebug = none := by kernel_rfl
theorem vA : laidOutB Tryz.prog = true := by kernel_rfl
theorem qS {w : World} {n : String} {g : Nat} {cs : Array Value} (hg : Tryz.prog.globalNamed n = some g) (h : w.var? Tryz.prog n = some cs) : ∃ t f, w.heap[g]? = some (.cells cs t f) := by
 unfold World.var? at h;rw [hg] at h;simp only [Option.bind_some] at h
 split at h
 · rename_i cs' t f e
   cases h;exact ⟨t, f, e⟩
 · cases h
abbrev nO : List (String × DataW Unit) := Rows.aggNoneRow.laid
theorem yQ : "*" ++ "errors.errorString" = "*errors.errorString" := by decide
theorem Ic (u : TypeId) (h : Tryz.prog.typeName? 3 u = some "*errors.errorString") : u = 288 :=
 typeName_ptr_named (nm := "errors.errorString") (by rw [yQ]; kernel_rfl) (by kernel_rfl) (by decide) u (by rw [yQ]; exact h)
theorem Gh {W : World} (h : laidMetH Tryz.prog nO W) : jI W := by
 rw [MakeChecks.laidMetH_plain _ _ _ (by kernel_rfl)] at h;have h2 := h.tail.tail;have htab := Lib.tabIs_of_head (g := 1) (k := .u64) (zs := Lib.pow10Tab) (by kernel_rfl) (by kernel_rfl) Tryz.underlying249 Tryz.underlying203 (by kernel_rfl) (by kernel_rfl) h2;unfold Lib.TabIs World.var? at htab;rw [show Tryz.prog.globalNamed "internal/strconv.uint64pow10" = some 1 by kernel_rfl] at htab;simp only [Option.bind_some] at htab
 split at htab
 · rename_i cs' t f e
   cases htab;exact ⟨t, f, e⟩
 · cases htab
theorem Gg {W : World} (h : laidMetH Tryz.prog nO W) : gP W := by
 rw [MakeChecks.laidMetH_plain _ _ _ (by kernel_rfl)] at h;have h4 := h.tail.tail.tail;have h5 := h4.tail;have hrow : ∀ u, Tryz.prog.typeName? 3 u = some "*errors.errorString" -> u = 288 := Ic;obtain ⟨a0, s0, v0, -, -, -⟩ := laid_sentinel (g := 3) h4 (by kernel_rfl) (by kernel_rfl) Tryz.underlying114 hrow Tryz.underlying288 Tryz.underlying290 rfl rfl Tryz.underlying9 (by kernel_rfl) (by kernel_rfl);obtain ⟨a1, s1, v1, -, -, -⟩ := laid_sentinel (g := 2) h5 (by kernel_rfl) (by kernel_rfl) Tryz.underlying114 hrow Tryz.underlying288 Tryz.underlying290 rfl rfl Tryz.underlying9 (by kernel_rfl) (by kernel_rfl);obtain ⟨t1, f1, p1⟩ := qS (g := 3) (by kernel_rfl) v0;obtain ⟨t2, f2, p2⟩ := qS (g := 2) (by kernel_rfl) v1;exact ⟨⟨_, _, t2, f2, p2⟩, ⟨_, _, t1, f1, p1⟩⟩
theorem Gf {W : World} (h : laidMetH Tryz.prog nO W) : mC W := ⟨Gg h, Gh h⟩
theorem Ka {n : Int} (h : (Lit.int .u8 n).wf = true) : ∃ t : Nat, t < 256 /\ n = t := by
 simp [Lit.wf, IntKind.min, IntKind.max, IntKind.bits, IntKind.signed] at h;exact ⟨n.toNat, by omega, by omega⟩
theorem AE (os : Os) (args : Array Value) : laidMetH Tryz.prog nO ((World.laidAll Tryz.prog os nO).forCall (fun _ _ => 0) ⟨#[], args, []⟩).memory := by
 rw [MakeChecks.laidMetH_plain _ _ _ (by kernel_rfl)];exact laidMet_laidAll _ (by kernel_rfl) (by kernel_rfl)
theorem tY (os : Os) : (World.laidAll Tryz.prog os nO).Shaped Tryz.prog := World.shaped_of_ZipB (by kernel_rfl) (by kernel_rfl)
end
end Go.Proofs.YtapcjnoaofmmiaaGreatDoor
