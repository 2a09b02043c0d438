/-
 Proved: of no rows: none are counted, the sum is nought, there is no least
-/
import Derived.Test.YtapcjnoaofmmiaaGreatDoorVN27
import Derived.Test.YtapcjnoaofmmiaaGreatDoorTie
import Derived.ProofKit
import Derived.OpenShut
import Derived.LaidMore
import Derived.Lay
import Derived.SevenTiedAt
import Derived.Stop.Joined
import Derived.Stop.LaidErr
import Derived.Lib.LaidTab
import Derived.Carry
import Derived.Test.YtapcjnoaofmmiaaGreatDoorCards
import Derived.ShutString
import Derived.ChangeOld
namespace Go.Proofs.YtapcjnoaofmmiaaGreatDoor
section
open Go.RowKit Go.ChangeShapes Go.WideShapes Go.Deep
theorem oU : Tryz.prog.cellsOf 25 = 4 := by kernel_rfl
def mM : F -> Prop
 | .nil => True
 | .cons o m n ks r => o.size <= maxLen /\ m.size <= maxLen /\ bE n /\ ks.len <= maxLen /\ mM ks /\ mM r
theorem mM.lens : ∀ {f : F}, mM f -> mL f
 | .nil, _ => trivial
 | .cons _ _ _ _ _, ⟨_, _, _, h, hk, hr⟩ => ⟨by unfold maxLen at h; omega, hk.lens, hr.lens⟩
theorem mM.nums : ∀ {f : F}, mM f -> dR f
 | .nil, _ => trivial
 | .cons _ _ _ _ _, ⟨_, _, h, _, hk, hr⟩ => ⟨by unfold bE at h; omega, hk.nums, hr.nums⟩
theorem vR {n : Int} (h : (Lit.int .i64 n).wf = true) : bE n := by
 simp [Lit.wf, IntKind.min, IntKind.max, IntKind.bits, IntKind.signed] at h;exact ⟨by omega, by omega⟩
set_option maxRecDepth 100000 in
theorem kN {H : Type} {enc : TypeId × Value -> H} {W : World} : ∀ (n : Nat) (cs : List Value) (x : DataW H × List MemPlace), DataW.trod enc Tryz.prog W 0 (fun _ => true) true n 25 cs = some x ->
 ∃ (o m : ByteArray) (k : Int) (a : Option Addr) (ks : F) (c : Nat), cs = [.string o, .string m, .int .i64 k, .slice a ks.len c] /\ (o.size <= maxLen /\ m.size <= maxLen /\ bE k /\ ks.len <= maxLen /\ mM ks) /\ aH (fun b => b < W.heap.size) W a ks := by
 intro n
 induction n using Nat.strongRecOn with
 | ind n ih =>
   intro cs x h;obtain ⟨ys, m, hn, -, hlen, hyl, hf⟩ := DataW.trod_struct Tryz.underlying25 h;rw [oU] at hlen
   match cs, hlen with
   | [c0, c1, c2, c3], _ =>
     have y4 : ys.length = 4 := hyl
     match ys, y4 with
     | [y0, y1, y2, y3], _ =>
       have h0 : DataW.trod enc Tryz.prog W 0 (fun _ => true) true m 9 [c0] = some y0 := hf 0 _ rfl;have h1 : DataW.trod enc Tryz.prog W 0 (fun _ => true) true m 9 [c1] = some y1 := hf 1 _ rfl;have h2 : DataW.trod enc Tryz.prog W 0 (fun _ => true) true m 2 [c2] = some y2 := hf 2 _ rfl;have h3 : DataW.trod enc Tryz.prog W 0 (fun _ => true) true m 23 [c3] = some y3 := hf 3 _ rfl;obtain ⟨o, e0, -, w0⟩ := DataW.trod_string Tryz.underlying9 h0;obtain ⟨s, e1, -, w1⟩ := DataW.trod_string Tryz.underlying9 h1;obtain ⟨k, e2, -, w2⟩ := DataW.trod_int Tryz.underlying2 h2;cases e0; cases e1; cases e2
       rcases DataW.trod_slice Tryz.underlying23 h3 with ⟨hcs, -⟩ | ⟨a, len, cap, elems, rest, q, hq, hcs, -, -, hl, hc, hel, hat, -, -⟩
       · cases hcs
         exact ⟨o, s, k, none, .nil, 0, rfl, ⟨w0, w1, vR w2, Nat.zero_le _, trivial⟩, .inl rfl⟩
       · cases hcs
         have hqn : q < n := by omega
         have hsp : 0 < len -> a.spot = none := by
          intro h0;have hj2 := hat 0 h0;rw [List.getElem?_eq_getElem (by omega), Option.bind_eq_some_iff] at hj2;obtain ⟨cs', hcs', -⟩ := hj2;rw [oU] at hcs';obtain ⟨-, hl4, hcl⟩ := World.cells?_some hcs';have p1 := hcl 0 (by omega);rw [List.getElem?_eq_getElem (by omega)] at p1;simpa [Addr.add] using World.cell?_spot p1
         have main : ∀ d j, j + d = len -> ∃ f : F, f.len = d /\ mM f /\ (f = .nil \/ ∃ b off, a = ⟨b, off, none⟩ /\ dV (fun b => b < W.heap.size) W f b (off + j * 4)) := by
          intro d
          induction d with
          | zero => exact fun j _ => ⟨.nil, rfl, trivial, .inl rfl⟩
          | succ d ihd =>
            intro j hj;obtain ⟨g, hg, hgb, hgr⟩ := ihd (j + 1) (by omega);have hj2 := hat j (by omega);rw [List.getElem?_eq_getElem (by omega), Option.bind_eq_some_iff] at hj2;obtain ⟨cs', hcs', ht⟩ := hj2;obtain ⟨o2, m2, k2, a2, ks2, c2, rfl, hb2, hr2⟩ := ih q hqn cs' _ ht;rw [oU] at hcs';obtain ⟨-, -, hcl⟩ := World.cells?_some hcs';have e : ∀ i, (a.add (j * 4)).add i = a.add (j * 4 + i) := fun i => Go.Deep.add_add _ _ _
            have p0 : W.cell? (a.add (j * 4 + 0)) = some (.string o2) := by have := hcl 0 (by omega); rw [e 0] at this; exact this
            have p1 : W.cell? (a.add (j * 4 + 1)) = some (.string m2) := by have := hcl 1 (by omega); rw [e 1] at this; exact this
            have p2 : W.cell? (a.add (j * 4 + 2)) = some (.int .i64 k2) := by have := hcl 2 (by omega); rw [e 2] at this; exact this
            have p3 : W.cell? (a.add (j * 4 + 3)) = some (.slice a2 ks2.len c2) := by have := hcl 3 (by omega); rw [e 3] at this; exact this
            obtain ⟨b, off, spot⟩ := a;have hspot : spot = none := hsp (by omega);subst hspot;rw [Addr.add_lit] at p0 p1 p2 p3;have hlt : b < W.heap.size := World.block_lt_of_cell? W _ p0;refine ⟨.cons o2 m2 k2 ks2 g, by rw [F.len, hg], ⟨hb2.1, hb2.2.1, hb2.2.2.1, hb2.2.2.2.1, hb2.2.2.2.2, hgb⟩, .inr ⟨b, off, rfl, hlt, hlt, ⟨a2, c2, ⟨by simpa using p0, p1, p2, p3⟩, hr2⟩, ?_⟩⟩
            rcases hgr with rfl | ⟨b', off', he, hgr⟩
            · trivial
            · cases he
              rw [show off + j * 4 + 4 = off + (j + 1) * 4 by omega];exact hgr
         obtain ⟨f, hfl, hfb, hfr⟩ := main len 0 (by omega);subst hfl;refine ⟨o, s, k, some a, f, cap, rfl, ⟨w0, w1, vR w2, Nat.le_trans hl hc, hfb⟩, ?_⟩
         rcases hfr with h9 | ⟨b, off, ha9, h9⟩
         · exact .inl h9
         · rw [Nat.zero_mul, Nat.add_zero] at h9
           exact .inr ⟨b, off, by rw [ha9], h9⟩
end
section
open Go.RowKit Go.ChangeShapes Go.WideShapes Go.Deep
theorem uI : Tryz.prog.cellsOf 98 = 9 := by kernel_rfl
theorem FS : Tryz.prog.cellsOf 28 = 11 := by kernel_rfl
def IS (l : List CD) : Prop := ∀ d ∈ l, d.op.size <= maxLen /\ mM d.a.f /\ mM d.b.f
structure DY (x : AG) : Prop where
 fn : x.fn.size <= maxLen
 k : bE x.k
 e : mM x.e.f
 g : mM x.g.f
 wh : x.wh.length <= maxLen
 c : IS x.wh
section
variable {H : Type} {enc : TypeId × Value -> H} {W : World}
set_option maxRecDepth 100000 in
theorem AJ (n : Nat) (cs : List Value) (x : DataW H × List MemPlace) (h : DataW.trod enc Tryz.prog W 0 (fun _ => true) true n 98 cs = some x) :
 ∃ (d : CD) (a1 : Option Addr) (c1 : Nat) (a2 : Option Addr) (c2 : Nat), cs = [.string d.op, .string d.a.op, .string d.a.nm, .int .i64 d.a.n, .slice a1 d.a.ks.len c1, .string d.b.op, .string d.b.nm, .int .i64 d.b.n, .slice a2 d.b.ks.len c2] /\ (d.op.size <= maxLen /\ mM d.a.f /\ mM d.b.f) /\ aH (fun b => b < W.heap.size) W a1 d.a.ks /\ aH (fun b => b < W.heap.size) W a2 d.b.ks := by
 obtain ⟨ys, m, hn, -, hlen, hyl, hf⟩ := DataW.trod_struct Tryz.underlying98 h;rw [uI] at hlen
 match cs, hlen with
 | [c0, c1, c2, c3, c4, c5, c6, c7, c8], _ =>
   have y3 : ys.length = 3 := hyl
   match ys, y3 with
   | [y0, y1, y2], _ =>
     have h0 : DataW.trod enc Tryz.prog W 0 (fun _ => true) true m 9 [c0] = some y0 := hf 0 _ rfl;have h1 : DataW.trod enc Tryz.prog W 0 (fun _ => true) true m 25 [c1, c2, c3, c4] = some y1 := hf 1 _ rfl;have h2 : DataW.trod enc Tryz.prog W 0 (fun _ => true) true m 25 [c5, c6, c7, c8] = some y2 := hf 2 _ rfl;obtain ⟨o, e0, -, w0⟩ := DataW.trod_string Tryz.underlying9 h0;obtain ⟨o1, m1, k1, a1, ks1, n1, e1, ⟨b1, b2, b3, b4, b5⟩, r1⟩ := kN m _ _ h1;obtain ⟨o2, m2, k2, a2, ks2, n2, e2, ⟨d1, d2, d3, d4, d5⟩, r2⟩ := kN m _ _ h2;cases e0;simp only [List.cons.injEq, and_true] at e1 e2;obtain ⟨rfl, rfl, rfl, rfl⟩ := e1;obtain ⟨rfl, rfl, rfl, rfl⟩ := e2;exact ⟨⟨o, ⟨o1, m1, k1, ks1⟩, ⟨o2, m2, k2, ks2⟩⟩, a1, n1, a2, n2, rfl, ⟨w0, ⟨b1, b2, b3, b4, b5, trivial⟩, ⟨d1, d2, d3, d4, d5, trivial⟩⟩, r1, r2⟩
set_option maxRecDepth 100000 in
theorem zD {m : Nat} {c : Value} {y : DataW H × List MemPlace} (h3 : DataW.trod enc Tryz.prog W 0 (fun _ => true) true m 26 [c] = some y) :
 ∃ (l : List CD) (a : Option Addr) (cap : Nat), c = .slice a l.length cap /\ l.length <= maxLen /\ IS l /\ d9 (fun b => b < W.heap.size) W a l := by
 rcases DataW.trod_slice Tryz.underlying26 h3 with ⟨hcs, -⟩ | ⟨a, len, cap, elems, rest, q, hq, hcs, -, -, hl, hc, hel, hat, -, -⟩
 · cases hcs
   exact ⟨[], none, 0, rfl, Nat.zero_le _, (fun d hd => by cases hd), .inl rfl⟩
 · cases hcs
   have one : ∀ j, j < len -> ∃ (d : CD) (a1 : Option Addr) (c1 : Nat) (a2 : Option Addr) (c2 : Nat), (∀ i u, ([.string d.op, .string d.a.op, .string d.a.nm, .int .i64 d.a.n, .slice a1 d.a.ks.len c1, .string d.b.op, .string d.b.nm, .int .i64 d.b.n, .slice a2 d.b.ks.len c2] : List Value)[i]? = some u -> W.cell? (a.add (j * 9 + i)) = some u) /\ (d.op.size <= maxLen /\ mM d.a.f /\ mM d.b.f) /\ aH (fun b => b < W.heap.size) W a1 d.a.ks /\ aH (fun b => b < W.heap.size) W a2 d.b.ks := fun j hj => by
    have hj2 := hat j hj;rw [List.getElem?_eq_getElem (by omega), Option.bind_eq_some_iff] at hj2;obtain ⟨cs', hcs', ht⟩ := hj2;obtain ⟨d, a1, c1, a2, c2, rfl, hb, r1, r2⟩ := AJ q cs' _ ht;rw [uI] at hcs';obtain ⟨-, -, hcl⟩ := World.cells?_some hcs';refine ⟨d, a1, c1, a2, c2, fun i u hu => ?_, hb, r1, r2⟩;have hi : i < 9 := (List.getElem?_eq_some_iff.1 hu).1;have := hcl i (by omega);rw [Go.Deep.add_add] at this;rw [<- hu];exact this
   have main : ∀ k, k <= len -> ∃ l : List CD, l.length = k /\ IS l /\ ∀ j d, l[j]? = some d -> ∃ a1 c1 a2 c2, (∀ i u, ([.string d.op, .string d.a.op, .string d.a.nm, .int .i64 d.a.n, .slice a1 d.a.ks.len c1, .string d.b.op, .string d.b.nm, .int .i64 d.b.n, .slice a2 d.b.ks.len c2] : List Value)[i]? = some u -> W.cell? (a.add (j * 9 + i)) = some u) /\ aH (fun b => b < W.heap.size) W a1 d.a.ks /\ aH (fun b => b < W.heap.size) W a2 d.b.ks := by
    intro k
    induction k with
    | zero => exact fun _ => ⟨[], rfl, (fun d hd => by cases hd), fun j d hj => by simp at hj⟩
    | succ k ih =>
      intro hk;obtain ⟨l, h1, h2, h4⟩ := ih (by omega);obtain ⟨d, a1, c1, a2, c2, g1, g2, g3, g4⟩ := one k (by omega);refine ⟨l ++ [d], by simp [h1], fun x hx => ?_, fun j x hj => ?_⟩
      · rcases List.mem_append.1 hx with hx | hx
        · exact h2 x hx
        · rw [List.mem_singleton.1 hx]; exact g2
      · rcases Nat.lt_or_ge j l.length with hlt | hge
        · rw [List.getElem?_append_left hlt] at hj
          exact h4 j x hj
        · rw [List.getElem?_append_right hge] at hj
          cases hm : j - l.length with
          | zero =>
            rw [hm] at hj;cases hj;obtain rfl : j = k := by omega
            exact ⟨a1, c1, a2, c2, g1, g3, g4⟩
          | succ z => rw [hm] at hj; simp at hj
   obtain ⟨l, h1, h2, h4⟩ := main len (Nat.le_refl _);subst h1;refine ⟨l, some a, cap, rfl, Nat.le_trans hl hc, h2, ?_⟩
   by_cases hne : l = []
   · exact .inl hne
   · obtain ⟨d0, hd0⟩ : ∃ d, l[0]? = some d := by
      cases l with
      | nil => exact absurd rfl hne
      | cons d r => exact ⟨d, rfl⟩
     obtain ⟨_, _, _, _, g, -, -⟩ := h4 0 d0 hd0;have p0 := g 0 _ rfl;have hspot : a.spot = none := by simpa [Addr.add] using World.cell?_spot p0
     obtain ⟨b, off, spot⟩ := a;have hs : spot = none := hspot;subst hs;rw [Addr.add_lit] at p0;have hlt : b < W.heap.size := World.block_lt_of_cell? W _ p0;refine .inr ⟨b, off, rfl, hlt, hlt, fun j d hj => ?_⟩;obtain ⟨a1, c1, a2, c2, g, r1, r2⟩ := h4 j d hj
     have get : ∀ i u, ([.string d.op, .string d.a.op, .string d.a.nm, .int .i64 d.a.n, .slice a1 d.a.ks.len c1, .string d.b.op, .string d.b.nm, .int .i64 d.b.n, .slice a2 d.b.ks.len c2] : List Value)[i]? = some u -> W.cell? ⟨b, off + j * 9 + i, none⟩ = some u := fun i u hu => by
      have := g i u hu;rw [Addr.add_lit] at this;rw [show off + j * 9 + i = off + (j * 9 + i) by omega];exact this
     exact ⟨a1, c1, a2, c2, ⟨get 0 _ rfl, get 1 _ rfl, get 2 _ rfl, get 3 _ rfl, get 4 _ rfl, get 5 _ rfl, get 6 _ rfl, get 7 _ rfl, get 8 _ rfl⟩, r1, r2⟩
set_option maxRecDepth 100000 in
/-- A fold that came in, opened. -/
theorem IM {base : Nat} {v : Value} {d : DataW H} {p : List MemPlace} (hv : Value.okWide Tryz.prog W .any base 28 v) (h : DataW.Trod enc Tryz.prog W 0 (fun _ => true) true 28 v d p) :
 ∃ (x : AG) (q : PA), v = agV x q /\ DY x /\ aJ (fun b => b < W.heap.size) W x q := by
 obtain ⟨cs, rfl, hsz⟩ := okWide_struct Tryz.underlying28 hv;obtain ⟨fuel, hf⟩ := h;obtain ⟨l⟩ := cs;obtain ⟨ys, m, hn, -, hlen, hyl, hf⟩ := DataW.trod_struct Tryz.underlying28 hf;rw [FS] at hlen
 match l, hlen with
 | [c0, c1, c2, c3, c4, c5, c6, c7, c8, c9, c10], _ =>
   have y5 : ys.length = 5 := hyl
   match ys, y5 with
   | [y0, y1, y2, y3, y4], _ =>
     have h0 : DataW.trod enc Tryz.prog W 0 (fun _ => true) true m 9 [c0] = some y0 := hf 0 _ rfl;have h1 : DataW.trod enc Tryz.prog W 0 (fun _ => true) true m 2 [c1] = some y1 := hf 1 _ rfl;have h2 : DataW.trod enc Tryz.prog W 0 (fun _ => true) true m 25 [c2, c3, c4, c5] = some y2 := hf 2 _ rfl;have h3 : DataW.trod enc Tryz.prog W 0 (fun _ => true) true m 25 [c6, c7, c8, c9] = some y3 := hf 3 _ rfl;have h4 : DataW.trod enc Tryz.prog W 0 (fun _ => true) true m 26 [c10] = some y4 := hf 4 _ rfl;obtain ⟨fn, e0, -, w0⟩ := DataW.trod_string Tryz.underlying9 h0;obtain ⟨k, e1, -, w1⟩ := DataW.trod_int Tryz.underlying2 h1;obtain ⟨o1, m1, k1, a1, ks1, n1, e2, ⟨b1, b2, b3, b4, b5⟩, r1⟩ := kN m _ _ h2;obtain ⟨o2, m2, k2, a2, ks2, n2, e3, ⟨d1, d2, d3, d4, d5⟩, r2⟩ := kN m _ _ h3;obtain ⟨wh, a3, n3, rfl, hwl, hwb, hwr⟩ := zD h4;cases e0;cases e1;simp only [List.cons.injEq, and_true] at e2 e3;obtain ⟨rfl, rfl, rfl, rfl⟩ := e2;obtain ⟨rfl, rfl, rfl, rfl⟩ := e3;exact ⟨⟨fn, k, ⟨o1, m1, k1, ks1⟩, ⟨o2, m2, k2, ks2⟩, wh⟩, ⟨a1, n1, a2, n2, a3, n3⟩, rfl, ⟨w0, vR w1, ⟨b1, b2, b3, b4, b5, trivial⟩, ⟨d1, d2, d3, d4, d5, trivial⟩, hwl, hwb⟩, ⟨r1, r2, hwr⟩⟩
end
theorem DY.ln {x : AG} (h : DY x) : LnG x :=
 ⟨h.e.lens, h.g.lens, fun d hd => ⟨(h.c d hd).2.1.lens, (h.c d hd).2.2.lens⟩, by have := h.fn; unfold maxLen at this; omega, fun d hd => by have := (h.c d hd).1; unfold maxLen at this; omega, by have := h.wh; unfold maxLen at this; omega⟩
theorem DY.nums {x : AG} (h : DY x) : iT x := ⟨h.e.nums, h.g.nums, fun d hd => ⟨(h.c d hd).2.1.nums, (h.c d hd).2.2.nums⟩⟩
theorem oX : ∀ (f : F) (l : Int), 0 <= l -> l <= 1000 -> 0 <= dX f l -> (bI f : Int) <= l - dX f l /\ SzF f
 | .nil, l, _, _, _ => ⟨by rw [dX, bI]; omega, trivial⟩
 | .cons o m _ ks r, l, h0, h9, h => by
   rw [dX, if_neg (by omega)] at h |-
   cases hw : pM o m with
   | true =>
     rw [hw, if_pos rfl] at h;exfalso;cases r with
     | nil => rw [dX] at h; omega
     | cons _ _ _ _ _ => rw [dX, if_pos (by decide)] at h; omega
   | false =>
     rw [hw, if_neg (by decide)] at h;rw [if_neg (by decide)]
     have hk : 0 <= dX ks (l - 1) := by
      rcases Int.lt_or_le (dX ks (l - 1)) 0 with hn | hn
      · exfalso
        have h2 := mB r (dX ks (l - 1));omega
      · exact hn
     have hl1 : 0 <= l - 1 := by
      have := mB ks (l - 1);omega
     obtain ⟨k1, k2⟩ := oX ks (l - 1) hl1 (by omega) hk;have hk9 : dX ks (l - 1) <= 1000 := by have := mB ks (l - 1); omega
     obtain ⟨r1, r2⟩ := oX r _ hk hk9 h;refine ⟨by rw [bI]; omega, ?_, ?_, k2, r2⟩
     · unfold pM at hw
       simp only [Bool.or_eq_false_iff, decide_eq_false_iff_not] at hw;omega
     · have : ∀ f : F, f.len <= bI f := by
        intro f
        induction f with
        | nil => exact Nat.le_refl _
        | cons _ _ _ _ r _ ih => rw [F.len, bI]; omega
       have := this ks;omega
theorem Fo {t : TN} (h : 0 <= iK t 60) (hl : t.ks.len <= 9223372036854775807) : aN t <= 60 /\ SzF t.f := by
 unfold iK at h;cases hw : pM t.op t.nm with
 | true => rw [hw, if_pos rfl] at h; omega
 | false =>
   rw [hw, if_neg (by decide)] at h;obtain ⟨h1, h2⟩ := oX t.ks (60 - 1) (by decide) (by decide) h;unfold pM at hw;simp only [Bool.or_eq_false_iff, decide_eq_false_iff_not] at hw;refine ⟨by unfold aN; omega, by omega, hl, h2, trivial⟩
open Go.RowKit
open Go.RowKit
open Go.RowKit
open Go.RowKit
open Go.RowKit
theorem gZ {t : TN} (h : pB t = true) (hL : mL t.f) : aN t <= 60 /\ SzF t.f := Fo (of_decide_eq_true h) hL.1
theorem rZ : ∀ (l : List CD), p9 l = true -> ∀ d ∈ l, d.op.size <= 20 /\ pB d.a = true /\ pB d.b = true
 | [], _, d, hd => by cases hd
 | c :: r, h, d, hd => by
   simp only [p9, Bool.and_eq_true, decide_eq_true_eq] at h
   rcases List.mem_cons.1 hd with rfl | hd
   · exact ⟨h.1.1.1, h.1.1.2, h.1.2⟩
   · exact rZ r h.2 d hd
theorem Dx {x : AG} (h : Dy x = true) (hL : LnG x) : SmG x /\ SzG x := by
 simp only [Dy, Bool.and_eq_true, decide_eq_true_eq] at h;obtain ⟨⟨⟨⟨h1, h2⟩, h3⟩, h4⟩, h5⟩ := h;have e := gZ h2 hL.e;have g := gZ h3 hL.g;refine ⟨⟨by omega, by omega, fun d hd => ?_, by omega⟩, ⟨e.2, g.2, fun d hd => ?_⟩⟩
 · obtain ⟨-, a, b⟩ := rZ _ h5 d hd
   have a := gZ a (hL.c d hd).1;have b := gZ b (hL.c d hd).2;exact ⟨by omega, by omega⟩
 · obtain ⟨-, a, b⟩ := rZ _ h5 d hd
   exact ⟨(gZ a (hL.c d hd).1).2, (gZ b (hL.c d hd).2).2⟩
structure Hv (w : World) (x : AG) (p : PA) (V : World) : Prop where
 b : Below w.heap.size w V
 l : lU V
 z : w.heap.size <= V.heap.size
 n : V.heap[w.heap.size]? = some (agP x p)
 r : aJ (fun b => b < w.heap.size) V x p
theorem Hv.step {w V V' : World} {x : AG} {p : PA} (h : Hv w x p V) (hb : Below V.heap.size V V') : Hv w x p V' :=
 ⟨h.b.trans (hb.mono h.z), h.l.step hb, Nat.le_trans h.z hb.size, (hb.block _ (aC h.n)).trans h.n, h.r.kept hb⟩
theorem E4 {w : World} {x : AG} {p : PA} (hl : lU w) (hr : aJ (fun b => b < w.heap.size) w x p) : Hv w x p (w.alloc (agP x p)) := by
 have B := (Below.refl w.heap.size w).alloc (Nat.le_refl _) (agP x p);exact ⟨B, hl.step B, B.size, heap_alloc_new w _, hr.kept B⟩
theorem Fh (w : World) : Calls Tryz.prog 26 #[.slice none 0 0] w fun e w' => e = .returned (.bool true) /\ Below w.heap.size w w' := by
 have h := Wr.good_any none 0 0 (A11 0 0) (fun j hj => absurd hj (Nat.not_lt_zero j)) w ⟨Nat.zero_le _, .inl rfl⟩;rw [show Wr.goodL 0 (A11 0 0) = true by decide] at h;exact h
set_option maxHeartbeats 16000000 in
set_option maxRecDepth 100000 in
theorem wG (x : AG) (p : PA) (hB : DY x) (w : World) (hr : aJ (fun b => b < w.heap.size) w x p) (hw : lU w) :
 Calls Tryz.prog 7 #[agV x p] w fun e w' => e = .returned (.bool true) /\ Below w.heap.size w w' := by
 have K0 := E4 hw hr;generalize hW : w.alloc (agP x p) = W at K0;have HW := aA hW;have KN := aA (yP W K0.l);have HK := aA K0;have HB := aA hB;clear hW K0 hr hw hB
 go_enter Tryz.func7, Tryz.ntmps7
 go_upto_region 1 with fail
 rw [show w.alloc (.cells #[.string x.fn, .int .i64 x.k, .string x.e.op, .string x.e.nm, .int .i64 x.e.n, .slice p.ea x.e.ks.len p.ec, .string x.g.op, .string x.g.nm, .int .i64 x.g.n, .slice p.ga x.g.ks.len p.gc, .slice p.wa x.wh.length p.wc] 28) = W from HW.out]
 go_wp2_with fail
 refine KN.out.mono ?_;rintro e w1 ⟨rfl, hb⟩;have K1 := aA (HK.out.step hb);clear hb HK HW KN;obtain ⟨m0, m1, m2, m3, m4, m5, m6, m7, m8, m9, m10⟩ := aD K1.out.n;have FW := aA (Fq x p w1 HB.out.ln K1.out.r);cases hf : Dy x with
 | false =>
   rw [hf] at FW;clear hf
   go_wp2_with fail
   refine FW.out.mono ?_;rintro e w2 ⟨rfl, hb⟩;have K2 := aA (K1.out.step hb);clear hb
   go_wp2_with fail
   go_ret;exact ⟨rfl, K2.out.b⟩
 | true =>
   rw [hf] at FW;have HG := aA (Dx hf HB.out.ln);clear hf
   go_wp2_with fail
   refine FW.out.mono ?_;rintro e w2 ⟨rfl, hb⟩;have K2 := aA (K1.out.step hb);clear hb K1 FW m0 m1 m2 m3 m4 m5 m6 m7 m8 m9 m10;obtain ⟨m0, m1, m2, m3, m4, m5, m6, m7, m8, m9, m10⟩ := aD K2.out.n;have OF := aA (EI x p w2 HG.out.1 K2.out.r)
   go_wp2_with fail
   refine OF.out.mono ?_;rintro e w3 ⟨q, rfl, hr3, hb⟩;have K3 := aA (K2.out.step hb);have CK := aA (sZ x q w3 HG.out.2 hr3);clear hb hr3 K2 OF m0 m1 m2 m3 m4 m5 m6 m7 m8 m9 m10;obtain ⟨er, her⟩ : ∃ r, iL x = r := ⟨_, rfl⟩;rw [her] at CK;have HER := aA her;clear her
   go_wp2_with fail
   refine CK.out.mono ?_;rintro e w4 ⟨rfl, hb⟩;have K4 := aA (K3.out.step hb);clear hb K3 CK
   by_cases h0 : er = 0
   · subst h0
     obtain ⟨m0, m1, m2, m3, m4, m5, m6, m7, m8, m9, m10⟩ := aD K4.out.n;have EV := aA (vD x p [] none 0 w4 HER.out HB.out.nums HG.out.2 (fun r hr => by cases hr) (by decide) K4.out.r (.inl rfl));rw [List.map_nil, Fy, List.length_nil] at EV;have GN := aA Fh;have h1 := (eG HER.out).1;unfold cZ at h1;simp only [Bool.or_eq_true, beq_iff_eq] at h1
     rcases h1 with ((((h1 | h1) | h1) | h1) | h1) | h1
     · rw [if_pos (.inl h1)] at EV
       have gCount : (x.fn.toList == [99, 111, 117, 110, 116]) = true := bH (by rw [h1]; decide);have gSum : (x.fn.toList == [115, 117, 109]) = false := aE (by rw [h1]; decide);have gTop : (x.fn.toList == [116, 111, 112]) = false := aE (by rw [h1]; decide);clear h1
       go_wp2_with fail
       refine EV.out.mono ?_;rintro e w5 ⟨hb, rfl⟩;have BA := (Below.refl w5.heap.size w5).alloc (Nat.le_refl _) (vlA 1 0 none 0 0);have N5 := heap_alloc_new w5 (vlA 1 0 none 0 0);have K5 := aA ((K4.out.step hb).step BA);clear hb BA EV K4 m0 m1 m2 m3 m4 m5 m6 m7 m8 m9 m10;obtain ⟨m0, m1, m2, m3, m4, m5, m6, m7, m8, m9, m10⟩ := aD K5.out.n;obtain ⟨⟨v0, v1, v2, v3⟩, -⟩ := aK N5
       go_wp2_with fail
       go_ret;exact ⟨rfl, K5.out.b⟩
     · rw [if_neg (by rw [h1]; decide), if_neg (by rw [h1]; decide)] at EV
       have gCount : (x.fn.toList == [99, 111, 117, 110, 116]) = false := aE (by rw [h1]; decide);have gSum : (x.fn.toList == [115, 117, 109]) = false := aE (by rw [h1]; decide);have gTop : (x.fn.toList == [116, 111, 112]) = false := aE (by rw [h1]; decide);clear h1
       go_wp2_with fail
       refine EV.out.mono ?_;rintro e w5 ⟨hb, rfl⟩;have BA := (Below.refl w5.heap.size w5).alloc (Nat.le_refl _) (vlA 0 0 none 0 0);have N5 := heap_alloc_new w5 (vlA 0 0 none 0 0);have K5 := aA ((K4.out.step hb).step BA);clear hb BA EV K4 m0 m1 m2 m3 m4 m5 m6 m7 m8 m9 m10;obtain ⟨m0, m1, m2, m3, m4, m5, m6, m7, m8, m9, m10⟩ := aD K5.out.n;obtain ⟨⟨v0, v1, v2, v3⟩, -⟩ := aK N5
       go_wp2_with fail
       refine (GN.out _).mono ?_;rintro e w6 ⟨rfl, hb⟩;have K6 := aA (K5.out.step hb);clear hb
       go_wp2_with fail
       go_ret;exact ⟨rfl, K6.out.b⟩
     · rw [if_neg (by rw [h1]; decide), if_neg (by rw [h1]; decide)] at EV
       have gCount : (x.fn.toList == [99, 111, 117, 110, 116]) = false := aE (by rw [h1]; decide);have gSum : (x.fn.toList == [115, 117, 109]) = false := aE (by rw [h1]; decide);have gTop : (x.fn.toList == [116, 111, 112]) = false := aE (by rw [h1]; decide);clear h1
       go_wp2_with fail
       refine EV.out.mono ?_;rintro e w5 ⟨hb, rfl⟩;have BA := (Below.refl w5.heap.size w5).alloc (Nat.le_refl _) (vlA 0 0 none 0 0);have N5 := heap_alloc_new w5 (vlA 0 0 none 0 0);have K5 := aA ((K4.out.step hb).step BA);clear hb BA EV K4 m0 m1 m2 m3 m4 m5 m6 m7 m8 m9 m10;obtain ⟨m0, m1, m2, m3, m4, m5, m6, m7, m8, m9, m10⟩ := aD K5.out.n;obtain ⟨⟨v0, v1, v2, v3⟩, -⟩ := aK N5
       go_wp2_with fail
       refine (GN.out _).mono ?_;rintro e w6 ⟨rfl, hb⟩;have K6 := aA (K5.out.step hb);clear hb
       go_wp2_with fail
       go_ret;exact ⟨rfl, K6.out.b⟩
     · rw [if_pos (.inr h1)] at EV
       have gCount : (x.fn.toList == [99, 111, 117, 110, 116]) = false := aE (by rw [h1]; decide);have gSum : (x.fn.toList == [115, 117, 109]) = true := bH (by rw [h1]; decide);have gTop : (x.fn.toList == [116, 111, 112]) = false := aE (by rw [h1]; decide);clear h1
       go_wp2_with fail
       refine EV.out.mono ?_;rintro e w5 ⟨hb, rfl⟩;have BA := (Below.refl w5.heap.size w5).alloc (Nat.le_refl _) (vlA 1 0 none 0 0);have N5 := heap_alloc_new w5 (vlA 1 0 none 0 0);have K5 := aA ((K4.out.step hb).step BA);clear hb BA EV K4 m0 m1 m2 m3 m4 m5 m6 m7 m8 m9 m10;obtain ⟨m0, m1, m2, m3, m4, m5, m6, m7, m8, m9, m10⟩ := aD K5.out.n;obtain ⟨⟨v0, v1, v2, v3⟩, -⟩ := aK N5
       go_wp2_with fail
       go_ret;exact ⟨rfl, K5.out.b⟩
     · rw [if_neg (by rw [h1]; decide), if_neg (by rw [h1]; decide)] at EV
       have gCount : (x.fn.toList == [99, 111, 117, 110, 116]) = false := aE (by rw [h1]; decide);have gSum : (x.fn.toList == [115, 117, 109]) = false := aE (by rw [h1]; decide);have gTop : (x.fn.toList == [116, 111, 112]) = false := aE (by rw [h1]; decide);clear h1
       go_wp2_with fail
       refine EV.out.mono ?_;rintro e w5 ⟨hb, rfl⟩;have BA := (Below.refl w5.heap.size w5).alloc (Nat.le_refl _) (vlA 0 0 none 0 0);have N5 := heap_alloc_new w5 (vlA 0 0 none 0 0);have K5 := aA ((K4.out.step hb).step BA);clear hb BA EV K4 m0 m1 m2 m3 m4 m5 m6 m7 m8 m9 m10;obtain ⟨m0, m1, m2, m3, m4, m5, m6, m7, m8, m9, m10⟩ := aD K5.out.n;obtain ⟨⟨v0, v1, v2, v3⟩, -⟩ := aK N5
       go_wp2_with fail
       refine (GN.out _).mono ?_;rintro e w6 ⟨rfl, hb⟩;have K6 := aA (K5.out.step hb);clear hb
       go_wp2_with fail
       go_ret;exact ⟨rfl, K6.out.b⟩
     · rw [if_neg (by rw [h1]; decide), if_pos h1] at EV
       have gCount : (x.fn.toList == [99, 111, 117, 110, 116]) = false := aE (by rw [h1]; decide);have gSum : (x.fn.toList == [115, 117, 109]) = false := aE (by rw [h1]; decide);have gTop : (x.fn.toList == [116, 111, 112]) = true := bH (by rw [h1]; decide);clear h1
       go_wp2_with fail
       refine EV.out.mono ?_;rintro e w5 ⟨hb, la, lc, rfl, -⟩;have BA := (Below.refl w5.heap.size w5).alloc (Nat.le_refl _) (vlA 3 0 la 0 lc);have N5 := heap_alloc_new w5 (vlA 3 0 la 0 lc);have K5 := aA ((K4.out.step hb).step BA);clear hb BA EV K4 m0 m1 m2 m3 m4 m5 m6 m7 m8 m9 m10;obtain ⟨m0, m1, m2, m3, m4, m5, m6, m7, m8, m9, m10⟩ := aD K5.out.n;obtain ⟨⟨v0, v1, v2, v3⟩, -⟩ := aK N5
       go_wp2_with fail
       go_ret;exact ⟨rfl, K5.out.b⟩
   · have e1 : (er == 0) = false := by simpa using h0
     have e2 : (er != 0) = true := by simpa using h0
     go_wp2_with fail
     go_ret;exact ⟨rfl, K4.out.b⟩
end
section
open Go.ChangeShapes Go.WideShapes Go.ChangeAt Go.RowKit
theorem Cl : ownKnob Tryz.prog.godebug = none := by kernel_rfl
theorem CQ : laidOutB Tryz.prog = true := by kernel_rfl
theorem pU {w : World} {n : String} {g : Nat} {cs : Array Value} (hg : Tryz.prog.globalNamed n = some g) (h : w.var? Tryz.prog n = some cs) : ∃ t f, w.heap[g]? = some (.cells cs t f) := by
 unfold World.var? at h;rw [hg] at h;simp only [Option.bind_some] at h
 split at h
 · rename_i cs' t f e
   cases h;exact ⟨t, f, e⟩
 · cases h
abbrev mT : List (String × DataW Unit) := Rows.aggNoneRow.laid
theorem xK : "*" ++ "errors.errorString" = "*errors.errorString" := by decide
theorem Gn (u : TypeId) (h : Tryz.prog.typeName? 3 u = some "*errors.errorString") : u = 288 :=
 typeName_ptr_named (nm := "errors.errorString") (by rw [xK]; kernel_rfl) (by kernel_rfl) (by decide) u (by rw [xK]; exact h)
theorem EX {W : World} (h : laidMetH Tryz.prog mT W) : i8 W := by
 rw [MakeChecks.laidMetH_plain _ _ _ (by kernel_rfl)] at h;have h2 := h.tail.tail;have htab := Lib.tabIs_of_head (g := 1) (k := .u64) (zs := Lib.pow10Tab) (by kernel_rfl) (by kernel_rfl) Tryz.underlying249 Tryz.underlying203 (by kernel_rfl) (by kernel_rfl) h2;unfold Lib.TabIs World.var? at htab;rw [show Tryz.prog.globalNamed "internal/strconv.uint64pow10" = some 1 by kernel_rfl] at htab;simp only [Option.bind_some] at htab
 split at htab
 · rename_i cs' t f e
   cases htab;exact ⟨t, f, e⟩
 · cases htab
theorem EW {W : World} (h : laidMetH Tryz.prog mT W) : gI W := by
 rw [MakeChecks.laidMetH_plain _ _ _ (by kernel_rfl)] at h;have h4 := h.tail.tail.tail;have h5 := h4.tail;have hrow : ∀ u, Tryz.prog.typeName? 3 u = some "*errors.errorString" -> u = 288 := Gn;obtain ⟨a0, s0, v0, -, -, -⟩ := laid_sentinel (g := 3) h4 (by kernel_rfl) (by kernel_rfl) Tryz.underlying114 hrow Tryz.underlying288 Tryz.underlying290 rfl rfl Tryz.underlying9 (by kernel_rfl) (by kernel_rfl);obtain ⟨a1, s1, v1, -, -, -⟩ := laid_sentinel (g := 2) h5 (by kernel_rfl) (by kernel_rfl) Tryz.underlying114 hrow Tryz.underlying288 Tryz.underlying290 rfl rfl Tryz.underlying9 (by kernel_rfl) (by kernel_rfl);obtain ⟨t1, f1, p1⟩ := pU (g := 3) (by kernel_rfl) v0;obtain ⟨t2, f2, p2⟩ := pU (g := 2) (by kernel_rfl) v1;exact ⟨⟨_, _, t2, f2, p2⟩, ⟨_, _, t1, f1, p1⟩⟩
theorem EU {W : World} (h : laidMetH Tryz.prog mT W) : lU W := ⟨EW h, EX h⟩
theorem zP (os : Os) (args : Array Value) : laidMetH Tryz.prog mT ((World.laidAll Tryz.prog os mT).forCall (fun _ _ => 0) ⟨#[], args, []⟩).memory := by
 rw [MakeChecks.laidMetH_plain _ _ _ (by kernel_rfl)];exact laidMet_laidAll _ (by kernel_rfl) (by kernel_rfl)
theorem sX (os : Os) : (World.laidAll Tryz.prog os mT).Shaped Tryz.prog := World.shaped_of_ZipB (by kernel_rfl) (by kernel_rfl)
end
section
open Go.ChangeShapes Go.WideShapes Go.ChangeAt Go.RowKit
open Go.ChangeMaps (open_string shut_string)
set_option maxRecDepth 100000 in
theorem sP (os : Os) (started : os.Started) (H : Type) (enc : TypeId × Value -> H) :
 ReturnsInHanded {} Tryz.checked os 7 .any (fun w args => (Rows.aggNoneSpec.pre enc Tryz.prog Tryz.f7 Rows.aggNoneRow.domain false w args /\ laidMetH Tryz.prog mT w) /\ sizedMet enc Tryz.prog Tryz.f7 (OpenSpec.ofChange Rows.aggNoneSpec) false w args)
  (Rows.aggNoneSpec.post enc Tryz.prog Tryz.f7 false true false false) := by
 refine returnsInHanded_of_change_and (C := Tryz.checked) (X := fun w _ => laidMetH Tryz.prog mT w) (fun _ _ _ hh h => h.of_heap hh) Cl started (by kernel_rfl) Tryz.func7
  (ChangeSpec.witness_shaped (enc := enc) (C := Tryz.checked) (os := os) (X := fun w _ => laidMetH Tryz.prog mT w) false (World.laidAll Tryz.prog os mT) #[.agg #[.string ⟨#[]⟩, .int .i64 0, .string ⟨#[]⟩, .string ⟨#[]⟩, .int .i64 0, .slice none 0 0, .string ⟨#[]⟩, .string ⟨#[]⟩, .int .i64 0, .slice none 0 0, .slice none 0 0]] 8 (World.laidAll_os _ _ _)
   (sX os) (by kernel_rfl) (by kernel_rfl) (by kernel_rfl) (zP os _)) ?_
 intro W base args ds gs before hval0 hW _ _ hL _;have hval : ∀ (j : Nat) t v, Tryz.f7.params[j]? = some t -> args[j]? = some v -> Value.okWide Tryz.prog W .any base t v := hval0;have hW' := hW;obtain ⟨p, q, hA0, hV, rfl, _, _⟩ := hW;have hA : DataW.TrodAll enc Tryz.prog W 0 (fun _ => true) true Tryz.f7.params.toList args.toList ds p := hA0;rw [Tryz.params7] at hA hval;obtain ⟨v0, vs0, d0, ds0, p0, q0, hargs, rfl, rfl, h0, r0⟩ := trodAll_cons hA;obtain ⟨rfl, rfl, rfl⟩ := trodAll_nil r0;obtain rfl : args = #[v0] := by cases args; simp_all
 obtain ⟨rfl, rfl⟩ := trodVars_none hV;have k0 := h0;have lt0 : ∀ x ∈ p0, x.block < W.heap.size := by obtain ⟨m, hm⟩ := k0; exact DataW.trod_lt m _ _ _ hm
 obtain ⟨x0, a0, rfl, b0, r0'⟩ := IM (hval 0 28 v0 rfl rfl) h0;have hw := EU hL;clear hA0 hval0 hL;refine (wG x0 a0 b0 W r0' hw).mono fun e W' ⟨he, bel⟩ => ?_
 subst he;exact ⟨_, rfl, _, _, _, [], _, [], hW', trodAll_mk1 (shut_bool Tryz.underlying4 _), (trodAll_cons_mk (Below.trod CQ (by kernel_rfl) (of_decide_eq_true (by kernel_rfl)) k0 bel lt0) trodAll_mk0), rfl, bel.frame _, fun h => by cases h⟩
theorem wH : Rows.AggNoneSaid :=
 OpenClaim.holds_of_wide 7 Tryz.f7 rfl rfl rfl rfl rfl rfl rfl ⟨rfl, rfl, rfl, rfl, rfl⟩ rfl rfl rfl rfl rfl (by kernel_rfl) Tryz.func7 (by kernel_rfl)
  (of_decide_eq_true (by kernel_rfl)) (by unfold Func.isWrapper; first | (rw [if_pos (by decide +kernel)]; kernel_rfl) | (rw [if_neg (by decide +kernel)]; exact ⟨rfl, rfl⟩))
  (fun os started H enc _ => sP os started H enc)
/-- of no rows: none are counted, the sum is nought, there is no least -/
theorem aggNone_card : Rows.AggNoneCardSaid :=
 Claim7.holds_tied_plain_at .later [] [.data, .data, .data, .sentinel, .sentinel] true Rows.aggNoneCard.stood.harness true
  wH (fun _ h => by cases h) (by kernel_rfl) (fun _ h => by cases h) aggNone_row_tie rfl ⟨rfl, rfl⟩ (by kernel_rfl) rfl
  (fun f fn hf hfn => by
   obtain rfl : f = 7 := Option.some.inj ((show Tryz.prog.funcNamed _ = some 7 by kernel_rfl).symm.trans hf) |>.symm
   obtain rfl : fn = Tryz.f7 := (Option.some.inj (Tryz.func7.symm.trans hfn)).symm
   exact ⟨by kernel_rfl, fun j t ht => by
    rw [Tryz.params7] at ht;have hm : t ∈ [28] := by simpa using Array.mem_of_getElem? ht
    have hall : ([28].all fun u => !Tryz.prog.wantsStandIn u) = true := by kernel_rfl
    exact (show Tryz.prog.wantsStandIn t = false by simpa using List.all_eq_true.1 hall t hm)⟩)
  (by kernel_rfl)
end
end Go.Proofs.YtapcjnoaofmmiaaGreatDoor
