/-
  No statement: a tree that came in, opened.
-/
import Derived.Test.YtcmcnmmhkpolcaaHE2
import Derived.Test.YtcmcnmmhkpolcaaHE1
import Derived.Deep.Slices
import Derived.Deep.Fields
import Derived.ChangeSame
namespace Go.Proofs.Ytcmcnmmhkpolcaa
open Go.RowKit Go.ChangeShapes Go.WideShapes Go.Deep

theorem nodeCells : Try.prog.cellsOf 24 = 4 := by kernel_rfl

/-- Rows of trees as they come in: sizes that may be, numbers of 64 bits. -/
def BitF : F → Prop
  | .nil => True
  | .cons o m n ks r => o.size ≤ maxLen ∧ m.size ≤ maxLen ∧ In64 n ∧ ks.len ≤ maxLen ∧ BitF ks ∧ BitF r

theorem BitF.lens : ∀ {f : F}, BitF f → LenF f
  | .nil, _ => trivial
  | .cons _ _ _ _ _, ⟨_, _, _, h, hk, hr⟩ => ⟨by unfold maxLen at h; omega, hk.lens, hr.lens⟩

theorem BitF.nums : ∀ {f : F}, BitF f → NumsF f
  | .nil, _ => trivial
  | .cons _ _ _ _ _, ⟨_, _, h, _, hk, hr⟩ => ⟨by unfold In64 at h; omega, hk.nums, hr.nums⟩

theorem in64_wf {n : Int} (h : (Lit.int .i64 n).wf = true) : In64 n := by
  simp [Lit.wf, IntKind.min, IntKind.max, IntKind.bits, IntKind.signed] at h
  exact ⟨by omega, by omega⟩

set_option maxRecDepth 100000 in
theorem node_cells {H : Type} {enc : TypeId × Value → H} {W : World} : ∀ (n : Nat) (cs : List Value) (x : DataW H × List MemPlace), DataW.trod enc Try.prog W 0 (fun _ => true) true n 24 cs = some x →
    ∃ (o m : ByteArray) (k : Int) (a : Option Addr) (ks : F) (c : Nat), cs = [.string o, .string m, .int .i64 k, .slice a ks.len c] ∧ (o.size ≤ maxLen ∧ m.size ≤ maxLen ∧ In64 k ∧ ks.len ≤ maxLen ∧ BitF ks) ∧ ReadsN (fun b => b < W.heap.size) W a ks := by
  intro n
  induction n using Nat.strongRecOn with
  | ind n ih =>
    intro cs x h
    obtain ⟨ys, m, hn, -, hlen, hyl, hf⟩ := DataW.trod_struct Try.underlying24 h
    rw [nodeCells] at hlen
    match cs, hlen with
    | [c0, c1, c2, c3], _ =>
      have y4 : ys.length = 4 := hyl
      match ys, y4 with
      | [y0, y1, y2, y3], _ =>
        have h0 : DataW.trod enc Try.prog W 0 (fun _ => true) true m 9 [c0] = some y0 := hf 0 _ rfl
        have h1 : DataW.trod enc Try.prog W 0 (fun _ => true) true m 9 [c1] = some y1 := hf 1 _ rfl
        have h2 : DataW.trod enc Try.prog W 0 (fun _ => true) true m 2 [c2] = some y2 := hf 2 _ rfl
        have h3 : DataW.trod enc Try.prog W 0 (fun _ => true) true m 22 [c3] = some y3 := hf 3 _ rfl
        obtain ⟨o, e0, -, w0⟩ := DataW.trod_string Try.underlying9 h0
        obtain ⟨s, e1, -, w1⟩ := DataW.trod_string Try.underlying9 h1
        obtain ⟨k, e2, -, w2⟩ := DataW.trod_int Try.underlying2 h2
        cases e0; cases e1; cases e2
        rcases DataW.trod_slice Try.underlying22 h3 with ⟨hcs, -⟩ | ⟨a, len, cap, elems, rest, q, hq, hcs, -, -, hl, hc, hel, hat, -, -⟩
        · cases hcs
          exact ⟨o, s, k, none, .nil, 0, rfl, ⟨w0, w1, in64_wf w2, Nat.zero_le _, trivial⟩, .inl rfl⟩
        · cases hcs
          have hqn : q < n := by omega
          have hsp : 0 < len → a.spot = none := by
            intro h0
            have hj2 := hat 0 h0
            rw [List.getElem?_eq_getElem (by omega), Option.bind_eq_some_iff] at hj2
            obtain ⟨cs', hcs', -⟩ := hj2
            rw [nodeCells] at hcs'
            obtain ⟨-, hl4, hcl⟩ := World.cells?_some hcs'
            have p1 := hcl 0 (by omega)
            rw [List.getElem?_eq_getElem (by omega)] at p1
            simpa [Addr.add] using World.cell?_spot p1
          have main : ∀ d j, j + d = len → ∃ f : F, f.len = d ∧ BitF f ∧ (f = .nil ∨ ∃ b off, a = ⟨b, off, none⟩ ∧ ReadsF (fun b => b < W.heap.size) W f b (off + j * 4)) := by
            intro d
            induction d with
            | zero => exact fun j _ => ⟨.nil, rfl, trivial, .inl rfl⟩
            | succ d ihd =>
              intro j hj
              obtain ⟨g, hg, hgb, hgr⟩ := ihd (j + 1) (by omega)
              have hj2 := hat j (by omega)
              rw [List.getElem?_eq_getElem (by omega), Option.bind_eq_some_iff] at hj2
              obtain ⟨cs', hcs', ht⟩ := hj2
              obtain ⟨o2, m2, k2, a2, ks2, c2, rfl, hb2, hr2⟩ := ih q hqn cs' _ ht
              rw [nodeCells] at hcs'
              obtain ⟨-, -, hcl⟩ := World.cells?_some hcs'
              have e : ∀ i, (a.add (j * 4)).add i = a.add (j * 4 + i) := fun i => Go.Deep.add_add _ _ _
              have p0 : W.cell? (a.add (j * 4 + 0)) = some (.string o2) := by have := hcl 0 (by omega); rw [e 0] at this; exact this
              have p1 : W.cell? (a.add (j * 4 + 1)) = some (.string m2) := by have := hcl 1 (by omega); rw [e 1] at this; exact this
              have p2 : W.cell? (a.add (j * 4 + 2)) = some (.int .i64 k2) := by have := hcl 2 (by omega); rw [e 2] at this; exact this
              have p3 : W.cell? (a.add (j * 4 + 3)) = some (.slice a2 ks2.len c2) := by have := hcl 3 (by omega); rw [e 3] at this; exact this
              obtain ⟨b, off, spot⟩ := a
              have hspot : spot = none := hsp (by omega)
              subst hspot
              rw [Addr.add_lit] at p0 p1 p2 p3
              have hlt : b < W.heap.size := World.block_lt_of_cell? W _ p0
              refine ⟨.cons o2 m2 k2 ks2 g, by rw [F.len, hg], ⟨hb2.1, hb2.2.1, hb2.2.2.1, hb2.2.2.2.1, hb2.2.2.2.2, hgb⟩, .inr ⟨b, off, rfl, hlt, hlt, ⟨a2, c2, ⟨by simpa using p0, p1, p2, p3⟩, hr2⟩, ?_⟩⟩
              rcases hgr with rfl | ⟨b', off', he, hgr⟩
              · trivial
              · cases he
                rw [show off + j * 4 + 4 = off + (j + 1) * 4 by omega]
                exact hgr
          obtain ⟨f, hfl, hfb, hfr⟩ := main len 0 (by omega)
          subst hfl
          refine ⟨o, s, k, some a, f, cap, rfl, ⟨w0, w1, in64_wf w2, Nat.le_trans hl hc, hfb⟩, ?_⟩
          rcases hfr with h9 | ⟨b, off, ha9, h9⟩
          · exact .inl h9
          · rw [Nat.zero_mul, Nat.add_zero] at h9
            exact .inr ⟨b, off, by rw [ha9], h9⟩

set_option maxRecDepth 100000 in
/-- A tree that came in, opened. -/
theorem node_of {H : Type} {enc : TypeId × Value → H} {W : World} {base : Nat} {v : Value} {d : DataW H} {p : List MemPlace} (hv : Value.okWide Try.prog W .any base 24 v) (h : DataW.Trod enc Try.prog W 0 (fun _ => true) true 24 v d p) :
    ∃ (t : TN) (a : Option Addr) (c : Nat), v = nodeV t.op t.nm t.n a t.ks.len c ∧ BitF t.f ∧ ReadsN (fun b => b < W.heap.size) W a t.ks := by
  obtain ⟨cs, rfl, hsz⟩ := okWide_struct Try.underlying24 hv
  obtain ⟨fuel, hf⟩ := h
  obtain ⟨o, m, k, a, ks, c, hcs, ⟨h0, h1, h2, h3, h4⟩, hr⟩ := node_cells fuel _ _ hf
  obtain ⟨l⟩ := cs
  have hl : l = [.string o, .string m, .int .i64 k, .slice a ks.len c] := hcs
  subst hl
  exact ⟨⟨o, m, k, ks⟩, a, c, rfl, ⟨h0, h1, h2, h3, h4, trivial⟩, hr⟩

end Go.Proofs.Ytcmcnmmhkpolcaa
