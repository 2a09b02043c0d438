/-
  No statement: marks and keys that came in, as lists.
-/
import Derived.Test.YtijoljpblfjeiaaGreatDgArgs
import Derived.Deep.Strs
set_option linter.unusedVariables false
set_option linter.unusedSimpArgs false
namespace Go.Proofs.YtijoljpblfjeiaaGreat
open Go.RowKit Go.ChangeShapes Go.WideShapes Go.Deep

/-- What the walk is told of a []string that came in: its elements, text by text. -/
def IsStrs (w : World) (a : Option Addr) (len : Nat) (Sx : Nat → ByteArray) : Prop :=
  len ≤ maxLen ∧ (∀ j, j < len → (Sx j).size ≤ maxLen) ∧ (len = 0 ∨ ∃ b off, a = some ⟨b, off, none⟩ ∧ ∀ j, j < len → w.cell? ⟨b, off + j, none⟩ = some (.string (Sx j)))

/-- An argument that reads as a list of texts is one. -/
theorem isStrs_of {H : Type} {enc : TypeId × Value → H} {P : Program} {W : World} {t e : TypeId} (ht : P.underlying t = some (.slice e)) (he : P.underlying e = some .string) (hc : P.cellsOf e = 1) {a0 : Option Addr} {len0 cap0 : Nat} {d : DataW H} {ps : List MemPlace}
    (h : DataW.Trod enc P W 0 (fun _ => true) true t (.slice a0 len0 cap0) d ps) : ∃ Sx, IsStrs W a0 len0 Sx := by
  obtain ⟨fuel, hf⟩ := h
  rcases open_strs ht he hc hf with ⟨hcs, _⟩ | ⟨x, l, c, m, Sx, hcs, _, hl, hm, hmm, _, hcell⟩
  · simp [Value.cells] at hcs
    obtain ⟨rfl, rfl, rfl⟩ := hcs
    exact ⟨fun _ => ⟨#[]⟩, Nat.zero_le _, fun j hj => by omega, Or.inl rfl⟩
  · simp [Value.cells] at hcs
    obtain ⟨rfl, rfl, rfl⟩ := hcs
    simp only [if_true] at hmm
    subst hmm
    refine ⟨Sx, Nat.le_trans hl hm, fun j hj => (hcell j (by omega)).2, ?_⟩
    by_cases hz : len0 = 0
    · exact Or.inl hz
    · right
      obtain ⟨b, off, spot⟩ := x
      have hspot : spot = none := by simpa [Addr.add] using World.cell?_spot (hcell 0 (by omega)).1
      subst hspot
      exact ⟨b, off, rfl, fun j hj => by rw [← Addr.add_lit]; exact (hcell j (by omega)).1⟩

theorem strCells : Tryz.prog.cellsOf 9 = 1 := by kernel_rfl
theorem markCells : Tryz.prog.cellsOf 112 = 5 := by kernel_rfl

set_option maxRecDepth 100000 in
theorem textsL_of {H : Type} {enc : TypeId × Value → H} {W : World} {base : Nat} {v : Value} {d : DataW H} {p : List MemPlace} (hv : Value.okWide Tryz.prog W .any base 51 v) (h : DataW.Trod enc Tryz.prog W 0 (fun _ => true) true 51 v d p) :
    ∃ (a : Option Addr) (c : Nat) (kl : List ByteArray), v = .slice a kl.length c ∧ kl.length ≤ c ∧ (∀ x ∈ kl, x.size ≤ maxLen) ∧ ReadsSG (fun q => q < W.heap.size) W a kl.length (atS kl) := by
  obtain ⟨a, n, c, rfl⟩ := okWide_slice Tryz.underlying51 hv
  obtain ⟨S, h1, h2, h3⟩ := isStrs_of Tryz.underlying51 Tryz.underlying9 strCells h
  have hc := cap_of Tryz.underlying51 hv h a n c rfl
  have hl : ((List.range n).map S).length = n := by simp
  have hat : ∀ j, j < n → atS ((List.range n).map S) j = S j := fun j hj => by rw [atS_lt (by simpa using hj)]; simp
  refine ⟨a, c, (List.range n).map S, by rw [hl], by rw [hl]; exact hc, fun x hx => ?_, ?_⟩
  · obtain ⟨j, hj, rfl⟩ := List.mem_map.1 hx
    exact h2 j (List.mem_range.1 hj)
  · rw [hl]
    refine ⟨h1, ?_⟩
    by_cases h0 : n = 0
    · exact .inl h0
    · obtain ⟨b, off, rfl, hcell⟩ := h3.resolve_left h0
      exact .inr ⟨b, off, rfl, by have := World.block_lt_of_cell? W _ (hcell 0 (by omega)); simpa using this, fun j hj => by rw [hat j hj]; exact hcell j hj⟩

set_option maxRecDepth 100000 in
theorem mark_cells {H : Type} {enc : TypeId × Value → H} {W : World} {n : Nat} {cs : List Value} {x : DataW H × List MemPlace} (hf : DataW.trod enc Tryz.prog W 0 (fun _ => true) true n 112 cs = some x) :
    ∃ (x : MK), cs = fiveK x ∧ x.key.size ≤ maxLen ∧ x.o.size ≤ maxLen := by
  obtain ⟨ys, m, -, -, hlen, hyl, hg⟩ := DataW.trod_struct Tryz.underlying112 hf
  rw [markCells] at hlen
  match cs, hlen with
  | [c0, c1, c2, c3, c4], _ =>
    have y2 : ys.length = 2 := hyl
    match ys, y2 with
    | [y0, y1], _ =>
      have h0 : DataW.trod enc Tryz.prog W 0 (fun _ => true) true m 9 [c0] = some y0 := hg 0 _ rfl
      have h1 : DataW.trod enc Tryz.prog W 0 (fun _ => true) true m 32 [c1, c2, c3, c4] = some y1 := hg 1 _ rfl
      obtain ⟨k, e0, -, w0⟩ := DataW.trod_string Tryz.underlying9 h0
      cases e0
      obtain ⟨zs, m', -, -, -, hzl, hz⟩ := DataW.trod_struct Tryz.underlying32 h1
      have z4 : zs.length = 4 := hzl
      match zs, z4 with
      | [z0, z1, z2, z3], _ =>
        have g0 : DataW.trod enc Tryz.prog W 0 (fun _ => true) true m' 2 [c1] = some z0 := hz 0 _ rfl
        have g1 : DataW.trod enc Tryz.prog W 0 (fun _ => true) true m' 2 [c2] = some z1 := hz 1 _ rfl
        have g2 : DataW.trod enc Tryz.prog W 0 (fun _ => true) true m' 2 [c3] = some z2 := hz 2 _ rfl
        have g3 : DataW.trod enc Tryz.prog W 0 (fun _ => true) true m' 9 [c4] = some z3 := hz 3 _ rfl
        obtain ⟨t, e1, -, w1⟩ := DataW.trod_int Tryz.underlying2 g0
        obtain ⟨i, e2, -, w2⟩ := DataW.trod_int Tryz.underlying2 g1
        obtain ⟨q, e3, -, w3⟩ := DataW.trod_int Tryz.underlying2 g2
        obtain ⟨o, e4, -, w4⟩ := DataW.trod_string Tryz.underlying9 g3
        cases e1; cases e2; cases e3; cases e4
        exact ⟨⟨k, t, i, q, o⟩, rfl, w0, w4⟩

set_option maxRecDepth 100000 in
theorem marksL_of {H : Type} {enc : TypeId × Value → H} {W : World} {base : Nat} {v : Value} {d : DataW H} {p : List MemPlace} (hv : Value.okWide Tryz.prog W .any base 63 v) (h : DataW.Trod enc Tryz.prog W 0 (fun _ => true) true 63 v d p) :
    ∃ (a : Option Addr) (c : Nat) (bl : List MK), v = .slice a bl.length c ∧ bl.length ≤ c ∧ (∀ m ∈ bl, m.key.size ≤ maxLen ∧ m.o.size ≤ maxLen) ∧ ReadsMG (fun q => q < W.heap.size) W a bl.length (atK bl) := by
  obtain ⟨a0, len0, cap0, rfl⟩ := okWide_slice Tryz.underlying63 hv
  have hc := cap_of Tryz.underlying63 hv h a0 len0 cap0 rfl
  obtain ⟨fuel, hf⟩ := h
  rcases open_slice Tryz.underlying63 hf with ⟨hcs, _⟩ | ⟨x, l, c, m, n, D, Pl, hcs, _, hl, hm, hmm, _, hi⟩
  · simp [Value.cells] at hcs
    obtain ⟨rfl, rfl, rfl⟩ := hcs
    exact ⟨none, 0, [], rfl, Nat.le_refl _, (fun m hm => by cases hm), Nat.zero_le _, .inl rfl⟩
  · simp [Value.cells] at hcs
    obtain ⟨rfl, rfl, rfl⟩ := hcs
    simp only [if_true] at hmm
    subst hmm
    have hx : ∀ j, ∃ s : MK, (s.key.size ≤ maxLen ∧ s.o.size ≤ maxLen) ∧ (j < len0 → ∀ i u, (fiveK s)[i]? = some u → W.cell? (x.add (j * 5 + i)) = some u) := by
      intro j
      by_cases hj : j < len0
      · obtain ⟨cs', hc', ht⟩ := hi j (by omega)
        rw [markCells] at hc'
        obtain ⟨s, rfl, hs1, hs2⟩ := mark_cells ht
        obtain ⟨-, -, hat⟩ := World.cells?_some hc'
        have e : ∀ i, (x.add (j * 5)).add i = x.add (j * 5 + i) := fun i => Go.Deep.add_add _ _ _
        refine ⟨s, ⟨hs1, hs2⟩, fun _ i u hu => ?_⟩
        have hi5 : i < 5 := (List.getElem?_eq_some_iff.1 hu).1
        have := hat i (by omega)
        rw [e i] at this
        rw [this]
        exact hu
      · exact ⟨zMK, ⟨Nat.zero_le _, Nat.zero_le _⟩, fun h => absurd h hj⟩
    obtain ⟨S, hS⟩ : ∃ S : Nat → MK, ∀ j, ((S j).key.size ≤ maxLen ∧ (S j).o.size ≤ maxLen) ∧ (j < len0 → ∀ i u, (fiveK (S j))[i]? = some u → W.cell? (x.add (j * 5 + i)) = some u) := ⟨fun j => Classical.choose (hx j), fun j => Classical.choose_spec (hx j)⟩
    have hll : ((List.range len0).map S).length = len0 := by simp
    have hat : ∀ j, j < len0 → atK ((List.range len0).map S) j = S j := fun j hj => by rw [atK_lt (by simpa using hj)]; simp
    refine ⟨some x, _, (List.range len0).map S, by rw [hll], by rw [hll]; exact hc, fun m hm => ?_, ?_⟩
    · obtain ⟨j, _, rfl⟩ := List.mem_map.1 hm
      exact (hS j).1
    · rw [hll]
      refine ⟨Nat.le_trans hl hm, ?_⟩
      by_cases hz : len0 = 0
      · exact Or.inl hz
      · right
        obtain ⟨b, off, spot⟩ := x
        have h00 := (hS 0).2 (by omega) 0 _ rfl
        have hspot : spot = none := by simpa [Addr.add] using World.cell?_spot h00
        subst hspot
        refine ⟨b, off, rfl, by have := World.block_lt_of_cell? W _ h00; simpa [Addr.add] using this, fun j hj => ?_⟩
        rw [hat j hj]
        have h5 := (hS j).2 hj
        refine ⟨?_, ?_, ?_, ?_, ?_⟩
        · have := h5 0 _ rfl; rwa [Addr.add_lit] at this
        · have := h5 1 _ rfl; rwa [Addr.add_lit] at this
        · have := h5 2 _ rfl; rwa [Addr.add_lit] at this
        · have := h5 3 _ rfl; rwa [Addr.add_lit] at this
        · have := h5 4 _ rfl; rwa [Addr.add_lit] at this

end Go.Proofs.YtijoljpblfjeiaaGreat
