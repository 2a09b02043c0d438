/-
  No statement: what a walk is told of a list of acts (a number, a text, a number each) that came in, and that it may be told so. (The first theorem is the guide's, copied as it asks.)
-/
import Derived.Test.YtbabkdeppcfcnaaArgs
import Derived.Deep.Slices
import Derived.Deep.Fields
import Derived.ChangeSame
namespace Go.Proofs.Ytbabkdeppcfcnaa
open Go.ChangeShapes Go.WideShapes Go.Deep Go.RowKit

section
variable {H : Type} {enc : TypeId × Value → H} {P : Program} {w : World} {base : Nat} {spare : Nat → Bool} {held : Bool}
theorem open_slice_fields {t e : TypeId} {fs : Array Field} {fuel : Nat} {cs : List Value} {x : DataW H × List MemPlace} (ht : P.underlying t = some (.slice e)) (he : P.underlying e = some (.struct fs))
    (hone : oneCellFields P fs = true) (hC : P.cellsOf e = fs.size) (h : DataW.trod enc P w base spare held fuel t cs = some x) :
    (cs = [.slice none 0 0] ∧ x = (.nil, [])) ∨
    ∃ (a : Addr) (len cap m : Nat) (D : Nat → DataW H) (Pl : Nat → List MemPlace), cs = [.slice (some a) len cap] ∧ base ≤ a.block ∧ len ≤ cap ∧ cap ≤ maxLen ∧ m = (if spare a.block then cap else len) ∧
      x = (.slice ((List.range len).map D) ((List.range (m - len)).map fun j => D (len + j)), MemPlace.row a (m * fs.size) ++ (List.range m).flatMap Pl) ∧
      ∀ i, i < m → ∃ (ys : List (DataW H × List MemPlace)) (n : Nat), D i = .agg (ys.map (·.1)) ∧ Pl i = ys.flatMap (·.2) ∧ ys.length = fs.size ∧
        ∀ (j : Nat) (f : Field), fs[j]? = some f → ∃ (v : Value) (y : DataW H × List MemPlace), w.cell? (a.add (i * fs.size + j)) = some v ∧ ys[j]? = some y ∧ DataW.trod enc P w base spare held n f.type [v] = some y := by
  rcases open_slice ht h with h0 | ⟨a, len, cap, m, n, D, Pl, hcs, hb, hl, hm, hmm, hx, hi⟩
  · exact .inl h0
  · refine .inr ⟨a, len, cap, m, D, Pl, hcs, hb, hl, hm, hmm, by rw [hC] at hx; exact hx, fun i him => ?_⟩
    obtain ⟨cs', hc, ht'⟩ := hi i him
    rw [hC] at hc
    obtain ⟨ys, n', hn', hy, hlen, hyl, hf⟩ := DataW.trod_struct he ht'
    obtain ⟨_, hcl, hat⟩ := World.cells?_some hc
    simp only [Prod.mk.injEq] at hy
    refine ⟨ys, n', hy.1, hy.2, hyl, fun j f hj => ?_⟩
    obtain ⟨ho, hk⟩ := hone_of hone j f hj
    have hjl : j < fs.size := (Array.getElem?_eq_some_iff.1 hj).1
    have hcell := hat j hjl
    have hv : cs'[j]? = some (cs'[j]'(by omega)) := List.getElem?_eq_getElem (by omega)
    have h1 := hf j f hj
    rw [ho, hk] at h1
    have hone' : (cs'.drop j).take 1 = [cs'[j]'(by omega)] := by
      rw [List.drop_eq_getElem_cons (by omega)]
      rfl
    rw [hone'] at h1
    have hys : ys[j]? = some (ys[j]'(by omega)) := List.getElem?_eq_getElem (by omega)
    refine ⟨_, _, ?_, hys, h1.trans hys⟩
    rw [← Go.Deep.add_add, hcell, hv]
end

/-- What the walk is told of a list of acts: each in three cells, one behind the other. -/
def IsActs (w : World) (a : Option Addr) (len : Nat) (A : Nat → Int × ByteArray × Int) : Prop :=
  len ≤ maxLen ∧ (∀ j, j < len → (A j).2.1.size ≤ maxLen) ∧ (len = 0 ∨ ∃ b off, a = some ⟨b, off, none⟩ ∧ ∀ j, j < len →
    w.cell? ⟨b, off + j * 3, none⟩ = some (.int .i64 (A j).1) ∧ w.cell? ⟨b, off + (j * 3 + 1), none⟩ = some (.string (A j).2.1) ∧ w.cell? ⟨b, off + (j * 3 + 2), none⟩ = some (.int .i64 (A j).2.2))

theorem isActs_of {H : Type} {enc : TypeId × Value → H} {P : Program} {W : World} {t e : TypeId} {f0 f1 f2 : Field} (ht : P.underlying t = some (.slice e)) (he : P.underlying e = some (.struct #[f0, f1, f2])) (hone : oneCellFields P #[f0, f1, f2] = true) (hC : P.cellsOf e = 3)
    (h0 : P.underlying f0.type = some (.int .i64)) (h1 : P.underlying f1.type = some .string) (h2 : P.underlying f2.type = some (.int .i64)) {a0 : Option Addr} {len0 cap0 : Nat} {d : DataW H} {ps : List MemPlace}
    (h : DataW.Trod enc P W 0 (fun _ => true) true t (.slice a0 len0 cap0) d ps) : ∃ A, IsActs W a0 len0 A := by
  obtain ⟨fuel, hf⟩ := h
  rcases open_slice_fields ht he hone hC hf with ⟨hcs, _⟩ | ⟨x, l, c, m, D, Pl, hcs, _, hl, hm, hmm, _, hi⟩
  · simp [Value.cells] at hcs
    obtain ⟨rfl, rfl, rfl⟩ := hcs
    exact ⟨fun _ => (0, ⟨#[]⟩, 0), Nat.zero_le _, fun j hj => by omega, Or.inl rfl⟩
  · simp [Value.cells] at hcs
    obtain ⟨rfl, rfl, rfl⟩ := hcs
    simp only [if_true] at hmm
    subst hmm
    have each : ∀ i, i < m → ∃ A : Int × ByteArray × Int, W.cell? (x.add (i * 3)) = some (.int .i64 A.1) ∧ W.cell? (x.add (i * 3 + 1)) = some (.string A.2.1) ∧ W.cell? (x.add (i * 3 + 2)) = some (.int .i64 A.2.2) ∧ A.2.1.size ≤ maxLen := fun i him => by
      obtain ⟨ys, n, _, _, _, hfj⟩ := hi i him
      obtain ⟨v0, y0, c0, _, t0⟩ := hfj 0 f0 rfl
      obtain ⟨v1, y1, c1, _, t1⟩ := hfj 1 f1 rfl
      obtain ⟨v2, y2, c2, _, t2⟩ := hfj 2 f2 rfl
      obtain ⟨k0, e0, _, _⟩ := DataW.trod_int h0 t0
      obtain ⟨s1, e1, _, z1⟩ := DataW.trod_string h1 t1
      obtain ⟨k2, e2, _, _⟩ := DataW.trod_int h2 t2
      obtain rfl : v0 = .int .i64 k0 := by simpa using e0
      obtain rfl : v1 = .string s1 := by simpa using e1
      obtain rfl : v2 = .int .i64 k2 := by simpa using e2
      exact ⟨(k0, s1, k2), c0, c1, c2, z1⟩
    obtain ⟨A, hA⟩ := choose_lt each
    refine ⟨A, Nat.le_trans hl hm, fun j hj => (hA j (by omega)).2.2.2, ?_⟩
    by_cases hz : len0 = 0
    · exact Or.inl hz
    · right
      obtain ⟨b, off, spot⟩ := x
      have hspot : spot = none := by simpa [Addr.add] using World.cell?_spot (hA 0 (by omega)).1
      subst hspot
      exact ⟨b, off, rfl, fun j hj => by
        obtain ⟨c0, c1, c2, _⟩ := hA j (by omega)
        rw [Addr.add_lit] at c0 c1 c2
        exact ⟨c0, c1, c2⟩⟩

end Go.Proofs.Ytbabkdeppcfcnaa
