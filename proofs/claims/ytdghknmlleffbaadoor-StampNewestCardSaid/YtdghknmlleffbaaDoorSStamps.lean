/-
  No statement: a row of stamps that came in, opened.
-/
import Derived.Test.YtdghknmlleffbaaDoorSLaid
import Derived.Test.YtdghknmlleffbaaDoorSNewest
import Derived.Deep.Slices
import Derived.Deep.Fields
import Derived.ChangeSame
namespace Go.Proofs.YtdghknmlleffbaaDoor
open Go.RowKit Go.ChangeShapes Go.WideShapes Go.Deep

theorem stampCells : Tryd.prog.cellsOf 43 = 4 := by kernel_rfl

set_option maxRecDepth 100000 in
/-- The four cells of one stamp. -/
theorem stamp_cells {H : Type} {enc : TypeId × Value → H} {W : World} {n : Nat} {cs : List Value} {x : DataW H × List MemPlace} (h : DataW.trod enc Tryd.prog W 0 (fun _ => true) true n 43 cs = some x) :
    ∃ s : S4, s.o.size ≤ maxLen ∧ cs = [.int .i64 s.t, .int .i64 s.i, .int .i64 s.q, .string s.o] := by
  obtain ⟨ys, m, -, -, hlen, hyl, hf⟩ := DataW.trod_struct Tryd.underlying43 h
  rw [stampCells] at hlen
  match cs, hlen with
  | [c0, c1, c2, c3], _ =>
    have y4 : ys.length = 4 := hyl
    match ys, y4 with
    | [y0, y1, y2, y3], _ =>
      have h0 : DataW.trod enc Tryd.prog W 0 (fun _ => true) true m 2 [c0] = some y0 := hf 0 _ rfl
      have h1 : DataW.trod enc Tryd.prog W 0 (fun _ => true) true m 2 [c1] = some y1 := hf 1 _ rfl
      have h2 : DataW.trod enc Tryd.prog W 0 (fun _ => true) true m 2 [c2] = some y2 := hf 2 _ rfl
      have h3 : DataW.trod enc Tryd.prog W 0 (fun _ => true) true m 9 [c3] = some y3 := hf 3 _ rfl
      obtain ⟨k, e0, -, -⟩ := DataW.trod_int Tryd.underlying2 h0
      obtain ⟨i, e1, -, -⟩ := DataW.trod_int Tryd.underlying2 h1
      obtain ⟨q, e2, -, -⟩ := DataW.trod_int Tryd.underlying2 h2
      obtain ⟨o, e3, -, w3⟩ := DataW.trod_string Tryd.underlying9 h3
      cases e0; cases e1; cases e2; cases e3
      exact ⟨⟨k, i, q, o⟩, w3, rfl⟩

theorem stamps_of {H : Type} {enc : TypeId × Value → H} {W : World} {a0 : Option Addr} {len0 cap0 : Nat} {d : DataW H} {ps : List MemPlace}
    (h : DataW.Trod enc Tryd.prog W 0 (fun _ => true) true 54 (.slice a0 len0 cap0) d ps) : ∃ S, (∀ j, (S j).o.size ≤ maxLen) ∧ ReadsS W a0 len0 S := by
  obtain ⟨fuel, hf⟩ := h
  rcases open_slice Tryd.underlying54 hf with ⟨hcs, _⟩ | ⟨x, l, c, m, n, D, Pl, hcs, _, hl, hm, hmm, _, hi⟩
  · simp [Value.cells] at hcs
    obtain ⟨rfl, rfl, rfl⟩ := hcs
    exact ⟨fun _ => ⟨0, 0, 0, ⟨#[]⟩⟩, fun _ => Nat.zero_le _, Nat.zero_le _, .inl rfl⟩
  · simp [Value.cells] at hcs
    obtain ⟨rfl, rfl, rfl⟩ := hcs
    simp only [if_true] at hmm
    subst hmm
    have hx : ∀ j, ∃ s : S4, s.o.size ≤ maxLen ∧ (j < len0 → W.cell? (x.add (j * 4)) = some (.int .i64 s.t) ∧ W.cell? (x.add (j * 4 + 1)) = some (.int .i64 s.i) ∧ W.cell? (x.add (j * 4 + 2)) = some (.int .i64 s.q) ∧ W.cell? (x.add (j * 4 + 3)) = some (.string s.o)) := by
      intro j
      by_cases hj : j < len0
      · obtain ⟨cs', hc, ht⟩ := hi j (by omega)
        rw [stampCells] at hc
        obtain ⟨s, hs, rfl⟩ := stamp_cells ht
        obtain ⟨-, -, hat⟩ := World.cells?_some hc
        have e : ∀ i, i < 4 → (x.add (j * 4)).add i = x.add (j * 4 + i) := fun i _ => Go.Deep.add_add _ _ _
        refine ⟨s, hs, fun _ => ⟨?_, ?_, ?_, ?_⟩⟩
        · have := hat 0 (by omega); rw [e 0 (by omega)] at this; exact this
        · have := hat 1 (by omega); rw [e 1 (by omega)] at this; exact this
        · have := hat 2 (by omega); rw [e 2 (by omega)] at this; exact this
        · have := hat 3 (by omega); rw [e 3 (by omega)] at this; exact this
      · exact ⟨⟨0, 0, 0, ⟨#[]⟩⟩, Nat.zero_le _, fun h => absurd h hj⟩
    have hS : ∃ S : Nat → S4, ∀ j, (S j).o.size ≤ maxLen ∧ (j < len0 → W.cell? (x.add (j * 4)) = some (.int .i64 (S j).t) ∧ W.cell? (x.add (j * 4 + 1)) = some (.int .i64 (S j).i) ∧ W.cell? (x.add (j * 4 + 2)) = some (.int .i64 (S j).q) ∧ W.cell? (x.add (j * 4 + 3)) = some (.string (S j).o)) := ⟨fun j => Classical.choose (hx j), fun j => Classical.choose_spec (hx j)⟩
    obtain ⟨S, hS⟩ := hS
    refine ⟨S, fun j => (hS j).1, Nat.le_trans hl hm, ?_⟩
    by_cases hz : len0 = 0
    · exact Or.inl hz
    · right
      obtain ⟨b, off, spot⟩ := x
      have hspot : spot = none := by simpa [Addr.add] using World.cell?_spot ((hS 0).2 (by omega)).1
      subst hspot
      refine ⟨b, off, rfl, fun j hj => ?_⟩
      have := (hS j).2 hj
      rw [Addr.add_lit, Addr.add_lit, Addr.add_lit, Addr.add_lit] at this
      exact this

theorem u8_of {n : Int} (h : (Lit.int .u8 n).wf = true) : ∃ t : Nat, t < 256 ∧ n = t := by
  simp [Lit.wf, IntKind.min, IntKind.max, IntKind.bits, IntKind.signed] at h
  exact ⟨n.toNat, by omega, by omega⟩

end Go.Proofs.YtdghknmlleffbaaDoor
