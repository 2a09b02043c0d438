/-
  No statement: marks, keys and rows as they lie in memory; rows that are owned.
-/
import Derived.Test.YtpdobbdbmgeoiaaTbTwA
set_option linter.unusedVariables false
set_option linter.unusedSimpArgs false
namespace Go.Proofs.Ytpdobbdbmgeoiaa
open Go.RowKit

/-- A mark: a key and a stamp. -/
structure MK where
  key : ByteArray
  t : Int
  i : Int
  q : Int
  o : ByteArray

/-- A row's mark. -/
def mkK (x : RD) : MK := ⟨x.key, x.t, x.i, x.q, x.o⟩

/-- A mark lies in five cells. -/
def CellsK (w : World) (b o : Nat) (x : MK) : Prop :=
  w.cell? ⟨b, o, none⟩ = some (.string x.key) ∧ w.cell? ⟨b, o + 1, none⟩ = some (.int .i64 x.t) ∧ w.cell? ⟨b, o + 2, none⟩ = some (.int .i64 x.i) ∧ w.cell? ⟨b, o + 3, none⟩ = some (.int .i64 x.q) ∧ w.cell? ⟨b, o + 4, none⟩ = some (.string x.o)
/-- A []Mark reads as marks, a []string as texts. -/
def ReadsMG (G : Nat → Prop) (w : World) (a : Option Addr) (len : Nat) (M : Nat → MK) : Prop :=
  len ≤ maxLen ∧ (len = 0 ∨ ∃ b off, a = some ⟨b, off, none⟩ ∧ G b ∧ ∀ j, j < len → CellsK w b (off + j * 5) (M j))
def ReadsSG (G : Nat → Prop) (w : World) (a : Option Addr) (len : Nat) (S : Nat → ByteArray) : Prop :=
  len ≤ maxLen ∧ (len = 0 ∨ ∃ b off, a = some ⟨b, off, none⟩ ∧ G b ∧ ∀ j, j < len → w.cell? ⟨b, off + j, none⟩ = some (.string (S j)))

section
variable {G H S : Nat → Prop} {w w' : World} {a : Option Addr} {len : Nat}

theorem CellsK.lt {b o : Nat} {x : MK} (h : CellsK w b o x) : b < w.heap.size := by have := World.block_lt_of_cell? w _ h.1; simpa using this
theorem CellsK.keptS {b o : Nat} {x : MK} (h : CellsK w b o x) (hk : Kept S w w') (hb : ¬ S b) : CellsK w' b o x :=
  ⟨hk.cell h.1 hb, hk.cell h.2.1 hb, hk.cell h.2.2.1 hb, hk.cell h.2.2.2.1 hb, hk.cell h.2.2.2.2 hb⟩
theorem ReadsMG.mono {M : Nat → MK} (h : ReadsMG G w a len M) (hG : ∀ k, G k → k < w.heap.size → H k) : ReadsMG H w a len M := by
  refine ⟨h.1, ?_⟩
  by_cases h0 : len = 0
  · exact .inl h0
  · obtain ⟨b, off, rfl, hg, hc⟩ := h.2.resolve_left h0
    exact .inr ⟨b, off, rfl, hG b hg (hc 0 (by omega)).lt, hc⟩
theorem ReadsMG.kept {M : Nat → MK} (h : ReadsMG G w a len M) (hk : Kept S w w') (hS : ∀ k, G k → ¬ S k) : ReadsMG G w' a len M := by
  refine ⟨h.1, h.2.imp id ?_⟩
  rintro ⟨b, off, rfl, hg, hc⟩
  exact ⟨b, off, rfl, hg, fun j hj => (hc j hj).keptS hk (hS b hg)⟩
theorem ReadsSG.mono {T : Nat → ByteArray} (h : ReadsSG G w a len T) (hG : ∀ k, G k → k < w.heap.size → H k) : ReadsSG H w a len T := by
  refine ⟨h.1, ?_⟩
  by_cases h0 : len = 0
  · exact .inl h0
  · obtain ⟨b, off, rfl, hg, hc⟩ := h.2.resolve_left h0
    exact .inr ⟨b, off, rfl, hG b hg (by have := World.block_lt_of_cell? w _ (hc 0 (by omega)); simpa using this), hc⟩
theorem ReadsSG.kept {T : Nat → ByteArray} (h : ReadsSG G w a len T) (hk : Kept S w w') (hS : ∀ k, G k → ¬ S k) : ReadsSG G w' a len T := by
  refine ⟨h.1, h.2.imp id ?_⟩
  rintro ⟨b, off, rfl, hg, hc⟩
  exact ⟨b, off, rfl, hg, fun j hj => hk.cell (hc j hj) (hS b hg)⟩

theorem ReadsMG.cells {M : Nat → MK} (h : ReadsMG G w a len M) {k : Nat} (hk : k < len) : ∃ b off, a = some ⟨b, off, none⟩ ∧ G b ∧ CellsK w b (off + k * 5) (M k) := by
  obtain ⟨b, off, rfl, hg, hc⟩ := h.2.resolve_left (by omega)
  exact ⟨b, off, rfl, hg, hc k hk⟩
theorem ReadsSG.cells {T : Nat → ByteArray} (h : ReadsSG G w a len T) {k : Nat} (hk : k < len) : ∃ b off, a = some ⟨b, off, none⟩ ∧ G b ∧ w.cell? ⟨b, off + k, none⟩ = some (.string (T k)) := by
  obtain ⟨b, off, rfl, hg, hc⟩ := h.2.resolve_left (by omega)
  exact ⟨b, off, rfl, hg, hc k hk⟩
theorem ReadsRG.cellsD {R : Nat → RD} (h : ReadsRG G w a len R) {k : Nat} (hk : k < len) : ∃ b off y c, a = some ⟨b, off, none⟩ ∧ G b ∧ Cells6 w b (off + k * 6) (R k) y c ∧ ReadsAG G w y (R k).len (R k).A := by
  obtain ⟨b, off, rfl, hg, hc⟩ := h.2.resolve_left (by omega)
  obtain ⟨y, c, h6, hr⟩ := hc k hk
  exact ⟨b, off, y, c, rfl, hg, h6, hr⟩

/-- What is behind the first. -/
theorem ReadsMG.tail {M : Nat → MK} {c : Nat} (h : ReadsMG G w a len M) (hl : 0 < len) (hc : len ≤ c) : ReadsMG G w (if c = 1 then a else a.map (·.add 5)) (len - 1) (fun j => M (j + 1)) := by
  obtain ⟨b, off, rfl, hg, hh⟩ := h.2.resolve_left (by omega)
  refine ⟨Nat.le_trans (Nat.sub_le _ _) h.1, ?_⟩
  by_cases h1 : c = 1
  · left; omega
  · refine .inr ⟨b, off + 5, by rw [if_neg h1]; rfl, hg, fun j hj => ?_⟩
    have := hh (j + 1) (by omega)
    rw [show off + (j + 1) * 5 = off + 5 + j * 5 by omega] at this
    exact this
theorem ReadsSG.tail {T : Nat → ByteArray} {c : Nat} (h : ReadsSG G w a len T) (hl : 0 < len) (hc : len ≤ c) : ReadsSG G w (if c = 1 then a else a.map (·.add 1)) (len - 1) (fun j => T (j + 1)) := by
  obtain ⟨b, off, rfl, hg, hh⟩ := h.2.resolve_left (by omega)
  refine ⟨Nat.le_trans (Nat.sub_le _ _) h.1, ?_⟩
  by_cases h1 : c = 1
  · left; omega
  · refine .inr ⟨b, off + 1, by rw [if_neg h1]; rfl, hg, fun j hj => ?_⟩
    have := hh (j + 1) (by omega)
    rw [show off + (j + 1) = off + 1 + j by omega] at this
    exact this
theorem ReadsRG.tail {R : Nat → RD} {c : Nat} (h : ReadsRG G w a len R) (hl : 0 < len) (hc : len ≤ c) : ReadsRG G w (if c = 1 then a else a.map (·.add 6)) (len - 1) (fun j => R (j + 1)) := by
  obtain ⟨b, off, rfl, hg, hh⟩ := h.2.resolve_left (by omega)
  refine ⟨Nat.le_trans (Nat.sub_le _ _) h.1, ?_⟩
  by_cases h1 : c = 1
  · left; omega
  · refine .inr ⟨b, off + 6, by rw [if_neg h1]; rfl, hg, fun j hj => ?_⟩
    have := hh (j + 1) (by omega)
    rw [show off + (j + 1) * 6 = off + 6 + j * 6 by omega] at this
    exact this

theorem ReadsMG.cong {M N : Nat → MK} (h : ReadsMG G w a len M) (hs : ∀ j, j < len → M j = N j) : ReadsMG G w a len N := by
  refine ⟨h.1, h.2.imp id ?_⟩
  rintro ⟨b, off, rfl, hg, hc⟩
  exact ⟨b, off, rfl, hg, fun j hj => hs j hj ▸ hc j hj⟩
theorem ReadsSG.cong {M N : Nat → ByteArray} (h : ReadsSG G w a len M) (hs : ∀ j, j < len → M j = N j) : ReadsSG G w a len N := by
  refine ⟨h.1, h.2.imp id ?_⟩
  rintro ⟨b, off, rfl, hg, hc⟩
  exact ⟨b, off, rfl, hg, fun j hj => hs j hj ▸ hc j hj⟩
theorem ReadsRG.congD {R N : Nat → RD} (h : ReadsRG G w a len R) (hs : ∀ j, j < len → R j = N j) : ReadsRG G w a len N := by
  refine ⟨h.1, h.2.imp id ?_⟩
  rintro ⟨b, off, rfl, hg, hc⟩
  exact ⟨b, off, rfl, hg, fun j hj => hs j hj ▸ hc j hj⟩
end

/-! Rows, marks and keys that a call has made. -/

abbrev RTd := RD × Option Addr × Nat
def sixD (t : RTd) : List Value := [.string t.1.key, .int .i64 t.1.t, .int .i64 t.1.i, .int .i64 t.1.q, .string t.1.o, .slice t.2.1 t.1.len t.2.2]
def fiveK (x : MK) : List Value := [.string x.key, .int .i64 x.t, .int .i64 x.i, .int .i64 x.q, .string x.o]
theorem sixD_one (t : RTd) : ∀ u ∈ sixD t, u.oneCell' = true := by
  intro u hu
  simp only [sixD, List.mem_cons, List.not_mem_nil, or_false] at hu
  rcases hu with rfl | rfl | rfl | rfl | rfl | rfl <;> rfl
theorem fiveK_one (x : MK) : ∀ u ∈ fiveK x, u.oneCell' = true := by
  intro u hu
  simp only [fiveK, List.mem_cons, List.not_mem_nil, or_false] at hu
  rcases hu with rfl | rfl | rfl | rfl | rfl <;> rfl
def rowB (t : RTd) : Obj := .cells #[.string t.1.key, .int .i64 t.1.t, .int .i64 t.1.i, .int .i64 t.1.q, .string t.1.o, .slice t.2.1 t.1.len t.2.2] 42
theorem new_sixD (w : World) (t : RTd) : ∀ j u, (sixD t)[j]? = some u → (w.alloc (rowB t)).cell? ((⟨w.heap.size, 0, none⟩ : Addr).add j) = some u := fun j u hj => by
  unfold rowB
  rw [Addr.add_lit, Nat.zero_add, cell_of_row _ _ _ _ _ (0, 0) (heap_alloc_new w _)]
  simpa [sixD] using hj
/-- Rows that are owned from B on; their attributes lie in blocks of some kind. -/
def OwnRG (G : Nat → Prop) (w : World) (B : Nat) (v : Value) (T : List RTd) : Prop :=
  w.ownsRow B 42 6 v T.length (T.flatMap sixD) ∧ ∀ t ∈ T, ReadsAG G w t.2.1 t.1.len t.1.A
theorem OwnRG.below {G : Nat → Prop} {w w' : World} {B : Nat} {v : Value} {T : List RTd} (h : OwnRG G w B v T) (hb : Below w.heap.size w w') : OwnRG G w' B v T :=
  ⟨owns_below h.1 hb, fun t ht => (h.2 t ht).kept (keptNew hb) (fun _ _ h => h)⟩
/-- One row more, its attributes in old blocks. -/
theorem OwnRG.more {G : Nat → Prop} {w w' : World} {B : Nat} {v v' : Value} {T : List RTd} {t : RTd} (h : OwnRG G w B v T) (hG : ∀ k, G k → v.ownBlock ≠ some k) (hr : ReadsAG G w t.2.1 t.1.len t.1.A)
    (ho : w'.ownsRow B 42 6 v' (T.length + 1) (T.flatMap sixD ++ sixD t)) (hg : w.grownBy w' v.ownBlock) : OwnRG G w' B v' (T ++ [t]) := by
  refine ⟨by rw [List.length_append, List.flatMap_append]; simpa using ho, fun u hu => ?_⟩
  have hk : Kept (fun b => v.ownBlock = some b) w w' := (Kept.refl _ w).grown hg (fun k hk => .inl hk)
  have hu' : ReadsAG G w u.2.1 u.1.len u.1.A := by
    rcases List.mem_append.1 hu with hu | hu
    · exact h.2 u hu
    · rw [List.mem_singleton] at hu; subst hu; exact hr
  exact hu'.kept hk (fun b hb => hG b hb)
/-- Owned rows as they read. -/
theorem OwnRG.reads {G H : Nat → Prop} {w : World} {B : Nat} {a : Option Addr} {l c : Nat} {T : List RTd} (R : Nat → RD) (h : OwnRG G w B (.slice a l c) T) (hT : ∀ j x, T[j]? = some x → x.1 = R j) (hG : ∀ k, G k → H k) (hB : ∀ k, B ≤ k → H k) : l = T.length ∧ l ≤ c ∧ ReadsRG H w a T.length R := by
  obtain ⟨h1, h2⟩ := h
  rcases h1.2 with ⟨hv, h0⟩ | ⟨g, cap, cur, hv, hb, hg, hnc, hm, hs, ht⟩
  · simp only [Value.slice.injEq] at hv
    obtain ⟨rfl, rfl, rfl⟩ := hv
    rw [h0]
    exact ⟨rfl, Nat.le_refl _, ⟨Nat.zero_le _, .inl rfl⟩⟩
  · simp only [Value.slice.injEq] at hv
    obtain ⟨rfl, rfl, hcc⟩ := hv
    refine ⟨rfl, by omega, ⟨Nat.le_trans hnc hm, .inr ⟨g, 0, rfl, hB g hb, fun j hj => ?_⟩⟩⟩
    have e : R j = T[j].1 := (hT j _ (List.getElem?_eq_getElem hj)).symm
    have hc : ∀ i u, i < 6 → (sixD T[j])[i]? = some u → w.cell? ⟨g, 0 + j * 6 + i, none⟩ = some u := fun i u hi hu => by
      rw [Nat.zero_add]
      obtain ⟨g', e1, e2⟩ := owns_at (w := w) (base := B) (e := 42) (size := 6) (a := ⟨g, 0, none⟩) (n := T.length) (c := cap) (xs := T.flatMap sixD) ⟨h1.1, .inr ⟨g, cap, cur, rfl, hb, hg, hnc, hm, hs, ht⟩⟩ (j := j * 6 + i) (u := u) (by rw [flat_at (m := 6) (fun t => rfl) T hj hi]; exact hu)
      cases e1
      exact e2
    rw [e]
    exact ⟨T[j].2.1, T[j].2.2, ⟨hc 0 _ (by omega) rfl, hc 1 _ (by omega) rfl, hc 2 _ (by omega) rfl, hc 3 _ (by omega) rfl, hc 4 _ (by omega) rfl, hc 5 _ (by omega) rfl⟩, (h2 _ (List.getElem_mem hj)).mono (fun b hb _ => hG b hb)⟩
/-- Six cells of a block. -/
theorem sixE {w : World} {b : Nat} {v0 v1 v2 v3 v4 v5 : Value} {t : TypeId} (h : w.heap[b]? = some (.cells #[v0, v1, v2, v3, v4, v5] t (0, 0))) :
    (w.cell? ⟨b, 0, none⟩ = some v0 ∧ w.cell? ⟨b, 1, none⟩ = some v1 ∧ w.cell? ⟨b, 2, none⟩ = some v2 ∧ w.cell? ⟨b, 3, none⟩ = some v3 ∧ w.cell? ⟨b, 4, none⟩ = some v4 ∧ w.cell? ⟨b, 5, none⟩ = some v5) := by
  refine ⟨?_, ?_, ?_, ?_, ?_, ?_⟩ <;> simp [World.cell?, h]

theorem sixG {w : World} {b : Nat} {v0 v1 v2 v3 v4 v5 : Value} {t : TypeId} (h : w.heap[b]? = some (.cells #[v0, v1, v2, v3, v4, v5] t (0, 0))) :
    (w.cell? ⟨b, 0, none⟩ = some v0 ∧ w.cell? ⟨b, 1, none⟩ = some v1 ∧ w.cell? ⟨b, 2, none⟩ = some v2 ∧ w.cell? ⟨b, 3, none⟩ = some v3 ∧ w.cell? ⟨b, 4, none⟩ = some v4 ∧ w.cell? ⟨b, 5, none⟩ = some v5) ∧
    (w.frozen? ⟨b, 0, none⟩ = false ∧ w.frozen? ⟨b, 1, none⟩ = false ∧ w.frozen? ⟨b, 2, none⟩ = false ∧ w.frozen? ⟨b, 3, none⟩ = false ∧ w.frozen? ⟨b, 4, none⟩ = false ∧ w.frozen? ⟨b, 5, none⟩ = false) := by
  refine ⟨⟨?_, ?_, ?_, ?_, ?_, ?_⟩, ⟨?_, ?_, ?_, ?_, ?_, ?_⟩⟩ <;> simp [World.cell?, World.frozen?, h]
theorem six_setD {w : World} {b : Nat} {a0 a1 a2 a3 a4 a5 : Value} {t : TypeId} (h : w.heap[b]? = some (.cells #[a0, a1, a2, a3, a4, a5] t (0, 0))) (v0 v1 v2 v3 v4 v5 : Value) :
    ((((((w.setCell ⟨b, 0, none⟩ v0).setCell ⟨b, 1, none⟩ v1).setCell ⟨b, 2, none⟩ v2).setCell ⟨b, 3, none⟩ v3).setCell ⟨b, 4, none⟩ v4).setCell ⟨b, 5, none⟩ v5).heap[b]? = some (.cells #[v0, v1, v2, v3, v4, v5] t (0, 0)) := by
  rw [heap_setCell_same _ b 5 _ t v5 (heap_setCell_same _ b 4 _ t v4 (heap_setCell_same _ b 3 _ t v3 (heap_setCell_same _ b 2 _ t v2 (heap_setCell_same _ b 1 _ t v1 (heap_setCell_same _ b 0 _ t v0 h)))))]
  rfl
theorem six_belowD {b : Nat} {A W : World} {B : Nat} (h : Below b A W) (hB : b ≤ B) (v0 v1 v2 v3 v4 v5 : Value) :
    Below b A ((((((W.setCell ⟨B, 0, none⟩ v0).setCell ⟨B, 1, none⟩ v1).setCell ⟨B, 2, none⟩ v2).setCell ⟨B, 3, none⟩ v3).setCell ⟨B, 4, none⟩ v4).setCell ⟨B, 5, none⟩ v5) :=
  (((((h.setCell (p := ⟨B, 0, none⟩) hB v0).setCell (p := ⟨B, 1, none⟩) hB v1).setCell (p := ⟨B, 2, none⟩) hB v2).setCell (p := ⟨B, 3, none⟩) hB v3).setCell (p := ⟨B, 4, none⟩) hB v4).setCell (p := ⟨B, 5, none⟩) hB v5
theorem oneE {w : World} {b : Nat} {v0 : Value} {t : TypeId} (h : w.heap[b]? = some (.cells #[v0] t (0, 0))) : w.cell? ⟨b, 0, none⟩ = some v0 ∧ w.frozen? ⟨b, 0, none⟩ = false := by
  constructor <;> simp [World.cell?, World.frozen?, h]
theorem one_setD {w : World} {b : Nat} {a0 : Value} {t : TypeId} (h : w.heap[b]? = some (.cells #[a0] t (0, 0))) (v0 : Value) : (w.setCell ⟨b, 0, none⟩ v0).heap[b]? = some (.cells #[v0] t (0, 0)) := by
  rw [heap_setCell_same _ b 0 _ t v0 h]
  rfl
/-- A text lies in a cell. -/
def CellsS (w : World) (b o : Nat) (s : ByteArray) : Prop := w.cell? ⟨b, o, none⟩ = some (.string s)
theorem CellsS.keptS {S : Nat → Prop} {w w' : World} {b o : Nat} {s : ByteArray} (h : CellsS w b o s) (hk : Kept S w w') (hb : ¬ S b) : CellsS w' b o s := hk.cell h hb

/-- One cell of what is owned is turned. -/
theorem own_setD {w : World} {e : TypeId} {B g n c size : Nat} {xs : List Value} (h : w.ownsRow B e size (.slice (some ⟨g, 0, none⟩) n c) n xs) (i : Nat) (u : Value) :
    (w.setCell ⟨g, i, none⟩ u).ownsRow B e size (.slice (some ⟨g, 0, none⟩) n c) n (xs.set i u) := by
  refine ⟨by rw [List.length_set]; exact h.1, ?_⟩
  rcases h.2 with ⟨h1, _⟩ | ⟨g', cap', cur, h1, hb, hg, hn, hm, hs, ht⟩
  · simp at h1
  · simp only [Value.slice.injEq, Option.some.injEq, Addr.mk.injEq] at h1
    obtain ⟨⟨rfl, -⟩, -, rfl⟩ := h1
    refine .inr ⟨g, c, cur.setIfInBounds i u, rfl, hb, heap_setCell_same w g i cur e u hg, hn, hm, by simpa using hs, ?_⟩
    rw [← ht]
    simp [List.take_set]
/-- A row in new memory, as data. -/
def dtR (x : RD) : RD := { x with A := twF x.A }

theorem infoRd : (Try.prog.info? 42).map (fun i => (i.zero, i.size, i.bytes)) = some (some (.agg #[.string ⟨#[]⟩, .int .i64 0, .int .i64 0, .int .i64 0, .string ⟨#[]⟩, .slice none 0 0]), 6, 80) := by kernel_rfl
theorem infoSd : (Try.prog.info? 9).map (fun i => (i.zero, i.size, i.bytes)) = some (some (.string ⟨#[]⟩), 1, 16) := by kernel_rfl

end Go.Proofs.Ytpdobbdbmgeoiaa
