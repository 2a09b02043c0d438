/-
  No statement: numbers, attributes and rows as they lie in memory, in blocks of some kind.
-/
import Derived.Test.YtpdobbdbmgeoiaaWDef
import Derived.Test.YtpdobbdbmgeoiaaBase
set_option linter.unusedVariables false
set_option linter.unusedSimpArgs false
namespace Go.Proofs.Ytpdobbdbmgeoiaa
open Go.RowKit

/-- A []int64 reads as numbers, in a block that is G. -/
def ReadsG (G : Nat → Prop) (w : World) (a : Option Addr) (len : Nat) (z : Nat → Int) : Prop :=
  len ≤ maxLen ∧ (len = 0 ∨ ∃ b off, a = some ⟨b, off, none⟩ ∧ G b ∧ ∀ j, j < len → w.cell? ⟨b, off + j, none⟩ = some (.int .i64 (z j)))
/-- A []Attr likewise, its lists too. -/
def ReadsAG (G : Nat → Prop) (w : World) (a : Option Addr) (len : Nat) (A : Nat → AD) : Prop :=
  len ≤ maxLen ∧ (len = 0 ∨ ∃ b off, a = some ⟨b, off, none⟩ ∧ G b ∧ ∀ j, j < len → ∃ y c, Cells5 w b (off + j * 5) (A j) y c ∧ ReadsG G w y (A j).len (A j).z)
/-- A row lies in six cells. -/
def Cells6 (w : World) (b o : Nat) (x : RD) (y : Option Addr) (c : Nat) : Prop :=
  w.cell? ⟨b, o, none⟩ = some (.string x.key) ∧ w.cell? ⟨b, o + 1, none⟩ = some (.int .i64 x.t) ∧ w.cell? ⟨b, o + 2, none⟩ = some (.int .i64 x.i) ∧ w.cell? ⟨b, o + 3, none⟩ = some (.int .i64 x.q) ∧ w.cell? ⟨b, o + 4, none⟩ = some (.string x.o) ∧ w.cell? ⟨b, o + 5, none⟩ = some (.slice y x.len c)
/-- A []Row likewise. -/
def ReadsRG (G : Nat → Prop) (w : World) (a : Option Addr) (len : Nat) (R : Nat → RD) : Prop :=
  len ≤ maxLen ∧ (len = 0 ∨ ∃ b off, a = some ⟨b, off, none⟩ ∧ G b ∧ ∀ j, j < len → ∃ y c, Cells6 w b (off + j * 6) (R j) y c ∧ ReadsAG G w y (R j).len (R j).A)

section
variable {G H S : Nat → Prop} {w w' : World} {a : Option Addr} {len : Nat}

theorem ReadsG.plain {z : Nat → Int} (h : ReadsG G w a len z) : Reads w a len z := by
  refine ⟨h.1, h.2.imp id ?_⟩
  rintro ⟨b, off, rfl, -, hc⟩
  exact ⟨b, off, rfl, hc⟩
theorem ReadsG.of {z : Nat → Int} (h : Reads w a len z) : ReadsG (fun k => k < w.heap.size) w a len z := by
  refine ⟨h.1, ?_⟩
  by_cases h0 : len = 0
  · exact .inl h0
  · obtain ⟨b, off, rfl, hc⟩ := h.2.resolve_left h0
    exact .inr ⟨b, off, rfl, by have := World.block_lt_of_cell? w _ (hc 0 (by omega)); simpa using this, hc⟩
theorem ReadsG.lt {z : Nat → Int} (h : ReadsG G w a len z) : ReadsG (fun k => G k ∧ k < w.heap.size) w a len z := by
  refine ⟨h.1, ?_⟩
  by_cases h0 : len = 0
  · exact .inl h0
  · obtain ⟨b, off, rfl, hg, hc⟩ := h.2.resolve_left h0
    exact .inr ⟨b, off, rfl, ⟨hg, by have := World.block_lt_of_cell? w _ (hc 0 (by omega)); simpa using this⟩, hc⟩
theorem ReadsG.mono {z : Nat → Int} (h : ReadsG G w a len z) (hG : ∀ k, G k → k < w.heap.size → H k) : ReadsG H w a len z := by
  refine ⟨h.1, h.lt.2.imp id ?_⟩
  rintro ⟨b, off, rfl, hg, hc⟩
  exact ⟨b, off, rfl, hG b hg.1 hg.2, hc⟩
theorem ReadsG.kept {z : Nat → Int} (h : ReadsG G w a len z) (hk : Kept S w w') (hS : ∀ k, G k → ¬ S k) : ReadsG G w' a len z := by
  refine ⟨h.1, h.2.imp id ?_⟩
  rintro ⟨b, off, rfl, hg, hc⟩
  exact ⟨b, off, rfl, hg, fun j hj => hk.cell (hc j hj) (hS b hg)⟩

theorem Cells5.keptS {b o c : Nat} {x : AD} {y : Option Addr} (h : Cells5 w b o x y c) (hk : Kept S w w') (hb : ¬ S b) : Cells5 w' b o x y c :=
  ⟨hk.cell h.1 hb, hk.cell h.2.1 hb, hk.cell h.2.2.1 hb, hk.cell h.2.2.2.1 hb, hk.cell h.2.2.2.2 hb⟩
theorem Cells6.keptS {b o c : Nat} {x : RD} {y : Option Addr} (h : Cells6 w b o x y c) (hk : Kept S w w') (hb : ¬ S b) : Cells6 w' b o x y c :=
  ⟨hk.cell h.1 hb, hk.cell h.2.1 hb, hk.cell h.2.2.1 hb, hk.cell h.2.2.2.1 hb, hk.cell h.2.2.2.2.1 hb, hk.cell h.2.2.2.2.2 hb⟩
theorem Cells6.lt {b o c : Nat} {x : RD} {y : Option Addr} (h : Cells6 w b o x y c) : b < w.heap.size := by have := World.block_lt_of_cell? w _ h.1; simpa using this

theorem ReadsAG.plain {A : Nat → AD} (h : ReadsAG G w a len A) : ReadsA w a len A := by
  refine ⟨h.1, h.2.imp id ?_⟩
  rintro ⟨b, off, rfl, -, hc⟩
  refine ⟨b, off, rfl, fun j hj => ?_⟩
  obtain ⟨y, c, h5, hr⟩ := hc j hj
  exact ⟨y, c, h5, hr.plain⟩
theorem ReadsAG.of {A : Nat → AD} (h : ReadsA w a len A) : ReadsAG (fun k => k < w.heap.size) w a len A := by
  refine ⟨h.1, ?_⟩
  by_cases h0 : len = 0
  · exact .inl h0
  · obtain ⟨b, off, rfl, hc⟩ := h.2.resolve_left h0
    refine .inr ⟨b, off, rfl, ?_, fun j hj => ?_⟩
    · obtain ⟨y, c, h5, -⟩ := hc 0 (by omega); exact h5.lt
    · obtain ⟨y, c, h5, hr⟩ := hc j hj
      exact ⟨y, c, h5, ReadsG.of hr⟩
theorem ReadsAG.mono {A : Nat → AD} (h : ReadsAG G w a len A) (hG : ∀ k, G k → k < w.heap.size → H k) : ReadsAG H w a len A := by
  refine ⟨h.1, ?_⟩
  by_cases h0 : len = 0
  · exact .inl h0
  · obtain ⟨b, off, rfl, hg, hc⟩ := h.2.resolve_left h0
    refine .inr ⟨b, off, rfl, ?_, fun j hj => ?_⟩
    · obtain ⟨y, c, h5, -⟩ := hc 0 (by omega); exact hG b hg h5.lt
    · obtain ⟨y, c, h5, hr⟩ := hc j hj
      exact ⟨y, c, h5, hr.mono hG⟩
theorem ReadsAG.kept {A : Nat → AD} (h : ReadsAG G w a len A) (hk : Kept S w w') (hS : ∀ k, G k → ¬ S k) : ReadsAG G w' a len A := by
  refine ⟨h.1, h.2.imp id ?_⟩
  rintro ⟨b, off, rfl, hg, hc⟩
  refine ⟨b, off, rfl, hg, fun j hj => ?_⟩
  obtain ⟨y, c, h5, hr⟩ := hc j hj
  exact ⟨y, c, h5.keptS hk (hS b hg), hr.kept hk hS⟩

theorem ReadsRG.mono {R : Nat → RD} (h : ReadsRG G w a len R) (hG : ∀ k, G k → k < w.heap.size → H k) : ReadsRG H w a len R := by
  refine ⟨h.1, ?_⟩
  by_cases h0 : len = 0
  · exact .inl h0
  · obtain ⟨b, off, rfl, hg, hc⟩ := h.2.resolve_left h0
    refine .inr ⟨b, off, rfl, ?_, fun j hj => ?_⟩
    · obtain ⟨y, c, h5, -⟩ := hc 0 (by omega); exact hG b hg h5.lt
    · obtain ⟨y, c, h5, hr⟩ := hc j hj
      exact ⟨y, c, h5, hr.mono hG⟩
theorem ReadsRG.kept {R : Nat → RD} (h : ReadsRG G w a len R) (hk : Kept S w w') (hS : ∀ k, G k → ¬ S k) : ReadsRG G w' a len R := by
  refine ⟨h.1, h.2.imp id ?_⟩
  rintro ⟨b, off, rfl, hg, hc⟩
  refine ⟨b, off, rfl, hg, fun j hj => ?_⟩
  obtain ⟨y, c, h5, hr⟩ := hc j hj
  exact ⟨y, c, h5.keptS hk (hS b hg), hr.kept hk hS⟩
end

/-- A []Row reads as rows. -/
abbrev ReadsR (w : World) (a : Option Addr) (len : Nat) (R : Nat → RD) : Prop := ReadsRG (fun k => k < w.heap.size) w a len R

theorem keptBelow {w w' : World} (hb : Below w.heap.size w w') : Kept (fun k => w.heap.size ≤ k) w w' := ⟨hb.os, hb.tape, hb.output, hb.size, fun k hk _ => hb.block k hk⟩
theorem keptNew {w w' : World} (hb : Below w.heap.size w w') : Kept (fun _ => False) w w' := ⟨hb.os, hb.tape, hb.output, hb.size, fun k hk _ => hb.block k hk⟩

theorem ReadsR.below {w w' : World} {a : Option Addr} {len : Nat} {R : Nat → RD} (h : ReadsR w a len R) (hb : Below w.heap.size w w') : ReadsR w' a len R :=
  (ReadsRG.kept (G := fun k => k < w.heap.size) h (keptBelow hb) (fun k hk h => by omega)).mono (fun k _ h => h)

/-- A row in memory by itself. -/
structure FewR (x : RD) : Prop where
  k : x.key.size ≤ 100
  o : x.o.size ≤ 100
  t : In64 x.t
  i : In64 x.i
  q : In64 x.q
  n : ∀ j, j < x.len → NumA (x.A j)
  f : ∀ j, j < x.len → FewA (x.A j)
  l : x.len ≤ 40

/-- The first k of attributes, of rows. -/
def tkA (A : Nat → AD) (k : Nat) : List AD := fromA A k 0

def tkR (R : Nat → RD) (k : Nat) : List RD := (List.range k).map R

theorem tkA_succ (A : Nat → AD) (k : Nat) : tkA A (k + 1) = tkA A k ++ [A k] := by
  simp [tkA, fromA, List.range_succ]

theorem tkR_succ (R : Nat → RD) (k : Nat) : tkR R (k + 1) = tkR R k ++ [R k] := by simp [tkR, List.range_succ]


end Go.Proofs.Ytpdobbdbmgeoiaa
