/-
  No statement: attributes as data, and as they lie in memory; what Check of package row answers.
-/
import Derived.Test.YtpdobbdbmgeoiaaWName
import Derived.Test.YtpdobbdbmgeoiaaKeys
import Derived.Test.YtpdobbdbmgeoiaaSCheck
import Derived.Test.YtpdobbdbmgeoiaaVCmp
namespace Go.Proofs.Ytpdobbdbmgeoiaa
open Go.RowKit

/-- An attribute as data: its name, and its value's Kind, number, text and list. -/
structure AD where
  m : ByteArray
  k : Int
  n : Int
  s : ByteArray
  len : Nat
  z : Nat → Int

/-- The five cells of an attribute, its list in y. -/
def AD.cs (x : AD) (y : Option Addr) (c : Nat) : Array Value := #[.string x.m, .int .i64 x.k, .int .i64 x.n, .string x.s, .slice y x.len c]

/-- An attribute lies in five cells, one behind the other. -/
def Cells5 (w : World) (b o : Nat) (x : AD) (y : Option Addr) (c : Nat) : Prop :=
  w.cell? ⟨b, o, none⟩ = some (.string x.m) ∧ w.cell? ⟨b, o + 1, none⟩ = some (.int .i64 x.k) ∧ w.cell? ⟨b, o + 2, none⟩ = some (.int .i64 x.n) ∧ w.cell? ⟨b, o + 3, none⟩ = some (.string x.s) ∧ w.cell? ⟨b, o + 4, none⟩ = some (.slice y x.len c)

theorem Cells5.lt {w : World} {b o : Nat} {x : AD} {y : Option Addr} {c : Nat} (h : Cells5 w b o x y c) : b < w.heap.size := by have := World.block_lt_of_cell? w _ h.1; simpa using this

theorem Cells5.below {B : Nat} {w w' : World} {b o : Nat} {x : AD} {y : Option Addr} {c : Nat} (h : Cells5 w b o x y c) (hb : Below B w w') (hB : b < B) : Cells5 w' b o x y c :=
  ⟨(hb.cell (p := ⟨b, _, none⟩) hB).trans h.1, (hb.cell (p := ⟨b, _, none⟩) hB).trans h.2.1, (hb.cell (p := ⟨b, _, none⟩) hB).trans h.2.2.1, (hb.cell (p := ⟨b, _, none⟩) hB).trans h.2.2.2.1, (hb.cell (p := ⟨b, _, none⟩) hB).trans h.2.2.2.2⟩

theorem Cells5.kept {w w' : World} {b o : Nat} {x : AD} {y : Option Addr} {c : Nat} (h : Cells5 w b o x y c) (hb : Below w.heap.size w w') : Cells5 w' b o x y c := h.below hb h.lt

/-- A []Attr reads as attributes. -/
def ReadsA (w : World) (a : Option Addr) (len : Nat) (A : Nat → AD) : Prop :=
  len ≤ maxLen ∧ (len = 0 ∨ ∃ b off, a = some ⟨b, off, none⟩ ∧ ∀ j, j < len → ∃ y c, Cells5 w b (off + j * 5) (A j) y c ∧ Reads w y (A j).len (A j).z)

theorem ReadsA.kept {w w' : World} {a : Option Addr} {len : Nat} {A : Nat → AD} (h : ReadsA w a len A) (hb : Below w.heap.size w w') : ReadsA w' a len A := by
  refine ⟨h.1, h.2.imp id ?_⟩
  rintro ⟨b, off, rfl, hc⟩
  refine ⟨b, off, rfl, fun j hj => ?_⟩
  obtain ⟨y, c, h5, hr⟩ := hc j hj
  exact ⟨y, c, h5.kept hb, hr.kept hb⟩

/-- An attribute in a block of its own. -/
theorem cells5_block {w : World} {b : Nat} {x : AD} {y : Option Addr} {c : Nat} {t : TypeId} (h : w.heap[b]? = some (.cells #[.string x.m, .int .i64 x.k, .int .i64 x.n, .string x.s, .slice y x.len c] t (0, 0))) : Cells5 w b 0 x y c := by
  refine ⟨?_, ?_, ?_, ?_, ?_⟩ <;> simp [World.cell?, h]

/-- What is wrong with an attribute behind one of name p; 0: nothing. -/
def errA (p : ByteArray) (x : AD) : Int := if goodB x.m.data.toList = false then 5 else if lsS p x.m = false then 6 else errV x.k x.s x.len x.z

/-- What is wrong with attributes. -/
def errAs : ByteArray → List AD → Int
  | _, [] => 0
  | p, x :: r => if errA p x = 0 then errAs x.m r else errA p x

/-- The attributes from the k-th on. -/
def fromA (A : Nat → AD) (n k : Nat) : List AD := (List.range (n - k)).map fun j => A (k + j)

theorem fromA_cons (A : Nat → AD) {n k : Nat} (h : k < n) : fromA A n k = A k :: fromA A n (k + 1) := by
  unfold fromA
  rw [show n - k = (n - (k + 1)) + 1 by omega, List.range_succ_eq_map, List.map_cons, List.map_map]
  simp only [Nat.add_zero, List.cons.injEq, true_and]
  apply List.map_congr_left
  intro j _
  simp only [Function.comp_def, Nat.succ_eq_add_one]
  congr 1; omega

theorem fromA_nil (A : Nat → AD) {n k : Nat} (h : n ≤ k) : fromA A n k = [] := by
  unfold fromA; rw [Nat.sub_eq_zero_of_le h]; rfl

/-- A row as data. -/
structure RD where
  key : ByteArray
  t : Int
  i : Int
  q : Int
  o : ByteArray
  len : Nat
  A : Nat → AD

/-- What is wrong with a row. -/
def errR (x : RD) : Int := if goodB x.key.data.toList = false then 5 else if errS x.t x.i x.q x.o = 0 then (if 32 < x.len then 4 else errAs ⟨#[]⟩ (fromA x.A x.len 0)) else errS x.t x.i x.q x.o

/-- A row as a value. -/
def rowV (x : RD) (a : Option Addr) (c : Nat) : Value := .agg #[.string x.key, .int .i64 x.t, .int .i64 x.i, .int .i64 x.q, .string x.o, .slice a x.len c]

theorem lsS_empty {m : ByteArray} (h : goodB m.data.toList = true) : lsS ⟨#[]⟩ m = true := by
  cases m with
  | mk d =>
    obtain ⟨l⟩ := d
    cases l with
    | nil => simp [goodB] at h
    | cons c r => unfold lsS; rw [Lib.toList_data, Lib.toList_data]; rfl

/-- Attributes that are short, of numbers of 64 bits. -/
def FewA (x : AD) : Prop := x.m.size ≤ 100 ∧ x.s.size ≤ 200 ∧ x.len ≤ 40
def NumA (x : AD) : Prop := In64 x.k ∧ In64 x.n ∧ ∀ j, In64 (x.z j)

end Go.Proofs.Ytpdobbdbmgeoiaa
