/-
  No statement: what Check of package value answers, and the contracts of its parts.
-/
import Derived.Test.YtpdobbdbmgeoiaaVNum
import Derived.LoopTactic
import Derived.Deep.QuietTactic
import Derived.BigQuiet
namespace Go.Proofs.Ytpdobbdbmgeoiaa
open Go.RowKit

/-- A byte that no text may have. -/
def badB (c : UInt8) : Bool := decide ((c.toNat : Int) < 32) || decide (126 < (c.toNat : Int)) || decide ((c.toNat : Int) = 34)
/-- What is wrong with a text; 0: nothing. -/
def errT (l : List UInt8) : Int := if 64 < l.length then 4 else if l.any badB then 2 else 0
/-- Do numbers rise? -/
def risesB : List Int → Bool
  | a :: b :: r => decide (a < b) && risesB (b :: r)
  | _ => true
/-- What is wrong with a list; 0: nothing. -/
def errL (l : List Int) : Int := if 16 < l.length then 4 else if risesB l then 0 else 2

theorem risesB_iff (l : List Int) : risesB l = true ↔ ∀ j, j + 1 < l.length → l.getD j 0 < l.getD (j + 1) 0 := by
  induction l with
  | nil => simp [risesB]
  | cons a r ih =>
    cases r with
    | nil => simp [risesB]
    | cons b r =>
      simp only [risesB, Bool.and_eq_true, decide_eq_true_eq]
      rw [ih]
      constructor
      · rintro ⟨h, k⟩ j hj
        cases j with
        | zero => simpa using h
        | succ j => simpa using k j (by simpa using hj)
      · intro h
        exact ⟨by simpa using h 0 (by simp), fun j hj => by simpa using h (j + 1) (by simpa using hj)⟩

theorem anyT {s : ByteArray} (h : ∀ j (hj : j < s.size), badB s[j] = false) : s.data.toList.any badB = false := by
  rw [List.any_eq_false]
  intro c hc
  obtain ⟨j, hj, rfl⟩ := List.mem_iff_getElem.1 hc
  have := h j (by simpa using hj)
  intro e
  have e' : badB s[j] = true := e
  rw [this] at e'; cases e'

theorem anyT_yes {s : ByteArray} {j : Nat} (hj : j < s.size) (h : badB s[j] = true) : s.data.toList.any badB = true := by
  rw [List.any_eq_true]
  exact ⟨s[j], List.mem_iff_getElem.2 ⟨j, by simpa using hj, rfl⟩, h⟩

/-- A []int64 reads as a list of numbers. -/
def Reads (w : World) (a : Option Addr) (len : Nat) (z : Nat → Int) : Prop :=
  len ≤ maxLen ∧ (len = 0 ∨ ∃ b off, a = some ⟨b, off, none⟩ ∧ ∀ j, j < len → w.cell? ⟨b, off + j, none⟩ = some (.int .i64 (z j)))

/-- The first numbers of z. -/
def upTo (z : Nat → Int) (n : Nat) : List Int := (List.range n).map z

theorem upTo_len (z : Nat → Int) (n : Nat) : (upTo z n).length = n := by simp [upTo]
theorem upTo_at (z : Nat → Int) {n j : Nat} (h : j < n) : (upTo z n).getD j 0 = z j := by simp [upTo, List.getD, h]

theorem Reads.below {B : Nat} {w w' : World} {a : Option Addr} {len : Nat} {z : Nat → Int} (h : Reads w a len z) (hb : Below B w w') (hB : ∀ x, a = some x → x.block < B) : Reads w' a len z := by
  refine ⟨h.1, h.2.imp id ?_⟩
  rintro ⟨b, off, rfl, hc⟩
  exact ⟨b, off, rfl, fun j hj => (hb.cell (p := ⟨b, off + j, none⟩) (show b < B from hB ⟨b, off, none⟩ rfl)).trans (hc j hj)⟩

theorem Reads.kept {w w' : World} {a : Option Addr} {len : Nat} {z : Nat → Int} (h : Reads w a len z) (hb : Below w.heap.size w w') : Reads w' a len z := by
  refine ⟨h.1, ?_⟩
  rcases h.2 with h0 | ⟨b, off, rfl, hc⟩
  · exact .inl h0
  · exact .inr ⟨b, off, rfl, fun j hj => (hb.cell (p := ⟨b, off + j, none⟩) (World.block_lt_of_cell? w _ (hc j hj))).trans (hc j hj)⟩

theorem rises_upTo {z : Nat → Int} {n : Nat} : risesB (upTo z n) = true ↔ ∀ j, j + 1 < n → z j < z (j + 1) := by
  rw [risesB_iff, upTo_len]
  exact ⟨fun h j hj => by have := h j hj; rwa [upTo_at z (by omega), upTo_at z hj] at this, fun h j hj => by rw [upTo_at z (by omega), upTo_at z hj]; exact h j hj⟩

/-- A value of package value, as data. -/
def val (k n : Int) (s : ByteArray) (l : Value) : Value := .agg #[.int .i64 k, .int .i64 n, .string s, l]

/-- What is wrong with a value; 0: nothing. -/
def errV (k : Int) (s : ByteArray) (len : Nat) (z : Nat → Int) : Int := if k = 1 then 0 else if k = 2 then errT s.data.toList else if k = 3 then errL (upTo z len) else 7

theorem four {W : World} {B : Nat} {x0 x1 x2 x3 : Value} {t : TypeId} (h : W.heap[B]? = some (.cells #[x0, x1, x2, x3] t (0, 0))) :
    (W.cell? ⟨B, 0, none⟩ = some x0 ∧ W.cell? ⟨B, 1, none⟩ = some x1 ∧ W.cell? ⟨B, 2, none⟩ = some x2 ∧ W.cell? ⟨B, 3, none⟩ = some x3) ∧
    (W.frozen? ⟨B, 0, none⟩ = false ∧ W.frozen? ⟨B, 1, none⟩ = false ∧ W.frozen? ⟨B, 2, none⟩ = false ∧ W.frozen? ⟨B, 3, none⟩ = false) := by
  refine ⟨⟨?_, ?_, ?_, ?_⟩, ?_, ?_, ?_, ?_⟩ <;> simp [World.cell?, World.frozen?, h]

end Go.Proofs.Ytpdobbdbmgeoiaa
