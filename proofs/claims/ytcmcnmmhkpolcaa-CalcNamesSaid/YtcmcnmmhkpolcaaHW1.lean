/-
  No statement: what these walks need, of earlier texts: MapDef, MapM, VCheck, ReadSV, SCheck, RPath, WDef.
-/
import Derived.Test.YtcmcnmmhkpolcaaHE4
import Derived.LoopTactic
import Derived.Deep.QuietTactic
import Derived.BigQuiet
import Derived.StillTailTactics
import Derived.Deep.RegionHeld3
import Derived.Lib.SliceRun
import Derived.Deep.LoopGhost
import Derived.Deep.Cut
import Derived.Test.YtcmcnmmhkpolcaaProg
import Derived.WalkKit
import Derived.WalkSpells
import Derived.IntWalk
import Derived.Lib.Hide
import Derived.RangeFuncBox
import Derived.Maps.AppendAt
import Derived.Laws.IdiomStrings
import Derived.RangeFuncRecord
import Derived.Deep.Slices
import Derived.Test.YtcmcnmmhkpolcaaShelf
import Derived.Deep.Fields
import Derived.ChangeSame
namespace Go.Proofs.Ytcmcnmmhkpolcaa.Wr
section
open Go.RowKit

/-- At block p lies a map of two owned slices; all its blocks are among F. -/
def MapIn (w : World) (T kE vE : TypeId) (p : Nat) (F : Nat → Prop) (ks vs : List Value) : Prop :=
  ∃ kv vv, w.heap[p]? = some (.cells #[kv, vv] T (0, 0)) ∧ w.ownsRow 0 kE 1 kv ks.length ks ∧ w.ownsRow 0 vE 1 vv ks.length vs ∧
    kv.ownBlock ≠ some p ∧ vv.ownBlock ≠ some p ∧ (∀ b, kv.ownBlock = some b → vv.ownBlock ≠ some b) ∧
    F p ∧ (∀ b, kv.ownBlock = some b → F b) ∧ (∀ b, vv.ownBlock = some b → F b) ∧ (∀ k, F k → k < w.heap.size)

/-- The blocks of before, and new ones. -/
def Grew (w : World) (F F' : Nat → Prop) : Prop := ∀ k, F' k → F k ∨ w.heap.size ≤ k

theorem Grew.refl (w : World) (F : Nat → Prop) : Grew w F F := fun _ h => Or.inl h

theorem Grew.trans {w w1 : World} {F G H : Nat → Prop} (h1 : Grew w F G) (h2 : Grew w1 G H) (hs : w.heap.size ≤ w1.heap.size) : Grew w F H := fun k hk => by
  rcases h2 k hk with h | h
  · exact h1 k h
  · exact Or.inr (by omega)

theorem MapIn.kept {w w' : World} {T kE vE : TypeId} {p : Nat} {F S : Nat → Prop} {ks vs : List Value} (h : MapIn w T kE vE p F ks vs) (hk : Kept S w w') (hS : ∀ k, F k → ¬ S k) : MapIn w' T kE vE p F ks vs := by
  obtain ⟨kv, vv, h0, h1, h2, d0, d1, d2, f0, f1, f2, f3⟩ := h
  exact ⟨kv, vv, hk.heap h0 (hS p f0), hk.owns h1 (fun b hb => hS b (f1 b hb)), hk.owns h2 (fun b hb => hS b (f2 b hb)), d0, d1, d2, f0, f1, f2, fun k hf => Nat.lt_of_lt_of_le (f3 k hf) hk.size⟩

theorem MapIn.drewN {w : World} {T kE vE : TypeId} {p : Nat} {F : Nat → Prop} {ks vs : List Value} (h : MapIn w T kE vE p F ks vs) (q : Nat) : MapIn (w.drewN q) T kE vE p F ks vs :=
  h.kept ((Kept.refl (fun _ => False) w).drewN q) (fun _ _ h => h)

theorem MapIn.lt {w : World} {T kE vE : TypeId} {p : Nat} {F : Nat → Prop} {ks vs : List Value} (h : MapIn w T kE vE p F ks vs) : ∀ k, F k → k < w.heap.size := by
  obtain ⟨kv, vv, h0, h1, h2, d0, d1, d2, f0, f1, f2, f3⟩ := h
  exact f3

theorem MapIn.len {w : World} {T kE vE : TypeId} {p : Nat} {F : Nat → Prop} {ks vs : List Value} (h : MapIn w T kE vE p F ks vs) : vs.length = ks.length := by
  obtain ⟨kv, vv, h0, h1, h2, d0, d1, d2, f0, f1, f2, f3⟩ := h
  exact owns_len h2

/-- The same with the fields' values in sight, and a length for each. -/
structure Fields (w : World) (T kE vE : TypeId) (p : Nat) (F : Nat → Prop) (kv vv : Value) (nk nv : Nat) (X Y : List Value) : Prop where
  row : w.heap[p]? = some (.cells #[kv, vv] T (0, 0))
  k : w.ownsRow 0 kE 1 kv nk X
  v : w.ownsRow 0 vE 1 vv nv Y
  dk : kv.ownBlock ≠ some p
  dv : vv.ownBlock ≠ some p
  dkv : ∀ b, kv.ownBlock = some b → vv.ownBlock ≠ some b
  fp : F p
  fk : ∀ b, kv.ownBlock = some b → F b
  fv : ∀ b, vv.ownBlock = some b → F b
  lt : ∀ k, F k → k < w.heap.size

theorem Fields.kept {w w' : World} {T kE vE : TypeId} {p : Nat} {F S : Nat → Prop} {kv vv : Value} {nk nv : Nat} {X Y : List Value} (h : Fields w T kE vE p F kv vv nk nv X Y) (hk : Kept S w w') (hS : ∀ k, F k → ¬ S k) : Fields w' T kE vE p F kv vv nk nv X Y :=
  ⟨hk.heap h.row (hS p h.fp), hk.owns h.k (fun b hb => hS b (h.fk b hb)), hk.owns h.v (fun b hb => hS b (h.fv b hb)), h.dk, h.dv, h.dkv, h.fp, h.fk, h.fv, fun k hf => Nat.lt_of_lt_of_le (h.lt k hf) hk.size⟩

end

section
open Go.RowKit

/-- At block p lies a map of two owned slices; all its blocks are among F. -/
def MapInM (m : Nat) (w : World) (T kE vE : TypeId) (p : Nat) (F : Nat → Prop) (ks vs : List Value) : Prop :=
  ∃ kv vv, w.heap[p]? = some (.cells #[kv, vv] T (0, 0)) ∧ w.ownsRow 0 kE 1 kv ks.length ks ∧ w.ownsRow 0 vE m vv ks.length vs ∧
    kv.ownBlock ≠ some p ∧ vv.ownBlock ≠ some p ∧ (∀ b, kv.ownBlock = some b → vv.ownBlock ≠ some b) ∧
    F p ∧ (∀ b, kv.ownBlock = some b → F b) ∧ (∀ b, vv.ownBlock = some b → F b) ∧ (∀ k, F k → k < w.heap.size)

theorem MapInM.kept {m : Nat} {w w' : World} {T kE vE : TypeId} {p : Nat} {F S : Nat → Prop} {ks vs : List Value} (h : MapInM m w T kE vE p F ks vs) (hk : Kept S w w') (hS : ∀ k, F k → ¬ S k) : MapInM m w' T kE vE p F ks vs := by
  obtain ⟨kv, vv, h0, h1, h2, d0, d1, d2, f0, f1, f2, f3⟩ := h
  exact ⟨kv, vv, hk.heap h0 (hS p f0), hk.owns h1 (fun b hb => hS b (f1 b hb)), hk.owns h2 (fun b hb => hS b (f2 b hb)), d0, d1, d2, f0, f1, f2, fun k hf => Nat.lt_of_lt_of_le (f3 k hf) hk.size⟩

theorem MapInM.drewN {m : Nat} {w : World} {T kE vE : TypeId} {p : Nat} {F : Nat → Prop} {ks vs : List Value} (h : MapInM m w T kE vE p F ks vs) (q : Nat) : MapInM m (w.drewN q) T kE vE p F ks vs :=
  h.kept ((Kept.refl (fun _ => False) w).drewN q) (fun _ _ h => h)

theorem MapInM.lt {m : Nat} {w : World} {T kE vE : TypeId} {p : Nat} {F : Nat → Prop} {ks vs : List Value} (h : MapInM m w T kE vE p F ks vs) : ∀ k, F k → k < w.heap.size := by
  obtain ⟨kv, vv, h0, h1, h2, d0, d1, d2, f0, f1, f2, f3⟩ := h
  exact f3

theorem MapInM.len {m : Nat} {w : World} {T kE vE : TypeId} {p : Nat} {F : Nat → Prop} {ks vs : List Value} (h : MapInM m w T kE vE p F ks vs) : vs.length = ks.length * m := by
  obtain ⟨kv, vv, h0, h1, h2, d0, d1, d2, f0, f1, f2, f3⟩ := h
  exact h2.1

/-- The same with the fields' values in sight, and a length for each. -/
structure FieldsM (m : Nat) (w : World) (T kE vE : TypeId) (p : Nat) (F : Nat → Prop) (kv vv : Value) (nk nv : Nat) (X Y : List Value) : Prop where
  row : w.heap[p]? = some (.cells #[kv, vv] T (0, 0))
  k : w.ownsRow 0 kE 1 kv nk X
  v : w.ownsRow 0 vE m vv nv Y
  dk : kv.ownBlock ≠ some p
  dv : vv.ownBlock ≠ some p
  dkv : ∀ b, kv.ownBlock = some b → vv.ownBlock ≠ some b
  fp : F p
  fk : ∀ b, kv.ownBlock = some b → F b
  fv : ∀ b, vv.ownBlock = some b → F b
  lt : ∀ k, F k → k < w.heap.size

theorem FieldsM.kept {m : Nat} {w w' : World} {T kE vE : TypeId} {p : Nat} {F S : Nat → Prop} {kv vv : Value} {nk nv : Nat} {X Y : List Value} (h : FieldsM m w T kE vE p F kv vv nk nv X Y) (hk : Kept S w w') (hS : ∀ k, F k → ¬ S k) : FieldsM m w' T kE vE p F kv vv nk nv X Y :=
  ⟨hk.heap h.row (hS p h.fp), hk.owns h.k (fun b hb => hS b (h.fk b hb)), hk.owns h.v (fun b hb => hS b (h.fv b hb)), h.dk, h.dv, h.dkv, h.fp, h.fk, h.fv, fun k hf => Nat.lt_of_lt_of_le (h.lt k hf) hk.size⟩

end

section
open Go.RowKit

/-- A byte that no text may have. -/
def badB (c : UInt8) : Bool := decide ((c.toNat : Int) < 32) || decide (126 < (c.toNat : Int)) || decide ((c.toNat : Int) = 34)

/-- What is wrong with a text; 0: nothing. -/
def errT (l : List UInt8) : Int := if 64 < l.length then 4 else if l.any badB then 2 else 0

/-- Do numbers rise? -/
def risesB : List Int → Bool
  | a :: b :: r => decide (a < b) && risesB (b :: r)
  | _ => true

/-- What is wrong with a list; 0: nothing. -/
def errL (l : List Int) : Int := if 16 < l.length then 4 else if risesB l then 0 else 2

theorem risesB_iff (l : List Int) : risesB l = true ↔ ∀ j, j + 1 < l.length → l.getD j 0 < l.getD (j + 1) 0 := by
  induction l with
  | nil => simp [risesB]
  | cons a r ih =>
    cases r with
    | nil => simp [risesB]
    | cons b r =>
      simp only [risesB, Bool.and_eq_true, decide_eq_true_eq]
      rw [ih]
      constructor
      · rintro ⟨h, k⟩ j hj
        cases j with
        | zero => simpa using h
        | succ j => simpa using k j (by simpa using hj)
      · intro h
        exact ⟨by simpa using h 0 (by simp), fun j hj => by simpa using h (j + 1) (by simpa using hj)⟩

theorem anyT {s : ByteArray} (h : ∀ j (hj : j < s.size), badB s[j] = false) : s.data.toList.any badB = false := by
  rw [List.any_eq_false]
  intro c hc
  obtain ⟨j, hj, rfl⟩ := List.mem_iff_getElem.1 hc
  have := h j (by simpa using hj)
  intro e
  have e' : badB s[j] = true := e
  rw [this] at e'; cases e'

theorem anyT_yes {s : ByteArray} {j : Nat} (hj : j < s.size) (h : badB s[j] = true) : s.data.toList.any badB = true := by
  rw [List.any_eq_true]
  exact ⟨s[j], List.mem_iff_getElem.2 ⟨j, by simpa using hj, rfl⟩, h⟩

/-- A []int64 reads as a list of numbers. -/
def Reads (w : World) (a : Option Addr) (len : Nat) (z : Nat → Int) : Prop :=
  len ≤ maxLen ∧ (len = 0 ∨ ∃ b off, a = some ⟨b, off, none⟩ ∧ ∀ j, j < len → w.cell? ⟨b, off + j, none⟩ = some (.int .i64 (z j)))

/-- The first numbers of z. -/
def upTo (z : Nat → Int) (n : Nat) : List Int := (List.range n).map z

theorem upTo_len (z : Nat → Int) (n : Nat) : (upTo z n).length = n := by simp [upTo]

theorem upTo_at (z : Nat → Int) {n j : Nat} (h : j < n) : (upTo z n).getD j 0 = z j := by simp [upTo, List.getD, h]

theorem Reads.below {B : Nat} {w w' : World} {a : Option Addr} {len : Nat} {z : Nat → Int} (h : Reads w a len z) (hb : Below B w w') (hB : ∀ x, a = some x → x.block < B) : Reads w' a len z := by
  refine ⟨h.1, h.2.imp id ?_⟩
  rintro ⟨b, off, rfl, hc⟩
  exact ⟨b, off, rfl, fun j hj => (hb.cell (p := ⟨b, off + j, none⟩) (show b < B from hB ⟨b, off, none⟩ rfl)).trans (hc j hj)⟩

theorem Reads.kept {w w' : World} {a : Option Addr} {len : Nat} {z : Nat → Int} (h : Reads w a len z) (hb : Below w.heap.size w w') : Reads w' a len z := by
  refine ⟨h.1, ?_⟩
  rcases h.2 with h0 | ⟨b, off, rfl, hc⟩
  · exact .inl h0
  · exact .inr ⟨b, off, rfl, fun j hj => (hb.cell (p := ⟨b, off + j, none⟩) (World.block_lt_of_cell? w _ (hc j hj))).trans (hc j hj)⟩

theorem rises_upTo {z : Nat → Int} {n : Nat} : risesB (upTo z n) = true ↔ ∀ j, j + 1 < n → z j < z (j + 1) := by
  rw [risesB_iff, upTo_len]
  exact ⟨fun h j hj => by have := h j hj; rwa [upTo_at z (by omega), upTo_at z hj] at this, fun h j hj => by rw [upTo_at z (by omega), upTo_at z hj]; exact h j hj⟩

/-- A value of package value, as data. -/
def val (k n : Int) (s : ByteArray) (l : Value) : Value := .agg #[.int .i64 k, .int .i64 n, .string s, l]

/-- What is wrong with a value; 0: nothing. -/
def errV (k : Int) (s : ByteArray) (len : Nat) (z : Nat → Int) : Int := if k = 1 then 0 else if k = 2 then errT s.data.toList else if k = 3 then errL (upTo z len) else 7

end

section
open Go.RowKit

/-- The four cells of a value. -/
structure VC where
  k : Int
  n : Int
  s : ByteArray
  y : Option Addr
  len : Nat
  c : Nat

def VC.cs (v : VC) : List Value := [.int .i64 v.k, .int .i64 v.n, .string v.s, .slice v.y v.len v.c]

def VC.v (v : VC) : Value := .agg #[.int .i64 v.k, .int .i64 v.n, .string v.s, .slice v.y v.len v.c]

theorem four_below4 {b : Nat} {A W : World} {B : Nat} (h : Below b A W) (hB : b ≤ B) (v0 v1 v2 v3 : Value) :
    Below b A ((((W.setCell ⟨B, 0, none⟩ v0).setCell ⟨B, 1, none⟩ v1).setCell ⟨B, 2, none⟩ v2).setCell ⟨B, 3, none⟩ v3) :=
  (((h.setCell (p := ⟨B, 0, none⟩) hB v0).setCell (p := ⟨B, 1, none⟩) hB v1).setCell (p := ⟨B, 2, none⟩) hB v2).setCell (p := ⟨B, 3, none⟩) hB v3

end

section
open Go.RowKit

/-- Is a number 0 to a thousand million? -/
def countB (n : Int) : Bool := decide (0 ≤ n) && decide (n ≤ 1000000000)

/-- What is wrong with a stamp; 0: nothing. -/
def errS (t i q : Int) (o : ByteArray) : Int := if countB t = true then if countB i = true then if countB q = true then if nodeB o.data.toList = true then 0 else 5 else 1 else 1 else 1

/-- A stamp as a value. -/
abbrev stp (t i q : Int) (o : ByteArray) : Value := .agg #[.int .i64 t, .int .i64 i, .int .i64 q, .string o]

end

section
open Go.RowKit

set_option maxHeartbeats 1000000 in
theorem rIn_any (n : Int) (w : World) : Calls Try.prog 51 #[.int .i64 n] w fun e w' => e = .returned (.bool (countB n)) ∧ w = w' := by
  by_cases h : 0 ≤ n
  · go_enter Try.func51, Try.ntmps51
    go_wp2
    go_ret
    exact ⟨ret_b (a := decide (n ≤ 1000000000)) (by unfold countB; rw [decide_eq_true h]; rfl), rfl⟩
  · go_enter Try.func51, Try.ntmps51
    go_wp2
    go_ret
    exact ⟨ret_b (a := false) (by unfold countB; rw [decide_eq_false (by omega)]; rfl), rfl⟩

theorem not_empty {s : ByteArray} (h : 1 ≤ s.size) : s.toList.isEmpty = false := by
  rw [Lib.toList_data]
  have hl : s.data.toList.length = s.size := by simp
  cases e : s.data.toList with
  | nil => rw [e] at hl; simp at hl; omega
  | cons a b => rfl

theorem not_one {s : ByteArray} (h : 2 ≤ s.size) (c : UInt8) : (s.toList == [c]) = false := by
  rw [beq_eq_false_iff_ne, Lib.toList_data]
  intro e
  have hl : s.data.toList.length = s.size := by simp
  rw [e] at hl; simp at hl; omega

end

section
open Go.RowKit

/-- An attribute as data: its name, and its value's Kind, number, text and list. -/
structure AD where
  m : ByteArray
  k : Int
  n : Int
  s : ByteArray
  len : Nat
  z : Nat → Int

/-- The five cells of an attribute, its list in y. -/
def AD.cs (x : AD) (y : Option Addr) (c : Nat) : Array Value := #[.string x.m, .int .i64 x.k, .int .i64 x.n, .string x.s, .slice y x.len c]

/-- An attribute lies in five cells, one behind the other. -/
def Cells5 (w : World) (b o : Nat) (x : AD) (y : Option Addr) (c : Nat) : Prop :=
  w.cell? ⟨b, o, none⟩ = some (.string x.m) ∧ w.cell? ⟨b, o + 1, none⟩ = some (.int .i64 x.k) ∧ w.cell? ⟨b, o + 2, none⟩ = some (.int .i64 x.n) ∧ w.cell? ⟨b, o + 3, none⟩ = some (.string x.s) ∧ w.cell? ⟨b, o + 4, none⟩ = some (.slice y x.len c)

theorem Cells5.lt {w : World} {b o : Nat} {x : AD} {y : Option Addr} {c : Nat} (h : Cells5 w b o x y c) : b < w.heap.size := by have := World.block_lt_of_cell? w _ h.1; simpa using this

theorem Cells5.below {B : Nat} {w w' : World} {b o : Nat} {x : AD} {y : Option Addr} {c : Nat} (h : Cells5 w b o x y c) (hb : Below B w w') (hB : b < B) : Cells5 w' b o x y c :=
  ⟨(hb.cell (p := ⟨b, _, none⟩) hB).trans h.1, (hb.cell (p := ⟨b, _, none⟩) hB).trans h.2.1, (hb.cell (p := ⟨b, _, none⟩) hB).trans h.2.2.1, (hb.cell (p := ⟨b, _, none⟩) hB).trans h.2.2.2.1, (hb.cell (p := ⟨b, _, none⟩) hB).trans h.2.2.2.2⟩

theorem Cells5.kept {w w' : World} {b o : Nat} {x : AD} {y : Option Addr} {c : Nat} (h : Cells5 w b o x y c) (hb : Below w.heap.size w w') : Cells5 w' b o x y c := h.below hb h.lt

/-- A []Attr reads as attributes. -/
def ReadsA (w : World) (a : Option Addr) (len : Nat) (A : Nat → AD) : Prop :=
  len ≤ maxLen ∧ (len = 0 ∨ ∃ b off, a = some ⟨b, off, none⟩ ∧ ∀ j, j < len → ∃ y c, Cells5 w b (off + j * 5) (A j) y c ∧ Reads w y (A j).len (A j).z)

theorem ReadsA.kept {w w' : World} {a : Option Addr} {len : Nat} {A : Nat → AD} (h : ReadsA w a len A) (hb : Below w.heap.size w w') : ReadsA w' a len A := by
  refine ⟨h.1, h.2.imp id ?_⟩
  rintro ⟨b, off, rfl, hc⟩
  refine ⟨b, off, rfl, fun j hj => ?_⟩
  obtain ⟨y, c, h5, hr⟩ := hc j hj
  exact ⟨y, c, h5.kept hb, hr.kept hb⟩

/-- What is wrong with an attribute behind one of name p; 0: nothing. -/
def errA (p : ByteArray) (x : AD) : Int := if goodB x.m.data.toList = false then 5 else if lsS p x.m = false then 6 else errV x.k x.s x.len x.z

/-- What is wrong with attributes. -/
def errAs : ByteArray → List AD → Int
  | _, [] => 0
  | p, x :: r => if errA p x = 0 then errAs x.m r else errA p x

/-- The attributes from the k-th on. -/
def fromA (A : Nat → AD) (n k : Nat) : List AD := (List.range (n - k)).map fun j => A (k + j)

theorem fromA_cons (A : Nat → AD) {n k : Nat} (h : k < n) : fromA A n k = A k :: fromA A n (k + 1) := by
  unfold fromA
  rw [show n - k = (n - (k + 1)) + 1 by omega, List.range_succ_eq_map, List.map_cons, List.map_map]
  simp only [Nat.add_zero, List.cons.injEq, true_and]
  apply List.map_congr_left
  intro j _
  simp only [Function.comp_def, Nat.succ_eq_add_one]
  congr 1; omega

theorem fromA_nil (A : Nat → AD) {n k : Nat} (h : n ≤ k) : fromA A n k = [] := by
  unfold fromA; rw [Nat.sub_eq_zero_of_le h]; rfl

/-- A row as data. -/
structure RD where
  key : ByteArray
  t : Int
  i : Int
  q : Int
  o : ByteArray
  len : Nat
  A : Nat → AD

/-- What is wrong with a row. -/
def errR (x : RD) : Int := if goodB x.key.data.toList = false then 5 else if errS x.t x.i x.q x.o = 0 then (if 32 < x.len then 4 else errAs ⟨#[]⟩ (fromA x.A x.len 0)) else errS x.t x.i x.q x.o

theorem lsS_empty {m : ByteArray} (h : goodB m.data.toList = true) : lsS ⟨#[]⟩ m = true := by
  cases m with
  | mk d =>
    obtain ⟨l⟩ := d
    cases l with
    | nil => simp [goodB] at h
    | cons c r => unfold lsS; rw [Lib.toList_data, Lib.toList_data]; rfl

/-- Attributes that are short, of numbers of 64 bits. -/
def FewA (x : AD) : Prop := x.m.size ≤ 100 ∧ x.s.size ≤ 200 ∧ x.len ≤ 40

def NumA (x : AD) : Prop := In64 x.k ∧ In64 x.n ∧ ∀ j, In64 (x.z j)

end

end Go.Proofs.Ytcmcnmmhkpolcaa.Wr
