/-
  No statement: four cells of a block; a token made; the contract of token of package lex.
-/
import Derived.Test.YtjkjjpoeegpkaaaDoorLSign
namespace Go.Proofs.YtjkjjpoeegpkaaaDoor
open Go.RowKit

theorem four {W : World} {B : Nat} {x0 x1 x2 x3 : Value} {t : TypeId} (h : W.heap[B]? = some (.cells #[x0, x1, x2, x3] t (0, 0))) :
    (W.cell? ⟨B, 0, none⟩ = some x0 ∧ W.cell? ⟨B, 1, none⟩ = some x1 ∧ W.cell? ⟨B, 2, none⟩ = some x2 ∧ W.cell? ⟨B, 3, none⟩ = some x3) ∧
    (W.frozen? ⟨B, 0, none⟩ = false ∧ W.frozen? ⟨B, 1, none⟩ = false ∧ W.frozen? ⟨B, 2, none⟩ = false ∧ W.frozen? ⟨B, 3, none⟩ = false) := by
  refine ⟨⟨?_, ?_, ?_, ?_⟩, ?_, ?_, ?_, ?_⟩ <;> simp [World.cell?, World.frozen?, h]

theorem set_block (W : World) (B o : Nat) (cur : Array Value) (t : TypeId) (v : Value) (h : W.heap[B]? = some (.cells cur t (0, 0))) : (W.setCell ⟨B, o, none⟩ v).heap[B]? = some (.cells (cur.setIfInBounds o v) t (0, 0)) :=
  heap_setCell_same W B o cur t v h

theorem four_set {W : World} {B : Nat} {x0 x1 x2 x3 : Value} {t : TypeId} (h : W.heap[B]? = some (.cells #[x0, x1, x2, x3] t (0, 0))) (v0 v1 v2 v3 : Value) :
    ((((W.setCell ⟨B, 0, none⟩ v0).setCell ⟨B, 1, none⟩ v1).setCell ⟨B, 2, none⟩ v2).setCell ⟨B, 3, none⟩ v3).heap[B]? = some (.cells #[v0, v1, v2, v3] t (0, 0)) := by
  have := set_block _ B 3 _ t v3 (set_block _ B 2 _ t v2 (set_block _ B 1 _ t v1 (set_block W B 0 _ t v0 h)))
  simpa using this

theorem four_below {b : Nat} {A W : World} {B : Nat} (h : Below b A W) (hB : b ≤ B) (v0 v1 v2 v3 : Value) :
    Below b A ((((W.setCell ⟨B, 0, none⟩ v0).setCell ⟨B, 1, none⟩ v1).setCell ⟨B, 2, none⟩ v2).setCell ⟨B, 3, none⟩ v3) :=
  (((h.setCell (p := ⟨B, 0, none⟩) hB v0).setCell (p := ⟨B, 1, none⟩) hB v1).setCell (p := ⟨B, 2, none⟩) hB v2).setCell (p := ⟨B, 3, none⟩) hB v3

theorem four_other {W : World} {B k : Nat} (hne : k ≠ B) (v0 v1 v2 v3 : Value) :
    ((((W.setCell ⟨B, 0, none⟩ v0).setCell ⟨B, 1, none⟩ v1).setCell ⟨B, 2, none⟩ v2).setCell ⟨B, 3, none⟩ v3).heap[k]? = W.heap[k]? :=
  (Below.heap_setCell _ ⟨B, 3, none⟩ v3 k hne).trans ((Below.heap_setCell _ ⟨B, 2, none⟩ v2 k hne).trans ((Below.heap_setCell _ ⟨B, 1, none⟩ v1 k hne).trans (Below.heap_setCell _ ⟨B, 0, none⟩ v0 k hne)))

/-- The four cells, behind four stores and a new block. -/
theorem four_new {W : World} {B : Nat} {x0 x1 x2 x3 : Value} {t : TypeId} (h : W.heap[B]? = some (.cells #[x0, x1, x2, x3] t (0, 0))) (v0 v1 v2 v3 : Value) (o : Obj) :
    (((((W.setCell ⟨B, 0, none⟩ v0).setCell ⟨B, 1, none⟩ v1).setCell ⟨B, 2, none⟩ v2).setCell ⟨B, 3, none⟩ v3).alloc o).heap[B]? = some (.cells #[v0, v1, v2, v3] t (0, 0)) :=
  (Below.heap_alloc _ _ _ (lt_of_block (four_set h v0 v1 v2 v3))).trans (four_set h v0 v1 v2 v3)

theorem clone_any (s : ByteArray) (hm : s.size ≤ 281474976710656) (w : World) : Calls Tryd.prog 35 #[.string s] w fun e w' => e = .returned (.string s) ∧ Below w.heap.size w w' := by
  go_enter Tryd.func35, Tryd.ntmps35
  go_wp2_with (go_at_call 38; refine (Tryd.stringslite_Clone s _ hm).mono ?_; rintro e w' ⟨rfl, hb⟩; have hb1 := Lib.hid hb; clear hb)
  go_ret
  exact ⟨rfl, hb1.out⟩

/-- A token as a value. -/
abbrev tkV (k : Int) (s : ByteArray) (n p : Int) : Value := .agg #[.int .i64 k, .string s, .int .i64 n, .int .i64 p]
/-- A token's block. -/
abbrev tkO (k : Int) (s : ByteArray) (n p : Int) : Obj := .cells #[.int .i64 k, .string s, .int .i64 n, .int .i64 p] 35

theorem lt_block {w : World} {k : Nat} {o : Obj} (h : w.heap[k]? = some o) : k < w.heap.size := (Array.getElem?_eq_some_iff.1 h).1

set_option maxHeartbeats 2000000 in
theorem lToken_any (k : Int) (s : ByteArray) (hm : s.size ≤ 281474976710656) (w : World) : Calls Tryd.prog 31 #[.int .i64 k, .string s] w fun e w' => e = .returned (tkV k s 0 0) ∧ Below w.heap.size w w' := by
  go_enter Tryd.func31, Tryd.ntmps31
  go_wp2_with fail
  refine (clone_any s hm _).mono ?_
  rintro e w1 ⟨rfl, hb⟩
  have hB := (hb.block w.heap.size (by simp)).trans (heap_alloc_new w _)
  have B1 := Lib.hid (show Below w.heap.size w w1 from ((Below.refl _ w).alloc (Nat.le_refl _) _).trans (hb.mono (by simp)))
  obtain ⟨⟨k0, k1, k2, k3⟩, g0, g1, g2, g3⟩ := four hB
  have c0 := Lib.hid hB
  clear hb hB
  go_wp2_with fail
  obtain ⟨⟨d0, d1, d2, d3⟩, -⟩ := four (four_set c0.out (.int .i64 k) (.string s) (.int .i64 0) (.int .i64 0))
  exact bodyPost_ret (v := tkV k s 0 0) (by simp [results, Tryd.results31, go_sem, d0, d1, d2, d3]) rfl ⟨rfl, four_below B1.out (Nat.le_refl _) _ _ _ _⟩

end Go.Proofs.YtjkjjpoeegpkaaaDoor
