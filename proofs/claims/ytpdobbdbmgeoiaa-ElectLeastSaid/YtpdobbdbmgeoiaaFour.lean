/-
  No statement: four cells of a block, stored one behind the other.
-/
import Derived.Test.YtpdobbdbmgeoiaaVCheck
import Derived.Test.YtpdobbdbmgeoiaaBase
namespace Go.Proofs.Ytpdobbdbmgeoiaa
open Go.RowKit

theorem set_block (W : World) (B o : Nat) (cur : Array Value) (t : TypeId) (v : Value) (h : W.heap[B]? = some (.cells cur t (0, 0))) : (W.setCell ⟨B, o, none⟩ v).heap[B]? = some (.cells (cur.setIfInBounds o v) t (0, 0)) :=
  heap_setCell_same W B o cur t v h

theorem four_set {W : World} {B : Nat} {x0 x1 x2 x3 : Value} {t : TypeId} (h : W.heap[B]? = some (.cells #[x0, x1, x2, x3] t (0, 0))) (v0 v1 v2 v3 : Value) :
    ((((W.setCell ⟨B, 0, none⟩ v0).setCell ⟨B, 1, none⟩ v1).setCell ⟨B, 2, none⟩ v2).setCell ⟨B, 3, none⟩ v3).heap[B]? = some (.cells #[v0, v1, v2, v3] t (0, 0)) := by
  have := set_block _ B 3 _ t v3 (set_block _ B 2 _ t v2 (set_block _ B 1 _ t v1 (set_block W B 0 _ t v0 h)))
  simpa using this

theorem four_below {b : Nat} {A W : World} {B : Nat} (h : Below b A W) (hB : b ≤ B) (v0 v1 v2 v3 : Value) :
    Below b A ((((W.setCell ⟨B, 0, none⟩ v0).setCell ⟨B, 1, none⟩ v1).setCell ⟨B, 2, none⟩ v2).setCell ⟨B, 3, none⟩ v3) :=
  (((h.setCell (p := ⟨B, 0, none⟩) hB v0).setCell (p := ⟨B, 1, none⟩) hB v1).setCell (p := ⟨B, 2, none⟩) hB v2).setCell (p := ⟨B, 3, none⟩) hB v3

theorem four_other {W : World} {B k : Nat} (hne : k ≠ B) (v0 v1 v2 v3 : Value) :
    ((((W.setCell ⟨B, 0, none⟩ v0).setCell ⟨B, 1, none⟩ v1).setCell ⟨B, 2, none⟩ v2).setCell ⟨B, 3, none⟩ v3).heap[k]? = W.heap[k]? :=
  (Below.heap_setCell _ ⟨B, 3, none⟩ v3 k hne).trans ((Below.heap_setCell _ ⟨B, 2, none⟩ v2 k hne).trans ((Below.heap_setCell _ ⟨B, 1, none⟩ v1 k hne).trans (Below.heap_setCell _ ⟨B, 0, none⟩ v0 k hne)))

end Go.Proofs.Ytpdobbdbmgeoiaa
