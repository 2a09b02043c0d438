/-
  No statement: what the library's variables hold; the contract of readNumber of package value.
-/
import Derived.Test.YtgcjfalgngiebaaGreatDoorVNum
import Derived.Test.YtgcjfalgngiebaaGreatDoorBase
import Derived.Test.YtgcjfalgngiebaaGreatDoorShelf
import Derived.Lib.AppendIntMem
import Derived.Lib.AtoiErrMem
import Derived.Lib.ParseIntB
import Derived.Lib.ParseIntBTie
import Derived.Deep.QuietTactic
import Derived.BigQuiet
namespace Go.Proofs.YtgcjfalgngiebaaGreatDoor
open Go.RowKit

/-- The library's table of powers lies where it should. -/
def LaidT (w : World) : Prop := ∃ t f, w.heap[1]? = some (.cells (Lib.pow10Tab.map fun z => Value.int .u64 z).toArray t f)

theorem LaidT.has {w : World} (h : LaidT w) : 1 < w.heap.size := by
  obtain ⟨t, f, h⟩ := h
  exact (Array.getElem?_eq_some_iff.1 h).1

theorem LaidT.below {B : Nat} {w w' : World} (h : LaidT w) (hb : Below B w w') (hB : 1 < B) : LaidT w' := by
  obtain ⟨t, f, h⟩ := h
  exact ⟨t, f, (hb.block _ hB).trans h⟩

theorem LaidT.step {w w' : World} (h : LaidT w) (hb : Below w.heap.size w w') : LaidT w' := h.below hb h.has

theorem var_of {w : World} {n : String} {g : Nat} {cs : Array Value} {t : TypeId} {f : Nat × Nat} (hg : Tryz.prog.globalNamed n = some g) (h : w.heap[g]? = some (.cells cs t f)) : w.var? Tryz.prog n = some cs := by
  unfold World.var?
  rw [hg]
  simp [h]

/-- The number that l tells, told just so. -/
def numOf (l : List UInt8) : Option Int :=
  match Lib.parseIntB 64 l with
  | .ok v => if Lib.itoa v = l then some v else none
  | _ => none

/-- It ends with an error. -/
def Fell (w : World) (e : Ending) (w' : World) : Prop := (∃ n t p, e = .returned (.tuple #[.int .i64 n, .iface t p])) ∧ Below w.heap.size w w'

theorem format_any (n : Int) (hn : In64 n) (w : World) (hw : LaidT w) :
    Calls Tryz.prog 66 #[.int .i64 n, .int .i64 10] w fun e w' => e = .returned (.string ⟨(Lib.itoa n).toArray⟩) ∧ Below w.heap.size w w' := by
  obtain ⟨t, f, h0⟩ := hw
  refine (Tryz.strconv_FormatInt_10 n hn.1 hn.2 w (var_of (by kernel_rfl) h0)).mono ?_
  rintro e w' ⟨rfl, k, os, rfl⟩
  exact ⟨rfl, Lib.below_grow _ _ (Nat.le_refl _) _ _⟩

theorem parse_in {l : List UInt8} {v : Int} (h : Lib.parseIntB 64 l = .ok v) : In64 v := by
  have := Lib.parseIntB_bounds h
  unfold In64
  omega

end Go.Proofs.YtgcjfalgngiebaaGreatDoor
