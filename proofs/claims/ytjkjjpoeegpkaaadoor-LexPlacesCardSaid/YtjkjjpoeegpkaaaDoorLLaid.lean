/-
  No statement: what the list of the library's variables gives the walks of cantonlaw8's laws, and the start that meets it.
-/
import Derived.Test.YtjkjjpoeegpkaaaDoorTie
import Derived.Test.YtjkjjpoeegpkaaaDoorLFirst
import Derived.ProofKit
import Derived.OpenShut
import Derived.LaidMore
import Derived.Lay
import Derived.SevenTiedAt
import Derived.Stop.Joined
import Derived.Stop.LaidErr
import Derived.Lib.LaidTab
import Derived.Carry
namespace Go.Proofs.YtjkjjpoeegpkaaaDoor
open Go.ChangeShapes Go.WideShapes Go.ChangeAt Go.RowKit

theorem own_knobS : ownKnob Tryd.prog.godebug = none := by kernel_rfl
theorem laid_outS : laidOutB Tryd.prog = true := by kernel_rfl

theorem heap_of_var {w : World} {n : String} {g : Nat} {cs : Array Value} (hg : Tryd.prog.globalNamed n = some g) (h : w.var? Tryd.prog n = some cs) : ∃ t f, w.heap[g]? = some (.cells cs t f) := by
  unfold World.var? at h
  rw [hg] at h
  simp only [Option.bind_some] at h
  split at h
  · rename_i cs' t f e
    cases h
    exact ⟨t, f, e⟩
  · cases h
/-- The list of the laws' variables. -/
abbrev laidS : List (String × DataW Unit) := Rows.lexTextsRow.laid

theorem star_err : "*" ++ "errors.errorString" = "*errors.errorString" := by decide
theorem row_err (u : TypeId) (h : Tryd.prog.typeName? 3 u = some "*errors.errorString") : u = 77 :=
  typeName_ptr_named (nm := "errors.errorString") (by rw [star_err]; kernel_rfl) (by kernel_rfl) (by decide) u (by rw [star_err]; exact h)

theorem laidT_of {W : World} (h : laidMetH Tryd.prog laidS W) : Laid W := by
  rw [MakeChecks.laidMetH_plain _ _ _ (by kernel_rfl)] at h
  have h4 := h.tail.tail.tail
  have h5 := h4.tail
  have hrow : ∀ u, Tryd.prog.typeName? 3 u = some "*errors.errorString" → u = 77 := row_err
  obtain ⟨a0, s0, v0, -, -, -⟩ := laid_sentinel (g := 1) h4 (by kernel_rfl) (by kernel_rfl) Tryd.underlying50 hrow Tryd.underlying77 Tryd.underlying79 rfl rfl Tryd.underlying9 (by kernel_rfl) (by kernel_rfl)
  obtain ⟨a1, s1, v1, -, -, -⟩ := laid_sentinel (g := 0) h5 (by kernel_rfl) (by kernel_rfl) Tryd.underlying50 hrow Tryd.underlying77 Tryd.underlying79 rfl rfl Tryd.underlying9 (by kernel_rfl) (by kernel_rfl)
  obtain ⟨t1, f1, p1⟩ := heap_of_var (g := 1) (by kernel_rfl) v0
  obtain ⟨t2, f2, p2⟩ := heap_of_var (g := 0) (by kernel_rfl) v1
  exact ⟨⟨_, _, t2, f2, p2⟩, ⟨_, _, t1, f1, p1⟩⟩

/-- A start that meets the list. -/
theorem start_metS (os : Os) (args : Array Value) : laidMetH Tryd.prog laidS ((World.laidAll Tryd.prog os laidS).forCall (fun _ _ => 0) ⟨#[], args, []⟩).memory := by
  rw [MakeChecks.laidMetH_plain _ _ _ (by kernel_rfl)]
  exact laidMet_laidAll _ (by kernel_rfl) (by kernel_rfl)
theorem start_shapedS (os : Os) : (World.laidAll Tryd.prog os laidS).Shaped Tryd.prog := World.shaped_of_ZipB (by kernel_rfl) (by kernel_rfl)

end Go.Proofs.YtjkjjpoeegpkaaaDoor
