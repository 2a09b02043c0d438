/-
  No statement: what the list of the library's variables gives the walks of cantonlaw9's laws, and the start that meets it.
-/
import Derived.Test.YtcmcnmmhkpolcaaGreatDoorTie
import Derived.Test.YtcmcnmmhkpolcaaGreatDoorHZ9
import Derived.ProofKit
import Derived.OpenShut
import Derived.LaidMore
import Derived.Lay
import Derived.SevenTiedAt
import Derived.Stop.Joined
import Derived.Stop.LaidErr
import Derived.Lib.LaidTab
import Derived.Carry
namespace Go.Proofs.YtcmcnmmhkpolcaaGreatDoor
open Go.ChangeShapes Go.WideShapes Go.ChangeAt Go.RowKit

theorem own_knobS : ownKnob Tryz.prog.godebug = none := by kernel_rfl
theorem laid_outS : laidOutB Tryz.prog = true := by kernel_rfl

theorem heap_of_var {w : World} {n : String} {g : Nat} {cs : Array Value} (hg : Tryz.prog.globalNamed n = some g) (h : w.var? Tryz.prog n = some cs) : ∃ t f, w.heap[g]? = some (.cells cs t f) := by
  unfold World.var? at h
  rw [hg] at h
  simp only [Option.bind_some] at h
  split at h
  · rename_i cs' t f e
    cases h
    exact ⟨t, f, e⟩
  · cases h
/-- The list of the laws' variables. -/
abbrev laidS : List (String × DataW Unit) := Rows.exprNamesRow.laid

theorem star_err : "*" ++ "errors.errorString" = "*errors.errorString" := by decide
theorem row_err (u : TypeId) (h : Tryz.prog.typeName? 3 u = some "*errors.errorString") : u = 152 :=
  typeName_ptr_named (nm := "errors.errorString") (by rw [star_err]; kernel_rfl) (by kernel_rfl) (by decide) u (by rw [star_err]; exact h)

theorem laidP_of {W : World} (h : laidMetH Tryz.prog laidS W) : LaidT W := by
  rw [MakeChecks.laidMetH_plain _ _ _ (by kernel_rfl)] at h
  have h2 := h.tail.tail
  have htab := Lib.tabIs_of_head (g := 0) (k := .u64) (zs := Lib.pow10Tab) (by kernel_rfl) (by kernel_rfl) Tryz.underlying131 Tryz.underlying110 (by kernel_rfl) (by kernel_rfl) h2
  unfold Lib.TabIs World.var? at htab
  rw [show Tryz.prog.globalNamed "internal/strconv.uint64pow10" = some 0 by kernel_rfl] at htab
  simp only [Option.bind_some] at htab
  split at htab
  · rename_i cs' t f e
    cases htab
    exact ⟨t, f, e⟩
  · cases htab

theorem laidQ_of {W : World} (h : laidMetH Tryz.prog laidS W) : Laid W := by
  rw [MakeChecks.laidMetH_plain _ _ _ (by kernel_rfl)] at h
  have h4 := h.tail.tail.tail
  have h5 := h4.tail
  have hrow : ∀ u, Tryz.prog.typeName? 3 u = some "*errors.errorString" → u = 152 := row_err
  obtain ⟨a0, s0, v0, -, -, -⟩ := laid_sentinel (g := 4) h4 (by kernel_rfl) (by kernel_rfl) Tryz.underlying119 hrow Tryz.underlying152 Tryz.underlying154 rfl rfl Tryz.underlying9 (by kernel_rfl) (by kernel_rfl)
  obtain ⟨a1, s1, v1, -, -, -⟩ := laid_sentinel (g := 3) h5 (by kernel_rfl) (by kernel_rfl) Tryz.underlying119 hrow Tryz.underlying152 Tryz.underlying154 rfl rfl Tryz.underlying9 (by kernel_rfl) (by kernel_rfl)
  obtain ⟨t1, f1, p1⟩ := heap_of_var (g := 4) (by kernel_rfl) v0
  obtain ⟨t2, f2, p2⟩ := heap_of_var (g := 3) (by kernel_rfl) v1
  exact ⟨⟨_, _, t2, f2, p2⟩, ⟨_, _, t1, f1, p1⟩⟩

theorem laidT_of {W : World} (h : laidMetH Tryz.prog laidS W) : Laid9 W := ⟨laidQ_of h, laidP_of h⟩

theorem u8_of {n : Int} (h : (Lit.int .u8 n).wf = true) : ∃ t : Nat, t < 256 ∧ n = t := by
  simp [Lit.wf, IntKind.min, IntKind.max, IntKind.bits, IntKind.signed] at h
  exact ⟨n.toNat, by omega, by omega⟩

/-- A start that meets the list. -/
theorem start_metS (os : Os) (args : Array Value) : laidMetH Tryz.prog laidS ((World.laidAll Tryz.prog os laidS).forCall (fun _ _ => 0) ⟨#[], args, []⟩).memory := by
  rw [MakeChecks.laidMetH_plain _ _ _ (by kernel_rfl)]
  exact laidMet_laidAll _ (by kernel_rfl) (by kernel_rfl)
theorem start_shapedS (os : Os) : (World.laidAll Tryz.prog os laidS).Shaped Tryz.prog := World.shaped_of_ZipB (by kernel_rfl) (by kernel_rfl)

end Go.Proofs.YtcmcnmmhkpolcaaGreatDoor
