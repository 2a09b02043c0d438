/-
  No statement: what the list of the library's variables gives the walks of cantonlaw3's laws, and the start that meets it.
-/
import Derived.Test.YtdghknmlleffbaaDoorTie
import Derived.Test.YtdghknmlleffbaaDoorVRead
import Derived.ProofKit
import Derived.OpenShut
import Derived.LaidMore
import Derived.Lay
import Derived.SevenTiedAt
import Derived.Stop.Joined
import Derived.Lib.LaidTab
import Derived.Carry
import Derived.Stop.LaidErr
import Derived.Lib.SmallJoins
import Derived.ChangeSlices
namespace Go.Proofs.YtdghknmlleffbaaDoor
open Go.ChangeShapes Go.WideShapes Go.ChangeAt Go.RowKit

theorem own_knobS : ownKnob Tryd.prog.godebug = none := by kernel_rfl
theorem laid_outS : laidOutB Tryd.prog = true := by kernel_rfl

/-- The list of the laws' variables. -/
abbrev laidS : List (String × DataW Unit) := Rows.stampOrderRow.laid

theorem laidT_of {W : World} (h : laidMetH Tryd.prog laidS W) : LaidT W := by
  rw [MakeChecks.laidMetH_plain _ _ _ (by kernel_rfl)] at h
  have h2 := h.tail.tail
  have htab := Lib.tabIs_of_head (g := 0) (k := .u64) (zs := Lib.pow10Tab) (by kernel_rfl) (by kernel_rfl) Tryd.underlying107 Tryd.underlying85 (by kernel_rfl) (by kernel_rfl) h2
  unfold Lib.TabIs World.var? at htab
  rw [show Tryd.prog.globalNamed "internal/strconv.uint64pow10" = some 0 by kernel_rfl] at htab
  simp only [Option.bind_some] at htab
  split at htab
  · rename_i cs' t f e
    cases htab
    exact ⟨t, f, e⟩
  · cases htab

theorem in64_of_wfS {n : Int} (h : (Lit.int .i64 n).wf = true) : In64 n := by
  simp [Lit.wf, IntKind.min, IntKind.max, IntKind.bits, IntKind.signed] at h
  unfold In64
  omega

/-- A start that meets the list. -/
theorem start_metS (os : Os) (args : Array Value) : laidMetH Tryd.prog laidS ((World.laidAll Tryd.prog os laidS).forCall (fun _ _ => 0) ⟨#[], args, []⟩).memory := by
  rw [MakeChecks.laidMetH_plain _ _ _ (by kernel_rfl)]
  exact laidMet_laidAll _ (by kernel_rfl) (by kernel_rfl)
theorem start_shapedS (os : Os) : (World.laidAll Tryd.prog os laidS).Shaped Tryd.prog := World.shaped_of_ZipB (by kernel_rfl) (by kernel_rfl)

set_option maxRecDepth 100000 in
/-- A stamp that came in, opened. -/
theorem stamp_of {H : Type} {enc : TypeId × Value → H} {W : World} {base : Nat} {v : Value} {d : DataW H} {p : List MemPlace} (hv : Value.okWide Tryd.prog W .any base 43 v) (h : DataW.Trod enc Tryd.prog W 0 (fun _ => true) true 43 v d p) :
    ∃ (t i q : Int) (o : ByteArray), v = .agg #[.int .i64 t, .int .i64 i, .int .i64 q, .string o] ∧ In64 t ∧ In64 i ∧ In64 q ∧ o.size ≤ maxLen := by
  obtain ⟨v0, v1, v2, v3, y0, y1, y2, y3, m, rfl, rfl, rfl, h0, h1, h2, h3⟩ := Joins.open_agg4 Tryd.underlying43 (by kernel_rfl) (by kernel_rfl) hv h
  obtain ⟨k, e0, -, w0⟩ := DataW.trod_int Tryd.underlying2 h0
  obtain ⟨n, e1, -, w1⟩ := DataW.trod_int Tryd.underlying2 h1
  obtain ⟨u, e2, -, w2⟩ := DataW.trod_int Tryd.underlying2 h2
  obtain ⟨s, e3, -, w3⟩ := DataW.trod_string Tryd.underlying9 h3
  cases e0; cases e1; cases e2; cases e3
  exact ⟨k, n, u, s, rfl, in64_of_wfS w0, in64_of_wfS w1, in64_of_wfS w2, w3⟩

end Go.Proofs.YtdghknmlleffbaaDoor
