/-
  No statement: the law's own Few and Of of marks; the document's Marks.
-/
import Derived.Test.YtpdobbdbmgeoiaaGreatDgRise
set_option linter.unusedVariables false
set_option linter.unusedSimpArgs false
namespace Go.Proofs.YtpdobbdbmgeoiaaGreat
open Go.RowKit

theorem of3_any (t i q : Int) (o : ByteArray) (w : World) : Calls Tryz.prog 41 #[.agg #[.int .i64 t, .int .i64 i, .int .i64 q, .string o]] w fun e w' => e = .returned (.agg #[.int .i64 t, .int .i64 i, .int .i64 q, .string o]) ∧ Below w.heap.size w w' := by
  go_enter Tryz.func41, Tryz.ntmps41
  go_wp2
  exact bodyPost_ret (v := .agg #[.int .i64 t, .int .i64 i, .int .i64 q, .string o]) (by simp [results, Tryz.results41, go_sem]) rfl ⟨rfl, ((Below.refl _ _).alloc (Nat.le_refl _) _).alloc (by simp) _⟩

/-- What is answered is a Boolean; where it is true, so it is. -/
def AnsB (P : Prop) (e : Ending) : Prop := ∃ r, e = .returned (.bool r) ∧ (r = true → P)

/-- Marks that are few and short. -/
def FewMs (bl : List MK) : Prop := bl.length ≤ 70 ∧ ∀ m ∈ bl, m.key.size ≤ 100 ∧ m.o.size ≤ 100

/-- What a call makes of marks. -/
def MarksOut (w : World) (bl : List MK) (e : Ending) (w' : World) : Prop := (∃ va vc, e = .returned (.slice va bl.length vc) ∧ bl.length ≤ vc ∧ ReadsMG (fun q => w.heap.size ≤ q) w' va bl.length (atK bl)) ∧ Below w.heap.size w w'

end Go.Proofs.YtpdobbdbmgeoiaaGreat
