/-
  No statement: arguments that came in, as plain values.
-/
import Derived.Test.YtlgkffcomnclnaaPKnown
import Derived.OpenShut
import Derived.ProofKit
import Derived.ChangeSlices
import Derived.Deep.Slices
namespace Go.Proofs.Ytlgkffcomnclnaa
open Go.RowKit

theorem u8_of {n : Int} (h : (Lit.int .u8 n).wf = true) : ∃ t : Nat, t < 256 ∧ n = t := by
  simp [Lit.wf, IntKind.min, IntKind.max, IntKind.bits, IntKind.signed] at h
  exact ⟨n.toNat, by omega, by omega⟩

end Go.Proofs.Ytlgkffcomnclnaa
