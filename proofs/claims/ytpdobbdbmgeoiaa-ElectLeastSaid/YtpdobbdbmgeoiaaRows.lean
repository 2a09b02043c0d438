/-
  No cell of these rows narrows 'for every input' (looked for: loops, veiled, ifaces, maps, wideKeys, modest, calm, conditions, laid).
  DERIVED. THE GIVEN ROWS OF THIS SEAT. 3 by the template 'for every input the law returns true; each argument reads behind the call as it read before'; 0 by the template 'total and deterministic' (their statements: YtpdobbdbmgeoiaaTotals.lean).
  GIVEN WITH THE SEED: the statements are not yours to turn. If you find one false, say at which input.
  Laid BY PROGRAM, IN A SANDBOX (cutbox-rows.mjs): the forced cells as the released guide's own fill.sh prints them over the translation 7a9d4b34c85c0215… (all of the seat's roots in one cut). By AI agents, Wed Nov 11 2026. No macro, syntax, notation, axiom, sorry.
-/
import Derived.Test.YtpdobbdbmgeoiaaChecked
import GoSem.Claim
import GoSem.ClaimJoined
import GoSem.ClaimMapViews
import Derived.JoinedTies
import Derived.KernelRfl
namespace Go.Proofs.Ytpdobbdbmgeoiaa
/- THE CELL 'sum', in the pinned program and in every row, IS THE sha256 OF THE DUMP (.gsa) THAT YtpdobbdbmgeoiaaProg.lean LOADS. Nothing in Lean hashes anything: it is a label: what it is worth is what the hold of that sum in a sandbox is worth. -/
noncomputable def Try.pinned : Pinned := { name := "ytpdobbdbmgeoiaa", sum := "7a9d4b34c85c02155f434c39ee7695ca3643bf2c9cc8cbbbf5270bf4d8ff4f31", checked := Try.checked }
namespace Rows
def none {H : Type} : Left H := { results := [], args := [] }

/-- 'cantonlaw15.ElectAny': WHATEVER THE INPUT: true; the input reads as it did. -/
def electAnySpec : ChangeSpec := { name := "electAny", fn := fun _ => fun
  | [d] => { results := [.lit (.bool true)], args := [d] }
  | _ => none }
def electAnyRow : OpenClaim := { program := "ytpdobbdbmgeoiaa", sum := "7a9d4b34c85c02155f434c39ee7695ca3643bf2c9cc8cbbbf5270bf4d8ff4f31", func := "canton/cantonlaw15.ElectAny", spec := "electAny", inPlace := ["internal/bytealg.abigen_runtime_cmpstring"], unfollowed := true, recurses := true, apart := false }
def ElectAnySaid : Prop := electAnyRow.holds Try.pinned (OpenSpec.ofChange electAnySpec)

/-- ITS FALSE NEIGHBOUR: 'it returns false'. Refute it at one input. -/
def electAnyWrong : ChangeSpec := { name := "electAny", fn := fun _ => fun
  | [d] => { results := [.lit (.bool false)], args := [d] }
  | _ => none }
def ElectAnyWrongFalsely : Prop := electAnyRow.holds Try.pinned (OpenSpec.ofChange electAnyWrong)

/-- 'cantonlaw15.ElectOne': WHATEVER THE INPUT: true; the input reads as it did. -/
def electOneSpec : ChangeSpec := { name := "electOne", fn := fun _ => fun
  | [d1, d2] => { results := [.lit (.bool true)], args := [d1, d2] }
  | _ => none }
def electOneRow : OpenClaim := { program := "ytpdobbdbmgeoiaa", sum := "7a9d4b34c85c02155f434c39ee7695ca3643bf2c9cc8cbbbf5270bf4d8ff4f31", func := "canton/cantonlaw15.ElectOne", spec := "electOne", inPlace := ["internal/bytealg.abigen_runtime_cmpstring"], unfollowed := true, recurses := true, apart := false }
def ElectOneSaid : Prop := electOneRow.holds Try.pinned (OpenSpec.ofChange electOneSpec)

/-- ITS FALSE NEIGHBOUR: 'it returns false'. Refute it at one input. -/
def electOneWrong : ChangeSpec := { name := "electOne", fn := fun _ => fun
  | [d1, d2] => { results := [.lit (.bool false)], args := [d1, d2] }
  | _ => none }
def ElectOneWrongFalsely : Prop := electOneRow.holds Try.pinned (OpenSpec.ofChange electOneWrong)

/-- 'cantonlaw15.ElectLeast': WHATEVER THE INPUT: true; the input reads as it did. -/
def electLeastSpec : ChangeSpec := { name := "electLeast", fn := fun _ => fun
  | [d] => { results := [.lit (.bool true)], args := [d] }
  | _ => none }
def electLeastRow : OpenClaim := { program := "ytpdobbdbmgeoiaa", sum := "7a9d4b34c85c02155f434c39ee7695ca3643bf2c9cc8cbbbf5270bf4d8ff4f31", func := "canton/cantonlaw15.ElectLeast", spec := "electLeast", inPlace := ["internal/bytealg.abigen_runtime_cmpstring"], unfollowed := true, recurses := true, apart := false }
def ElectLeastSaid : Prop := electLeastRow.holds Try.pinned (OpenSpec.ofChange electLeastSpec)

/-- ITS FALSE NEIGHBOUR: 'it returns false'. Refute it at one input. -/
def electLeastWrong : ChangeSpec := { name := "electLeast", fn := fun _ => fun
  | [d] => { results := [.lit (.bool false)], args := [d] }
  | _ => none }
def ElectLeastWrongFalsely : Prop := electLeastRow.holds Try.pinned (OpenSpec.ofChange electLeastWrong)

/- THE SECOND FORM. 'bulk': how many values and letters a reading holds, each counted each time it is reached (what is shared counts as often as it is met; a slice's spare places count too). A statement '..UptoSaid' is the law's where the arguments, and the package variables that the reading takes, are together of bulk at most 1048576: NARROWER than '..Said'. Prove '..Said' where nothing that the law and all that it calls make is longer than what came in: it says more and counts as full. Else prove '..UptoSaid'. A law counts once. -/
mutual
def uptoBulk {H : Type} : DataW H → Nat
  | .lit (.string bytes) => bytes.length + 1
  | .lit _ => 1
  | .nil => 1
  | .ptr d => uptoBulk d + 1
  | .slice elems spare => uptoBulkAll elems + uptoBulkAll spare + 1
  | .agg parts => uptoBulkAll parts + 1
  | .iface _ d => uptoBulk d + 1
  | .map entries => uptoBulkEntries entries + 1
  | .held _ => 1
def uptoBulkAll {H : Type} : List (DataW H) → Nat
  | [] => 0
  | d :: r => uptoBulk d + uptoBulkAll r
def uptoBulkEntries {H : Type} : List (Lit × DataW H) → Nat
  | [] => 0
  | x :: r => uptoBulkEntry x + uptoBulkEntries r
def uptoBulkEntry {H : Type} : Lit × DataW H → Nat
  | (.string bytes, d) => bytes.length + uptoBulk d + 1
  | (_, d) => uptoBulk d + 1
 end
def uptoSmall : (H : Type) → List (DataW H) → Bool := fun _ ds => decide (uptoBulkAll ds ≤ 1048576)
def OpenSpec.upto (s : _root_.Go.ChangeSpec) : _root_.Go.OpenSpec := { _root_.Go.OpenSpec.ofChange s with cond := some uptoSmall }

/-- 'cantonlaw15.ElectAny', WHERE WHAT IT READS IS OF BULK AT MOST 1048576: true; the input reads as it did. -/
def electAnyUptoRow : OpenClaim := { program := "ytpdobbdbmgeoiaa", sum := "7a9d4b34c85c02155f434c39ee7695ca3643bf2c9cc8cbbbf5270bf4d8ff4f31", func := "canton/cantonlaw15.ElectAny", spec := "electAny", inPlace := ["internal/bytealg.abigen_runtime_cmpstring"], unfollowed := true, recurses := true, apart := false, narrowed := true }
def ElectAnyUptoSaid : Prop := electAnyUptoRow.holds Try.pinned (OpenSpec.upto electAnySpec)

/-- 'cantonlaw15.ElectOne', WHERE WHAT IT READS IS OF BULK AT MOST 1048576: true; the input reads as it did. -/
def electOneUptoRow : OpenClaim := { program := "ytpdobbdbmgeoiaa", sum := "7a9d4b34c85c02155f434c39ee7695ca3643bf2c9cc8cbbbf5270bf4d8ff4f31", func := "canton/cantonlaw15.ElectOne", spec := "electOne", inPlace := ["internal/bytealg.abigen_runtime_cmpstring"], unfollowed := true, recurses := true, apart := false, narrowed := true }
def ElectOneUptoSaid : Prop := electOneUptoRow.holds Try.pinned (OpenSpec.upto electOneSpec)

/-- 'cantonlaw15.ElectLeast', WHERE WHAT IT READS IS OF BULK AT MOST 1048576: true; the input reads as it did. -/
def electLeastUptoRow : OpenClaim := { program := "ytpdobbdbmgeoiaa", sum := "7a9d4b34c85c02155f434c39ee7695ca3643bf2c9cc8cbbbf5270bf4d8ff4f31", func := "canton/cantonlaw15.ElectLeast", spec := "electLeast", inPlace := ["internal/bytealg.abigen_runtime_cmpstring"], unfollowed := true, recurses := true, apart := false, narrowed := true }
def ElectLeastUptoSaid : Prop := electLeastUptoRow.holds Try.pinned (OpenSpec.upto electLeastSpec)

end Rows
end Go.Proofs.Ytpdobbdbmgeoiaa
