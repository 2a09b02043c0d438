/-
  NARROWER THAN 'FOR EVERY INPUT', by the rows' own cells (each row's printed sentence says how): CalcAny: loops · CalcNames: loops.
  DERIVED. THE GIVEN ROWS OF THIS SEAT. 3 by the template 'for every input the law returns true; each argument reads behind the call as it read before'; 0 by the template 'total and deterministic' (their statements: YtcmcnmmhkpolcaaTotals.lean).
  GIVEN WITH THE SEED: the statements are not yours to turn. If you find one false, say at which input.
  Laid BY PROGRAM, IN A SANDBOX (cutbox-rows.mjs): the forced cells as the released guide's own fill.sh prints them over the translation fa095609ccffb6ce… (all of the seat's roots in one cut). By AI agents, Wed Nov 11 2026. No macro, syntax, notation, axiom, sorry.
-/
import Derived.Test.YtcmcnmmhkpolcaaChecked
import GoSem.Claim
import GoSem.ClaimJoined
import GoSem.ClaimMapViews
import Derived.JoinedTies
import Derived.KernelRfl
namespace Go.Proofs.Ytcmcnmmhkpolcaa
/- THE CELL 'sum', in the pinned program and in every row, IS THE sha256 OF THE DUMP (.gsa) THAT YtcmcnmmhkpolcaaProg.lean LOADS. Nothing in Lean hashes anything: it is a label: what it is worth is what the hold of that sum in a sandbox is worth. -/
noncomputable def Try.pinned : Pinned := { name := "ytcmcnmmhkpolcaa", sum := "fa095609ccffb6ce2e537b62933a64859268e9da15dab9c4fb2c86aefcf5e1dd", checked := Try.checked }
namespace Rows
def none {H : Type} : Left H := { results := [], args := [] }

/-- 'cantonlaw10.CalcAny': WHATEVER THE INPUT: true; the input reads as it did. -/
def calcAnySpec : ChangeSpec := { name := "calcAny", fn := fun _ => fun
  | [d1, d2] => { results := [.lit (.bool true)], args := [d1, d2] }
  | _ => none }
def calcAnyRow : OpenClaim := { program := "ytcmcnmmhkpolcaa", sum := "fa095609ccffb6ce2e537b62933a64859268e9da15dab9c4fb2c86aefcf5e1dd", func := "canton/cantonlaw10.CalcAny", spec := "calcAny", inPlace := ["internal/bytealg.abigen_runtime_cmpstring"], unfollowed := true, recurses := true, loops := true, apart := false }
def CalcAnySaid : Prop := calcAnyRow.holds Try.pinned (OpenSpec.ofChange calcAnySpec)

/-- ITS FALSE NEIGHBOUR: 'it returns false'. Refute it at one input. -/
def calcAnyWrong : ChangeSpec := { name := "calcAny", fn := fun _ => fun
  | [d1, d2] => { results := [.lit (.bool false)], args := [d1, d2] }
  | _ => none }
def CalcAnyWrongFalsely : Prop := calcAnyRow.holds Try.pinned (OpenSpec.ofChange calcAnyWrong)

/-- 'cantonlaw10.CalcHolds': WHATEVER THE INPUT: true; the input reads as it did. -/
def calcHoldsSpec : ChangeSpec := { name := "calcHolds", fn := fun _ => fun
  | [d1, d2, d3] => { results := [.lit (.bool true)], args := [d1, d2, d3] }
  | _ => none }
def calcHoldsRow : OpenClaim := { program := "ytcmcnmmhkpolcaa", sum := "fa095609ccffb6ce2e537b62933a64859268e9da15dab9c4fb2c86aefcf5e1dd", func := "canton/cantonlaw10.CalcHolds", spec := "calcHolds", inPlace := ["internal/bytealg.abigen_runtime_cmpstring"], unfollowed := true, recurses := true, apart := false }
def CalcHoldsSaid : Prop := calcHoldsRow.holds Try.pinned (OpenSpec.ofChange calcHoldsSpec)

/-- ITS FALSE NEIGHBOUR: 'it returns false'. Refute it at one input. -/
def calcHoldsWrong : ChangeSpec := { name := "calcHolds", fn := fun _ => fun
  | [d1, d2, d3] => { results := [.lit (.bool false)], args := [d1, d2, d3] }
  | _ => none }
def CalcHoldsWrongFalsely : Prop := calcHoldsRow.holds Try.pinned (OpenSpec.ofChange calcHoldsWrong)

/-- 'cantonlaw10.CalcNames': WHATEVER THE INPUT: true; the input reads as it did. -/
def calcNamesSpec : ChangeSpec := { name := "calcNames", fn := fun _ => fun
  | [d1, d2, d3] => { results := [.lit (.bool true)], args := [d1, d2, d3] }
  | _ => none }
def calcNamesRow : OpenClaim := { program := "ytcmcnmmhkpolcaa", sum := "fa095609ccffb6ce2e537b62933a64859268e9da15dab9c4fb2c86aefcf5e1dd", func := "canton/cantonlaw10.CalcNames", spec := "calcNames", inPlace := ["internal/bytealg.abigen_runtime_cmpstring"], unfollowed := true, recurses := true, loops := true, apart := false }
def CalcNamesSaid : Prop := calcNamesRow.holds Try.pinned (OpenSpec.ofChange calcNamesSpec)

/-- ITS FALSE NEIGHBOUR: 'it returns false'. Refute it at one input. -/
def calcNamesWrong : ChangeSpec := { name := "calcNames", fn := fun _ => fun
  | [d1, d2, d3] => { results := [.lit (.bool false)], args := [d1, d2, d3] }
  | _ => none }
def CalcNamesWrongFalsely : Prop := calcNamesRow.holds Try.pinned (OpenSpec.ofChange calcNamesWrong)

/- THE SECOND FORM. 'bulk': how many values and letters a reading holds, each counted each time it is reached (what is shared counts as often as it is met; a slice's spare places count too). A statement '..UptoSaid' is the law's where the arguments, and the package variables that the reading takes, are together of bulk at most 1048576: NARROWER than '..Said'. Prove '..Said' where nothing that the law and all that it calls make is longer than what came in: it says more and counts as full. Else prove '..UptoSaid'. A law counts once. -/
mutual
def uptoBulk {H : Type} : DataW H → Nat
  | .lit (.string bytes) => bytes.length + 1
  | .lit _ => 1
  | .nil => 1
  | .ptr d => uptoBulk d + 1
  | .slice elems spare => uptoBulkAll elems + uptoBulkAll spare + 1
  | .agg parts => uptoBulkAll parts + 1
  | .iface _ d => uptoBulk d + 1
  | .map entries => uptoBulkEntries entries + 1
  | .held _ => 1
def uptoBulkAll {H : Type} : List (DataW H) → Nat
  | [] => 0
  | d :: r => uptoBulk d + uptoBulkAll r
def uptoBulkEntries {H : Type} : List (Lit × DataW H) → Nat
  | [] => 0
  | x :: r => uptoBulkEntry x + uptoBulkEntries r
def uptoBulkEntry {H : Type} : Lit × DataW H → Nat
  | (.string bytes, d) => bytes.length + uptoBulk d + 1
  | (_, d) => uptoBulk d + 1
 end
def uptoSmall : (H : Type) → List (DataW H) → Bool := fun _ ds => decide (uptoBulkAll ds ≤ 1048576)
def OpenSpec.upto (s : _root_.Go.ChangeSpec) : _root_.Go.OpenSpec := { _root_.Go.OpenSpec.ofChange s with cond := some uptoSmall }

/-- 'cantonlaw10.CalcAny', WHERE WHAT IT READS IS OF BULK AT MOST 1048576: true; the input reads as it did. -/
def calcAnyUptoRow : OpenClaim := { program := "ytcmcnmmhkpolcaa", sum := "fa095609ccffb6ce2e537b62933a64859268e9da15dab9c4fb2c86aefcf5e1dd", func := "canton/cantonlaw10.CalcAny", spec := "calcAny", inPlace := ["internal/bytealg.abigen_runtime_cmpstring"], unfollowed := true, recurses := true, loops := true, apart := false, narrowed := true }
def CalcAnyUptoSaid : Prop := calcAnyUptoRow.holds Try.pinned (OpenSpec.upto calcAnySpec)

/-- 'cantonlaw10.CalcHolds', WHERE WHAT IT READS IS OF BULK AT MOST 1048576: true; the input reads as it did. -/
def calcHoldsUptoRow : OpenClaim := { program := "ytcmcnmmhkpolcaa", sum := "fa095609ccffb6ce2e537b62933a64859268e9da15dab9c4fb2c86aefcf5e1dd", func := "canton/cantonlaw10.CalcHolds", spec := "calcHolds", inPlace := ["internal/bytealg.abigen_runtime_cmpstring"], unfollowed := true, recurses := true, apart := false, narrowed := true }
def CalcHoldsUptoSaid : Prop := calcHoldsUptoRow.holds Try.pinned (OpenSpec.upto calcHoldsSpec)

/-- 'cantonlaw10.CalcNames', WHERE WHAT IT READS IS OF BULK AT MOST 1048576: true; the input reads as it did. -/
def calcNamesUptoRow : OpenClaim := { program := "ytcmcnmmhkpolcaa", sum := "fa095609ccffb6ce2e537b62933a64859268e9da15dab9c4fb2c86aefcf5e1dd", func := "canton/cantonlaw10.CalcNames", spec := "calcNames", inPlace := ["internal/bytealg.abigen_runtime_cmpstring"], unfollowed := true, recurses := true, loops := true, apart := false, narrowed := true }
def CalcNamesUptoSaid : Prop := calcNamesUptoRow.holds Try.pinned (OpenSpec.upto calcNamesSpec)

end Rows
end Go.Proofs.Ytcmcnmmhkpolcaa
