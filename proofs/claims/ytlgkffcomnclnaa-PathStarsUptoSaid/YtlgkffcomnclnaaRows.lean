/-
  No cell of these rows narrows 'for every input' (looked for: loops, veiled, ifaces, maps, wideKeys, modest, calm, conditions, laid).
  DERIVED. THE GIVEN ROWS OF THIS SEAT. 5 by the template 'for every input the law returns true; each argument reads behind the call as it read before'; 0 by the template 'total and deterministic' (their statements: YtlgkffcomnclnaaTotals.lean).
  GIVEN WITH THE SEED: the statements are not yours to turn. If you find one false, say at which input.
  Laid BY PROGRAM, IN A SANDBOX (cutbox-rows.mjs): the forced cells as the released guide's own fill.sh prints them over the translation e260aacb1b2c4828… (all of the seat's roots in one cut). By AI agents, Wed Nov 11 2026. No macro, syntax, notation, axiom, sorry.
-/
import Derived.Test.YtlgkffcomnclnaaChecked
import GoSem.Claim
import GoSem.ClaimJoined
import GoSem.ClaimMapViews
import Derived.JoinedTies
import Derived.KernelRfl
namespace Go.Proofs.Ytlgkffcomnclnaa
/- THE CELL 'sum', in the pinned program and in every row, IS THE sha256 OF THE DUMP (.gsa) THAT YtlgkffcomnclnaaProg.lean LOADS. Nothing in Lean hashes anything: it is a label: what it is worth is what the hold of that sum in a sandbox is worth. -/
noncomputable def Try.pinned : Pinned := { name := "ytlgkffcomnclnaa", sum := "e260aacb1b2c48287d1fea552cee78247ec2d04c1dde5b19ace6692e0023f0fd", checked := Try.checked }
namespace Rows
def none {H : Type} : Left H := { results := [], args := [] }

/-- 'cantonlaw6.PathAny': WHATEVER THE INPUT: true; the input reads as it did. -/
def pathAnySpec : ChangeSpec := { name := "pathAny", fn := fun _ => fun
  | [d1, d2] => { results := [.lit (.bool true)], args := [d1, d2] }
  | _ => none }
def pathAnyRow : OpenClaim := { program := "ytlgkffcomnclnaa", sum := "e260aacb1b2c48287d1fea552cee78247ec2d04c1dde5b19ace6692e0023f0fd", func := "canton/cantonlaw6.PathAny", spec := "pathAny", inPlace := ["internal/abi.NoEscape", "internal/bytealg.MakeNoZero"], apart := false }
def PathAnySaid : Prop := pathAnyRow.holds Try.pinned (OpenSpec.ofChange pathAnySpec)

/-- ITS FALSE NEIGHBOUR: 'it returns false'. Refute it at one input. -/
def pathAnyWrong : ChangeSpec := { name := "pathAny", fn := fun _ => fun
  | [d1, d2] => { results := [.lit (.bool false)], args := [d1, d2] }
  | _ => none }
def PathAnyWrongFalsely : Prop := pathAnyRow.holds Try.pinned (OpenSpec.ofChange pathAnyWrong)

/-- 'cantonlaw6.PathTwo': WHATEVER THE INPUT: true; the input reads as it did. -/
def pathTwoSpec : ChangeSpec := { name := "pathTwo", fn := fun _ => fun
  | [d1, d2, d3] => { results := [.lit (.bool true)], args := [d1, d2, d3] }
  | _ => none }
def pathTwoRow : OpenClaim := { program := "ytlgkffcomnclnaa", sum := "e260aacb1b2c48287d1fea552cee78247ec2d04c1dde5b19ace6692e0023f0fd", func := "canton/cantonlaw6.PathTwo", spec := "pathTwo", inPlace := ["internal/abi.NoEscape", "internal/bytealg.MakeNoZero"], apart := false }
def PathTwoSaid : Prop := pathTwoRow.holds Try.pinned (OpenSpec.ofChange pathTwoSpec)

/-- ITS FALSE NEIGHBOUR: 'it returns false'. Refute it at one input. -/
def pathTwoWrong : ChangeSpec := { name := "pathTwo", fn := fun _ => fun
  | [d1, d2, d3] => { results := [.lit (.bool false)], args := [d1, d2, d3] }
  | _ => none }
def PathTwoWrongFalsely : Prop := pathTwoRow.holds Try.pinned (OpenSpec.ofChange pathTwoWrong)

/-- 'cantonlaw6.PathZones': WHATEVER THE INPUT: true; the input reads as it did. -/
def pathZonesSpec : ChangeSpec := { name := "pathZones", fn := fun _ => fun
  | [d] => { results := [.lit (.bool true)], args := [d] }
  | _ => none }
def pathZonesRow : OpenClaim := { program := "ytlgkffcomnclnaa", sum := "e260aacb1b2c48287d1fea552cee78247ec2d04c1dde5b19ace6692e0023f0fd", func := "canton/cantonlaw6.PathZones", spec := "pathZones", inPlace := ["internal/abi.NoEscape", "internal/bytealg.MakeNoZero"], apart := false }
def PathZonesSaid : Prop := pathZonesRow.holds Try.pinned (OpenSpec.ofChange pathZonesSpec)

/-- ITS FALSE NEIGHBOUR: 'it returns false'. Refute it at one input. -/
def pathZonesWrong : ChangeSpec := { name := "pathZones", fn := fun _ => fun
  | [d] => { results := [.lit (.bool false)], args := [d] }
  | _ => none }
def PathZonesWrongFalsely : Prop := pathZonesRow.holds Try.pinned (OpenSpec.ofChange pathZonesWrong)

/-- 'cantonlaw6.PathCommon': WHATEVER THE INPUT: true; the input reads as it did. -/
def pathCommonSpec : ChangeSpec := { name := "pathCommon", fn := fun _ => fun
  | [d1, d2] => { results := [.lit (.bool true)], args := [d1, d2] }
  | _ => none }
def pathCommonRow : OpenClaim := { program := "ytlgkffcomnclnaa", sum := "e260aacb1b2c48287d1fea552cee78247ec2d04c1dde5b19ace6692e0023f0fd", func := "canton/cantonlaw6.PathCommon", spec := "pathCommon", inPlace := ["internal/abi.NoEscape", "internal/bytealg.MakeNoZero"], apart := false }
def PathCommonSaid : Prop := pathCommonRow.holds Try.pinned (OpenSpec.ofChange pathCommonSpec)

/-- ITS FALSE NEIGHBOUR: 'it returns false'. Refute it at one input. -/
def pathCommonWrong : ChangeSpec := { name := "pathCommon", fn := fun _ => fun
  | [d1, d2] => { results := [.lit (.bool false)], args := [d1, d2] }
  | _ => none }
def PathCommonWrongFalsely : Prop := pathCommonRow.holds Try.pinned (OpenSpec.ofChange pathCommonWrong)

/-- 'cantonlaw6.PathStars': WHATEVER THE INPUT: true; the input reads as it did. -/
def pathStarsSpec : ChangeSpec := { name := "pathStars", fn := fun _ => fun
  | [d1, d2, d3] => { results := [.lit (.bool true)], args := [d1, d2, d3] }
  | _ => none }
def pathStarsRow : OpenClaim := { program := "ytlgkffcomnclnaa", sum := "e260aacb1b2c48287d1fea552cee78247ec2d04c1dde5b19ace6692e0023f0fd", func := "canton/cantonlaw6.PathStars", spec := "pathStars", inPlace := ["internal/abi.NoEscape", "internal/bytealg.MakeNoZero"], apart := false }
def PathStarsSaid : Prop := pathStarsRow.holds Try.pinned (OpenSpec.ofChange pathStarsSpec)

/-- ITS FALSE NEIGHBOUR: 'it returns false'. Refute it at one input. -/
def pathStarsWrong : ChangeSpec := { name := "pathStars", fn := fun _ => fun
  | [d1, d2, d3] => { results := [.lit (.bool false)], args := [d1, d2, d3] }
  | _ => none }
def PathStarsWrongFalsely : Prop := pathStarsRow.holds Try.pinned (OpenSpec.ofChange pathStarsWrong)

/- THE SECOND FORM. 'bulk': how many values and letters a reading holds, each counted each time it is reached (what is shared counts as often as it is met; a slice's spare places count too). A statement '..UptoSaid' is the law's where the arguments, and the package variables that the reading takes, are together of bulk at most 1048576: NARROWER than '..Said'. Prove '..Said' where nothing that the law and all that it calls make is longer than what came in: it says more and counts as full. Else prove '..UptoSaid'. A law counts once. -/
mutual
def uptoBulk {H : Type} : DataW H → Nat
  | .lit (.string bytes) => bytes.length + 1
  | .lit _ => 1
  | .nil => 1
  | .ptr d => uptoBulk d + 1
  | .slice elems spare => uptoBulkAll elems + uptoBulkAll spare + 1
  | .agg parts => uptoBulkAll parts + 1
  | .iface _ d => uptoBulk d + 1
  | .map entries => uptoBulkEntries entries + 1
  | .held _ => 1
def uptoBulkAll {H : Type} : List (DataW H) → Nat
  | [] => 0
  | d :: r => uptoBulk d + uptoBulkAll r
def uptoBulkEntries {H : Type} : List (Lit × DataW H) → Nat
  | [] => 0
  | x :: r => uptoBulkEntry x + uptoBulkEntries r
def uptoBulkEntry {H : Type} : Lit × DataW H → Nat
  | (.string bytes, d) => bytes.length + uptoBulk d + 1
  | (_, d) => uptoBulk d + 1
 end
def uptoSmall : (H : Type) → List (DataW H) → Bool := fun _ ds => decide (uptoBulkAll ds ≤ 1048576)
def OpenSpec.upto (s : _root_.Go.ChangeSpec) : _root_.Go.OpenSpec := { _root_.Go.OpenSpec.ofChange s with cond := some uptoSmall }

/-- 'cantonlaw6.PathAny', WHERE WHAT IT READS IS OF BULK AT MOST 1048576: true; the input reads as it did. -/
def pathAnyUptoRow : OpenClaim := { program := "ytlgkffcomnclnaa", sum := "e260aacb1b2c48287d1fea552cee78247ec2d04c1dde5b19ace6692e0023f0fd", func := "canton/cantonlaw6.PathAny", spec := "pathAny", inPlace := ["internal/abi.NoEscape", "internal/bytealg.MakeNoZero"], apart := false, narrowed := true }
def PathAnyUptoSaid : Prop := pathAnyUptoRow.holds Try.pinned (OpenSpec.upto pathAnySpec)

/-- 'cantonlaw6.PathTwo', WHERE WHAT IT READS IS OF BULK AT MOST 1048576: true; the input reads as it did. -/
def pathTwoUptoRow : OpenClaim := { program := "ytlgkffcomnclnaa", sum := "e260aacb1b2c48287d1fea552cee78247ec2d04c1dde5b19ace6692e0023f0fd", func := "canton/cantonlaw6.PathTwo", spec := "pathTwo", inPlace := ["internal/abi.NoEscape", "internal/bytealg.MakeNoZero"], apart := false, narrowed := true }
def PathTwoUptoSaid : Prop := pathTwoUptoRow.holds Try.pinned (OpenSpec.upto pathTwoSpec)

/-- 'cantonlaw6.PathZones', WHERE WHAT IT READS IS OF BULK AT MOST 1048576: true; the input reads as it did. -/
def pathZonesUptoRow : OpenClaim := { program := "ytlgkffcomnclnaa", sum := "e260aacb1b2c48287d1fea552cee78247ec2d04c1dde5b19ace6692e0023f0fd", func := "canton/cantonlaw6.PathZones", spec := "pathZones", inPlace := ["internal/abi.NoEscape", "internal/bytealg.MakeNoZero"], apart := false, narrowed := true }
def PathZonesUptoSaid : Prop := pathZonesUptoRow.holds Try.pinned (OpenSpec.upto pathZonesSpec)

/-- 'cantonlaw6.PathCommon', WHERE WHAT IT READS IS OF BULK AT MOST 1048576: true; the input reads as it did. -/
def pathCommonUptoRow : OpenClaim := { program := "ytlgkffcomnclnaa", sum := "e260aacb1b2c48287d1fea552cee78247ec2d04c1dde5b19ace6692e0023f0fd", func := "canton/cantonlaw6.PathCommon", spec := "pathCommon", inPlace := ["internal/abi.NoEscape", "internal/bytealg.MakeNoZero"], apart := false, narrowed := true }
def PathCommonUptoSaid : Prop := pathCommonUptoRow.holds Try.pinned (OpenSpec.upto pathCommonSpec)

/-- 'cantonlaw6.PathStars', WHERE WHAT IT READS IS OF BULK AT MOST 1048576: true; the input reads as it did. -/
def pathStarsUptoRow : OpenClaim := { program := "ytlgkffcomnclnaa", sum := "e260aacb1b2c48287d1fea552cee78247ec2d04c1dde5b19ace6692e0023f0fd", func := "canton/cantonlaw6.PathStars", spec := "pathStars", inPlace := ["internal/abi.NoEscape", "internal/bytealg.MakeNoZero"], apart := false, narrowed := true }
def PathStarsUptoSaid : Prop := pathStarsUptoRow.holds Try.pinned (OpenSpec.upto pathStarsSpec)

end Rows
end Go.Proofs.Ytlgkffcomnclnaa
