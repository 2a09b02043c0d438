/-
  DERIVED. GIVEN WITH THE SEED: THE CARDS: each row of YtgcjfalgngiebaaGreatDoorRows.lean that lists a variable, with what it lists TIED to the program's text (the seventh form; the later family's looks); each row that meets fmt, with fmt's text TOLD by the authors' own Lean function (tested against real Go, not proved from fmt's source: count such statements apart). THE CARD IS WHAT COUNTS. Prove the row's statement (the work); the ties are given (YtgcjfalgngiebaaGreatDoorTie.lean); close each card by the builder's one call (the guide's Derived/Test/ToyasCard.lean, 'card_holds'). Laid BY PROGRAM, IN A SANDBOX (cutbox-door.mjs). By AI agents, Wed Nov 11 2026. No macro, syntax, notation, axiom, sorry.
-/
import Derived.Test.YtgcjfalgngiebaaGreatDoorRows
import GoSem.ClaimSeven
namespace Go.Proofs.YtgcjfalgngiebaaGreatDoor
namespace Rows

/-- THE TIED CARD OF 'cantonlaw4.RowPlays'. -/
def rowPlaysCard : Claim7 := { stood := { row := rowPlaysRow, standIns := [], harness := (true, "7ca391bd9872bfbf75e7e372bbc30514d8caca453e3cfd2ff812e8e152dff063"), looks := false }, kinds := [], alts := [], laidByText := true, laidKinds := [.data, .data, .data], laidTests := true, laidLooks := .later }
def RowPlaysCardSaid : Prop := Claim7.holds Tryz.pinned (.plain (OpenSpec.ofChange rowPlaysSpec)) rowPlaysCard

/-- THE SECOND FORM's CARD OF 'cantonlaw4.RowPlays'. -/
def rowPlaysUptoCard : Claim7 := { stood := { row := rowPlaysUptoRow, standIns := [], harness := (true, "7ca391bd9872bfbf75e7e372bbc30514d8caca453e3cfd2ff812e8e152dff063"), looks := false }, kinds := [], alts := [], laidByText := true, laidKinds := [.data, .data, .data], laidTests := true, laidLooks := .later }
def RowPlaysUptoCardSaid : Prop := Claim7.holds Tryz.pinned (.plain (OpenSpec.upto rowPlaysSpec)) rowPlaysUptoCard
end Rows
end Go.Proofs.YtgcjfalgngiebaaGreatDoor
