/-
  DERIVED. GIVEN WITH THE SEED: THE CARDS: each row of YtdghknmlleffbaaDoorRows.lean that lists a variable, with what it lists TIED to the program's text (the seventh form; the later family's looks); each row that meets fmt, with fmt's text TOLD by the authors' own Lean function (tested against real Go, not proved from fmt's source: count such statements apart). THE CARD IS WHAT COUNTS. Prove the row's statement (the work); the ties are given (YtdghknmlleffbaaDoorTie.lean); close each card by the builder's one call (the guide's Derived/Test/ToyasCard.lean, 'card_holds'). Laid BY PROGRAM, IN A SANDBOX (cutbox-door.mjs). By AI agents, Wed Nov 11 2026. No macro, syntax, notation, axiom, sorry.
-/
import Derived.Test.YtdghknmlleffbaaDoorRows
import GoSem.ClaimSeven
namespace Go.Proofs.YtdghknmlleffbaaDoor
namespace Rows

/-- THE TIED CARD OF 'cantonlaw2.ValueAny'. -/
def valueAnyCard : Claim7 := { stood := { row := valueAnyRow, standIns := [], harness := (true, "9cb37b157e3a4b060903b93c83102fc46c595106619efc18a7a4c001da45bd8c"), looks := true }, kinds := [], alts := [], laidByText := true, laidKinds := [.data, .data, .data, .data, .sentinel, .sentinel, .pinned], laidTests := true, laidLooks := .later }
def ValueAnyCardSaid : Prop := Claim7.holds Tryd.pinned (.plain (OpenSpec.ofChange valueAnySpec)) valueAnyCard

/-- THE TIED CARD OF 'cantonlaw2.ValueTexts'. -/
def valueTextsCard : Claim7 := { stood := { row := valueTextsRow, standIns := [], harness := (true, "9cb37b157e3a4b060903b93c83102fc46c595106619efc18a7a4c001da45bd8c"), looks := true }, kinds := [], alts := [], laidByText := true, laidKinds := [.data, .data, .data, .data, .sentinel, .sentinel, .pinned], laidTests := true, laidLooks := .later }
def ValueTextsCardSaid : Prop := Claim7.holds Tryd.pinned (.plain (OpenSpec.ofChange valueTextsSpec)) valueTextsCard

/-- THE TIED CARD OF 'cantonlaw3.StampAny'. -/
def stampAnyCard : Claim7 := { stood := { row := stampAnyRow, standIns := [], harness := (true, "9cb37b157e3a4b060903b93c83102fc46c595106619efc18a7a4c001da45bd8c"), looks := true }, kinds := [], alts := [], laidByText := true, laidKinds := [.data, .data, .data], laidTests := true, laidLooks := .later }
def StampAnyCardSaid : Prop := Claim7.holds Tryd.pinned (.plain (OpenSpec.ofChange stampAnySpec)) stampAnyCard

/-- THE TIED CARD OF 'cantonlaw3.StampOrder'. -/
def stampOrderCard : Claim7 := { stood := { row := stampOrderRow, standIns := [], harness := (true, "9cb37b157e3a4b060903b93c83102fc46c595106619efc18a7a4c001da45bd8c"), looks := true }, kinds := [], alts := [], laidByText := true, laidKinds := [.data, .data, .data], laidTests := true, laidLooks := .later }
def StampOrderCardSaid : Prop := Claim7.holds Tryd.pinned (.plain (OpenSpec.ofChange stampOrderSpec)) stampOrderCard

/-- THE TIED CARD OF 'cantonlaw3.StampNewest'. -/
def stampNewestCard : Claim7 := { stood := { row := stampNewestRow, standIns := [], harness := (true, "9cb37b157e3a4b060903b93c83102fc46c595106619efc18a7a4c001da45bd8c"), looks := true }, kinds := [], alts := [], laidByText := true, laidKinds := [.data, .data, .data], laidTests := true, laidLooks := .later }
def StampNewestCardSaid : Prop := Claim7.holds Tryd.pinned (.plain (OpenSpec.ofChange stampNewestSpec)) stampNewestCard

/-- THE SECOND FORM's CARD OF 'cantonlaw2.ValueAny'. -/
def valueAnyUptoCard : Claim7 := { stood := { row := valueAnyUptoRow, standIns := [], harness := (true, "9cb37b157e3a4b060903b93c83102fc46c595106619efc18a7a4c001da45bd8c"), looks := true }, kinds := [], alts := [], laidByText := true, laidKinds := [.data, .data, .data, .data, .sentinel, .sentinel, .pinned], laidTests := true, laidLooks := .later }
def ValueAnyUptoCardSaid : Prop := Claim7.holds Tryd.pinned (.plain (OpenSpec.upto valueAnySpec)) valueAnyUptoCard

/-- THE SECOND FORM's CARD OF 'cantonlaw2.ValueTexts'. -/
def valueTextsUptoCard : Claim7 := { stood := { row := valueTextsUptoRow, standIns := [], harness := (true, "9cb37b157e3a4b060903b93c83102fc46c595106619efc18a7a4c001da45bd8c"), looks := true }, kinds := [], alts := [], laidByText := true, laidKinds := [.data, .data, .data, .data, .sentinel, .sentinel, .pinned], laidTests := true, laidLooks := .later }
def ValueTextsUptoCardSaid : Prop := Claim7.holds Tryd.pinned (.plain (OpenSpec.upto valueTextsSpec)) valueTextsUptoCard

/-- THE SECOND FORM's CARD OF 'cantonlaw3.StampAny'. -/
def stampAnyUptoCard : Claim7 := { stood := { row := stampAnyUptoRow, standIns := [], harness := (true, "9cb37b157e3a4b060903b93c83102fc46c595106619efc18a7a4c001da45bd8c"), looks := true }, kinds := [], alts := [], laidByText := true, laidKinds := [.data, .data, .data], laidTests := true, laidLooks := .later }
def StampAnyUptoCardSaid : Prop := Claim7.holds Tryd.pinned (.plain (OpenSpec.upto stampAnySpec)) stampAnyUptoCard

/-- THE SECOND FORM's CARD OF 'cantonlaw3.StampOrder'. -/
def stampOrderUptoCard : Claim7 := { stood := { row := stampOrderUptoRow, standIns := [], harness := (true, "9cb37b157e3a4b060903b93c83102fc46c595106619efc18a7a4c001da45bd8c"), looks := true }, kinds := [], alts := [], laidByText := true, laidKinds := [.data, .data, .data], laidTests := true, laidLooks := .later }
def StampOrderUptoCardSaid : Prop := Claim7.holds Tryd.pinned (.plain (OpenSpec.upto stampOrderSpec)) stampOrderUptoCard

/-- THE SECOND FORM's CARD OF 'cantonlaw3.StampNewest'. -/
def stampNewestUptoCard : Claim7 := { stood := { row := stampNewestUptoRow, standIns := [], harness := (true, "9cb37b157e3a4b060903b93c83102fc46c595106619efc18a7a4c001da45bd8c"), looks := true }, kinds := [], alts := [], laidByText := true, laidKinds := [.data, .data, .data], laidTests := true, laidLooks := .later }
def StampNewestUptoCardSaid : Prop := Claim7.holds Tryd.pinned (.plain (OpenSpec.upto stampNewestSpec)) stampNewestUptoCard
end Rows
end Go.Proofs.YtdghknmlleffbaaDoor
