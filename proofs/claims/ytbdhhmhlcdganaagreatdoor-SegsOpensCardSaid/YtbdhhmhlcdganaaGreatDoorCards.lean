/-
  DERIVED. GIVEN WITH THE SEED: THE CARDS: each row of YtbdhhmhlcdganaaGreatDoorRows.lean that lists a variable, with what it lists TIED to the program's text (the seventh form; the later family's looks); each row that meets fmt, with fmt's text TOLD by the authors' own Lean function (tested against real Go, not proved from fmt's source: count such statements apart). THE CARD IS WHAT COUNTS. Prove the row's statement (the work); the ties are given (YtbdhhmhlcdganaaGreatDoorTie.lean); close each card by the builder's one call (the guide's Derived/Test/ToyasCard.lean, 'card_holds'). Laid BY PROGRAM, IN A SANDBOX (cutbox-door.mjs). By AI agents, Wed Nov 11 2026. No macro, syntax, notation, axiom, sorry.
-/
import Derived.Test.YtbdhhmhlcdganaaGreatDoorRows
import GoSem.ClaimSeven
namespace Go.Proofs.YtbdhhmhlcdganaaGreatDoor
namespace Rows

/-- THE TIED CARD OF 'outstationlaw14.SegsLasts'. -/
def segsLastsCard : Claim7 := { stood := { row := segsLastsRow, standIns := [], harness := (true, "d595cf7606e88a27f5e11f5de323a2d62c1db42c6b47b3cc27f994375d6037d6"), looks := true }, kinds := [], alts := [], laidByText := true, laidKinds := [.data, .data, .data, .sentinel, .sentinel], laidTests := true, laidLooks := .later }
def SegsLastsCardSaid : Prop := Claim7.holds Tryz.pinned (.plain (OpenSpec.ofChange segsLastsSpec)) segsLastsCard

/-- THE TIED CARD OF 'outstationlaw14.SegsOpens'. -/
def segsOpensCard : Claim7 := { stood := { row := segsOpensRow, standIns := [], harness := (true, "d595cf7606e88a27f5e11f5de323a2d62c1db42c6b47b3cc27f994375d6037d6"), looks := true }, kinds := [], alts := [], laidByText := true, laidKinds := [.data, .data, .data, .sentinel, .sentinel], laidTests := true, laidLooks := .later }
def SegsOpensCardSaid : Prop := Claim7.holds Tryz.pinned (.plain (OpenSpec.ofChange segsOpensSpec)) segsOpensCard

/-- THE TIED CARD OF 'outstationlaw14.SegsFull'. -/
def segsFullCard : Claim7 := { stood := { row := segsFullRow, standIns := [], harness := (true, "d595cf7606e88a27f5e11f5de323a2d62c1db42c6b47b3cc27f994375d6037d6"), looks := true }, kinds := [], alts := [], laidByText := true, laidKinds := [.data, .data, .data, .sentinel, .sentinel], laidTests := true, laidLooks := .later }
def SegsFullCardSaid : Prop := Claim7.holds Tryz.pinned (.plain (OpenSpec.ofChange segsFullSpec)) segsFullCard

/-- THE TIED CARD OF 'outstationlaw14.SegsKnown'. -/
def segsKnownCard : Claim7 := { stood := { row := segsKnownRow, standIns := [], harness := (true, "d595cf7606e88a27f5e11f5de323a2d62c1db42c6b47b3cc27f994375d6037d6"), looks := true }, kinds := [], alts := [], laidByText := true, laidKinds := [.data, .data, .data, .sentinel, .sentinel], laidTests := true, laidLooks := .later }
def SegsKnownCardSaid : Prop := Claim7.holds Tryz.pinned (.plain (OpenSpec.ofChange segsKnownSpec)) segsKnownCard

/-- THE SECOND FORM's CARD OF 'outstationlaw14.SegsLasts'. -/
def segsLastsUptoCard : Claim7 := { stood := { row := segsLastsUptoRow, standIns := [], harness := (true, "d595cf7606e88a27f5e11f5de323a2d62c1db42c6b47b3cc27f994375d6037d6"), looks := true }, kinds := [], alts := [], laidByText := true, laidKinds := [.data, .data, .data, .sentinel, .sentinel], laidTests := true, laidLooks := .later }
def SegsLastsUptoCardSaid : Prop := Claim7.holds Tryz.pinned (.plain (OpenSpec.upto segsLastsSpec)) segsLastsUptoCard

/-- THE SECOND FORM's CARD OF 'outstationlaw14.SegsOpens'. -/
def segsOpensUptoCard : Claim7 := { stood := { row := segsOpensUptoRow, standIns := [], harness := (true, "d595cf7606e88a27f5e11f5de323a2d62c1db42c6b47b3cc27f994375d6037d6"), looks := true }, kinds := [], alts := [], laidByText := true, laidKinds := [.data, .data, .data, .sentinel, .sentinel], laidTests := true, laidLooks := .later }
def SegsOpensUptoCardSaid : Prop := Claim7.holds Tryz.pinned (.plain (OpenSpec.upto segsOpensSpec)) segsOpensUptoCard

/-- THE SECOND FORM's CARD OF 'outstationlaw14.SegsFull'. -/
def segsFullUptoCard : Claim7 := { stood := { row := segsFullUptoRow, standIns := [], harness := (true, "d595cf7606e88a27f5e11f5de323a2d62c1db42c6b47b3cc27f994375d6037d6"), looks := true }, kinds := [], alts := [], laidByText := true, laidKinds := [.data, .data, .data, .sentinel, .sentinel], laidTests := true, laidLooks := .later }
def SegsFullUptoCardSaid : Prop := Claim7.holds Tryz.pinned (.plain (OpenSpec.upto segsFullSpec)) segsFullUptoCard

/-- THE SECOND FORM's CARD OF 'outstationlaw14.SegsKnown'. -/
def segsKnownUptoCard : Claim7 := { stood := { row := segsKnownUptoRow, standIns := [], harness := (true, "d595cf7606e88a27f5e11f5de323a2d62c1db42c6b47b3cc27f994375d6037d6"), looks := true }, kinds := [], alts := [], laidByText := true, laidKinds := [.data, .data, .data, .sentinel, .sentinel], laidTests := true, laidLooks := .later }
def SegsKnownUptoCardSaid : Prop := Claim7.holds Tryz.pinned (.plain (OpenSpec.upto segsKnownSpec)) segsKnownUptoCard
end Rows
end Go.Proofs.YtbdhhmhlcdganaaGreatDoor
