/-
  DERIVED. GIVEN WITH THE SEED: THE CARDS: each row of YtkcmfcgoknhodaaGreatDoorRows.lean that lists a variable, with what it lists TIED to the program's text (the seventh form; the later family's looks); each row that meets fmt, with fmt's text TOLD by the authors' own Lean function (tested against real Go, not proved from fmt's source: count such statements apart). THE CARD IS WHAT COUNTS. Prove the row's statement (the work); the ties are given (YtkcmfcgoknhodaaGreatDoorTie.lean); close each card by the builder's one call (the guide's Derived/Test/ToyasCard.lean, 'card_holds'). Laid BY PROGRAM, IN A SANDBOX (cutbox-door.mjs). By AI agents, Wed Nov 11 2026. No macro, syntax, notation, axiom, sorry.
-/
import Derived.Test.YtkcmfcgoknhodaaGreatDoorRows
import GoSem.ClaimSeven
namespace Go.Proofs.YtkcmfcgoknhodaaGreatDoor
namespace Rows

/-- THE TIED CARD OF 'distributarylaw13.SpecBack'. -/
def specBackCard : Claim7 := { stood := { row := specBackRow, standIns := [], harness := (true, "56c6cb28ad8dbdc57f84ef10e9527d56244e3f395e3464c641a8aa1571b02506"), looks := true }, kinds := [], alts := [], laidByText := true, laidKinds := [.data, .data, .data, .data, .sentinel, .sentinel, .pinned], laidTests := true, laidLooks := .later }
def SpecBackCardSaid : Prop := Claim7.holds Tryz.pinned (.plain (OpenSpec.ofChange specBackSpec)) specBackCard

/-- THE TIED CARD OF 'distributarylaw13.SpecKinds'. -/
def specKindsCard : Claim7 := { stood := { row := specKindsRow, standIns := [], harness := (true, "56c6cb28ad8dbdc57f84ef10e9527d56244e3f395e3464c641a8aa1571b02506"), looks := true }, kinds := [], alts := [], laidByText := true, laidKinds := [.data, .data, .data, .data, .sentinel, .sentinel, .pinned], laidTests := true, laidLooks := .later }
def SpecKindsCardSaid : Prop := Claim7.holds Tryz.pinned (.plain (OpenSpec.ofChange specKindsSpec)) specKindsCard

/-- THE TIED CARD OF 'distributarylaw13.SpecWhoever'. -/
def specWhoeverCard : Claim7 := { stood := { row := specWhoeverRow, standIns := [], harness := (true, "56c6cb28ad8dbdc57f84ef10e9527d56244e3f395e3464c641a8aa1571b02506"), looks := true }, kinds := [], alts := [], laidByText := true, laidKinds := [.data, .data, .data, .data, .sentinel, .sentinel, .pinned], laidTests := true, laidLooks := .later }
def SpecWhoeverCardSaid : Prop := Claim7.holds Tryz.pinned (.plain (OpenSpec.ofChange specWhoeverSpec)) specWhoeverCard

/-- THE TIED CARD OF 'distributarylaw13.SpecSpoilt'. -/
def specSpoiltCard : Claim7 := { stood := { row := specSpoiltRow, standIns := [], harness := (true, "56c6cb28ad8dbdc57f84ef10e9527d56244e3f395e3464c641a8aa1571b02506"), looks := true }, kinds := [], alts := [], laidByText := true, laidKinds := [.data, .data, .data, .data, .sentinel, .sentinel, .pinned], laidTests := true, laidLooks := .later }
def SpecSpoiltCardSaid : Prop := Claim7.holds Tryz.pinned (.plain (OpenSpec.ofChange specSpoiltSpec)) specSpoiltCard

/-- THE SECOND FORM's CARD OF 'distributarylaw13.SpecBack'. -/
def specBackUptoCard : Claim7 := { stood := { row := specBackUptoRow, standIns := [], harness := (true, "56c6cb28ad8dbdc57f84ef10e9527d56244e3f395e3464c641a8aa1571b02506"), looks := true }, kinds := [], alts := [], laidByText := true, laidKinds := [.data, .data, .data, .data, .sentinel, .sentinel, .pinned], laidTests := true, laidLooks := .later }
def SpecBackUptoCardSaid : Prop := Claim7.holds Tryz.pinned (.plain (OpenSpec.upto specBackSpec)) specBackUptoCard

/-- THE SECOND FORM's CARD OF 'distributarylaw13.SpecKinds'. -/
def specKindsUptoCard : Claim7 := { stood := { row := specKindsUptoRow, standIns := [], harness := (true, "56c6cb28ad8dbdc57f84ef10e9527d56244e3f395e3464c641a8aa1571b02506"), looks := true }, kinds := [], alts := [], laidByText := true, laidKinds := [.data, .data, .data, .data, .sentinel, .sentinel, .pinned], laidTests := true, laidLooks := .later }
def SpecKindsUptoCardSaid : Prop := Claim7.holds Tryz.pinned (.plain (OpenSpec.upto specKindsSpec)) specKindsUptoCard

/-- THE SECOND FORM's CARD OF 'distributarylaw13.SpecWhoever'. -/
def specWhoeverUptoCard : Claim7 := { stood := { row := specWhoeverUptoRow, standIns := [], harness := (true, "56c6cb28ad8dbdc57f84ef10e9527d56244e3f395e3464c641a8aa1571b02506"), looks := true }, kinds := [], alts := [], laidByText := true, laidKinds := [.data, .data, .data, .data, .sentinel, .sentinel, .pinned], laidTests := true, laidLooks := .later }
def SpecWhoeverUptoCardSaid : Prop := Claim7.holds Tryz.pinned (.plain (OpenSpec.upto specWhoeverSpec)) specWhoeverUptoCard

/-- THE SECOND FORM's CARD OF 'distributarylaw13.SpecSpoilt'. -/
def specSpoiltUptoCard : Claim7 := { stood := { row := specSpoiltUptoRow, standIns := [], harness := (true, "56c6cb28ad8dbdc57f84ef10e9527d56244e3f395e3464c641a8aa1571b02506"), looks := true }, kinds := [], alts := [], laidByText := true, laidKinds := [.data, .data, .data, .data, .sentinel, .sentinel, .pinned], laidTests := true, laidLooks := .later }
def SpecSpoiltUptoCardSaid : Prop := Claim7.holds Tryz.pinned (.plain (OpenSpec.upto specSpoiltSpec)) specSpoiltUptoCard
end Rows
end Go.Proofs.YtkcmfcgoknhodaaGreatDoor
