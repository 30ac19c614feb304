/-
  DERIVED. GIVEN WITH THE SEED: THE CARDS: each row of YtamjnekdfhocdaaDoorRows.lean that lists a variable, with what it lists TIED to the program's text (the seventh form; the later family's looks); each row that meets fmt, with fmt's text TOLD by the authors' own Lean function (tested against real Go, not proved from fmt's source: count such statements apart). THE CARD IS WHAT COUNTS. Prove the row's statement (the work); the ties are given (YtamjnekdfhocdaaDoorTie.lean); close each card by the builder's one call (the guide's Derived/Test/ToyasCard.lean, 'card_holds'). Laid BY PROGRAM, IN A SANDBOX (cutbox-door.mjs). By AI agents, Wed Nov 11 2026. No macro, syntax, notation, axiom, sorry.
-/
import Derived.Test.YtamjnekdfhocdaaDoorRows
import GoSem.ClaimSeven
namespace Go.Proofs.YtamjnekdfhocdaaDoor
namespace Rows

/-- THE TIED CARD OF 'distributarylaw15.CommandTells'. -/
def commandTellsCard : Claim7 := { stood := { row := commandTellsRow, standIns := [], harness := (true, "e397ad235b8d942860a9351498e9e7734f9257ebdb39b94013208b9e8c2e31e9"), looks := true }, kinds := [], alts := [], laidByText := true, laidKinds := [.data], laidTests := true, laidLooks := .later }
def CommandTellsCardSaid : Prop := Claim7.holds Tryd.pinned (.plain (OpenSpec.ofChange commandTellsSpec)) commandTellsCard

/-- THE TIED CARD OF 'distributarylaw15.CommandReads'. -/
def commandReadsCard : Claim7 := { stood := { row := commandReadsRow, standIns := [], harness := (true, "e397ad235b8d942860a9351498e9e7734f9257ebdb39b94013208b9e8c2e31e9"), looks := true }, kinds := [], alts := [], laidByText := true, laidKinds := [.data], laidTests := true, laidLooks := .later }
def CommandReadsCardSaid : Prop := Claim7.holds Tryd.pinned (.plain (OpenSpec.ofChange commandReadsSpec)) commandReadsCard

/-- THE TIED CARD OF 'distributarylaw15.CommandBack'. -/
def commandBackCard : Claim7 := { stood := { row := commandBackRow, standIns := [], harness := (true, "e397ad235b8d942860a9351498e9e7734f9257ebdb39b94013208b9e8c2e31e9"), looks := true }, kinds := [], alts := [], laidByText := true, laidKinds := [.data], laidTests := true, laidLooks := .later }
def CommandBackCardSaid : Prop := Claim7.holds Tryd.pinned (.plain (OpenSpec.ofChange commandBackSpec)) commandBackCard

/-- THE TIED CARD OF 'distributarylaw15.CommandOne'. -/
def commandOneCard : Claim7 := { stood := { row := commandOneRow, standIns := [], harness := (true, "e397ad235b8d942860a9351498e9e7734f9257ebdb39b94013208b9e8c2e31e9"), looks := true }, kinds := [], alts := [], laidByText := true, laidKinds := [.data], laidTests := true, laidLooks := .later }
def CommandOneCardSaid : Prop := Claim7.holds Tryd.pinned (.plain (OpenSpec.ofChange commandOneSpec)) commandOneCard

/-- THE TIED CARD OF 'distributarylaw15.CommandApart'. -/
def commandApartCard : Claim7 := { stood := { row := commandApartRow, standIns := [], harness := (true, "e397ad235b8d942860a9351498e9e7734f9257ebdb39b94013208b9e8c2e31e9"), looks := true }, kinds := [], alts := [], laidByText := true, laidKinds := [.data], laidTests := true, laidLooks := .later }
def CommandApartCardSaid : Prop := Claim7.holds Tryd.pinned (.plain (OpenSpec.ofChange commandApartSpec)) commandApartCard

/-- THE TIED CARD OF 'distributarylaw15.CommandOwn'. -/
def commandOwnCard : Claim7 := { stood := { row := commandOwnRow, standIns := [], harness := (true, "e397ad235b8d942860a9351498e9e7734f9257ebdb39b94013208b9e8c2e31e9"), looks := true }, kinds := [], alts := [], laidByText := true, laidKinds := [.data], laidTests := true, laidLooks := .later }
def CommandOwnCardSaid : Prop := Claim7.holds Tryd.pinned (.plain (OpenSpec.ofChange commandOwnSpec)) commandOwnCard

/-- THE SECOND FORM's CARD OF 'distributarylaw15.CommandTells'. -/
def commandTellsUptoCard : Claim7 := { stood := { row := commandTellsUptoRow, standIns := [], harness := (true, "e397ad235b8d942860a9351498e9e7734f9257ebdb39b94013208b9e8c2e31e9"), looks := true }, kinds := [], alts := [], laidByText := true, laidKinds := [.data], laidTests := true, laidLooks := .later }
def CommandTellsUptoCardSaid : Prop := Claim7.holds Tryd.pinned (.plain (OpenSpec.upto commandTellsSpec)) commandTellsUptoCard

/-- THE SECOND FORM's CARD OF 'distributarylaw15.CommandReads'. -/
def commandReadsUptoCard : Claim7 := { stood := { row := commandReadsUptoRow, standIns := [], harness := (true, "e397ad235b8d942860a9351498e9e7734f9257ebdb39b94013208b9e8c2e31e9"), looks := true }, kinds := [], alts := [], laidByText := true, laidKinds := [.data], laidTests := true, laidLooks := .later }
def CommandReadsUptoCardSaid : Prop := Claim7.holds Tryd.pinned (.plain (OpenSpec.upto commandReadsSpec)) commandReadsUptoCard

/-- THE SECOND FORM's CARD OF 'distributarylaw15.CommandBack'. -/
def commandBackUptoCard : Claim7 := { stood := { row := commandBackUptoRow, standIns := [], harness := (true, "e397ad235b8d942860a9351498e9e7734f9257ebdb39b94013208b9e8c2e31e9"), looks := true }, kinds := [], alts := [], laidByText := true, laidKinds := [.data], laidTests := true, laidLooks := .later }
def CommandBackUptoCardSaid : Prop := Claim7.holds Tryd.pinned (.plain (OpenSpec.upto commandBackSpec)) commandBackUptoCard

/-- THE SECOND FORM's CARD OF 'distributarylaw15.CommandOne'. -/
def commandOneUptoCard : Claim7 := { stood := { row := commandOneUptoRow, standIns := [], harness := (true, "e397ad235b8d942860a9351498e9e7734f9257ebdb39b94013208b9e8c2e31e9"), looks := true }, kinds := [], alts := [], laidByText := true, laidKinds := [.data], laidTests := true, laidLooks := .later }
def CommandOneUptoCardSaid : Prop := Claim7.holds Tryd.pinned (.plain (OpenSpec.upto commandOneSpec)) commandOneUptoCard

/-- THE SECOND FORM's CARD OF 'distributarylaw15.CommandApart'. -/
def commandApartUptoCard : Claim7 := { stood := { row := commandApartUptoRow, standIns := [], harness := (true, "e397ad235b8d942860a9351498e9e7734f9257ebdb39b94013208b9e8c2e31e9"), looks := true }, kinds := [], alts := [], laidByText := true, laidKinds := [.data], laidTests := true, laidLooks := .later }
def CommandApartUptoCardSaid : Prop := Claim7.holds Tryd.pinned (.plain (OpenSpec.upto commandApartSpec)) commandApartUptoCard

/-- THE SECOND FORM's CARD OF 'distributarylaw15.CommandOwn'. -/
def commandOwnUptoCard : Claim7 := { stood := { row := commandOwnUptoRow, standIns := [], harness := (true, "e397ad235b8d942860a9351498e9e7734f9257ebdb39b94013208b9e8c2e31e9"), looks := true }, kinds := [], alts := [], laidByText := true, laidKinds := [.data], laidTests := true, laidLooks := .later }
def CommandOwnUptoCardSaid : Prop := Claim7.holds Tryd.pinned (.plain (OpenSpec.upto commandOwnSpec)) commandOwnUptoCard
end Rows
end Go.Proofs.YtamjnekdfhocdaaDoor
