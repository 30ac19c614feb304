/-
  DERIVED. GIVEN WITH THE SEED: THE CARDS: each row of YtdmgalcfgignpaaDoorRows.lean that lists a variable, with what it lists TIED to the program's text (the seventh form; the later family's looks); each row that meets fmt, with fmt's text TOLD by the authors' own Lean function (tested against real Go, not proved from fmt's source: count such statements apart). THE CARD IS WHAT COUNTS. Prove the row's statement (the work); the ties are given (YtdmgalcfgignpaaDoorTie.lean); close each card by the builder's one call (the guide's Derived/Test/ToyasCard.lean, 'card_holds'). Laid BY PROGRAM, IN A SANDBOX (cutbox-door.mjs). By AI agents, Wed Nov 11 2026. No macro, syntax, notation, axiom, sorry.
-/
import Derived.Test.YtdmgalcfgignpaaDoorRows
import GoSem.ClaimSeven
namespace Go.Proofs.YtdmgalcfgignpaaDoor
namespace Rows

/-- THE TIED CARD OF 'distributarylaw10.PacketTexts'. -/
def packetTextsCard : Claim7 := { stood := { row := packetTextsRow, standIns := [], harness := (true, "58766a1fd305f2aa3f0f10712566f0803fdd9cbf85ce279850ad4f7df439137b"), looks := false }, kinds := [], alts := [], laidByText := true, laidKinds := [.data, .data, .data], laidTests := true, laidLooks := .later }
def PacketTextsCardSaid : Prop := Claim7.holds Tryd.pinned (.plain (OpenSpec.ofChange packetTextsSpec)) packetTextsCard

/-- THE TIED CARD OF 'distributarylaw10.PacketNeeds'. -/
def packetNeedsCard : Claim7 := { stood := { row := packetNeedsRow, standIns := [], harness := (true, "58766a1fd305f2aa3f0f10712566f0803fdd9cbf85ce279850ad4f7df439137b"), looks := false }, kinds := [], alts := [], laidByText := true, laidKinds := [.data, .data, .data], laidTests := true, laidLooks := .later }
def PacketNeedsCardSaid : Prop := Claim7.holds Tryd.pinned (.plain (OpenSpec.ofChange packetNeedsSpec)) packetNeedsCard

/-- THE TIED CARD OF 'distributarylaw10.PacketBack'. -/
def packetBackCard : Claim7 := { stood := { row := packetBackRow, standIns := [], harness := (true, "58766a1fd305f2aa3f0f10712566f0803fdd9cbf85ce279850ad4f7df439137b"), looks := false }, kinds := [], alts := [], laidByText := true, laidKinds := [.data, .data, .data], laidTests := true, laidLooks := .later }
def PacketBackCardSaid : Prop := Claim7.holds Tryd.pinned (.plain (OpenSpec.ofChange packetBackSpec)) packetBackCard

/-- THE TIED CARD OF 'distributarylaw10.PacketOrder'. -/
def packetOrderCard : Claim7 := { stood := { row := packetOrderRow, standIns := [], harness := (true, "58766a1fd305f2aa3f0f10712566f0803fdd9cbf85ce279850ad4f7df439137b"), looks := false }, kinds := [], alts := [], laidByText := true, laidKinds := [.data, .data, .data], laidTests := true, laidLooks := .later }
def PacketOrderCardSaid : Prop := Claim7.holds Tryd.pinned (.plain (OpenSpec.ofChange packetOrderSpec)) packetOrderCard

/-- THE TIED CARD OF 'distributarylaw10.PacketSums'. -/
def packetSumsCard : Claim7 := { stood := { row := packetSumsRow, standIns := [], harness := (true, "58766a1fd305f2aa3f0f10712566f0803fdd9cbf85ce279850ad4f7df439137b"), looks := false }, kinds := [], alts := [], laidByText := true, laidKinds := [.data, .data, .data], laidTests := true, laidLooks := .later }
def PacketSumsCardSaid : Prop := Claim7.holds Tryd.pinned (.plain (OpenSpec.ofChange packetSumsSpec)) packetSumsCard

/-- THE SECOND FORM's CARD OF 'distributarylaw10.PacketTexts'. -/
def packetTextsUptoCard : Claim7 := { stood := { row := packetTextsUptoRow, standIns := [], harness := (true, "58766a1fd305f2aa3f0f10712566f0803fdd9cbf85ce279850ad4f7df439137b"), looks := false }, kinds := [], alts := [], laidByText := true, laidKinds := [.data, .data, .data], laidTests := true, laidLooks := .later }
def PacketTextsUptoCardSaid : Prop := Claim7.holds Tryd.pinned (.plain (OpenSpec.upto packetTextsSpec)) packetTextsUptoCard

/-- THE SECOND FORM's CARD OF 'distributarylaw10.PacketNeeds'. -/
def packetNeedsUptoCard : Claim7 := { stood := { row := packetNeedsUptoRow, standIns := [], harness := (true, "58766a1fd305f2aa3f0f10712566f0803fdd9cbf85ce279850ad4f7df439137b"), looks := false }, kinds := [], alts := [], laidByText := true, laidKinds := [.data, .data, .data], laidTests := true, laidLooks := .later }
def PacketNeedsUptoCardSaid : Prop := Claim7.holds Tryd.pinned (.plain (OpenSpec.upto packetNeedsSpec)) packetNeedsUptoCard

/-- THE SECOND FORM's CARD OF 'distributarylaw10.PacketBack'. -/
def packetBackUptoCard : Claim7 := { stood := { row := packetBackUptoRow, standIns := [], harness := (true, "58766a1fd305f2aa3f0f10712566f0803fdd9cbf85ce279850ad4f7df439137b"), looks := false }, kinds := [], alts := [], laidByText := true, laidKinds := [.data, .data, .data], laidTests := true, laidLooks := .later }
def PacketBackUptoCardSaid : Prop := Claim7.holds Tryd.pinned (.plain (OpenSpec.upto packetBackSpec)) packetBackUptoCard

/-- THE SECOND FORM's CARD OF 'distributarylaw10.PacketOrder'. -/
def packetOrderUptoCard : Claim7 := { stood := { row := packetOrderUptoRow, standIns := [], harness := (true, "58766a1fd305f2aa3f0f10712566f0803fdd9cbf85ce279850ad4f7df439137b"), looks := false }, kinds := [], alts := [], laidByText := true, laidKinds := [.data, .data, .data], laidTests := true, laidLooks := .later }
def PacketOrderUptoCardSaid : Prop := Claim7.holds Tryd.pinned (.plain (OpenSpec.upto packetOrderSpec)) packetOrderUptoCard

/-- THE SECOND FORM's CARD OF 'distributarylaw10.PacketSums'. -/
def packetSumsUptoCard : Claim7 := { stood := { row := packetSumsUptoRow, standIns := [], harness := (true, "58766a1fd305f2aa3f0f10712566f0803fdd9cbf85ce279850ad4f7df439137b"), looks := false }, kinds := [], alts := [], laidByText := true, laidKinds := [.data, .data, .data], laidTests := true, laidLooks := .later }
def PacketSumsUptoCardSaid : Prop := Claim7.holds Tryd.pinned (.plain (OpenSpec.upto packetSumsSpec)) packetSumsUptoCard
end Rows
end Go.Proofs.YtdmgalcfgignpaaDoor
