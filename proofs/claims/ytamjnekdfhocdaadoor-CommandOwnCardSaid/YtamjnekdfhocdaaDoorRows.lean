/-
  NARROWER THAN 'FOR EVERY INPUT', by the rows' own cells (each row's printed sentence says how): CommandTells: laid · CommandReads: laid · CommandBack: laid · CommandOne: laid · CommandApart: laid · CommandOwn: laid.
  DERIVED. THE GIVEN ROWS OF THIS SEAT. 6 by the template 'for every input the law returns true; each argument reads behind the call as it read before'; 0 by the template 'total and deterministic' (their statements: YtamjnekdfhocdaaDoorTotals.lean).
  GIVEN WITH THE SEED: the statements are not yours to turn. If you find one false, say at which input.
  Laid BY PROGRAM, IN A SANDBOX (cutbox-rows.mjs): the forced cells as the released guide's own fill.sh prints them over the translation 36661aa49b4a1be1… (all of the seat's roots in one cut). By AI agents, Wed Nov 11 2026. No macro, syntax, notation, axiom, sorry.
-/
import Derived.Test.YtamjnekdfhocdaaDoorChecked
import GoSem.Claim
import GoSem.ClaimJoined
import GoSem.ClaimMapViews
import Derived.JoinedTies
import Derived.KernelRfl
namespace Go.Proofs.YtamjnekdfhocdaaDoor
/- THE CELL 'sum', in the pinned program and in every row, IS THE sha256 OF THE DUMP (.gsa) THAT YtamjnekdfhocdaaDoorProg.lean LOADS. Nothing in Lean hashes anything: it is a label: what it is worth is what the hold of that sum in a sandbox is worth. -/
noncomputable def Tryd.pinned : Pinned := { name := "ytamjnekdfhocdaadoor", sum := "36661aa49b4a1be1feef86e62ccdd48428796fc677a98158240d8908cc601ac1", checked := Tryd.checked }
namespace Rows
def none {H : Type} : Left H := { results := [], args := [] }

/- WHAT THE LISTED PACKAGE-LEVEL VARIABLES READ AS WHEN THE CALL BEGINS. Each datum BY PROGRAM (the guide's laid-datum.mjs) off the statement by which the dump's own 'gosem.cut.vars' lays the variable. In a bare row this is a premise. The card (YtamjnekdfhocdaaDoorCards.lean) ties it to the program's text. -/
def laid_distributary_command_names {H : Type} : DataW H := .agg [.lit (.string [99, 111, 110, 102, 105, 103]), .lit (.string [97, 100, 100]), .lit (.string [99, 104, 97, 110, 103, 101]), .lit (.string [100, 101, 108, 101, 116, 101]), .lit (.string [97, 114, 114, 105, 118, 101]), .lit (.string [97, 100, 118, 97, 110, 99, 101]), .lit (.string [97, 115, 107])]

/-- 'distributarylaw15.CommandTells': WHATEVER THE INPUT: true; the input reads as it did. -/
def commandTellsSpec : ChangeSpec := { name := "commandTells", fn := fun _ => fun
  | [d1, d2, d3] => { results := [.lit (.bool true)], args := [d1, d2, d3] }
  | _ => none }
def commandTellsRow : OpenClaim := { program := "ytamjnekdfhocdaadoor", sum := "36661aa49b4a1be1feef86e62ccdd48428796fc677a98158240d8908cc601ac1", func := "distributary/distributarylaw15.CommandTells", spec := "commandTells", recurses := true, named := ["distributary/command.names"], apart := false, laid := [("distributary/command.names", laid_distributary_command_names)] }
def CommandTellsSaid : Prop := commandTellsRow.holds Tryd.pinned (OpenSpec.ofChange commandTellsSpec)

/-- ITS FALSE NEIGHBOUR: 'it returns false'. Refute it at one input. -/
def commandTellsWrong : ChangeSpec := { name := "commandTells", fn := fun _ => fun
  | [d1, d2, d3] => { results := [.lit (.bool false)], args := [d1, d2, d3] }
  | _ => none }
def CommandTellsWrongFalsely : Prop := commandTellsRow.holds Tryd.pinned (OpenSpec.ofChange commandTellsWrong)

/-- 'distributarylaw15.CommandReads': WHATEVER THE INPUT: true; the input reads as it did. -/
def commandReadsSpec : ChangeSpec := { name := "commandReads", fn := fun _ => fun
  | [d] => { results := [.lit (.bool true)], args := [d] }
  | _ => none }
def commandReadsRow : OpenClaim := { program := "ytamjnekdfhocdaadoor", sum := "36661aa49b4a1be1feef86e62ccdd48428796fc677a98158240d8908cc601ac1", func := "distributary/distributarylaw15.CommandReads", spec := "commandReads", recurses := true, named := ["distributary/command.names"], apart := false, laid := [("distributary/command.names", laid_distributary_command_names)] }
def CommandReadsSaid : Prop := commandReadsRow.holds Tryd.pinned (OpenSpec.ofChange commandReadsSpec)

/-- ITS FALSE NEIGHBOUR: 'it returns false'. Refute it at one input. -/
def commandReadsWrong : ChangeSpec := { name := "commandReads", fn := fun _ => fun
  | [d] => { results := [.lit (.bool false)], args := [d] }
  | _ => none }
def CommandReadsWrongFalsely : Prop := commandReadsRow.holds Tryd.pinned (OpenSpec.ofChange commandReadsWrong)

/-- 'distributarylaw15.CommandBack': WHATEVER THE INPUT: true; the input reads as it did. -/
def commandBackSpec : ChangeSpec := { name := "commandBack", fn := fun _ => fun
  | [d1, d2] => { results := [.lit (.bool true)], args := [d1, d2] }
  | _ => none }
def commandBackRow : OpenClaim := { program := "ytamjnekdfhocdaadoor", sum := "36661aa49b4a1be1feef86e62ccdd48428796fc677a98158240d8908cc601ac1", func := "distributary/distributarylaw15.CommandBack", spec := "commandBack", recurses := true, named := ["distributary/command.names"], apart := false, laid := [("distributary/command.names", laid_distributary_command_names)] }
def CommandBackSaid : Prop := commandBackRow.holds Tryd.pinned (OpenSpec.ofChange commandBackSpec)

/-- ITS FALSE NEIGHBOUR: 'it returns false'. Refute it at one input. -/
def commandBackWrong : ChangeSpec := { name := "commandBack", fn := fun _ => fun
  | [d1, d2] => { results := [.lit (.bool false)], args := [d1, d2] }
  | _ => none }
def CommandBackWrongFalsely : Prop := commandBackRow.holds Tryd.pinned (OpenSpec.ofChange commandBackWrong)

/-- 'distributarylaw15.CommandOne': WHATEVER THE INPUT: true; the input reads as it did. -/
def commandOneSpec : ChangeSpec := { name := "commandOne", fn := fun _ => fun
  | [d1, d2, d3] => { results := [.lit (.bool true)], args := [d1, d2, d3] }
  | _ => none }
def commandOneRow : OpenClaim := { program := "ytamjnekdfhocdaadoor", sum := "36661aa49b4a1be1feef86e62ccdd48428796fc677a98158240d8908cc601ac1", func := "distributary/distributarylaw15.CommandOne", spec := "commandOne", recurses := true, named := ["distributary/command.names"], apart := false, laid := [("distributary/command.names", laid_distributary_command_names)] }
def CommandOneSaid : Prop := commandOneRow.holds Tryd.pinned (OpenSpec.ofChange commandOneSpec)

/-- ITS FALSE NEIGHBOUR: 'it returns false'. Refute it at one input. -/
def commandOneWrong : ChangeSpec := { name := "commandOne", fn := fun _ => fun
  | [d1, d2, d3] => { results := [.lit (.bool false)], args := [d1, d2, d3] }
  | _ => none }
def CommandOneWrongFalsely : Prop := commandOneRow.holds Tryd.pinned (OpenSpec.ofChange commandOneWrong)

/-- 'distributarylaw15.CommandApart': WHATEVER THE INPUT: true; the input reads as it did. -/
def commandApartSpec : ChangeSpec := { name := "commandApart", fn := fun _ => fun
  | [d1, d2, d3, d4] => { results := [.lit (.bool true)], args := [d1, d2, d3, d4] }
  | _ => none }
def commandApartRow : OpenClaim := { program := "ytamjnekdfhocdaadoor", sum := "36661aa49b4a1be1feef86e62ccdd48428796fc677a98158240d8908cc601ac1", func := "distributary/distributarylaw15.CommandApart", spec := "commandApart", recurses := true, named := ["distributary/command.names"], apart := false, laid := [("distributary/command.names", laid_distributary_command_names)] }
def CommandApartSaid : Prop := commandApartRow.holds Tryd.pinned (OpenSpec.ofChange commandApartSpec)

/-- ITS FALSE NEIGHBOUR: 'it returns false'. Refute it at one input. -/
def commandApartWrong : ChangeSpec := { name := "commandApart", fn := fun _ => fun
  | [d1, d2, d3, d4] => { results := [.lit (.bool false)], args := [d1, d2, d3, d4] }
  | _ => none }
def CommandApartWrongFalsely : Prop := commandApartRow.holds Tryd.pinned (OpenSpec.ofChange commandApartWrong)

/-- 'distributarylaw15.CommandOwn': WHATEVER THE INPUT: true; the input reads as it did. -/
def commandOwnSpec : ChangeSpec := { name := "commandOwn", fn := fun _ => fun
  | [d] => { results := [.lit (.bool true)], args := [d] }
  | _ => none }
def commandOwnRow : OpenClaim := { program := "ytamjnekdfhocdaadoor", sum := "36661aa49b4a1be1feef86e62ccdd48428796fc677a98158240d8908cc601ac1", func := "distributary/distributarylaw15.CommandOwn", spec := "commandOwn", recurses := true, named := ["distributary/command.names"], apart := false, laid := [("distributary/command.names", laid_distributary_command_names)] }
def CommandOwnSaid : Prop := commandOwnRow.holds Tryd.pinned (OpenSpec.ofChange commandOwnSpec)

/-- ITS FALSE NEIGHBOUR: 'it returns false'. Refute it at one input. -/
def commandOwnWrong : ChangeSpec := { name := "commandOwn", fn := fun _ => fun
  | [d] => { results := [.lit (.bool false)], args := [d] }
  | _ => none }
def CommandOwnWrongFalsely : Prop := commandOwnRow.holds Tryd.pinned (OpenSpec.ofChange commandOwnWrong)

/- THE SECOND FORM. 'bulk': how many values and letters a reading holds, each counted each time it is reached (what is shared counts as often as it is met; a slice's spare places count too). A statement '..UptoSaid' is the law's where the arguments, and the package variables that the reading takes, are together of bulk at most 1048576: NARROWER than '..Said'. Prove '..Said' where nothing that the law and all that it calls make is longer than what came in: it says more and counts as full. Else prove '..UptoSaid'. A law counts once. -/
mutual
def uptoBulk {H : Type} : DataW H → Nat
  | .lit (.string bytes) => bytes.length + 1
  | .lit _ => 1
  | .nil => 1
  | .ptr d => uptoBulk d + 1
  | .slice elems spare => uptoBulkAll elems + uptoBulkAll spare + 1
  | .agg parts => uptoBulkAll parts + 1
  | .iface _ d => uptoBulk d + 1
  | .map entries => uptoBulkEntries entries + 1
  | .held _ => 1
def uptoBulkAll {H : Type} : List (DataW H) → Nat
  | [] => 0
  | d :: r => uptoBulk d + uptoBulkAll r
def uptoBulkEntries {H : Type} : List (Lit × DataW H) → Nat
  | [] => 0
  | x :: r => uptoBulkEntry x + uptoBulkEntries r
def uptoBulkEntry {H : Type} : Lit × DataW H → Nat
  | (.string bytes, d) => bytes.length + uptoBulk d + 1
  | (_, d) => uptoBulk d + 1
 end
def uptoSmall : (H : Type) → List (DataW H) → Bool := fun _ ds => decide (uptoBulkAll ds ≤ 1048576)
def OpenSpec.upto (s : _root_.Go.ChangeSpec) : _root_.Go.OpenSpec := { _root_.Go.OpenSpec.ofChange s with cond := some uptoSmall }

/-- 'distributarylaw15.CommandTells', WHERE WHAT IT READS IS OF BULK AT MOST 1048576: true; the input reads as it did. -/
def commandTellsUptoRow : OpenClaim := { program := "ytamjnekdfhocdaadoor", sum := "36661aa49b4a1be1feef86e62ccdd48428796fc677a98158240d8908cc601ac1", func := "distributary/distributarylaw15.CommandTells", spec := "commandTells", recurses := true, named := ["distributary/command.names"], apart := false, laid := [("distributary/command.names", laid_distributary_command_names)], narrowed := true }
def CommandTellsUptoSaid : Prop := commandTellsUptoRow.holds Tryd.pinned (OpenSpec.upto commandTellsSpec)

/-- 'distributarylaw15.CommandReads', WHERE WHAT IT READS IS OF BULK AT MOST 1048576: true; the input reads as it did. -/
def commandReadsUptoRow : OpenClaim := { program := "ytamjnekdfhocdaadoor", sum := "36661aa49b4a1be1feef86e62ccdd48428796fc677a98158240d8908cc601ac1", func := "distributary/distributarylaw15.CommandReads", spec := "commandReads", recurses := true, named := ["distributary/command.names"], apart := false, laid := [("distributary/command.names", laid_distributary_command_names)], narrowed := true }
def CommandReadsUptoSaid : Prop := commandReadsUptoRow.holds Tryd.pinned (OpenSpec.upto commandReadsSpec)

/-- 'distributarylaw15.CommandBack', WHERE WHAT IT READS IS OF BULK AT MOST 1048576: true; the input reads as it did. -/
def commandBackUptoRow : OpenClaim := { program := "ytamjnekdfhocdaadoor", sum := "36661aa49b4a1be1feef86e62ccdd48428796fc677a98158240d8908cc601ac1", func := "distributary/distributarylaw15.CommandBack", spec := "commandBack", recurses := true, named := ["distributary/command.names"], apart := false, laid := [("distributary/command.names", laid_distributary_command_names)], narrowed := true }
def CommandBackUptoSaid : Prop := commandBackUptoRow.holds Tryd.pinned (OpenSpec.upto commandBackSpec)

/-- 'distributarylaw15.CommandOne', WHERE WHAT IT READS IS OF BULK AT MOST 1048576: true; the input reads as it did. -/
def commandOneUptoRow : OpenClaim := { program := "ytamjnekdfhocdaadoor", sum := "36661aa49b4a1be1feef86e62ccdd48428796fc677a98158240d8908cc601ac1", func := "distributary/distributarylaw15.CommandOne", spec := "commandOne", recurses := true, named := ["distributary/command.names"], apart := false, laid := [("distributary/command.names", laid_distributary_command_names)], narrowed := true }
def CommandOneUptoSaid : Prop := commandOneUptoRow.holds Tryd.pinned (OpenSpec.upto commandOneSpec)

/-- 'distributarylaw15.CommandApart', WHERE WHAT IT READS IS OF BULK AT MOST 1048576: true; the input reads as it did. -/
def commandApartUptoRow : OpenClaim := { program := "ytamjnekdfhocdaadoor", sum := "36661aa49b4a1be1feef86e62ccdd48428796fc677a98158240d8908cc601ac1", func := "distributary/distributarylaw15.CommandApart", spec := "commandApart", recurses := true, named := ["distributary/command.names"], apart := false, laid := [("distributary/command.names", laid_distributary_command_names)], narrowed := true }
def CommandApartUptoSaid : Prop := commandApartUptoRow.holds Tryd.pinned (OpenSpec.upto commandApartSpec)

/-- 'distributarylaw15.CommandOwn', WHERE WHAT IT READS IS OF BULK AT MOST 1048576: true; the input reads as it did. -/
def commandOwnUptoRow : OpenClaim := { program := "ytamjnekdfhocdaadoor", sum := "36661aa49b4a1be1feef86e62ccdd48428796fc677a98158240d8908cc601ac1", func := "distributary/distributarylaw15.CommandOwn", spec := "commandOwn", recurses := true, named := ["distributary/command.names"], apart := false, laid := [("distributary/command.names", laid_distributary_command_names)], narrowed := true }
def CommandOwnUptoSaid : Prop := commandOwnUptoRow.holds Tryd.pinned (OpenSpec.upto commandOwnSpec)

end Rows
end Go.Proofs.YtamjnekdfhocdaaDoor
