/-
  No cell of these rows narrows 'for every input' (looked for: loops, veiled, ifaces, maps, wideKeys, modest, calm, conditions, laid).
  DERIVED. THE GIVEN ROWS OF THIS SEAT. 5 by the template 'for every input the law returns true; each argument reads behind the call as it read before'; 0 by the template 'total and deterministic' (their statements: YtejolaifdjcghaaTotals.lean).
  GIVEN WITH THE SEED: the statements are not yours to turn. If you find one false, say at which input.
  Laid BY PROGRAM, IN A SANDBOX (cutbox-rows.mjs): the forced cells as the released guide's own fill.sh prints them over the translation 4ba5854db23edfc1… (all of the seat's roots in one cut). By AI agents, Wed Nov 11 2026. No macro, syntax, notation, axiom, sorry.
-/
import Derived.Test.YtejolaifdjcghaaChecked
import GoSem.Claim
import GoSem.ClaimJoined
import GoSem.ClaimMapViews
import Derived.JoinedTies
import Derived.KernelRfl
namespace Go.Proofs.Ytejolaifdjcghaa
/- THE CELL 'sum', in the pinned program and in every row, IS THE sha256 OF THE DUMP (.gsa) THAT YtejolaifdjcghaaProg.lean LOADS. Nothing in Lean hashes anything: it is a label: what it is worth is what the hold of that sum in a sandbox is worth. -/
noncomputable def Try.pinned : Pinned := { name := "ytejolaifdjcghaa", sum := "4ba5854db23edfc14746edf048df5076aba6f78bdddab7eb08f30fb27d9c480e", checked := Try.checked }
namespace Rows
def none {H : Type} : Left H := { results := [], args := [] }

/-- 'distributarylaw07.RunNone': WHATEVER THE INPUT: true; the input reads as it did. -/
def runNoneSpec : ChangeSpec := { name := "runNone", fn := fun _ => fun
  | [d] => { results := [.lit (.bool true)], args := [d] }
  | _ => none }
def runNoneRow : OpenClaim := { program := "ytejolaifdjcghaa", sum := "4ba5854db23edfc14746edf048df5076aba6f78bdddab7eb08f30fb27d9c480e", func := "distributary/distributarylaw07.RunNone", spec := "runNone", unfollowed := true, recurses := true, apart := false }
def RunNoneSaid : Prop := runNoneRow.holds Try.pinned (OpenSpec.ofChange runNoneSpec)

/-- ITS FALSE NEIGHBOUR: 'it returns false'. Refute it at one input. -/
def runNoneWrong : ChangeSpec := { name := "runNone", fn := fun _ => fun
  | [d] => { results := [.lit (.bool false)], args := [d] }
  | _ => none }
def RunNoneWrongFalsely : Prop := runNoneRow.holds Try.pinned (OpenSpec.ofChange runNoneWrong)

/-- 'distributarylaw07.RunKept': WHATEVER THE INPUT: true; the input reads as it did. -/
def runKeptSpec : ChangeSpec := { name := "runKept", fn := fun _ => fun
  | [d1, d2, d3, d4, d5, d6, d7] => { results := [.lit (.bool true)], args := [d1, d2, d3, d4, d5, d6, d7] }
  | _ => none }
def runKeptRow : OpenClaim := { program := "ytejolaifdjcghaa", sum := "4ba5854db23edfc14746edf048df5076aba6f78bdddab7eb08f30fb27d9c480e", func := "distributary/distributarylaw07.RunKept", spec := "runKept", inPlace := ["math/bits.Add64"], unfollowed := true, recurses := true, apart := false }
def RunKeptSaid : Prop := runKeptRow.holds Try.pinned (OpenSpec.ofChange runKeptSpec)

/-- ITS FALSE NEIGHBOUR: 'it returns false'. Refute it at one input. -/
def runKeptWrong : ChangeSpec := { name := "runKept", fn := fun _ => fun
  | [d1, d2, d3, d4, d5, d6, d7] => { results := [.lit (.bool false)], args := [d1, d2, d3, d4, d5, d6, d7] }
  | _ => none }
def RunKeptWrongFalsely : Prop := runKeptRow.holds Try.pinned (OpenSpec.ofChange runKeptWrong)

/-- 'distributarylaw07.RunDue': WHATEVER THE INPUT: true; the input reads as it did. -/
def runDueSpec : ChangeSpec := { name := "runDue", fn := fun _ => fun
  | [d1, d2, d3, d4] => { results := [.lit (.bool true)], args := [d1, d2, d3, d4] }
  | _ => none }
def runDueRow : OpenClaim := { program := "ytejolaifdjcghaa", sum := "4ba5854db23edfc14746edf048df5076aba6f78bdddab7eb08f30fb27d9c480e", func := "distributary/distributarylaw07.RunDue", spec := "runDue", unfollowed := true, recurses := true, apart := false }
def RunDueSaid : Prop := runDueRow.holds Try.pinned (OpenSpec.ofChange runDueSpec)

/-- ITS FALSE NEIGHBOUR: 'it returns false'. Refute it at one input. -/
def runDueWrong : ChangeSpec := { name := "runDue", fn := fun _ => fun
  | [d1, d2, d3, d4] => { results := [.lit (.bool false)], args := [d1, d2, d3, d4] }
  | _ => none }
def RunDueWrongFalsely : Prop := runDueRow.holds Try.pinned (OpenSpec.ofChange runDueWrong)

/-- 'distributarylaw07.RunAnew': WHATEVER THE INPUT: true; the input reads as it did. -/
def runAnewSpec : ChangeSpec := { name := "runAnew", fn := fun _ => fun
  | [d1, d2, d3, d4] => { results := [.lit (.bool true)], args := [d1, d2, d3, d4] }
  | _ => none }
def runAnewRow : OpenClaim := { program := "ytejolaifdjcghaa", sum := "4ba5854db23edfc14746edf048df5076aba6f78bdddab7eb08f30fb27d9c480e", func := "distributary/distributarylaw07.RunAnew", spec := "runAnew", unfollowed := true, recurses := true, apart := false }
def RunAnewSaid : Prop := runAnewRow.holds Try.pinned (OpenSpec.ofChange runAnewSpec)

/-- ITS FALSE NEIGHBOUR: 'it returns false'. Refute it at one input. -/
def runAnewWrong : ChangeSpec := { name := "runAnew", fn := fun _ => fun
  | [d1, d2, d3, d4] => { results := [.lit (.bool false)], args := [d1, d2, d3, d4] }
  | _ => none }
def RunAnewWrongFalsely : Prop := runAnewRow.holds Try.pinned (OpenSpec.ofChange runAnewWrong)

/-- 'distributarylaw07.RunNoGain': WHATEVER THE INPUT: true; the input reads as it did. -/
def runNoGainSpec : ChangeSpec := { name := "runNoGain", fn := fun _ => fun
  | [d1, d2, d3] => { results := [.lit (.bool true)], args := [d1, d2, d3] }
  | _ => none }
def runNoGainRow : OpenClaim := { program := "ytejolaifdjcghaa", sum := "4ba5854db23edfc14746edf048df5076aba6f78bdddab7eb08f30fb27d9c480e", func := "distributary/distributarylaw07.RunNoGain", spec := "runNoGain", inPlace := ["math/bits.Add64"], unfollowed := true, recurses := true, apart := false }
def RunNoGainSaid : Prop := runNoGainRow.holds Try.pinned (OpenSpec.ofChange runNoGainSpec)

/-- ITS FALSE NEIGHBOUR: 'it returns false'. Refute it at one input. -/
def runNoGainWrong : ChangeSpec := { name := "runNoGain", fn := fun _ => fun
  | [d1, d2, d3] => { results := [.lit (.bool false)], args := [d1, d2, d3] }
  | _ => none }
def RunNoGainWrongFalsely : Prop := runNoGainRow.holds Try.pinned (OpenSpec.ofChange runNoGainWrong)

/- THE SECOND FORM. 'bulk': how many values and letters a reading holds, each counted each time it is reached (what is shared counts as often as it is met; a slice's spare places count too). A statement '..UptoSaid' is the law's where the arguments, and the package variables that the reading takes, are together of bulk at most 1048576: NARROWER than '..Said'. Prove '..Said' where nothing that the law and all that it calls make is longer than what came in: it says more and counts as full. Else prove '..UptoSaid'. A law counts once. -/
mutual
def uptoBulk {H : Type} : DataW H → Nat
  | .lit (.string bytes) => bytes.length + 1
  | .lit _ => 1
  | .nil => 1
  | .ptr d => uptoBulk d + 1
  | .slice elems spare => uptoBulkAll elems + uptoBulkAll spare + 1
  | .agg parts => uptoBulkAll parts + 1
  | .iface _ d => uptoBulk d + 1
  | .map entries => uptoBulkEntries entries + 1
  | .held _ => 1
def uptoBulkAll {H : Type} : List (DataW H) → Nat
  | [] => 0
  | d :: r => uptoBulk d + uptoBulkAll r
def uptoBulkEntries {H : Type} : List (Lit × DataW H) → Nat
  | [] => 0
  | x :: r => uptoBulkEntry x + uptoBulkEntries r
def uptoBulkEntry {H : Type} : Lit × DataW H → Nat
  | (.string bytes, d) => bytes.length + uptoBulk d + 1
  | (_, d) => uptoBulk d + 1
 end
def uptoSmall : (H : Type) → List (DataW H) → Bool := fun _ ds => decide (uptoBulkAll ds ≤ 1048576)
def OpenSpec.upto (s : _root_.Go.ChangeSpec) : _root_.Go.OpenSpec := { _root_.Go.OpenSpec.ofChange s with cond := some uptoSmall }

/-- 'distributarylaw07.RunNone', WHERE WHAT IT READS IS OF BULK AT MOST 1048576: true; the input reads as it did. -/
def runNoneUptoRow : OpenClaim := { program := "ytejolaifdjcghaa", sum := "4ba5854db23edfc14746edf048df5076aba6f78bdddab7eb08f30fb27d9c480e", func := "distributary/distributarylaw07.RunNone", spec := "runNone", unfollowed := true, recurses := true, apart := false, narrowed := true }
def RunNoneUptoSaid : Prop := runNoneUptoRow.holds Try.pinned (OpenSpec.upto runNoneSpec)

/-- 'distributarylaw07.RunKept', WHERE WHAT IT READS IS OF BULK AT MOST 1048576: true; the input reads as it did. -/
def runKeptUptoRow : OpenClaim := { program := "ytejolaifdjcghaa", sum := "4ba5854db23edfc14746edf048df5076aba6f78bdddab7eb08f30fb27d9c480e", func := "distributary/distributarylaw07.RunKept", spec := "runKept", inPlace := ["math/bits.Add64"], unfollowed := true, recurses := true, apart := false, narrowed := true }
def RunKeptUptoSaid : Prop := runKeptUptoRow.holds Try.pinned (OpenSpec.upto runKeptSpec)

/-- 'distributarylaw07.RunDue', WHERE WHAT IT READS IS OF BULK AT MOST 1048576: true; the input reads as it did. -/
def runDueUptoRow : OpenClaim := { program := "ytejolaifdjcghaa", sum := "4ba5854db23edfc14746edf048df5076aba6f78bdddab7eb08f30fb27d9c480e", func := "distributary/distributarylaw07.RunDue", spec := "runDue", unfollowed := true, recurses := true, apart := false, narrowed := true }
def RunDueUptoSaid : Prop := runDueUptoRow.holds Try.pinned (OpenSpec.upto runDueSpec)

/-- 'distributarylaw07.RunAnew', WHERE WHAT IT READS IS OF BULK AT MOST 1048576: true; the input reads as it did. -/
def runAnewUptoRow : OpenClaim := { program := "ytejolaifdjcghaa", sum := "4ba5854db23edfc14746edf048df5076aba6f78bdddab7eb08f30fb27d9c480e", func := "distributary/distributarylaw07.RunAnew", spec := "runAnew", unfollowed := true, recurses := true, apart := false, narrowed := true }
def RunAnewUptoSaid : Prop := runAnewUptoRow.holds Try.pinned (OpenSpec.upto runAnewSpec)

/-- 'distributarylaw07.RunNoGain', WHERE WHAT IT READS IS OF BULK AT MOST 1048576: true; the input reads as it did. -/
def runNoGainUptoRow : OpenClaim := { program := "ytejolaifdjcghaa", sum := "4ba5854db23edfc14746edf048df5076aba6f78bdddab7eb08f30fb27d9c480e", func := "distributary/distributarylaw07.RunNoGain", spec := "runNoGain", inPlace := ["math/bits.Add64"], unfollowed := true, recurses := true, apart := false, narrowed := true }
def RunNoGainUptoSaid : Prop := runNoGainUptoRow.holds Try.pinned (OpenSpec.upto runNoGainSpec)

end Rows
end Go.Proofs.Ytejolaifdjcghaa
