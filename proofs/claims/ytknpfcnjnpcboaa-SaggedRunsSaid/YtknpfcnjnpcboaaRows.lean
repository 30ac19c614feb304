/-
  No cell of these rows narrows 'for every input' (looked for: loops, veiled, ifaces, maps, wideKeys, modest, calm, conditions, laid).
  DERIVED. THE GIVEN ROWS OF THIS SEAT. 5 by the template 'for every input the law returns true; each argument reads behind the call as it read before'; 0 by the template 'total and deterministic' (their statements: YtknpfcnjnpcboaaTotals.lean).
  GIVEN WITH THE SEED: the statements are not yours to turn. If you find one false, say at which input.
  Laid BY PROGRAM, IN A SANDBOX (cutbox-rows.mjs): the forced cells as the released guide's own fill.sh prints them over the translation 90ed0d8a5cf6d7ec… (all of the seat's roots in one cut). By AI agents, Wed Nov 11 2026. No macro, syntax, notation, axiom, sorry.
-/
import Derived.Test.YtknpfcnjnpcboaaChecked
import GoSem.Claim
import GoSem.ClaimJoined
import GoSem.ClaimMapViews
import Derived.JoinedTies
import Derived.KernelRfl
namespace Go.Proofs.Ytknpfcnjnpcboaa
/- THE CELL 'sum', in the pinned program and in every row, IS THE sha256 OF THE DUMP (.gsa) THAT YtknpfcnjnpcboaaProg.lean LOADS. Nothing in Lean hashes anything: it is a label: what it is worth is what the hold of that sum in a sandbox is worth. -/
noncomputable def Try.pinned : Pinned := { name := "ytknpfcnjnpcboaa", sum := "90ed0d8a5cf6d7ec2d277ca7a38d298f1679c07c05f02839a8c14b908f76aeb0", checked := Try.checked }
namespace Rows
def none {H : Type} : Left H := { results := [], args := [] }

/-- 'distributarylaw06.SaggedRuns': WHATEVER THE INPUT: true; the input reads as it did. -/
def saggedRunsSpec : ChangeSpec := { name := "saggedRuns", fn := fun _ => fun
  | [d1, d2, d3] => { results := [.lit (.bool true)], args := [d1, d2, d3] }
  | _ => none }
def saggedRunsRow : OpenClaim := { program := "ytknpfcnjnpcboaa", sum := "90ed0d8a5cf6d7ec2d277ca7a38d298f1679c07c05f02839a8c14b908f76aeb0", func := "distributary/distributarylaw06.SaggedRuns", spec := "saggedRuns", inPlace := ["math/bits.Add64"], unfollowed := true, recurses := true, named := ["math/bits.divideError", "math/bits.overflowError"], apart := false }
def SaggedRunsSaid : Prop := saggedRunsRow.holds Try.pinned (OpenSpec.ofChange saggedRunsSpec)

/-- ITS FALSE NEIGHBOUR: 'it returns false'. Refute it at one input. -/
def saggedRunsWrong : ChangeSpec := { name := "saggedRuns", fn := fun _ => fun
  | [d1, d2, d3] => { results := [.lit (.bool false)], args := [d1, d2, d3] }
  | _ => none }
def SaggedRunsWrongFalsely : Prop := saggedRunsRow.holds Try.pinned (OpenSpec.ofChange saggedRunsWrong)

/-- 'distributarylaw06.SaggedNone': WHATEVER THE INPUT: true; the input reads as it did. -/
def saggedNoneSpec : ChangeSpec := { name := "saggedNone", fn := fun _ => fun
  | [d] => { results := [.lit (.bool true)], args := [d] }
  | _ => none }
def saggedNoneRow : OpenClaim := { program := "ytknpfcnjnpcboaa", sum := "90ed0d8a5cf6d7ec2d277ca7a38d298f1679c07c05f02839a8c14b908f76aeb0", func := "distributary/distributarylaw06.SaggedNone", spec := "saggedNone", inPlace := ["math/bits.Add64"], unfollowed := true, recurses := true, named := ["math/bits.divideError", "math/bits.overflowError"], apart := false }
def SaggedNoneSaid : Prop := saggedNoneRow.holds Try.pinned (OpenSpec.ofChange saggedNoneSpec)

/-- ITS FALSE NEIGHBOUR: 'it returns false'. Refute it at one input. -/
def saggedNoneWrong : ChangeSpec := { name := "saggedNone", fn := fun _ => fun
  | [d] => { results := [.lit (.bool false)], args := [d] }
  | _ => none }
def SaggedNoneWrongFalsely : Prop := saggedNoneRow.holds Try.pinned (OpenSpec.ofChange saggedNoneWrong)

/-- 'distributarylaw06.SaggedLeast': WHATEVER THE INPUT: true; the input reads as it did. -/
def saggedLeastSpec : ChangeSpec := { name := "saggedLeast", fn := fun _ => fun
  | [d1, d2, d3] => { results := [.lit (.bool true)], args := [d1, d2, d3] }
  | _ => none }
def saggedLeastRow : OpenClaim := { program := "ytknpfcnjnpcboaa", sum := "90ed0d8a5cf6d7ec2d277ca7a38d298f1679c07c05f02839a8c14b908f76aeb0", func := "distributary/distributarylaw06.SaggedLeast", spec := "saggedLeast", inPlace := ["math/bits.Add64"], unfollowed := true, recurses := true, named := ["math/bits.divideError", "math/bits.overflowError"], apart := false }
def SaggedLeastSaid : Prop := saggedLeastRow.holds Try.pinned (OpenSpec.ofChange saggedLeastSpec)

/-- ITS FALSE NEIGHBOUR: 'it returns false'. Refute it at one input. -/
def saggedLeastWrong : ChangeSpec := { name := "saggedLeast", fn := fun _ => fun
  | [d1, d2, d3] => { results := [.lit (.bool false)], args := [d1, d2, d3] }
  | _ => none }
def SaggedLeastWrongFalsely : Prop := saggedLeastRow.holds Try.pinned (OpenSpec.ofChange saggedLeastWrong)

/-- 'distributarylaw06.SaggedAbove': WHATEVER THE INPUT: true; the input reads as it did. -/
def saggedAboveSpec : ChangeSpec := { name := "saggedAbove", fn := fun _ => fun
  | [d1, d2, d3] => { results := [.lit (.bool true)], args := [d1, d2, d3] }
  | _ => none }
def saggedAboveRow : OpenClaim := { program := "ytknpfcnjnpcboaa", sum := "90ed0d8a5cf6d7ec2d277ca7a38d298f1679c07c05f02839a8c14b908f76aeb0", func := "distributary/distributarylaw06.SaggedAbove", spec := "saggedAbove", inPlace := ["math/bits.Add64"], unfollowed := true, recurses := true, named := ["math/bits.divideError", "math/bits.overflowError"], apart := false }
def SaggedAboveSaid : Prop := saggedAboveRow.holds Try.pinned (OpenSpec.ofChange saggedAboveSpec)

/-- ITS FALSE NEIGHBOUR: 'it returns false'. Refute it at one input. -/
def saggedAboveWrong : ChangeSpec := { name := "saggedAbove", fn := fun _ => fun
  | [d1, d2, d3] => { results := [.lit (.bool false)], args := [d1, d2, d3] }
  | _ => none }
def SaggedAboveWrongFalsely : Prop := saggedAboveRow.holds Try.pinned (OpenSpec.ofChange saggedAboveWrong)

/-- 'distributarylaw06.SaggedBack': WHATEVER THE INPUT: true; the input reads as it did. -/
def saggedBackSpec : ChangeSpec := { name := "saggedBack", fn := fun _ => fun
  | [d1, d2, d3] => { results := [.lit (.bool true)], args := [d1, d2, d3] }
  | _ => none }
def saggedBackRow : OpenClaim := { program := "ytknpfcnjnpcboaa", sum := "90ed0d8a5cf6d7ec2d277ca7a38d298f1679c07c05f02839a8c14b908f76aeb0", func := "distributary/distributarylaw06.SaggedBack", spec := "saggedBack", inPlace := ["math/bits.Add64"], unfollowed := true, recurses := true, named := ["math/bits.divideError", "math/bits.overflowError"], apart := false }
def SaggedBackSaid : Prop := saggedBackRow.holds Try.pinned (OpenSpec.ofChange saggedBackSpec)

/-- ITS FALSE NEIGHBOUR: 'it returns false'. Refute it at one input. -/
def saggedBackWrong : ChangeSpec := { name := "saggedBack", fn := fun _ => fun
  | [d1, d2, d3] => { results := [.lit (.bool false)], args := [d1, d2, d3] }
  | _ => none }
def SaggedBackWrongFalsely : Prop := saggedBackRow.holds Try.pinned (OpenSpec.ofChange saggedBackWrong)

/- THE SECOND FORM. 'bulk': how many values and letters a reading holds, each counted each time it is reached (what is shared counts as often as it is met; a slice's spare places count too). A statement '..UptoSaid' is the law's where the arguments, and the package variables that the reading takes, are together of bulk at most 1048576: NARROWER than '..Said'. Prove '..Said' where nothing that the law and all that it calls make is longer than what came in: it says more and counts as full. Else prove '..UptoSaid'. A law counts once. -/
mutual
def uptoBulk {H : Type} : DataW H → Nat
  | .lit (.string bytes) => bytes.length + 1
  | .lit _ => 1
  | .nil => 1
  | .ptr d => uptoBulk d + 1
  | .slice elems spare => uptoBulkAll elems + uptoBulkAll spare + 1
  | .agg parts => uptoBulkAll parts + 1
  | .iface _ d => uptoBulk d + 1
  | .map entries => uptoBulkEntries entries + 1
  | .held _ => 1
def uptoBulkAll {H : Type} : List (DataW H) → Nat
  | [] => 0
  | d :: r => uptoBulk d + uptoBulkAll r
def uptoBulkEntries {H : Type} : List (Lit × DataW H) → Nat
  | [] => 0
  | x :: r => uptoBulkEntry x + uptoBulkEntries r
def uptoBulkEntry {H : Type} : Lit × DataW H → Nat
  | (.string bytes, d) => bytes.length + uptoBulk d + 1
  | (_, d) => uptoBulk d + 1
 end
def uptoSmall : (H : Type) → List (DataW H) → Bool := fun _ ds => decide (uptoBulkAll ds ≤ 1048576)
def OpenSpec.upto (s : _root_.Go.ChangeSpec) : _root_.Go.OpenSpec := { _root_.Go.OpenSpec.ofChange s with cond := some uptoSmall }

/-- 'distributarylaw06.SaggedRuns', WHERE WHAT IT READS IS OF BULK AT MOST 1048576: true; the input reads as it did. -/
def saggedRunsUptoRow : OpenClaim := { program := "ytknpfcnjnpcboaa", sum := "90ed0d8a5cf6d7ec2d277ca7a38d298f1679c07c05f02839a8c14b908f76aeb0", func := "distributary/distributarylaw06.SaggedRuns", spec := "saggedRuns", inPlace := ["math/bits.Add64"], unfollowed := true, recurses := true, named := ["math/bits.divideError", "math/bits.overflowError"], apart := false, narrowed := true }
def SaggedRunsUptoSaid : Prop := saggedRunsUptoRow.holds Try.pinned (OpenSpec.upto saggedRunsSpec)

/-- 'distributarylaw06.SaggedNone', WHERE WHAT IT READS IS OF BULK AT MOST 1048576: true; the input reads as it did. -/
def saggedNoneUptoRow : OpenClaim := { program := "ytknpfcnjnpcboaa", sum := "90ed0d8a5cf6d7ec2d277ca7a38d298f1679c07c05f02839a8c14b908f76aeb0", func := "distributary/distributarylaw06.SaggedNone", spec := "saggedNone", inPlace := ["math/bits.Add64"], unfollowed := true, recurses := true, named := ["math/bits.divideError", "math/bits.overflowError"], apart := false, narrowed := true }
def SaggedNoneUptoSaid : Prop := saggedNoneUptoRow.holds Try.pinned (OpenSpec.upto saggedNoneSpec)

/-- 'distributarylaw06.SaggedLeast', WHERE WHAT IT READS IS OF BULK AT MOST 1048576: true; the input reads as it did. -/
def saggedLeastUptoRow : OpenClaim := { program := "ytknpfcnjnpcboaa", sum := "90ed0d8a5cf6d7ec2d277ca7a38d298f1679c07c05f02839a8c14b908f76aeb0", func := "distributary/distributarylaw06.SaggedLeast", spec := "saggedLeast", inPlace := ["math/bits.Add64"], unfollowed := true, recurses := true, named := ["math/bits.divideError", "math/bits.overflowError"], apart := false, narrowed := true }
def SaggedLeastUptoSaid : Prop := saggedLeastUptoRow.holds Try.pinned (OpenSpec.upto saggedLeastSpec)

/-- 'distributarylaw06.SaggedAbove', WHERE WHAT IT READS IS OF BULK AT MOST 1048576: true; the input reads as it did. -/
def saggedAboveUptoRow : OpenClaim := { program := "ytknpfcnjnpcboaa", sum := "90ed0d8a5cf6d7ec2d277ca7a38d298f1679c07c05f02839a8c14b908f76aeb0", func := "distributary/distributarylaw06.SaggedAbove", spec := "saggedAbove", inPlace := ["math/bits.Add64"], unfollowed := true, recurses := true, named := ["math/bits.divideError", "math/bits.overflowError"], apart := false, narrowed := true }
def SaggedAboveUptoSaid : Prop := saggedAboveUptoRow.holds Try.pinned (OpenSpec.upto saggedAboveSpec)

/-- 'distributarylaw06.SaggedBack', WHERE WHAT IT READS IS OF BULK AT MOST 1048576: true; the input reads as it did. -/
def saggedBackUptoRow : OpenClaim := { program := "ytknpfcnjnpcboaa", sum := "90ed0d8a5cf6d7ec2d277ca7a38d298f1679c07c05f02839a8c14b908f76aeb0", func := "distributary/distributarylaw06.SaggedBack", spec := "saggedBack", inPlace := ["math/bits.Add64"], unfollowed := true, recurses := true, named := ["math/bits.divideError", "math/bits.overflowError"], apart := false, narrowed := true }
def SaggedBackUptoSaid : Prop := saggedBackUptoRow.holds Try.pinned (OpenSpec.upto saggedBackSpec)

end Rows
end Go.Proofs.Ytknpfcnjnpcboaa
