/-
  No cell of these rows narrows 'for every input' (looked for: loops, veiled, ifaces, maps, wideKeys, modest, calm, conditions, laid).
  DERIVED. THE GIVEN ROWS OF THIS SEAT. 6 by the template 'for every input the law returns true; each argument reads behind the call as it read before'; 0 by the template 'total and deterministic' (their statements: YtcpienpkpodfmaaTotals.lean).
  GIVEN WITH THE SEED: the statements are not yours to turn. If you find one false, say at which input.
  Laid BY PROGRAM, IN A SANDBOX (cutbox-rows.mjs): the forced cells as the released guide's own fill.sh prints them over the translation e8c13ba027e358e7… (all of the seat's roots in one cut). By AI agents, Wed Nov 11 2026. No macro, syntax, notation, axiom, sorry.
-/
import Derived.Test.YtcpienpkpodfmaaChecked
import GoSem.Claim
import GoSem.ClaimJoined
import GoSem.ClaimMapViews
import Derived.JoinedTies
import Derived.KernelRfl
namespace Go.Proofs.Ytcpienpkpodfmaa
/- THE CELL 'sum', in the pinned program and in every row, IS THE sha256 OF THE DUMP (.gsa) THAT YtcpienpkpodfmaaProg.lean LOADS. Nothing in Lean hashes anything: it is a label: what it is worth is what the hold of that sum in a sandbox is worth. -/
noncomputable def Try.pinned : Pinned := { name := "ytcpienpkpodfmaa", sum := "e8c13ba027e358e7b539adcd0082a6bf53bd2618d28a4c28869371686e341a2d", checked := Try.checked }
namespace Rows
def none {H : Type} : Left H := { results := [], args := [] }

/-- 'distributarylaw09.AugTells': WHATEVER THE INPUT: true; the input reads as it did. -/
def augTellsSpec : ChangeSpec := { name := "augTells", fn := fun _ => fun
  | [d1, d2] => { results := [.lit (.bool true)], args := [d1, d2] }
  | _ => none }
def augTellsRow : OpenClaim := { program := "ytcpienpkpodfmaa", sum := "e8c13ba027e358e7b539adcd0082a6bf53bd2618d28a4c28869371686e341a2d", func := "distributary/distributarylaw09.AugTells", spec := "augTells", inPlace := ["maps.clone"], unfollowed := true, recurses := true, apart := false }
def AugTellsSaid : Prop := augTellsRow.holds Try.pinned (OpenSpec.ofChange augTellsSpec)

/-- ITS FALSE NEIGHBOUR: 'it returns false'. Refute it at one input. -/
def augTellsWrong : ChangeSpec := { name := "augTells", fn := fun _ => fun
  | [d1, d2] => { results := [.lit (.bool false)], args := [d1, d2] }
  | _ => none }
def AugTellsWrongFalsely : Prop := augTellsRow.holds Try.pinned (OpenSpec.ofChange augTellsWrong)

/-- 'distributarylaw09.AugNone': WHATEVER THE INPUT: true; the input reads as it did. -/
def augNoneSpec : ChangeSpec := { name := "augNone", fn := fun _ => fun
  | [d] => { results := [.lit (.bool true)], args := [d] }
  | _ => none }
def augNoneRow : OpenClaim := { program := "ytcpienpkpodfmaa", sum := "e8c13ba027e358e7b539adcd0082a6bf53bd2618d28a4c28869371686e341a2d", func := "distributary/distributarylaw09.AugNone", spec := "augNone", inPlace := ["maps.clone"], unfollowed := true, recurses := true, apart := false }
def AugNoneSaid : Prop := augNoneRow.holds Try.pinned (OpenSpec.ofChange augNoneSpec)

/-- ITS FALSE NEIGHBOUR: 'it returns false'. Refute it at one input. -/
def augNoneWrong : ChangeSpec := { name := "augNone", fn := fun _ => fun
  | [d] => { results := [.lit (.bool false)], args := [d] }
  | _ => none }
def AugNoneWrongFalsely : Prop := augNoneRow.holds Try.pinned (OpenSpec.ofChange augNoneWrong)

/-- 'distributarylaw09.AugLeast': WHATEVER THE INPUT: true; the input reads as it did. -/
def augLeastSpec : ChangeSpec := { name := "augLeast", fn := fun _ => fun
  | [d1, d2, d3] => { results := [.lit (.bool true)], args := [d1, d2, d3] }
  | _ => none }
def augLeastRow : OpenClaim := { program := "ytcpienpkpodfmaa", sum := "e8c13ba027e358e7b539adcd0082a6bf53bd2618d28a4c28869371686e341a2d", func := "distributary/distributarylaw09.AugLeast", spec := "augLeast", unfollowed := true, recurses := true, apart := false }
def AugLeastSaid : Prop := augLeastRow.holds Try.pinned (OpenSpec.ofChange augLeastSpec)

/-- ITS FALSE NEIGHBOUR: 'it returns false'. Refute it at one input. -/
def augLeastWrong : ChangeSpec := { name := "augLeast", fn := fun _ => fun
  | [d1, d2, d3] => { results := [.lit (.bool false)], args := [d1, d2, d3] }
  | _ => none }
def AugLeastWrongFalsely : Prop := augLeastRow.holds Try.pinned (OpenSpec.ofChange augLeastWrong)

/-- 'distributarylaw09.AugOrder': WHATEVER THE INPUT: true; the input reads as it did. -/
def augOrderSpec : ChangeSpec := { name := "augOrder", fn := fun _ => fun
  | [d] => { results := [.lit (.bool true)], args := [d] }
  | _ => none }
def augOrderRow : OpenClaim := { program := "ytcpienpkpodfmaa", sum := "e8c13ba027e358e7b539adcd0082a6bf53bd2618d28a4c28869371686e341a2d", func := "distributary/distributarylaw09.AugOrder", spec := "augOrder", unfollowed := true, recurses := true, apart := false }
def AugOrderSaid : Prop := augOrderRow.holds Try.pinned (OpenSpec.ofChange augOrderSpec)

/-- ITS FALSE NEIGHBOUR: 'it returns false'. Refute it at one input. -/
def augOrderWrong : ChangeSpec := { name := "augOrder", fn := fun _ => fun
  | [d] => { results := [.lit (.bool false)], args := [d] }
  | _ => none }
def AugOrderWrongFalsely : Prop := augOrderRow.holds Try.pinned (OpenSpec.ofChange augOrderWrong)

/-- 'distributarylaw09.AugAnew': WHATEVER THE INPUT: true; the input reads as it did. -/
def augAnewSpec : ChangeSpec := { name := "augAnew", fn := fun _ => fun
  | [d1, d2, d3, d4] => { results := [.lit (.bool true)], args := [d1, d2, d3, d4] }
  | _ => none }
def augAnewRow : OpenClaim := { program := "ytcpienpkpodfmaa", sum := "e8c13ba027e358e7b539adcd0082a6bf53bd2618d28a4c28869371686e341a2d", func := "distributary/distributarylaw09.AugAnew", spec := "augAnew", inPlace := ["maps.clone"], unfollowed := true, recurses := true, apart := false }
def AugAnewSaid : Prop := augAnewRow.holds Try.pinned (OpenSpec.ofChange augAnewSpec)

/-- ITS FALSE NEIGHBOUR: 'it returns false'. Refute it at one input. -/
def augAnewWrong : ChangeSpec := { name := "augAnew", fn := fun _ => fun
  | [d1, d2, d3, d4] => { results := [.lit (.bool false)], args := [d1, d2, d3, d4] }
  | _ => none }
def AugAnewWrongFalsely : Prop := augAnewRow.holds Try.pinned (OpenSpec.ofChange augAnewWrong)

/-- 'distributarylaw09.AugBoth': WHATEVER THE INPUT: true; the input reads as it did. -/
def augBothSpec : ChangeSpec := { name := "augBoth", fn := fun _ => fun
  | [d] => { results := [.lit (.bool true)], args := [d] }
  | _ => none }
def augBothRow : OpenClaim := { program := "ytcpienpkpodfmaa", sum := "e8c13ba027e358e7b539adcd0082a6bf53bd2618d28a4c28869371686e341a2d", func := "distributary/distributarylaw09.AugBoth", spec := "augBoth", unfollowed := true, recurses := true, apart := false }
def AugBothSaid : Prop := augBothRow.holds Try.pinned (OpenSpec.ofChange augBothSpec)

/-- ITS FALSE NEIGHBOUR: 'it returns false'. Refute it at one input. -/
def augBothWrong : ChangeSpec := { name := "augBoth", fn := fun _ => fun
  | [d] => { results := [.lit (.bool false)], args := [d] }
  | _ => none }
def AugBothWrongFalsely : Prop := augBothRow.holds Try.pinned (OpenSpec.ofChange augBothWrong)

/- THE SECOND FORM. 'bulk': how many values and letters a reading holds, each counted each time it is reached (what is shared counts as often as it is met; a slice's spare places count too). A statement '..UptoSaid' is the law's where the arguments, and the package variables that the reading takes, are together of bulk at most 1048576: NARROWER than '..Said'. Prove '..Said' where nothing that the law and all that it calls make is longer than what came in: it says more and counts as full. Else prove '..UptoSaid'. A law counts once. -/
mutual
def uptoBulk {H : Type} : DataW H → Nat
  | .lit (.string bytes) => bytes.length + 1
  | .lit _ => 1
  | .nil => 1
  | .ptr d => uptoBulk d + 1
  | .slice elems spare => uptoBulkAll elems + uptoBulkAll spare + 1
  | .agg parts => uptoBulkAll parts + 1
  | .iface _ d => uptoBulk d + 1
  | .map entries => uptoBulkEntries entries + 1
  | .held _ => 1
def uptoBulkAll {H : Type} : List (DataW H) → Nat
  | [] => 0
  | d :: r => uptoBulk d + uptoBulkAll r
def uptoBulkEntries {H : Type} : List (Lit × DataW H) → Nat
  | [] => 0
  | x :: r => uptoBulkEntry x + uptoBulkEntries r
def uptoBulkEntry {H : Type} : Lit × DataW H → Nat
  | (.string bytes, d) => bytes.length + uptoBulk d + 1
  | (_, d) => uptoBulk d + 1
 end
def uptoSmall : (H : Type) → List (DataW H) → Bool := fun _ ds => decide (uptoBulkAll ds ≤ 1048576)
def OpenSpec.upto (s : _root_.Go.ChangeSpec) : _root_.Go.OpenSpec := { _root_.Go.OpenSpec.ofChange s with cond := some uptoSmall }

/-- 'distributarylaw09.AugTells', WHERE WHAT IT READS IS OF BULK AT MOST 1048576: true; the input reads as it did. -/
def augTellsUptoRow : OpenClaim := { program := "ytcpienpkpodfmaa", sum := "e8c13ba027e358e7b539adcd0082a6bf53bd2618d28a4c28869371686e341a2d", func := "distributary/distributarylaw09.AugTells", spec := "augTells", inPlace := ["maps.clone"], unfollowed := true, recurses := true, apart := false, narrowed := true }
def AugTellsUptoSaid : Prop := augTellsUptoRow.holds Try.pinned (OpenSpec.upto augTellsSpec)

/-- 'distributarylaw09.AugNone', WHERE WHAT IT READS IS OF BULK AT MOST 1048576: true; the input reads as it did. -/
def augNoneUptoRow : OpenClaim := { program := "ytcpienpkpodfmaa", sum := "e8c13ba027e358e7b539adcd0082a6bf53bd2618d28a4c28869371686e341a2d", func := "distributary/distributarylaw09.AugNone", spec := "augNone", inPlace := ["maps.clone"], unfollowed := true, recurses := true, apart := false, narrowed := true }
def AugNoneUptoSaid : Prop := augNoneUptoRow.holds Try.pinned (OpenSpec.upto augNoneSpec)

/-- 'distributarylaw09.AugLeast', WHERE WHAT IT READS IS OF BULK AT MOST 1048576: true; the input reads as it did. -/
def augLeastUptoRow : OpenClaim := { program := "ytcpienpkpodfmaa", sum := "e8c13ba027e358e7b539adcd0082a6bf53bd2618d28a4c28869371686e341a2d", func := "distributary/distributarylaw09.AugLeast", spec := "augLeast", unfollowed := true, recurses := true, apart := false, narrowed := true }
def AugLeastUptoSaid : Prop := augLeastUptoRow.holds Try.pinned (OpenSpec.upto augLeastSpec)

/-- 'distributarylaw09.AugOrder', WHERE WHAT IT READS IS OF BULK AT MOST 1048576: true; the input reads as it did. -/
def augOrderUptoRow : OpenClaim := { program := "ytcpienpkpodfmaa", sum := "e8c13ba027e358e7b539adcd0082a6bf53bd2618d28a4c28869371686e341a2d", func := "distributary/distributarylaw09.AugOrder", spec := "augOrder", unfollowed := true, recurses := true, apart := false, narrowed := true }
def AugOrderUptoSaid : Prop := augOrderUptoRow.holds Try.pinned (OpenSpec.upto augOrderSpec)

/-- 'distributarylaw09.AugAnew', WHERE WHAT IT READS IS OF BULK AT MOST 1048576: true; the input reads as it did. -/
def augAnewUptoRow : OpenClaim := { program := "ytcpienpkpodfmaa", sum := "e8c13ba027e358e7b539adcd0082a6bf53bd2618d28a4c28869371686e341a2d", func := "distributary/distributarylaw09.AugAnew", spec := "augAnew", inPlace := ["maps.clone"], unfollowed := true, recurses := true, apart := false, narrowed := true }
def AugAnewUptoSaid : Prop := augAnewUptoRow.holds Try.pinned (OpenSpec.upto augAnewSpec)

/-- 'distributarylaw09.AugBoth', WHERE WHAT IT READS IS OF BULK AT MOST 1048576: true; the input reads as it did. -/
def augBothUptoRow : OpenClaim := { program := "ytcpienpkpodfmaa", sum := "e8c13ba027e358e7b539adcd0082a6bf53bd2618d28a4c28869371686e341a2d", func := "distributary/distributarylaw09.AugBoth", spec := "augBoth", unfollowed := true, recurses := true, apart := false, narrowed := true }
def AugBothUptoSaid : Prop := augBothUptoRow.holds Try.pinned (OpenSpec.upto augBothSpec)

end Rows
end Go.Proofs.Ytcpienpkpodfmaa
