/-
  No cell of these rows narrows 'for every input' (looked for: loops, veiled, ifaces, maps, wideKeys, modest, calm, conditions, laid).
  DERIVED. THE GIVEN ROWS OF THIS SEAT. 7 by the template 'for every input the law returns true; each argument reads behind the call as it read before'; 0 by the template 'total and deterministic' (their statements: YtbgccdjkofpiaaaTotals.lean).
  GIVEN WITH THE SEED: the statements are not yours to turn. If you find one false, say at which input.
  Laid BY PROGRAM, IN A SANDBOX (cutbox-rows.mjs): the forced cells as the released guide's own fill.sh prints them over the translation 94b3c6dd3fa725b1… (all of the seat's roots in one cut). By AI agents, Wed Nov 11 2026. No macro, syntax, notation, axiom, sorry.
-/
import Derived.Test.YtbgccdjkofpiaaaChecked
import GoSem.Claim
import GoSem.ClaimJoined
import GoSem.ClaimMapViews
import Derived.JoinedTies
import Derived.KernelRfl
namespace Go.Proofs.Ytbgccdjkofpiaaa
/- THE CELL 'sum', in the pinned program and in every row, IS THE sha256 OF THE DUMP (.gsa) THAT YtbgccdjkofpiaaaProg.lean LOADS. Nothing in Lean hashes anything: it is a label: what it is worth is what the hold of that sum in a sandbox is worth. -/
noncomputable def Try.pinned : Pinned := { name := "ytbgccdjkofpiaaa", sum := "94b3c6dd3fa725b111fed6719e5f1a5ab3d03d9f5cee2bf7516b10f1592373d7", checked := Try.checked }
namespace Rows
def none {H : Type} : Left H := { results := [], args := [] }

/-- 'distributarylaw03.CurveTells': WHATEVER THE INPUT: true; the input reads as it did. -/
def curveTellsSpec : ChangeSpec := { name := "curveTells", fn := fun _ => fun
  | [d1, d2, d3] => { results := [.lit (.bool true)], args := [d1, d2, d3] }
  | _ => none }
def curveTellsRow : OpenClaim := { program := "ytbgccdjkofpiaaa", sum := "94b3c6dd3fa725b111fed6719e5f1a5ab3d03d9f5cee2bf7516b10f1592373d7", func := "distributary/distributarylaw03.CurveTells", spec := "curveTells", inPlace := ["math/bits.Add64"], unfollowed := true, recurses := true, named := ["math/bits.divideError", "math/bits.overflowError"], apart := false }
def CurveTellsSaid : Prop := curveTellsRow.holds Try.pinned (OpenSpec.ofChange curveTellsSpec)

/-- ITS FALSE NEIGHBOUR: 'it returns false'. Refute it at one input. -/
def curveTellsWrong : ChangeSpec := { name := "curveTells", fn := fun _ => fun
  | [d1, d2, d3] => { results := [.lit (.bool false)], args := [d1, d2, d3] }
  | _ => none }
def CurveTellsWrongFalsely : Prop := curveTellsRow.holds Try.pinned (OpenSpec.ofChange curveTellsWrong)

/-- 'distributarylaw03.CurveHas': WHATEVER THE INPUT: true; the input reads as it did. -/
def curveHasSpec : ChangeSpec := { name := "curveHas", fn := fun _ => fun
  | [d1, d2, d3] => { results := [.lit (.bool true)], args := [d1, d2, d3] }
  | _ => none }
def curveHasRow : OpenClaim := { program := "ytbgccdjkofpiaaa", sum := "94b3c6dd3fa725b111fed6719e5f1a5ab3d03d9f5cee2bf7516b10f1592373d7", func := "distributary/distributarylaw03.CurveHas", spec := "curveHas", inPlace := ["math/bits.Add64"], unfollowed := true, recurses := true, named := ["math/bits.divideError", "math/bits.overflowError"], apart := false }
def CurveHasSaid : Prop := curveHasRow.holds Try.pinned (OpenSpec.ofChange curveHasSpec)

/-- ITS FALSE NEIGHBOUR: 'it returns false'. Refute it at one input. -/
def curveHasWrong : ChangeSpec := { name := "curveHas", fn := fun _ => fun
  | [d1, d2, d3] => { results := [.lit (.bool false)], args := [d1, d2, d3] }
  | _ => none }
def CurveHasWrongFalsely : Prop := curveHasRow.holds Try.pinned (OpenSpec.ofChange curveHasWrong)

/-- 'distributarylaw03.CurveBack': WHATEVER THE INPUT: true; the input reads as it did. -/
def curveBackSpec : ChangeSpec := { name := "curveBack", fn := fun _ => fun
  | [d1, d2, d3] => { results := [.lit (.bool true)], args := [d1, d2, d3] }
  | _ => none }
def curveBackRow : OpenClaim := { program := "ytbgccdjkofpiaaa", sum := "94b3c6dd3fa725b111fed6719e5f1a5ab3d03d9f5cee2bf7516b10f1592373d7", func := "distributary/distributarylaw03.CurveBack", spec := "curveBack", inPlace := ["math/bits.Add64"], unfollowed := true, recurses := true, named := ["math/bits.divideError", "math/bits.overflowError"], apart := false }
def CurveBackSaid : Prop := curveBackRow.holds Try.pinned (OpenSpec.ofChange curveBackSpec)

/-- ITS FALSE NEIGHBOUR: 'it returns false'. Refute it at one input. -/
def curveBackWrong : ChangeSpec := { name := "curveBack", fn := fun _ => fun
  | [d1, d2, d3] => { results := [.lit (.bool false)], args := [d1, d2, d3] }
  | _ => none }
def CurveBackWrongFalsely : Prop := curveBackRow.holds Try.pinned (OpenSpec.ofChange curveBackWrong)

/-- 'distributarylaw03.CurveGrows': WHATEVER THE INPUT: true; the input reads as it did. -/
def curveGrowsSpec : ChangeSpec := { name := "curveGrows", fn := fun _ => fun
  | [d1, d2, d3] => { results := [.lit (.bool true)], args := [d1, d2, d3] }
  | _ => none }
def curveGrowsRow : OpenClaim := { program := "ytbgccdjkofpiaaa", sum := "94b3c6dd3fa725b111fed6719e5f1a5ab3d03d9f5cee2bf7516b10f1592373d7", func := "distributary/distributarylaw03.CurveGrows", spec := "curveGrows", inPlace := ["math/bits.Add64"], unfollowed := true, recurses := true, named := ["math/bits.divideError", "math/bits.overflowError"], apart := false }
def CurveGrowsSaid : Prop := curveGrowsRow.holds Try.pinned (OpenSpec.ofChange curveGrowsSpec)

/-- ITS FALSE NEIGHBOUR: 'it returns false'. Refute it at one input. -/
def curveGrowsWrong : ChangeSpec := { name := "curveGrows", fn := fun _ => fun
  | [d1, d2, d3] => { results := [.lit (.bool false)], args := [d1, d2, d3] }
  | _ => none }
def CurveGrowsWrongFalsely : Prop := curveGrowsRow.holds Try.pinned (OpenSpec.ofChange curveGrowsWrong)

/-- 'distributarylaw03.CurveShape': WHATEVER THE INPUT: true; the input reads as it did. -/
def curveShapeSpec : ChangeSpec := { name := "curveShape", fn := fun _ => fun
  | [d1, d2, d3] => { results := [.lit (.bool true)], args := [d1, d2, d3] }
  | _ => none }
def curveShapeRow : OpenClaim := { program := "ytbgccdjkofpiaaa", sum := "94b3c6dd3fa725b111fed6719e5f1a5ab3d03d9f5cee2bf7516b10f1592373d7", func := "distributary/distributarylaw03.CurveShape", spec := "curveShape", inPlace := ["math/bits.Add64"], unfollowed := true, recurses := true, named := ["math/bits.divideError", "math/bits.overflowError"], apart := false }
def CurveShapeSaid : Prop := curveShapeRow.holds Try.pinned (OpenSpec.ofChange curveShapeSpec)

/-- ITS FALSE NEIGHBOUR: 'it returns false'. Refute it at one input. -/
def curveShapeWrong : ChangeSpec := { name := "curveShape", fn := fun _ => fun
  | [d1, d2, d3] => { results := [.lit (.bool false)], args := [d1, d2, d3] }
  | _ => none }
def CurveShapeWrongFalsely : Prop := curveShapeRow.holds Try.pinned (OpenSpec.ofChange curveShapeWrong)

/-- 'distributarylaw03.CurveOne': WHATEVER THE INPUT: true; the input reads as it did. -/
def curveOneSpec : ChangeSpec := { name := "curveOne", fn := fun _ => fun
  | [d1, d2] => { results := [.lit (.bool true)], args := [d1, d2] }
  | _ => none }
def curveOneRow : OpenClaim := { program := "ytbgccdjkofpiaaa", sum := "94b3c6dd3fa725b111fed6719e5f1a5ab3d03d9f5cee2bf7516b10f1592373d7", func := "distributary/distributarylaw03.CurveOne", spec := "curveOne", inPlace := ["math/bits.Add64"], unfollowed := true, recurses := true, named := ["math/bits.divideError", "math/bits.overflowError"], apart := false }
def CurveOneSaid : Prop := curveOneRow.holds Try.pinned (OpenSpec.ofChange curveOneSpec)

/-- ITS FALSE NEIGHBOUR: 'it returns false'. Refute it at one input. -/
def curveOneWrong : ChangeSpec := { name := "curveOne", fn := fun _ => fun
  | [d1, d2] => { results := [.lit (.bool false)], args := [d1, d2] }
  | _ => none }
def CurveOneWrongFalsely : Prop := curveOneRow.holds Try.pinned (OpenSpec.ofChange curveOneWrong)

/-- 'distributarylaw03.CurveParts': WHATEVER THE INPUT: true; the input reads as it did. -/
def curvePartsSpec : ChangeSpec := { name := "curveParts", fn := fun _ => fun
  | [d1, d2, d3, d4] => { results := [.lit (.bool true)], args := [d1, d2, d3, d4] }
  | _ => none }
def curvePartsRow : OpenClaim := { program := "ytbgccdjkofpiaaa", sum := "94b3c6dd3fa725b111fed6719e5f1a5ab3d03d9f5cee2bf7516b10f1592373d7", func := "distributary/distributarylaw03.CurveParts", spec := "curveParts", inPlace := ["math/bits.Add64"], unfollowed := true, recurses := true, named := ["math/bits.divideError", "math/bits.overflowError"], apart := false }
def CurvePartsSaid : Prop := curvePartsRow.holds Try.pinned (OpenSpec.ofChange curvePartsSpec)

/-- ITS FALSE NEIGHBOUR: 'it returns false'. Refute it at one input. -/
def curvePartsWrong : ChangeSpec := { name := "curveParts", fn := fun _ => fun
  | [d1, d2, d3, d4] => { results := [.lit (.bool false)], args := [d1, d2, d3, d4] }
  | _ => none }
def CurvePartsWrongFalsely : Prop := curvePartsRow.holds Try.pinned (OpenSpec.ofChange curvePartsWrong)

/- THE SECOND FORM. 'bulk': how many values and letters a reading holds, each counted each time it is reached (what is shared counts as often as it is met; a slice's spare places count too). A statement '..UptoSaid' is the law's where the arguments, and the package variables that the reading takes, are together of bulk at most 1048576: NARROWER than '..Said'. Prove '..Said' where nothing that the law and all that it calls make is longer than what came in: it says more and counts as full. Else prove '..UptoSaid'. A law counts once. -/
mutual
def uptoBulk {H : Type} : DataW H → Nat
  | .lit (.string bytes) => bytes.length + 1
  | .lit _ => 1
  | .nil => 1
  | .ptr d => uptoBulk d + 1
  | .slice elems spare => uptoBulkAll elems + uptoBulkAll spare + 1
  | .agg parts => uptoBulkAll parts + 1
  | .iface _ d => uptoBulk d + 1
  | .map entries => uptoBulkEntries entries + 1
  | .held _ => 1
def uptoBulkAll {H : Type} : List (DataW H) → Nat
  | [] => 0
  | d :: r => uptoBulk d + uptoBulkAll r
def uptoBulkEntries {H : Type} : List (Lit × DataW H) → Nat
  | [] => 0
  | x :: r => uptoBulkEntry x + uptoBulkEntries r
def uptoBulkEntry {H : Type} : Lit × DataW H → Nat
  | (.string bytes, d) => bytes.length + uptoBulk d + 1
  | (_, d) => uptoBulk d + 1
 end
def uptoSmall : (H : Type) → List (DataW H) → Bool := fun _ ds => decide (uptoBulkAll ds ≤ 1048576)
def OpenSpec.upto (s : _root_.Go.ChangeSpec) : _root_.Go.OpenSpec := { _root_.Go.OpenSpec.ofChange s with cond := some uptoSmall }

/-- 'distributarylaw03.CurveTells', WHERE WHAT IT READS IS OF BULK AT MOST 1048576: true; the input reads as it did. -/
def curveTellsUptoRow : OpenClaim := { program := "ytbgccdjkofpiaaa", sum := "94b3c6dd3fa725b111fed6719e5f1a5ab3d03d9f5cee2bf7516b10f1592373d7", func := "distributary/distributarylaw03.CurveTells", spec := "curveTells", inPlace := ["math/bits.Add64"], unfollowed := true, recurses := true, named := ["math/bits.divideError", "math/bits.overflowError"], apart := false, narrowed := true }
def CurveTellsUptoSaid : Prop := curveTellsUptoRow.holds Try.pinned (OpenSpec.upto curveTellsSpec)

/-- 'distributarylaw03.CurveHas', WHERE WHAT IT READS IS OF BULK AT MOST 1048576: true; the input reads as it did. -/
def curveHasUptoRow : OpenClaim := { program := "ytbgccdjkofpiaaa", sum := "94b3c6dd3fa725b111fed6719e5f1a5ab3d03d9f5cee2bf7516b10f1592373d7", func := "distributary/distributarylaw03.CurveHas", spec := "curveHas", inPlace := ["math/bits.Add64"], unfollowed := true, recurses := true, named := ["math/bits.divideError", "math/bits.overflowError"], apart := false, narrowed := true }
def CurveHasUptoSaid : Prop := curveHasUptoRow.holds Try.pinned (OpenSpec.upto curveHasSpec)

/-- 'distributarylaw03.CurveBack', WHERE WHAT IT READS IS OF BULK AT MOST 1048576: true; the input reads as it did. -/
def curveBackUptoRow : OpenClaim := { program := "ytbgccdjkofpiaaa", sum := "94b3c6dd3fa725b111fed6719e5f1a5ab3d03d9f5cee2bf7516b10f1592373d7", func := "distributary/distributarylaw03.CurveBack", spec := "curveBack", inPlace := ["math/bits.Add64"], unfollowed := true, recurses := true, named := ["math/bits.divideError", "math/bits.overflowError"], apart := false, narrowed := true }
def CurveBackUptoSaid : Prop := curveBackUptoRow.holds Try.pinned (OpenSpec.upto curveBackSpec)

/-- 'distributarylaw03.CurveGrows', WHERE WHAT IT READS IS OF BULK AT MOST 1048576: true; the input reads as it did. -/
def curveGrowsUptoRow : OpenClaim := { program := "ytbgccdjkofpiaaa", sum := "94b3c6dd3fa725b111fed6719e5f1a5ab3d03d9f5cee2bf7516b10f1592373d7", func := "distributary/distributarylaw03.CurveGrows", spec := "curveGrows", inPlace := ["math/bits.Add64"], unfollowed := true, recurses := true, named := ["math/bits.divideError", "math/bits.overflowError"], apart := false, narrowed := true }
def CurveGrowsUptoSaid : Prop := curveGrowsUptoRow.holds Try.pinned (OpenSpec.upto curveGrowsSpec)

/-- 'distributarylaw03.CurveShape', WHERE WHAT IT READS IS OF BULK AT MOST 1048576: true; the input reads as it did. -/
def curveShapeUptoRow : OpenClaim := { program := "ytbgccdjkofpiaaa", sum := "94b3c6dd3fa725b111fed6719e5f1a5ab3d03d9f5cee2bf7516b10f1592373d7", func := "distributary/distributarylaw03.CurveShape", spec := "curveShape", inPlace := ["math/bits.Add64"], unfollowed := true, recurses := true, named := ["math/bits.divideError", "math/bits.overflowError"], apart := false, narrowed := true }
def CurveShapeUptoSaid : Prop := curveShapeUptoRow.holds Try.pinned (OpenSpec.upto curveShapeSpec)

/-- 'distributarylaw03.CurveOne', WHERE WHAT IT READS IS OF BULK AT MOST 1048576: true; the input reads as it did. -/
def curveOneUptoRow : OpenClaim := { program := "ytbgccdjkofpiaaa", sum := "94b3c6dd3fa725b111fed6719e5f1a5ab3d03d9f5cee2bf7516b10f1592373d7", func := "distributary/distributarylaw03.CurveOne", spec := "curveOne", inPlace := ["math/bits.Add64"], unfollowed := true, recurses := true, named := ["math/bits.divideError", "math/bits.overflowError"], apart := false, narrowed := true }
def CurveOneUptoSaid : Prop := curveOneUptoRow.holds Try.pinned (OpenSpec.upto curveOneSpec)

/-- 'distributarylaw03.CurveParts', WHERE WHAT IT READS IS OF BULK AT MOST 1048576: true; the input reads as it did. -/
def curvePartsUptoRow : OpenClaim := { program := "ytbgccdjkofpiaaa", sum := "94b3c6dd3fa725b111fed6719e5f1a5ab3d03d9f5cee2bf7516b10f1592373d7", func := "distributary/distributarylaw03.CurveParts", spec := "curveParts", inPlace := ["math/bits.Add64"], unfollowed := true, recurses := true, named := ["math/bits.divideError", "math/bits.overflowError"], apart := false, narrowed := true }
def CurvePartsUptoSaid : Prop := curvePartsUptoRow.holds Try.pinned (OpenSpec.upto curvePartsSpec)

end Rows
end Go.Proofs.Ytbgccdjkofpiaaa
