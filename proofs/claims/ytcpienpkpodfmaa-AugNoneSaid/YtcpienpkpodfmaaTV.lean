/- What the tree's calls Height, Upto and Find answer. No condition but that the tree is no higher than there is room. -/
import Derived.Test.YtcpienpkpodfmaaTU
namespace Go.Proofs.Ytcpienpkpodfmaa
open Go.RowKit Go.Shelf
set_option linter.unusedVariables false
theorem wrap_id {x : Int} (h0 : -9223372036854775808 ≤ x) (h1 : x < 9223372036854775808) : IntKind.i64.wrap x = x := by
  simp only [IntKind.wrap, IntKind.bits, IntKind.signed]
  simp
  omega
end Go.Proofs.Ytcpienpkpodfmaa
