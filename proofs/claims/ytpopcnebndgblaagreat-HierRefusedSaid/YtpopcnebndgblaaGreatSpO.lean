/- What the document's own May, Kind and With answer; the program's own With. Condition: the numbers are what the fields can hold. -/
import Derived.Test.YtpopcnebndgblaaGreatSpK
namespace Go.Proofs.YtpopcnebndgblaaGreat
open Go.RowKit W
set_option linter.unusedVariables false

theorem rHas_any (c : Cw) (w : World) :
    Calls Tryz.prog 53 #[cwV c] w fun e w' => e = .returned (.bool (!hasC c)) ∧ Below w.heap.size w w' := by
  unfold hasC
  rw [Bool.not_not]
  exact kNone_any c.f c.l c.r w

end Go.Proofs.YtpopcnebndgblaaGreat
