/- SumsHave: its walk, the sort put in. -/
import Derived.Test.YtmhmoebdojkbpaaHvX
import Derived.Test.YtmhmoebdojkbpaaPdq
namespace Go.Proofs.Ytmhmoebdojkbpaa
open Go.RowKit Go.Shelf Go.Maps W
set_option linter.unusedVariables false
theorem SumsHave_walk : ∀ (a0 : Option Addr) (n0 c0 : Nat) (xs0 : List Cv) (a1 : Int) (V : World), IsCvs V a0 n0 c0 xs0 → (∀ v ∈ xs0, v.word) → c0 ≤ maxLen → (a0 = none → n0 = 0 ∧ c0 = 0) → Word a1 → Calls Try.prog 3 #[.slice a0 n0 c0, .int .u64 a1] V fun e w' => e = .returned (.bool true) ∧ Below V.heap.size V w' :=
  SumsHave_by 141 (Nat.le_refl _) (sortU 141 (by omega))
end Go.Proofs.Ytmhmoebdojkbpaa
