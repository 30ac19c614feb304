/- SumsCorners: its walk, the sort put in. -/
import Derived.Test.YtmhmoebdojkbpaaCnX
import Derived.Test.YtmhmoebdojkbpaaPdq
namespace Go.Proofs.Ytmhmoebdojkbpaa
open Go.RowKit Go.Shelf Go.Maps W
set_option linter.unusedVariables false
theorem SumsCorners_walk : ∀ (a0 : Option Addr) (n0 c0 : Nat) (xs0 : List Cv) (a1 : Int) (a2 : Int) (V : World), IsCvs V a0 n0 c0 xs0 → (∀ v ∈ xs0, v.word) → c0 ≤ maxLen → (a0 = none → n0 = 0 ∧ c0 = 0) → Word a1 → Word a2 → Calls Try.prog 6 #[.slice a0 n0 c0, .int .u64 a1, .int .u64 a2] V fun e w' => e = .returned (.bool true) ∧ Below V.heap.size V w' :=
  SumsCorners_by 41 (Nat.le_refl _) (sortU 41 (by omega))
end Go.Proofs.Ytmhmoebdojkbpaa
