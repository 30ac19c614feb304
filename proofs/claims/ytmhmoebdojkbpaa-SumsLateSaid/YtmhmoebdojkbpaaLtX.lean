/- When curves are late first, and whether they can be kept: the statement's walk, by what the sort is said to do. -/
import Derived.Test.YtmhmoebdojkbpaaLtP
import Derived.Test.YtmhmoebdojkbpaaGL
namespace Go.Proofs.Ytmhmoebdojkbpaa
open Go.RowKit Go.Shelf W
set_option linter.unusedVariables false
theorem SumsLate_by (m : Nat) (hm : 41 ≤ m) (hsort : SortU m) : ∀ (a0 : Option Addr) (n0 c0 : Nat) (xs0 : List Cv) (a1 : Int) (V : World), IsCvs V a0 n0 c0 xs0 → (∀ v ∈ xs0, v.word) → c0 ≤ maxLen → (a0 = none → n0 = 0 ∧ c0 = 0) → Word a1 → Calls Try.prog 4 #[.slice a0 n0 c0, .int .u64 a1] V fun e w' => e = .returned (.bool true) ∧ Below V.heap.size V w' := by
  intro a0 n0 c0 xs0 a1 V hI hw hc hnn hr
  by_cases hle : n0 ≤ 40
  · have hlen : xs0.length = n0 := hI.1
    obtain ⟨n, hn⟩ := late_ex xs0 a1
    have hki := kept_iff hn
    exact SumsLate_core a0 n0 c0 a1 n (decide (n = 9223372036854775808)) V hle (fun w' hb => lateP_any m hsort xs0 hw (by omega) (by omega) a1 n hr a0 n0 c0 w' (hI.below hb) hn) (fun w' hb => kLate_any xs0 a1 n a0 n0 c0 w' hw hr (by omega) (hI.below hb) hn)
      (fun w' hb => keptP_any m hsort xs0 hw (by omega) (by omega) a1 _ hr a0 n0 c0 w' (hI.below hb) ⟨fun h => hki.2 (of_decide_eq_true h), fun h => decide_eq_true (hki.1 h)⟩) (fun w' hb => kKept_any xs0 a1 n a0 n0 c0 w' hw hr (by omega) (hI.below hb) hn)
  · exact SumsLate_long a0 n0 c0 a1 V (by omega)
end Go.Proofs.Ytmhmoebdojkbpaa
