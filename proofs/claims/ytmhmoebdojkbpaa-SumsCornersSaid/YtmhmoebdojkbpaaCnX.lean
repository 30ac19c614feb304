/- They can be kept just if late at no corner, and all Rests together are at most the rate: the statement's walk, by what the sort is said to do. -/
import Derived.Test.YtmhmoebdojkbpaaHvX
import Derived.Test.YtmhmoebdojkbpaaAwk
namespace Go.Proofs.Ytmhmoebdojkbpaa
open Go.RowKit Go.Shelf W
set_option linter.unusedVariables false
theorem SumsCorners_by (m : Nat) (hm : 41 ≤ m) (hsort : SortU m) : ∀ (a0 : Option Addr) (n0 c0 : Nat) (xs0 : List Cv) (a1 : Int) (a2 : Int) (V : World), IsCvs V a0 n0 c0 xs0 → (∀ v ∈ xs0, v.word) → c0 ≤ maxLen → (a0 = none → n0 = 0 ∧ c0 = 0) → Word a1 → Word a2 → Calls Try.prog 6 #[.slice a0 n0 c0, .int .u64 a1, .int .u64 a2] V fun e w' => e = .returned (.bool true) ∧ Below V.heap.size V w' := by
  intro a0 n0 c0 xs0 a1 a2 V hI hw hc hnn hr ht
  have hA := awake_any
  by_cases hle : n0 ≤ 40 ∧ a2 < 9223372036854775808
  · obtain ⟨hle, ht2⟩ := hle
    have hlen : xs0.length = n0 := hI.1
    subst hlen
    obtain ⟨N, hN⟩ := late_ex xs0 a1
    have hki := kept_iff hN
    have hL := fun (w' : World) (hb : Below V.heap.size V w') => lateP_any m hsort xs0 hw (by omega) (by omega) a1 N hr a0 xs0.length c0 w' (hI.below hb) hN
    have hLt := fun (t : Int) (h : Word t) (w' : World) (hb : Below V.heap.size V w') => kLateP_of xs0 a1 t (.slice a0 xs0.length c0) w' hw hr h (by omega) (fun w'' hb' => atSum_any xs0 t a0 xs0.length c0 w'' hw h (by omega) ((hI.below hb).below hb'))
    have hCo := fun (w' : World) (hb : Below V.heap.size V w') => cornersP_any m hsort xs0 hw (by omega) (by omega) a0 xs0.length c0 w' (hI.below hb)
    by_cases hk : kept xs0 a1
    · have eN := hki.1 hk
      exact SumsCorners_never xs0 a0 c0 a1 a2 N true V hw hr ht ht2 hle hI hA hL (fun w' hb => keptP_any m hsort xs0 hw (by omega) (by omega) a1 true hr a0 xs0.length c0 w' (hI.below hb) ⟨fun _ => hk, fun _ => rfl⟩) hLt hCo ⟨fun _ => hk, fun _ => rfl⟩ eN rfl (decide_eq_false (hk a2 ht.1 ht2))
    · have hKf := fun (w' : World) (hb : Below V.heap.size V w') => keptP_any m hsort xs0 hw (by omega) (by omega) a1 false hr a0 xs0.length c0 w' (hI.below hb) ⟨fun h => (by cases h), fun h => absurd h hk⟩
      rcases hN with ⟨_, h⟩ | ⟨h0, h1, h2, h3⟩
      · exact absurd (fun t t0 t1 => h t t0 t1) hk
      · have hpos : 0 < N := by
          rcases Int.lt_or_eq_of_le h0 with h | h
          · exact h
          · subst h; exact absurd h2 (not_late_zero hw a1)
        have d1 := decide_eq_true h2
        have d2 := decide_eq_false (h3 (N - 1) (by omega) (by omega))
        by_cases hT : lateAt xs0 a1 a2
        · exact SumsCorners_some_true xs0 a0 c0 a1 a2 N false V hw hr ht ht2 hle hI hA hL hKf hLt hCo ⟨fun h => (by cases h), fun h => absurd h hk⟩ hpos h1 rfl d1 d2 (decide_eq_true hT) (by
            apply Int.le_of_not_gt
            intro hlt
            exact h3 a2 ht.1 hlt hT)
        · exact SumsCorners_some_false xs0 a0 c0 a1 a2 N false V hw hr ht ht2 hle hI hA hL hKf hLt hCo ⟨fun h => (by cases h), fun h => absurd h hk⟩ hpos h1 rfl d1 d2 (decide_eq_false hT)
  · exact SumsCorners_long a0 n0 c0 a1 a2 V (by omega) hA
end Go.Proofs.Ytmhmoebdojkbpaa
