/- With what is spare they can be kept, with one more they can not be: the statement's walk. -/
import Derived.Test.YtmhmoebdojkbpaaRoN
import Derived.Test.YtmhmoebdojkbpaaAwk
namespace Go.Proofs.Ytmhmoebdojkbpaa
open Go.RowKit Go.Shelf W
set_option linter.unusedVariables false
theorem SumsRoom_walk : ∀ (a0 : Option Addr) (n0 c0 : Nat) (xs0 : List Cv) (a1 : Int) (V : World), IsCvs V a0 n0 c0 xs0 → (∀ v ∈ xs0, v.word) → c0 ≤ maxLen → (a0 = none → n0 = 0 ∧ c0 = 0) → Word a1 → Calls Try.prog 9 #[.slice a0 n0 c0, .int .u64 a1] V fun e w' => e = .returned (.bool true) ∧ Below V.heap.size V w' := by
  intro a0 n0 c0 xs0 a1 V hI hw hc hnn hr
  have hA := awake_any
  by_cases hle : n0 ≤ 8
  · have hlen : xs0.length = n0 := hI.1
    have hKP : ∀ (ys : List Cv) (b : Bool) (a : Option Addr) (k c : Nat) (w' : World), (∀ v ∈ ys, v.word) → ys.length ≤ 9 → IsCvs w' a k c ys → (b = true ↔ kept ys a1) → Calls Try.prog 17 #[.slice a k c, .int .u64 a1] w' fun e w'' => e = .returned (.bool b) ∧ Below w'.heap.size w' w'' :=
      fun ys b a k c w' h1 h2 h3 h4 => keptP_any 12 sort12 ys h1 (by omega) (by omega) a1 b hr a k c w' h3 h4
    by_cases hk : kept xs0 a1
    · obtain ⟨N, hN⟩ := spare_ex hk
      have hS : ∀ w', Below V.heap.size V w' → Calls Try.prog 19 #[.slice a0 n0 c0, .int .u64 a1] w' fun e w'' => e = .returned (.tuple #[.int .u64 N, .bool true]) ∧ Below w'.heap.size w' w'' := fun w' hb => spareP_any 12 sort12 xs0 hw (by omega) (by omega) a1 N hr a0 n0 c0 w' (hI.below hb) hk hN
      have hK : ∀ w', Below V.heap.size V w' → Calls Try.prog 17 #[.slice a0 n0 c0, .int .u64 a1] w' fun e w'' => e = .returned (.bool true) ∧ Below w'.heap.size w' w'' := fun w' hb => keptP_any 12 sort12 xs0 hw (by omega) (by omega) a1 true hr a0 n0 c0 w' (hI.below hb) ⟨fun _ => hk, fun _ => rfl⟩
      cases a0 with
      | none =>
        obtain ⟨hn0, hc0⟩ := hnn rfl
        subst hn0
        have ex : xs0 = [] := List.eq_nil_of_length_eq_zero hlen
        rcases hN.2.2.2 with h | h
        · exact SumsRoom9_nil_max xs0 a1 N ex c0 V hr hA hS hK hKP hN.1 h hN.2.2.1
        · by_cases hm : N = 1048576
          · exact SumsRoom9_nil_max xs0 a1 N ex c0 V hr hA hS hK hKP hN.1 hm hN.2.2.1
          · exact SumsRoom9_nil_less xs0 a1 N ex c0 V hr hA hS hK hKP hN.1 (by have := hN.2.1; omega) hN.2.2.1 h
      | some ad =>
        subst hlen
        have hd : ∀ w', Below V.heap.size V w' → ∀ j u, (cvC xs0)[j]? = some u → w'.cell? (ad.add j) = some u := fun w' hb j u hj => by
          rcases (hI.below hb).2.2 with h0 | ⟨b, o, e, hrow⟩
          · have : xs0 = [] := List.eq_nil_of_length_eq_zero h0
            subst this; simp [cvC] at hj
          · cases e; exact cvC_cells hrow j u hj
        rcases hN.2.2.2 with h | h
        · exact SumsRoom9_some_max xs0 a1 N ad c0 V hw hr hle hd hA hS hK hKP hN.1 h hN.2.2.1
        · by_cases hm : N = 1048576
          · exact SumsRoom9_some_max xs0 a1 N ad c0 V hw hr hle hd hA hS hK hKP hN.1 hm hN.2.2.1
          · exact SumsRoom9_some_less xs0 a1 N ad c0 V hw hr hle hd hA hS hK hKP hN.1 (by have := hN.2.1; omega) hN.2.2.1 h
    · exact SumsRoom9_no a0 n0 c0 a1 V hle hA (fun w' hb => spareP_off 12 sort12 xs0 hw (by omega) (by omega) a1 hr a0 n0 c0 w' (hI.below hb) hk) (fun w' hb => keptP_any 12 sort12 xs0 hw (by omega) (by omega) a1 false hr a0 n0 c0 w' (hI.below hb) ⟨fun h => (by cases h), fun h => absurd h hk⟩)
  · exact SumsRoom9_long a0 n0 c0 a1 V (by omega) hA
end Go.Proofs.Ytmhmoebdojkbpaa
