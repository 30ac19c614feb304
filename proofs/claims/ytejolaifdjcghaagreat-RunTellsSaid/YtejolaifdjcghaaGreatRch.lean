/- When all copies have so much: there is such a tick. -/
import Derived.Test.YtejolaifdjcghaaGreatSgR
namespace Go.Proofs.YtejolaifdjcghaaGreat
open Go.RowKit Go.Shelf W
set_option linter.unusedVariables false
set_option maxRecDepth 100000
namespace W
theorem IsRch.of {F L R y x m : Int} {A : List (Int × Int)} (hF : 0 ≤ F) (hR : 0 ≤ R) (hA : ∀ k ∈ A, k.1 ≤ x) (h0 : x ≤ m) (h1 : m ≤ 9223372036854775808)
    (h2 : m < 9223372036854775808 → ∀ k ∈ A, y ≤ stp (hv F L R k m)) (h3 : m = x ∨ ∃ k ∈ A, stp (hv F L R k (m - 1)) < y) : IsRch F L R y x A m := by
  refine ⟨h0, h1, fun t t1 t2 => ⟨fun h => ?_, fun h k hk => ?_⟩⟩
  · rcases h3 with h3 | ⟨k, hk, h3⟩
    · omega
    · rcases Int.lt_or_le t m with c | c
      · have := stp_mono (hv_mono (F := F) (L := L) (R := R) (k := k) hF hR (by have := hA k hk; omega) (show t ≤ m - 1 by omega))
        have := h k hk
        omega
      · exact c
  · have := stp_mono (hv_mono (F := F) (L := L) (R := R) (k := k) hF hR (by have := hA k hk; omega) h)
    have := h2 (by omega) k hk
    omega
theorem rch_ex {F L R y x : Int} (hF : Word F) (hL : Word L) (hR : Word R) (hx : x ≤ 9223372036854775808) (A : List (Int × Int)) (h0 : 0 < A.length) (hA : ∀ k ∈ A, 0 ≤ k.1 ∧ k.1 ≤ x ∧ 0 ≤ k.2 ∧ k.2 ≤ 4611686018427387904) : ∃ m, IsRch F L R y x A m := by
  rcases Int.lt_or_le 4611686018427387904 y with h | h
  · exact ⟨_, rch_far h0 hx h⟩
  · obtain ⟨m, h1, h2, h3⟩ := all_ex' hF hL hR hx h A hA
    refine ⟨m, h1, h2, fun t t1 t2 => ?_⟩
    rw [← h3 t t1 t2]
    have bst : ∀ z, y ≤ stp z ↔ y ≤ z := fun z => by have := stp_or z; omega
    exact ⟨fun g k hk => (bst _).1 (g k hk), fun g k hk => (bst _).2 (g k hk)⟩
end W
end Go.Proofs.YtejolaifdjcghaaGreat
