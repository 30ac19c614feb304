/- What is spare beside curves, by the ends of stretches. -/
import Derived.Test.YtmhmoebdojkbpaaStr
namespace Go.Proofs.Ytmhmoebdojkbpaa
open Go.RowKit W
set_option linter.unusedVariables false
/-- q is spare up to C: beside it nothing is late there, beside one more something is. -/
def SpQ (xs : List Cv) (rate C q : Int) : Prop :=
  0 ≤ q ∧ q ≤ 1048576 ∧ (∀ t, 0 ≤ t → t ≤ C → sW xs t + q * t ≤ rate * t) ∧ (q = 1048576 ∨ ∃ t, 0 ≤ t ∧ t ≤ C ∧ rate * t < sW xs t + (q + 1) * t)
theorem SpQ.start {xs : List Cv} (hw : ∀ c ∈ xs, c.word) (rate : Int) : SpQ xs rate 0 1048576 :=
  ⟨by omega, by omega, fun t h0 h1 => by have : t = 0 := by omega
                                         subst this; rw [sW_zero hw]; simp, .inl rfl⟩
theorem clear_inside {xs : List Cv} {F k q : Int} (hF : 0 ≤ F) (h : Clear (cnt xs) F k) : ∀ c ∈ xs ++ [⟨0, 0, q⟩], ¬ inside c F k := by
  intro c hc ⟨h1, h2, h3⟩
  rcases List.mem_append.1 hc with h4 | h4
  · rcases h c (List.mem_filter.2 ⟨h4, mayB_is.2 h1⟩) with h5 | h5 <;> omega
  · simp at h4; subst h4; dsimp only at h2; omega
theorem SpQ.step {xs : List Cv} {rate F k q : Int} (hF : 0 ≤ F) (hk : F < k) (hc : Clear (cnt xs) F k) (h : SpQ xs rate F q) (hle : sW xs k ≤ rate * k) :
    SpQ xs rate k (min q ((rate * k - sW xs k) / k)) := by
  obtain ⟨h0, h1, h2, h3⟩ := h
  have e0 : 0 ≤ (rate * k - sW xs k) / k := Int.ediv_nonneg (by omega) (by omega)
  have e1 : (rate * k - sW xs k) / k * k ≤ rate * k - sW xs k := Int.ediv_mul_le _ (by omega)
  have e2 : rate * k - sW xs k < ((rate * k - sW xs k) / k + 1) * k := Int.lt_ediv_add_one_mul_self _ (by omega)
  generalize (rate * k - sW xs k) / k = p at *
  have hmono : ∀ m t : Int, m ≤ q → 0 ≤ t → m * t ≤ q * t := fun m t h ht => Int.mul_le_mul_of_nonneg_right h ht
  have hm : min q p ≤ q ∧ min q p ≤ p ∧ 0 ≤ min q p := by omega
  refine ⟨by omega, by omega, fun t t0 t1 => ?_, ?_⟩
  · by_cases hfk : t ≤ F
    · have := h2 t t0 hfk
      have := hmono (min q p) t hm.1 t0
      omega
    · have hlin : min q p ≤ 1048576 := by omega
      have la : ¬ lateAt (xs ++ [⟨0, 0, min q p⟩]) rate F := by
        unfold lateAt; rw [sW_line hlin hF]
        have := h2 F hF (Int.le_refl _)
        have := hmono (min q p) F hm.1 hF
        omega
      have lb : ¬ lateAt (xs ++ [⟨0, 0, min q p⟩]) rate k := by
        unfold lateAt; rw [sW_line hlin (by omega)]
        have : min q p * k ≤ p * k := Int.mul_le_mul_of_nonneg_right hm.2.1 (by omega)
        omega
      have := late_between (clear_inside hF hc) hF la lb t (by omega) t1
      unfold lateAt at this; rw [sW_line hlin t0] at this
      omega
  · by_cases hqp : q ≤ p
    · rw [Int.min_eq_left hqp]
      rcases h3 with h3 | ⟨t, t0, t1, t2⟩
      · exact .inl h3
      · exact .inr ⟨t, t0, by omega, t2⟩
    · rw [Int.min_eq_right (by omega)]
      exact .inr ⟨k, by omega, Int.le_refl _, by omega⟩
theorem SpQ.done {xs : List Cv} {rate q : Int} (h : SpQ xs rate 9223372036854775807 q) : IsSpare xs rate q := by
  obtain ⟨h0, h1, h2, h3⟩ := h
  refine ⟨h0, h1, fun t t0 t1 hl => ?_, ?_⟩
  · unfold lateAt at hl; rw [sW_line h1 t0] at hl
    have := h2 t t0 (by omega)
    omega
  · by_cases e : q = 1048576
    · exact .inl e
    · rcases h3 with h3 | ⟨t, t0, t1, t2⟩
      · exact .inl h3
      · exact .inr fun hk => hk t t0 (by omega) (by unfold lateAt; rw [sW_line (by omega) t0]; exact t2)
end Go.Proofs.Ytmhmoebdojkbpaa
