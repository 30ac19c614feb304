/- The chapter's examples, in numbers. -/
import Derived.Test.YtmhmoebdojkbpaaLtP
import Derived.Test.YtmhmoebdojkbpaaSpW2
namespace Go.Proofs.Ytmhmoebdojkbpaa
open Go.RowKit Go.Shelf W
set_option linter.unusedVariables false
abbrev exL : List Cv := [⟨3, 10, 1⟩, ⟨0, 0, 2⟩]
theorem ex_words : ∀ c ∈ exL, c.word := by
  intro c hc
  simp at hc
  rcases hc with rfl | rfl <;> exact ⟨⟨by decide, by decide⟩, ⟨by decide, by decide⟩, ⟨by decide, by decide⟩⟩
theorem ex_may1 : (⟨3, 10, 1⟩ : Cv).may := mayB_is.1 (by decide)
theorem ex_may2 : (⟨0, 0, 2⟩ : Cv).may := mayB_is.1 (by decide)
theorem ex_sum {t : Int} (h : 0 ≤ t) : sW exL t = if t ≤ 10 then 5 * t else 20 + 3 * t := by
  simp only [sW, oneW, if_pos ex_may1, if_pos ex_may2, cW]
  by_cases h1 : t ≤ 10
  · rw [if_pos h1, if_pos h1]; split <;> omega
  · rw [if_neg h1, if_neg h1]; split <;> omega
theorem ex_kept5 : kept exL 5 := fun t t0 t1 hl => by unfold lateAt at hl; rw [ex_sum t0] at hl; split at hl <;> omega
theorem ex_late4 : lateAt exL 4 1 := by unfold lateAt; rw [ex_sum (by omega)]; decide
theorem ex_not4 : ¬ kept exL 4 := fun h => h 1 (by omega) (by omega) ex_late4
theorem ex_is4 : IsLate exL 4 1 := .inr ⟨by omega, by omega, ex_late4, fun t t0 t1 => by have : t = 0 := by omega
                                                                                         subst this; exact not_late_zero ex_words 4⟩
theorem ex_is5 : IsLate exL 5 9223372036854775808 := .inl ⟨rfl, ex_kept5⟩
theorem ex_line {n t : Int} (hn : n ≤ 1048576) (h : 0 ≤ t) : sW (exL ++ [⟨0, 0, n⟩]) t = (if t ≤ 10 then 5 * t else 20 + 3 * t) + n * t := by rw [sW_line hn h, ex_sum h]
theorem ex_spare5 : IsSpare exL 5 0 := ⟨by omega, by omega, fun t t0 t1 hl => by unfold lateAt at hl; rw [ex_line (by omega) t0] at hl; split at hl <;> omega, .inr fun h => h 1 (by omega) (by omega) (by unfold lateAt; rw [ex_line (by omega) (by omega)]; decide)⟩
theorem ex_spare6 : IsSpare exL 6 1 := ⟨by omega, by omega, fun t t0 t1 hl => by unfold lateAt at hl; rw [ex_line (by omega) t0] at hl; split at hl <;> omega, .inr fun h => h 1 (by omega) (by omega) (by unfold lateAt; rw [ex_line (by omega) (by omega)]; decide)⟩
theorem ex_corners : corF exL = [0, 10] := by
  refine (Cok.unique (corF_ok ex_words) ⟨by decide, fun x => ?_, rfl⟩)
  simp only [List.mem_cons, List.not_mem_nil, or_false]
  constructor
  · rintro (h | h)
    · exact .inl h
    · exact .inr ⟨_, .inl rfl, ex_may1, by decide, h.symm⟩
  · rintro (h | ⟨c, rfl | rfl, _, h1, h2⟩)
    · exact .inl h
    · exact .inr h2.symm
    · exact absurd rfl h1
theorem ex_below : isBelow ⟨0, 0, 2⟩ ⟨0, 0, 3⟩ := ⟨ex_may2, mayB_is.1 (by decide), fun t t0 t1 => by simp only [cW]; split <;> omega⟩
theorem ex_above : ¬ isBelow ⟨3, 10, 1⟩ ⟨0, 0, 2⟩ := fun h => by have := h.2.2 1 (by omega) (by omega); revert this; decide
theorem ex_none : kept [] 0 := fun t t0 t1 hl => by unfold lateAt at hl; simp [sW] at hl
end Go.Proofs.Ytmhmoebdojkbpaa
