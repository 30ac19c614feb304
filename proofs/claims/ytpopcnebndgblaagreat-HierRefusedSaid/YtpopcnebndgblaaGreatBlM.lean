/- One curve below another one, by corners and slopes. -/
import Derived.Test.YtpopcnebndgblaaGreatCrn
namespace Go.Proofs.YtpopcnebndgblaaGreat
open Go.RowKit W
set_option linter.unusedVariables false
theorem small {c : Cv} (h : c.word ∧ c.may) : 0 ≤ c.f ∧ c.f ≤ 1048576 ∧ 0 ≤ c.r ∧ c.r ≤ 1048576 ∧ 0 ≤ c.l ∧ c.l ≤ 1099511627776 ∧ (c.l = 0 → c.f = 0) := by
  obtain ⟨⟨h1, h2, h3⟩, h4, h5, h6, h7⟩ := h
  unfold Word at *
  refine ⟨h1.1, h4, h3.1, h5, h2.1, h6, fun e => ?_⟩
  rcases h7 with ⟨_, h⟩ | ⟨h, _⟩ <;> omega
theorem cw_far {c : Cv} {t : Int} (h : c.l ≤ t) : cW c.f c.l c.r t = c.f * c.l + c.r * (t - c.l) := by
  unfold cW
  by_cases e : t ≤ c.l
  · have : t = c.l := by omega
    subst this; rw [if_pos e]; simp
  · rw [if_neg e]
theorem cw_le {c : Cv} (h : c.word ∧ c.may) {t : Int} (ht : 0 ≤ t) : 0 ≤ cW c.f c.l c.r t ∧ cW c.f c.l c.r t ≤ 1048576 * t := by
  obtain ⟨a1, a2, a3, a4, a5, a6, _⟩ := small h
  unfold cW
  split
  · exact ⟨Int.mul_nonneg a1 ht, Int.mul_le_mul_of_nonneg_right a2 ht⟩
  · have h1 := Int.mul_le_mul_of_nonneg_right a2 a5
    have h2 : c.r * (t - c.l) ≤ 1048576 * (t - c.l) := Int.mul_le_mul_of_nonneg_right a4 (by omega)
    have h3 := Int.mul_nonneg a1 a5
    have h4 : 0 ≤ c.r * (t - c.l) := Int.mul_nonneg a3 (by omega)
    omega
theorem cat_cw {c : Cv} (h : c.word ∧ c.may) {t : Int} (ht : 0 ≤ t) (hl : t ≤ 1099511627776) : cAt c.f c.l c.r t = cW c.f c.l c.r t := by
  have := cw_le h ht
  unfold cAt stp
  rw [if_neg (by omega)]
theorem below_slopes {a b : Cv} (ha : a.word ∧ a.may) (hb : b.word ∧ b.may) (h : b.r < a.r) : ¬ isBelow a b := by
  rintro ⟨_, _, h3⟩
  have h4 := h3 9223372036854775807 (by omega) (by omega)
  obtain ⟨a1, a2, a3, a4, a5, a6, _⟩ := small ha
  obtain ⟨b1, b2, b3, b4, b5, b6, _⟩ := small hb
  rw [cw_far (c := a) (by omega), cw_far (c := b) (by omega)] at h4
  have e1 : a.r * (9223372036854775807 - a.l) = a.r * 9223372036854775807 - a.r * a.l := Int.mul_sub _ _ _
  have e2 : b.r * (9223372036854775807 - b.l) = b.r * 9223372036854775807 - b.r * b.l := Int.mul_sub _ _ _
  have e3 : a.r * a.l ≤ 1048576 * 1099511627776 := Int.mul_le_mul a4 a6 a5 (by omega)
  have e4 : b.f * b.l ≤ 1048576 * 1099511627776 := Int.mul_le_mul b2 b6 b5 (by omega)
  have e5 := Int.mul_nonneg a1 a5
  have e6 := Int.mul_nonneg b3 b5
  omega
theorem below_yes {a b : Cv} (ha : a.word ∧ a.may) (hb : b.word ∧ b.may) (h : a.r ≤ b.r) (hc : ∀ t ∈ corF [a, b], cAt a.f a.l a.r t ≤ cAt b.f b.l b.r t) : isBelow a b := by
  obtain ⟨a1, a2, a3, a4, a5, a6, _⟩ := small ha
  obtain ⟨b1, b2, b3, b4, b5, b6, _⟩ := small hb
  have hok := (corF_ok (xs := [a, b]) (by intro c hcm; simp at hcm; rcases hcm with rfl | rfl; exact ha.1; exact hb.1)).2.1
  have at0 : ∀ x, 0 ≤ x → x ≤ 1099511627776 → x ∈ corF [a, b] → cW a.f a.l a.r x ≤ cW b.f b.l b.r x := fun x x0 x1 hx => by
    have := hc x hx
    rwa [cat_cw ha x0 x1, cat_cw hb x0 x1] at this
  have hal : a.l ∈ corF [a, b] := (hok _).2 (by by_cases e : a.l = 0; exact .inl e; exact .inr ⟨a, by simp, ha.2, e, rfl⟩)
  have hbl : b.l ∈ corF [a, b] := (hok _).2 (by by_cases e : b.l = 0; exact .inl e; exact .inr ⟨b, by simp, hb.2, e, rfl⟩)
  have h1 := at0 _ a5 a6 hal
  have h2 := at0 _ b5 b6 hbl
  refine below_corners ha.1 hb.1 ha.2 hb.2 h1 h2 ?_
  have key : ∀ M, a.l ≤ M → b.l ≤ M → M ≤ 9223372036854775807 → cW a.f a.l a.r M ≤ cW b.f b.l b.r M → cW a.f a.l a.r 9223372036854775807 ≤ cW b.f b.l b.r 9223372036854775807 := fun M m1 m2 m3 hM => by
    rw [cw_far (c := a) m1, cw_far (c := b) m2] at hM
    rw [cw_far (c := a) (by omega), cw_far (c := b) (by omega)]
    have e1 := Int.mul_add a.r (M - a.l) (9223372036854775807 - M)
    have e2 := Int.mul_add b.r (M - b.l) (9223372036854775807 - M)
    rw [show M - a.l + (9223372036854775807 - M) = 9223372036854775807 - a.l by omega] at e1
    rw [show M - b.l + (9223372036854775807 - M) = 9223372036854775807 - b.l by omega] at e2
    have e3 : a.r * (9223372036854775807 - M) ≤ b.r * (9223372036854775807 - M) := Int.mul_le_mul_of_nonneg_right h (by omega)
    omega
  by_cases hlt : a.l ≤ b.l
  · exact key b.l hlt (Int.le_refl _) (by omega) h2
  · exact key a.l (Int.le_refl _) (by omega) (by omega) h1
theorem below_no {a b : Cv} (ha : a.word ∧ a.may) (hb : b.word ∧ b.may) {t : Int} (ht : t ∈ corF [a, b]) (h : cAt b.f b.l b.r t < cAt a.f a.l a.r t) : ¬ isBelow a b := by
  rintro ⟨_, _, h3⟩
  obtain ⟨a1, a2, a3, a4, a5, a6, _⟩ := small ha
  obtain ⟨b1, b2, b3, b4, b5, b6, _⟩ := small hb
  have hok := (corF_ok (xs := [a, b]) (by intro c hcm; simp at hcm; rcases hcm with rfl | rfl; exact ha.1; exact hb.1)).2.1
  have hr : 0 ≤ t ∧ t ≤ 1099511627776 := by
    rcases (hok t).1 ht with e | ⟨c, hcm, _, _, e⟩
    · omega
    · simp at hcm; rcases hcm with rfl | rfl <;> omega
  rw [cat_cw ha hr.1 hr.2, cat_cw hb hr.1 hr.2] at h
  have := h3 t hr.1 (by omega)
  omega
end Go.Proofs.YtpopcnebndgblaaGreat
