/- What may be said of a spec with one thing changed: plain facts of mayN, kindN, withS. No condition. -/
import Derived.Test.YtkcmfcgoknhodaaGreatDoorSpN
import Derived.Test.YtkcmfcgoknhodaaGreatDoorSpW
namespace Go.Proofs.YtkcmfcgoknhodaaGreatDoor
open Go.RowKit W
set_option linter.unusedVariables false
theorem mayN_zero {p : Sp} (h : mayN p = 0) : idB p = true ∧ curB p = true ∧ furB p = true ∧ lasB p = true ∧ bouB p = true := by
  unfold mayN at h
  by_cases a : idB p = true <;> by_cases b : curB p = true <;> by_cases c : furB p = true <;> by_cases d : lasB p = true <;> by_cases e : bouB p = true <;> simp [a, b, c, d, e] at h ⊢
theorem mayN_of {p : Sp} (a : idB p = true) (b : curB p = true) (c : furB p = true) (d : lasB p = true) (e : bouB p = true) : mayN p = 0 := by
  unfold mayN
  rw [if_pos a, if_pos b, if_pos c, if_pos d, if_pos e]
theorem mayN_id {p : Sp} (h : idB p = false) : mayN p = 130 := by
  unfold mayN
  rw [if_neg (by rw [h]; decide)]
theorem mayN_cur {p : Sp} (a : idB p = true) (b : curB p = false) : mayN p = 30 := by
  unfold mayN
  rw [if_pos a, if_neg (by rw [b]; decide)]
theorem mayN_fur {p : Sp} (a : idB p = true) (b : curB p = true) (c : furB p = false) : mayN p = 130 := by
  unfold mayN
  rw [if_pos a, if_pos b, if_neg (by rw [c]; decide)]
/-! ### Another Id and Parent -/
def shifted (p : Sp) (i q : Int) : Sp := { p with id := i, par := q }
theorem mayN_shifted (p : Sp) (i q : Int) (h1 : idB p = true) (h2 : idB (shifted p i q) = true) : mayN (shifted p i q) = mayN p := by
  unfold mayN
  rw [if_pos h1, if_pos h2]
  rfl
theorem kindN_shifted (p : Sp) (i q : Int) : kindN (shifted p i q) = kindN p := rfl
/-! ### Curves taken over -/
theorem with_self (p : Sp) : withS p p = p := rfl
theorem mayN_with {p q : Sp} (hp : mayN p = 0) (hq : mayN q = 0) (hl : p.leaf = q.leaf) : mayN (withS p q) = 0 := by
  obtain ⟨i1, q1, l1, r1, s1, u1, k1, b1⟩ := p
  obtain ⟨i2, q2, l2, r2, s2, u2, k2, b2⟩ := q
  simp only at hl
  subst hl
  obtain ⟨a, b, c, d, e⟩ := mayN_zero hp
  obtain ⟨a', b', c', d', e'⟩ := mayN_zero hq
  refine mayN_of a b' ?_ d' e'
  clear a b d e a' b' d' e' hp hq
  unfold furB at c c' ⊢
  cases l1
  · simp only [withS, Bool.false_eq_true, if_false, Bool.and_eq_true] at c c' ⊢
    exact ⟨⟨c'.1.1, c.1.2⟩, c.2⟩
  · simp only [withS, if_true, Bool.and_eq_true] at c c' ⊢
    exact ⟨⟨c'.1.1, c.1.2⟩, c.2⟩
theorem kindN_with {p q : Sp} (hl : p.leaf = q.leaf) : kindN (withS p q) = kindN q := by
  obtain ⟨i1, q1, l1, r1, s1, u1, k1, b1⟩ := p
  obtain ⟨i2, q2, l2, r2, s2, u2, k2, b2⟩ := q
  simp only at hl
  subst hl
  rfl
/-! ### One thing that may not be -/
theorem mayN_none (p : Sp) (c : Cw) : mayN { p with id := 0, re := c } = 130 := mayN_id (by simp [idB, wi])
theorem mayN_share {p : Sp} (h : mayN p = 0) {c : Cw} (hc : mayC c = false) : mayN { p with sh := c } = 30 :=
  mayN_cur (mayN_zero h).1 (by simp [curB, hc])
theorem mayN_upper {p : Sp} (h : mayN p = 0) {c : Cw} (hc : mayC c = false) : mayN { p with up := c } = 30 :=
  mayN_cur (mayN_zero h).1 (by simp [curB, hc])
theorem mayN_leaf {p : Sp} (h : mayN p = 0) : mayN { p with leaf := !p.leaf } = 130 := by
  obtain ⟨a, b, c, _, _⟩ := mayN_zero h
  refine mayN_fur a b ?_
  unfold furB wi at c ⊢
  cases hx : p.leaf
  · rw [hx] at c
    simp only [Bool.false_eq_true, if_false, Bool.and_eq_true, beq_iff_eq] at c
    simp [c.1.2]
  · rw [hx] at c
    simp only [if_true, Bool.and_eq_true, decide_eq_true_eq] at c
    have hp : (p.pk == 0) = false := beq_eq_false_iff_ne.2 (by omega)
    simp [hp]
theorem mayN_packets {p : Sp} (h : mayN p = 0) : mayN { p with pk := 4097 } = 130 := by
  obtain ⟨a, b, _, _, _⟩ := mayN_zero h
  refine mayN_fur a b ?_
  unfold furB wi
  cases hx : p.leaf <;> simp
end Go.Proofs.YtkcmfcgoknhodaaGreatDoor
