/- A curve by parts: the program's and the document's answer are one. No condition but that words are words. -/
import Derived.Test.YtbgccdjkofpiaaaScK
namespace Go.Proofs.Ytbgccdjkofpiaaa
open Go.RowKit W
set_option linter.unusedVariables false
theorem qD_w {a b c : Int} (ha : Word a) (hb : Word b) (hc : Word c) : Word (qD a b c) := by
  unfold qD; split
  · unfold Word; omega
  · exact stp_word (Int.ediv_nonneg (Int.mul_nonneg ha.1 hb.1) hc.1)
theorem tdF_w {f l r : Int} (hf : Word f) : Word (tdF f l r) := by unfold tdF; split; exact ⟨by omega, by omega⟩; exact hf
theorem tdL_w {f l r : Int} (hl : Word l) : Word (tdL f l r) := by unfold tdL; split; exact ⟨by omega, by omega⟩; exact hl
def scE (f l r a b : Int) : Int := if mayB f l r = true then (if b = 0 then 2 else if mayB (tdF (qD f a b) l (qD r a b)) (tdL (qD f a b) l (qD r a b)) (qD r a b) = true then 0 else 30) else 30
def scF (f l r a b : Int) : Int := if scE f l r a b = 0 then tdF (qD f a b) l (qD r a b) else 0
def scL (f l r a b : Int) : Int := if scE f l r a b = 0 then tdL (qD f a b) l (qD r a b) else 0
def scR (f l r a b : Int) : Int := if scE f l r a b = 0 then qD r a b else 0
theorem sc_no {f l r a b : Int} (h : scE f l r a b ≠ 0) : scF f l r a b = 0 ∧ scL f l r a b = 0 ∧ scR f l r a b = 0 := by
  unfold scF scL scR; rw [if_neg h, if_neg h, if_neg h]; exact ⟨rfl, rfl, rfl⟩
theorem sc_ok {f l r a b : Int} (h : scE f l r a b = 0) : scF f l r a b = tdF (qD f a b) l (qD r a b) ∧ scL f l r a b = tdL (qD f a b) l (qD r a b) ∧ scR f l r a b = qD r a b := by
  unfold scF scL scR; rw [if_pos h, if_pos h, if_pos h]; exact ⟨rfl, rfl, rfl⟩
theorem sc_case (f l r a b : Int) :
    (mayB f l r = false ∧ scE f l r a b = 30) ∨ (mayB f l r = true ∧ b = 0 ∧ scE f l r a b = 2) ∨
    (mayB f l r = true ∧ b ≠ 0 ∧ mayB (tdF (qD f a b) l (qD r a b)) (tdL (qD f a b) l (qD r a b)) (qD r a b) = false ∧ scE f l r a b = 30) ∨
    (mayB f l r = true ∧ b ≠ 0 ∧ mayB (tdF (qD f a b) l (qD r a b)) (tdL (qD f a b) l (qD r a b)) (qD r a b) = true ∧ scE f l r a b = 0) := by
  unfold scE
  by_cases h1 : mayB f l r = true
  · rw [if_pos h1]
    by_cases h2 : b = 0
    · rw [if_pos h2]; exact .inr (.inl ⟨h1, h2, rfl⟩)
    · rw [if_neg h2]
      by_cases h3 : mayB (tdF (qD f a b) l (qD r a b)) (tdL (qD f a b) l (qD r a b)) (qD r a b) = true
      · rw [if_pos h3]; exact .inr (.inr (.inr ⟨h1, h2, h3, rfl⟩))
      · rw [if_neg h3]; exact .inr (.inr (.inl ⟨h1, h2, by simpa using h3, rfl⟩))
  · rw [if_neg h1]; exact .inl ⟨by simpa using h1, rfl⟩
theorem scale_any (f l r a b : Int) (w : World) (hf : Word f) (hl : Word l) (hr : Word r) (ha : Word a) (hb : Word b) :
    Calls Try.prog 10 #[.agg #[.int .u64 f, .int .u64 l, .int .u64 r], .int .u64 a, .int .u64 b] w fun e w' => e = .returned (.tuple #[.agg #[.int .u64 (scF f l r a b), .int .u64 (scL f l r a b), .int .u64 (scR f l r a b)], .int .i64 (scE f l r a b)]) ∧ Below w.heap.size w w' := by
  have hM := fun w => may_any f l r w hf hl hr
  have hF := fun w => Down_any f a b w hf ha hb
  have hR := fun w => Down_any r a b w hr ha hb
  have hT := fun w => told_any (qD f a b) l (qD r a b) w
  have hN := fun w => may_any (tdF (qD f a b) l (qD r a b)) (tdL (qD f a b) l (qD r a b)) (qD r a b) w (tdF_w (qD_w hf ha hb)) (tdL_w hl) (qD_w hr ha hb)
  rcases sc_case f l r a b with ⟨h1, e⟩ | ⟨h1, h2, e⟩ | ⟨h1, h2, h3, e⟩ | ⟨h1, h2, h3, e⟩
  · obtain ⟨e1, e2, e3⟩ := sc_no (f := f) (l := l) (r := r) (a := a) (b := b) (by omega)
    rw [e, e1, e2, e3]
    rw [h1] at hM
    exact scale_no f l r a b w hM
  · obtain ⟨e1, e2, e3⟩ := sc_no (f := f) (l := l) (r := r) (a := a) (b := b) (by omega)
    rw [e, e1, e2, e3]
    rw [h1] at hM
    exact scale_b f l r a b w (by simp [h2]) hM
  · obtain ⟨e1, e2, e3⟩ := sc_no (f := f) (l := l) (r := r) (a := a) (b := b) (by omega)
    have eq : qE b = 0 := if_neg h2
    rw [e, e1, e2, e3]
    rw [h1] at hM
    rw [eq] at hF hR
    rw [h3] at hN
    exact scale_bad f l r a b _ _ _ _ w (by simp [h2]) hM hF hR hT hN
  · obtain ⟨e1, e2, e3⟩ := sc_ok e
    have eq : qE b = 0 := if_neg h2
    rw [e, e1, e2, e3]
    rw [h1] at hM
    rw [eq] at hF hR
    rw [h3] at hN
    exact scale_ok f l r a b _ _ _ _ w (by simp [h2]) hM hF hR hT hN
theorem kscale_any (f l r a b : Int) (w : World) (hf : Word f) (hl : Word l) (hr : Word r) (ha : Word a) (hb : Word b) :
    Calls Try.prog 11 #[.agg #[.int .u64 f, .int .u64 l, .int .u64 r], .int .u64 a, .int .u64 b] w fun e w' => e = .returned (.tuple #[.agg #[.int .u64 (scF f l r a b), .int .u64 (scL f l r a b), .int .u64 (scR f l r a b)], .int .i64 (scE f l r a b)]) ∧ Below w.heap.size w w' := by
  have hM := fun w => kMay_any f l r w hf hl hr
  have hF := fun w => kDown_any f a b w hf ha hb
  have hR := fun w => kDown_any r a b w hr ha hb
  have hN := fun w => kMay_any (tdF (qD f a b) l (qD r a b)) (tdL (qD f a b) l (qD r a b)) (qD r a b) w (tdF_w (qD_w hf ha hb)) (tdL_w hl) (qD_w hr ha hb)
  rcases sc_case f l r a b with ⟨h1, e⟩ | ⟨h1, h2, e⟩ | ⟨h1, h2, h3, e⟩ | ⟨h1, h2, h3, e⟩
  · obtain ⟨e1, e2, e3⟩ := sc_no (f := f) (l := l) (r := r) (a := a) (b := b) (by omega)
    rw [e, e1, e2, e3]
    rw [h1] at hM
    exact kscale_no f l r a b w hM
  · obtain ⟨e1, e2, e3⟩ := sc_no (f := f) (l := l) (r := r) (a := a) (b := b) (by omega)
    rw [e, e1, e2, e3]
    rw [h1] at hM
    exact kscale_b f l r a b w (by simp [h2]) hM
  · obtain ⟨e1, e2, e3⟩ := sc_no (f := f) (l := l) (r := r) (a := a) (b := b) (by omega)
    have eq : qE b = 0 := if_neg h2
    rw [e, e1, e2, e3]
    rw [h1] at hM
    rw [eq] at hF hR
    rw [h3] at hN
    unfold tdF tdL at hN
    by_cases k1 : qD f a b = qD r a b
    · rw [if_pos (.inr k1), if_pos (.inr k1)] at hN
      exact kscale_flat1_bad f l r a b _ _ w (by simp [h2]) (by simp [k1]) hM hF hR hN
    · by_cases k2 : l = 0
      · rw [if_pos (.inl k2), if_pos (.inl k2)] at hN
        exact kscale_flat2_bad f l r a b _ _ w (by simp [h2]) (by simp [k1]) (by simp [k2]) hM hF hR hN
      · rw [if_neg (by omega), if_neg (by omega)] at hN
        exact kscale_full_bad f l r a b _ _ w (by simp [h2]) (by simp [k1]) (by unfold Word at hl; simp; omega) hM hF hR hN
  · obtain ⟨e1, e2, e3⟩ := sc_ok e
    have eq : qE b = 0 := if_neg h2
    rw [e, e1, e2, e3]
    rw [h1] at hM
    rw [eq] at hF hR
    rw [h3] at hN
    unfold tdF tdL at hN ⊢
    by_cases k1 : qD f a b = qD r a b
    · rw [if_pos (.inr k1), if_pos (.inr k1)] at hN ⊢
      exact kscale_flat1_ok f l r a b _ _ w (by simp [h2]) (by simp [k1]) hM hF hR hN
    · by_cases k2 : l = 0
      · rw [if_pos (.inl k2), if_pos (.inl k2)] at hN ⊢
        exact kscale_flat2_ok f l r a b _ _ w (by simp [h2]) (by simp [k1]) (by simp [k2]) hM hF hR hN
      · rw [if_neg (by omega), if_neg (by omega)] at hN ⊢
        exact kscale_full_ok f l r a b _ _ w (by simp [h2]) (by simp [k1]) (by unfold Word at hl; simp; omega) hM hF hR hN
end Go.Proofs.Ytbgccdjkofpiaaa
