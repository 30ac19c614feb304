/- The walk of CurveParts, whatever the curve. No condition but that words are words. -/
import Derived.Test.YtbgccdjkofpiaaaPartsC
namespace Go.Proofs.Ytbgccdjkofpiaaa
open Go.RowKit W
set_option linter.unusedVariables false
/-- A slope by parts that are below 2^20 does not stop. -/
theorem qD_small {x a b : Int} (hx : 0 ≤ x) (h1 : x ≤ 1048576) (ha : 0 ≤ a) (h2 : a < 1048576) (hb : 1 ≤ b) : qD x a b = x * a / b ∧ 0 ≤ x * a / b := by
  have p0 := Int.mul_nonneg hx ha
  have p1 : x * a ≤ 1048576 * 1048576 := Int.mul_le_mul h1 (by omega) ha (by omega)
  have q0 := Int.ediv_nonneg p0 (show 0 ≤ b by omega)
  have q1 : x * a / b ≤ x * a := Int.ediv_le_self _ p0
  unfold qD
  rw [if_neg (by omega), stp_lo (by omega)]
  exact ⟨rfl, q0⟩
theorem qD_self {x b : Int} (hx : 0 ≤ x) (h1 : x ≤ 1048576) (hb : 1 ≤ b) (h2 : b < 1048576) : qD x b b = x := by
  rw [(qD_small hx h1 (by omega) h2 hb).1, Int.mul_ediv_cancel _ (by omega)]
/-- By the same number up and down it is itself. -/
theorem sc_self {f l r b : Int} (hf : Word f) (hl : Word l) (hr : Word r) (hm : cMay f l r) (hb : 1 ≤ b) (h2 : b < 1048576) :
    scE f l r b b = 0 ∧ scF f l r b b = f ∧ scL f l r b b = l ∧ scR f l r b b = r := by
  obtain ⟨m1, m2, m3, m4⟩ := hm
  have e1 := qD_self hf.1 m1 hb h2
  have e2 := qD_self hr.1 m2 hb h2
  have t1 : tdF f l r = f := by unfold tdF; split <;> omega
  have t2 : tdL f l r = l := by unfold tdL; split <;> omega
  have hmb : mayB f l r = true := mayB_iff.2 ⟨m1, m2, m3, m4⟩
  have e : scE f l r b b = 0 := by
    unfold scE
    rw [e1, e2, t1, t2, if_pos hmb, if_neg (by omega), if_pos hmb]
  obtain ⟨g1, g2, g3⟩ := sc_ok e
  rw [g1, g2, g3, e1, e2, t1, t2]
  exact ⟨e, rfl, rfl, rfl⟩
/-- The one way in which it is told has the same. -/
theorem cW_told {p l q t : Int} (h0 : 0 ≤ t) (hl : 0 ≤ l) (hp : l = 0 → p = 0) : cW (tdF p l q) (tdL p l q) q t = cW p l q t := by
  unfold tdF tdL
  by_cases h : l = 0 ∨ p = q
  · rw [if_pos h, if_pos h]
    rcases h with h | h
    · rw [h, hp h]
    · rw [h, cW_straight h0, cW_same h0]
  · rw [if_neg h, if_neg h]
theorem cW_most {f l r t : Int} (hf : 0 ≤ f) (hr : 0 ≤ r) (hl : 0 ≤ l) (ht : 0 ≤ t) (h1 : f ≤ 1048576) (h2 : r ≤ 1048576) (h3 : t ≤ 1099511627776) : cW f l r t ≤ 1152921504606846976 := by
  have hg := (cW_grow (F := f) (L := l) hf hr (Int.le_refl 0) t.toNat).2
  rw [Int.toNat_of_nonneg ht, cW_zero hl, Int.zero_add, Int.zero_add] at hg
  have hs : cSt f l r ≤ 1048576 := by unfold cSt; split <;> omega
  have := Int.mul_le_mul hs h3 ht (by omega)
  omega
theorem CurveParts_walk (f l r a b t : Int) (hf : Word f) (hl : Word l) (hr : Word r) (ha : Word a) (hb : Word b) (ht : Word t) (w : World) :
    Calls Try.prog 9 #[.agg #[.int .u64 f, .int .u64 l, .int .u64 r], .int .u64 a, .int .u64 b, .int .u64 t] w fun e w' => e = .returned (.bool true) ∧ Below w.heap.size w w' := by
  have hM := fun w => may_any f l r w hf hl hr
  by_cases h : mayB f l r = true
  · have hm := mayB_iff.1 h
    rw [h] at hM
    by_cases h1 : 1048576 ≤ a
    · exact parts_a f l r a b t w awake_any hM (by simpa using h1)
    have k1 : decide (1048576 ≤ a) = false := by simpa using h1
    by_cases h2 : 1048576 ≤ b
    · exact parts_b f l r a b t w awake_any hM k1 (by simpa using h2)
    have k2 : decide (1048576 ≤ b) = false := by simpa using h2
    by_cases h3 : 1099511627776 ≤ t
    · exact parts_t f l r a b t w awake_any hM k1 k2 (by simpa using h3)
    have k3 : decide (1099511627776 ≤ t) = false := by simpa using h3
    have hS := fun w => scale_any f l r a b w hf hl hr ha hb
    have hc := sc_case f l r a b
    rw [h] at hc
    by_cases b0 : b = 0
    · have e : scE f l r a b = 2 := by
        rcases hc with ⟨g, _⟩ | ⟨_, _, g⟩ | ⟨_, g, _⟩ | ⟨_, g, _⟩
        · cases g
        · exact g
        · exact absurd b0 g
        · exact absurd b0 g
      obtain ⟨e1, e2, e3⟩ := sc_no (f := f) (l := l) (r := r) (a := a) (b := b) (by omega)
      rw [e, e1, e2, e3] at hS
      have hN : ∀ w, Calls Try.prog 16 #[.agg #[.int .u64 0, .int .u64 0, .int .u64 0]] w fun e w' => e = .returned (.bool true) ∧ Below w.heap.size w w' := fun w => by
        have := none_any 0 0 0 w
        rwa [show decide ((0 : Int) = 0 ∧ (0 : Int) = 0 ∧ (0 : Int) = 0) = true by decide] at this
      exact parts_zero f l r a b t w awake_any hM hS hN k1 k2 k3 (by simp [b0])
    · have kb : (b == 0) = false := by simp [b0]
      have b1 : 1 ≤ b := by unfold Word at hb; omega
      have hS2 := fun w => scale_any f l r b b w hf hl hr hb hb
      obtain ⟨s0, s1, s2, s3⟩ := sc_self hf hl hr hm b1 (by omega)
      rw [s0, s1, s2, s3] at hS2
      obtain ⟨m1, m2, m3, m4⟩ := hm
      obtain ⟨f1, f2⟩ := qD_small hf.1 m1 ha.1 (show a < 1048576 by omega) b1
      obtain ⟨r1, r2⟩ := qD_small hr.1 m2 ha.1 (show a < 1048576 by omega) b1
      have eb : qE b = 0 := if_neg b0
      rcases hc with ⟨g, _⟩ | ⟨_, g, _⟩ | ⟨_, _, g, e⟩ | ⟨_, _, g, e⟩
      · cases g
      · exact absurd g b0
      · obtain ⟨e1, e2, e3⟩ := sc_no (f := f) (l := l) (r := r) (a := a) (b := b) (by omega)
        rw [e, e1, e2, e3] at hS
        have hN : ∀ w, Calls Try.prog 16 #[.agg #[.int .u64 0, .int .u64 0, .int .u64 0]] w fun e w' => e = .returned (.bool true) ∧ Below w.heap.size w w' := fun w => by
          have := none_any 0 0 0 w
          rwa [show decide ((0 : Int) = 0 ∧ (0 : Int) = 0 ∧ (0 : Int) = 0) = true by decide] at this
        have hbad : 1048576 < f * a / b ∨ 1048576 < r * a / b := by
          have g' : ¬ cMay (tdF (qD f a b) l (qD r a b)) (tdL (qD f a b) l (qD r a b)) (qD r a b) := fun c => by rw [mayB_iff.2 c] at g; cases g
          rw [f1, r1] at g'
          apply Classical.byContradiction
          intro n
          apply g'
          have hl0 := hl.1
          unfold tdF tdL cMay
          split
          · exact ⟨by omega, by omega, by omega, .inl ⟨rfl, rfl⟩⟩
          · exact ⟨by omega, by omega, by omega, .inr ⟨by omega, by omega⟩⟩
        have mono : ∀ {x y : Int}, x ≤ y → x * a / b ≤ y * a / b := fun hxy => Int.ediv_le_ediv (by omega) (Int.mul_le_mul_of_nonneg_right hxy ha.1)
        rcases Int.lt_or_le r f with k | k
        · have hD := fun w => Down_any f a b w hf ha hb
          rw [eb] at hD
          have := mono (show r ≤ f by omega)
          exact parts_bad_f f l r a b t _ w awake_any hM hS hS2 hD hN k1 k2 k3 kb (by simp; omega) (by omega) (by omega)
        · have hD := fun w => Down_any r a b w hr ha hb
          rw [eb] at hD
          have := mono k
          exact parts_bad_r f l r a b t _ w awake_any hM hS hS2 hD hN k1 k2 k3 kb (by simp; omega) (by omega) (by omega)
      · obtain ⟨e1, e2, e3⟩ := sc_ok e
        rw [e, e1, e2, e3] at hS
        unfold Word at ht
        have hN := fun w => may_any (tdF (qD f a b) l (qD r a b)) (tdL (qD f a b) l (qD r a b)) (qD r a b) w (tdF_w (qD_w hf ha hb)) (tdL_w hl) (qD_w hr ha hb)
        rw [g] at hN
        have hmd := mayB_iff.1 g
        have h1' := fun w => At_any (tdF (qD f a b) l (qD r a b)) (tdL (qD f a b) l (qD r a b)) (qD r a b) t w (tdF_w (qD_w hf ha hb)) (tdL_w hl) (qD_w hr ha hb) ht
        have h2' := fun w => At_any f l r t w hf hl hr ht
        have wk : Word (cAt f l r t) := stp_word (cW_nn hf.1 hr.1 hl.1 ht.1)
        have h3' := fun w => Down_any (cAt f l r t) a b w wk ha hb
        rw [eb] at h3'
        have wd : Word (cAt (tdF (qD f a b) l (qD r a b)) (tdL (qD f a b) l (qD r a b)) (qD r a b) t) := stp_word (cW_nn (tdF_w (qD_w hf ha hb)).1 (qD_w hr ha hb).1 (tdL_w hl).1 ht.1)
        have h5' := fun w => rPlus'_any t 1 w ht ⟨by omega, by omega⟩
        have wp : Word (rP t 1) := rP_word ht ⟨by omega, by omega⟩
        have h6' := fun w => rPlus'_any (cAt (tdF (qD f a b) l (qD r a b)) (tdL (qD f a b) l (qD r a b)) (qD r a b) t) (rP t 1) w wd wp
        -- what both have, in plain numbers
        have d1 := cAt_small (t := t) (tdF_w (l := l) (r := qD r a b) (qD_w hf ha hb)).1 (qD_w hr ha hb).1 (tdL_w (f := qD f a b) (r := qD r a b) hl).1 ht.1 hmd (by omega)
        have d2 := cAt_small (F := f) (L := l) (R := r) (t := t) hf.1 hr.1 hl.1 ht.1 ⟨m1, m2, m3, m4⟩ (by omega)
        have d3 := cW_told (p := qD f a b) (l := l) (q := qD r a b) ht.1 hl.1 (fun e => by
          have : f = 0 := by omega
          rw [f1, this]; simp)
        have d4 := cW_most (tdF_w (l := l) (r := qD r a b) (qD_w hf ha hb)).1 (qD_w hr ha hb).1 (tdL_w (f := qD f a b) (r := qD r a b) hl).1 ht.1 hmd.1 hmd.2.1 (show t ≤ 1099511627776 by omega)
        have d5 := cW_parts (F := f) (L := l) (R := r) (a := a) (b := b) hl.1 (by omega) t.toNat
        rw [Int.toNat_of_nonneg ht.1, ← f1, ← r1, ← d3] at d5
        have d6 : qD (cW f l r t) a b = cW f l r t * a / b := by unfold qD; rw [if_neg b0, stp_lo (by omega)]
        have d7 := cW_nn (tdF_w (l := l) (r := qD r a b) (qD_w hf ha hb)).1 (qD_w hr ha hb).1 (tdL_w (f := qD f a b) (r := qD r a b) hl).1 ht.1
        have d8 : rP (cW (tdF (qD f a b) l (qD r a b)) (tdL (qD f a b) l (qD r a b)) (qD r a b) t) (rP t 1) = cW (tdF (qD f a b) l (qD r a b)) (tdL (qD f a b) l (qD r a b)) (qD r a b) t + (t + 1) := by
          unfold rP; rw [stp_lo (x := t + 1) (by omega), stp_lo (by omega)]
        exact parts_ok f l r a b t _ _ _ _ _ _ _ _ w awake_any hM hS hS2 h1' h2' h3' hN h5' h6' k1 k2 k3 kb (by rw [d1, d2, d6]; simp; omega) (by rw [d1, d2, d6, d8]; simp; omega)
  · rw [show mayB f l r = false by simpa using h] at hM
    exact parts_no f l r a b t w awake_any hM
end Go.Proofs.Ytbgccdjkofpiaaa
