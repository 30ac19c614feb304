/- The walk of WideDistributes: every case. No condition but that words are words. -/
import Derived.Test.YtdnljjpfmnfdoaaDistWalk
namespace Go.Proofs.Ytdnljjpfmnfdoaa.wideDistributes
open Go.RowKit W
set_option linter.unusedVariables false

theorem p_congr {a b c d a' b' c' d' : Int} (h : V a' b' + V c' d' = V a b + V c d) : pE a' b' c' d' = pE a b c d ∧ pH a' b' c' d' = pH a b c d ∧ pL a' b' c' d' = pL a b c d := by
  unfold pE pH pL
  rw [h]
  exact ⟨rfl, rfl, rfl⟩
theorem p_word {a b c d : Int} (ha : Word a) (hb : Word b) (hc : Word c) (hd : Word d) : Word (pH a b c d) ∧ Word (pL a b c d) := by
  unfold Word at *
  unfold pH pL V
  split <;> exact ⟨⟨by omega, by omega⟩, by omega, by omega⟩
theorem p_V {a b c d : Int} (h : V a b + V c d < 340282366920938463463374607431768211456) : pE a b c d = 0 ∧ V (pH a b c d) (pL a b c d) = V a b + V c d := by
  unfold pE pH pL
  rw [if_pos h, if_pos h, if_pos h]
  refine ⟨rfl, ?_⟩
  generalize V a b + V c d = t
  unfold V; omega
theorem cmp_ge {a b c d : Int} (h : V c d ≤ V a b) : 0 ≤ cmpW a b c d := by
  rcases Int.lt_or_eq_of_le h with h | h
  · rw [cmpW_gt h]; omega
  · rw [cmpW_eq h]; omega

theorem hyps {wh wl xh xl : Int} (h1 : Word wh) (h2 : Word wl) (h3 : Word xh) (h4 : Word xl) :
    (pE wh wl xh xl = 10 ∧ pH wh wl xh xl = 0 ∧ pL wh wl xh xl = 0 ∧ Cm wh wl 0 0 1 ∧ Cm xh xl 0 0 1) ∨
    (pE wh wl xh xl = 0 ∧ Mi (pH wh wl xh xl) (pL wh wl xh xl) xh xl wh wl 0 ∧ Mi (pH wh wl xh xl) (pL wh wl xh xl) wh wl xh xl 0 ∧ Cm (pH wh wl xh xl) (pL wh wl xh xl) wh wl (cmpW (pH wh wl xh xl) (pL wh wl xh xl) wh wl) ∧
      Cm (pH wh wl xh xl) (pL wh wl xh xl) xh xl (cmpW (pH wh wl xh xl) (pL wh wl xh xl) xh xl) ∧ 0 ≤ cmpW (pH wh wl xh xl) (pL wh wl xh xl) wh wl ∧ 0 ≤ cmpW (pH wh wl xh xl) (pL wh wl xh xl) xh xl) := by
  have z : Word 0 := ⟨by omega, by omega⟩
  by_cases h : V wh wl + V xh xl < 340282366920938463463374607431768211456
  · obtain ⟨e, hV⟩ := p_V h
    obtain ⟨k1, k2⟩ := p_word h1 h2 h3 h4
    have v1 : 0 ≤ V wh wl := by unfold Word at h1 h2; unfold V; omega
    have v2 : 0 ≤ V xh xl := by unfold Word at h3 h4; unfold V; omega
    refine .inr ⟨e, fun w => ?_, fun w => ?_, fun w => Cmp_any _ _ _ _ w k2 h2, fun w => Cmp_any _ _ _ _ w k2 h4, cmp_ge (by omega), cmp_ge (by omega)⟩
    · have := Minus_any _ _ _ _ w k1 k2 h3 h4
      obtain ⟨e1, e2, e3⟩ := @mOk (pH wh wl xh xl) (pL wh wl xh xl) xh xl wh wl (by omega) h2 h1
      rwa [e1, e2, e3] at this
    · have := Minus_any _ _ _ _ w k1 k2 h1 h2
      obtain ⟨e1, e2, e3⟩ := @mOk (pH wh wl xh xl) (pL wh wl xh xl) wh wl xh xl (by omega) h4 h3
      rwa [e1, e2, e3] at this
  · obtain ⟨e1, e2, e3⟩ := @pNo wh wl xh xl (by omega)
    have v1 : V wh wl < 340282366920938463463374607431768211456 := by unfold Word at h1 h2; unfold V; omega
    have v2 : V xh xl < 340282366920938463463374607431768211456 := by unfold Word at h3 h4; unfold V; omega
    have v0 : V 0 0 = 0 := rfl
    refine .inl ⟨e1, e2, e3, fun w => ?_, fun w => ?_⟩
    · have := Cmp_any wh wl 0 0 w h2 z
      rwa [cmpW_gt (by omega)] at this
    · have := Cmp_any xh xl 0 0 w h4 z
      rwa [cmpW_gt (by omega)] at this

theorem walk (a b c wh wl xh xl : Int) (ha : Word a) (hb : Word b) (hc : Word c) (h1 : Word wh) (h2 : Word wl) (h3 : Word xh) (h4 : Word xl) (w : World) :
    Calls Try.prog 5 #[.int .u64 a, .int .u64 b, .int .u64 c, .agg #[.int .u64 wh, .int .u64 wl], .agg #[.int .u64 xh, .int .u64 xl]] w fun e w' => e = .returned (.bool true) ∧ Below w.heap.size w w' := by
  have z : Word 0 := ⟨by omega, by omega⟩
  have hg := Lib.hid (hyps h1 h2 h3 h4)
  have M1 : Mu a c _ _ := fun w => Mul_any a c w ha hc
  have M2 : Mu b c _ _ := fun w => Mul_any b c w hb hc
  have P1 : Pl _ _ _ _ _ _ _ := fun w => Plus_any (xH a c) (xL a c) (xH b c) (xL b c) w (xH_word ha hc) (xL_word _ _) (xH_word hb hc) (xL_word _ _)
  have M4 : Mu c a (xH a c) (xL a c) := fun w => by
    have := Mul_any c a w hc ha
    rwa [show xH c a = xH a c by unfold xH; rw [Int.mul_comm], show xL c a = xL a c by unfold xL; rw [Int.mul_comm]] at this
  have M5 : Mu a 1 0 a := fun w => by
    have := Mul_any a 1 w ha ⟨by omega, by omega⟩
    have ha' := ha
    unfold Word at ha'
    rwa [show xH a 1 = 0 by unfold xH; omega, show xL a 1 = a by unfold xL; omega] at this
  have M6 : Mu a 0 0 0 := fun w => by
    have := Mul_any a 0 w ha z
    rwa [show xH a 0 = 0 by unfold xH; omega, show xL a 0 = 0 by unfold xL; omega] at this
  have P3 : Pl wh wl xh xl _ _ _ := fun w => Plus_any wh wl xh xl w h1 h2 h3 h4
  by_cases k : a + b < 18446744073709551616
  · have hs : Word (a + b) := by unfold Word at *; omega
    have M3 : Mu (a + b) c _ _ := fun w => Mul_any (a + b) c w hs hc
    have P2 : Pl (xH (a + b) c) (xL (a + b) c) 0 0 (pH (xH a c) (xL a c) (xH b c) (xL b c)) (pL (xH a c) (xL a c) (xH b c) (xL b c)) (pE (xH a c) (xL a c) (xH b c) (xL b c)) := fun w => by
      have := Plus_any (xH (a + b) c) (xL (a + b) c) 0 0 w (xH_word hs hc) (xL_word _ _) z z
      obtain ⟨e1, e2, e3⟩ := @p_congr (xH a c) (xL a c) (xH b c) (xL b c) (xH (a + b) c) (xL (a + b) c) 0 0 (by rw [V_x, V_x, V_x, Int.add_mul]; unfold V; omega)
      rwa [e1, e2, e3] at this
    unfold Word at ha hb hc hs
    exact no a b c (a + b) wh wl xh xl _ _ _ _ _ _ _ _ _ _ _ _ _ _ w ha.1 (by omega) hb.1 (by omega) hc.1 (by omega) hs.1 (by omega) (IntWalk.u64_in _ (by omega)) (by omega) M1 M2 P1 M3 P2 M4 M5 M6 P3 hg
  · have hs : Word (a + b - 18446744073709551616) := by unfold Word at *; omega
    have M3 : Mu (a + b - 18446744073709551616) c _ _ := fun w => Mul_any (a + b - 18446744073709551616) c w hs hc
    have P2 : Pl (xH (a + b - 18446744073709551616) c) (xL (a + b - 18446744073709551616) c) c 0 (pH (xH a c) (xL a c) (xH b c) (xL b c)) (pL (xH a c) (xL a c) (xH b c) (xL b c)) (pE (xH a c) (xL a c) (xH b c) (xL b c)) := fun w => by
      have := Plus_any (xH (a + b - 18446744073709551616) c) (xL (a + b - 18446744073709551616) c) c 0 w (xH_word hs hc) (xL_word _ _) hc z
      obtain ⟨e1, e2, e3⟩ := @p_congr (xH a c) (xL a c) (xH b c) (xL b c) (xH (a + b - 18446744073709551616) c) (xL (a + b - 18446744073709551616) c) c 0 (by rw [V_x, V_x, V_x, Int.sub_mul, Int.add_mul]; unfold V; omega)
      rwa [e1, e2, e3] at this
    unfold Word at ha hb hc hs
    exact yes a b c (a + b - 18446744073709551616) wh wl xh xl _ _ _ _ _ _ _ _ _ _ _ _ _ _ w ha.1 (by omega) hb.1 (by omega) hc.1 (by omega) hs.1 (by omega) (by rw [IntKind.wrap_u64]; omega) (by omega) M1 M2 P1 M3 P2 M4 M5 M6 P3 hg
end Go.Proofs.Ytdnljjpfmnfdoaa.wideDistributes
