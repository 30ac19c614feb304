/- What the document's own Down and Up answer. No condition but that words are words. -/
import Derived.Test.YtbgccdjkofpiaaaRefA
import Derived.Test.YtbgccdjkofpiaaaOwn
namespace Go.Proofs.Ytbgccdjkofpiaaa
open Go.RowKit W
set_option linter.unusedVariables false
namespace W
theorem ceil_some {x c : Int} (c0 : 1 ≤ c) (h : 0 < x % c) : (x + (c - 1)) / c = x / c + 1 := by
  have e := Int.mul_ediv_add_emod x c
  have m := Int.emod_lt_of_pos x (show 0 < c by omega)
  have e2 : x + (c - 1) = (x % c - 1) + c * (x / c + 1) := by rw [Int.mul_add]; omega
  rw [e2, Int.add_mul_ediv_left _ _ (by omega), Int.ediv_eq_zero_of_lt (by omega) (by omega)]
  omega
theorem ceil_none {x c : Int} (c0 : 1 ≤ c) (h : x % c = 0) : (x + (c - 1)) / c = x / c := by
  have e := Int.mul_ediv_add_emod x c
  have e2 : x + (c - 1) = (c - 1) + c * (x / c) := by omega
  rw [e2, Int.add_mul_ediv_left _ _ (by omega), Int.ediv_eq_zero_of_lt (by omega) (by omega)]
  omega
theorem two_steps {h l c : Int} (c0 : 1 ≤ c) : V (h / c) (V (h % c) l / c) = V h l / c ∧ V (h % c) l % c = V h l % c := by
  have e := Int.mul_ediv_add_emod h c
  have e2 : V h l = V (h % c) l + c * (h / c * 18446744073709551616) := by
    have : c * (h / c * 18446744073709551616) = c * (h / c) * 18446744073709551616 := by rw [Int.mul_assoc]
    unfold V; omega
  refine ⟨?_, ?_⟩
  · rw [e2, Int.add_mul_ediv_left _ _ (by omega)]
    generalize V (h % c) l / c = y
    unfold V; omega
  · rw [e2, Int.add_mul_emod_self_left]
end W
theorem kquot_of (a b c ph pl h r l f : Int) (w : World)
    (hM : ∀ w, Calls Try.prog 49 #[.int .u64 a, .int .u64 b] w fun e w' => e = .returned (.agg #[.int .u64 ph, .int .u64 pl]) ∧ Below w.heap.size w w')
    (h1 : ∀ w, Calls Try.prog 58 #[.agg #[.int .u64 0, .int .u64 ph], .int .u64 c] w fun e w' => e = .returned (.tuple #[.int .u64 h, .int .u64 r, .int .i64 0]) ∧ Below w.heap.size w w')
    (h2 : ∀ w, Calls Try.prog 58 #[.agg #[.int .u64 r, .int .u64 pl], .int .u64 c] w fun e w' => e = .returned (.tuple #[.int .u64 l, .int .u64 f, .int .i64 0]) ∧ Below w.heap.size w w') :
    Calls Try.prog 46 #[.int .u64 a, .int .u64 b, .int .u64 c] w fun e w' => e = .returned (.tuple #[.agg #[.int .u64 h, .int .u64 l], .bool (decide (0 < f))]) ∧ Below w.heap.size w w' := by
  have T := up1 w (.cells #[.int .u64 0, .int .u64 0] 54)
  have HR := Own.new w 0 0
  go_enter Try.func46, Try.ntmps46
  go_wp2_with (first
    | (go_at_call 49; (with_reducible refine (hM _).mono ?_); rintro e w1 ⟨rfl, hb⟩; replace HR := HR.below hb; replace T := up T hb T.size; replace HR := HR.alloc (.cells #[.int .u64 ph, .int .u64 pl] 54); have hR := T.size; replace T := T.alloc T.size (.cells #[.int .u64 ph, .int .u64 pl] 54); have HP := Has.new w1 ph pl; obtain ⟨⟨xR, yR, zR⟩, fR, gR⟩ := id HR; obtain ⟨xP, yP, zP⟩ := id HP; clear hb)
    | (go_at_call 58; (with_reducible refine (h1 _).mono ?_); rintro e w2 ⟨rfl, hb⟩; replace HR := HR.below hb; replace T := up T hb T.size; replace HP := HP.below hb; obtain ⟨⟨xR, yR, zR⟩, fR, gR⟩ := id HR; obtain ⟨xP, yP, zP⟩ := id HP; clear hb)
    | (go_at_call 58; (with_reducible refine (h2 _).mono ?_); rintro e w3 ⟨rfl, hb⟩; replace HR := HR.below hb; replace T := up T hb T.size; replace HP := HP.below hb; obtain ⟨⟨xR, yR, zR⟩, fR, gR⟩ := id HR; obtain ⟨xP, yP, zP⟩ := id HP; clear hb))
  exact bodyPost_ret (v := .tuple #[.agg #[.int .u64 h, .int .u64 l], .bool (decide (0 < f))]) (by simp [results, Try.results46, go_sem, yR, zR]) rfl ⟨rfl, (T.setCell (Nat.le_refl _) _).setCell (Nat.le_refl _) _⟩
theorem kquot_any (a b c : Int) (w : World) (ha : Word a) (hb : Word b) (hc : Word c) (c0 : 1 ≤ c) :
    Calls Try.prog 46 #[.int .u64 a, .int .u64 b, .int .u64 c] w fun e w' => e = .returned (.tuple #[.agg #[.int .u64 (xH a b / c), .int .u64 (V (xH a b % c) (xL a b) / c)], .bool (decide (0 < a * b % c))]) ∧ Below w.heap.size w w' := by
  have hh := xH_word ha hb
  have hl := xL_word a b
  have z : c ≠ 0 := by omega
  have e1 : dQ 0 (xH a b) c = xH a b / c ∧ dR 0 (xH a b) c = xH a b % c ∧ dE 0 c = 0 := by
    obtain ⟨d1, d2, d3⟩ := d_ok (h := 0) (l := xH a b) z (by omega)
    have : V 0 (xH a b) = xH a b := by unfold V; omega
    rw [this] at d1 d2
    exact ⟨by assumption, by assumption, by assumption⟩
  have m0 := Int.emod_nonneg (xH a b) z
  have m1 := Int.emod_lt_of_pos (xH a b) (show 0 < c by omega)
  have hr : Word (xH a b % c) := by unfold Word at hc ⊢; omega
  have e2 := d_ok (h := xH a b % c) (l := xL a b) z m1
  have D1 := fun w => rDiv_any 0 (xH a b) c w ⟨by omega, by omega⟩ hh hc
  have D2 := fun w => rDiv_any (xH a b % c) (xL a b) c w hr hl hc
  rw [e1.1, e1.2.1, e1.2.2] at D1
  obtain ⟨d1, d2, d3⟩ := e2
  rw [d1, d2, d3] at D2
  have e3 := (two_steps (h := xH a b) (l := xL a b) c0).2
  rw [V_x] at e3
  rw [e3] at D2
  exact kquot_of a b c _ _ _ _ _ _ w (fun w => rMul_any a b w ha hb) D1 D2
theorem kDown_any (a b c : Int) (w : World) (ha : Word a) (hb : Word b) (hc : Word c) :
    Calls Try.prog 32 #[.int .u64 a, .int .u64 b, .int .u64 c] w fun e w' => e = .returned (.tuple #[.int .u64 (qD a b c), .int .i64 (qE c)]) ∧ Below w.heap.size w w' := by
  by_cases z : c = 0
  · subst z
    have e1 : qD a b 0 = 0 := rfl
    have e2 : qE 0 = 2 := rfl
    rw [e1, e2]
    go_enter Try.func32, Try.ntmps32
    go_wp2
    go_ret2
    exact ⟨rfl, Below.refl _ _⟩
  · have c0 : 1 ≤ c := by unfold Word at hc; omega
    have e1 : qD a b c = stp (a * b / c) := by unfold qD; rw [if_neg z]
    have e2 : qE c = 0 := by unfold qE; rw [if_neg z]
    rw [e1, e2]
    have hz : (c == 0) = false := by simp; omega
    have hQ := fun w => kquot_any a b c w ha hb hc c0
    have e3 := (two_steps (h := xH a b) (l := xL a b) c0).1
    rw [V_x] at e3
    have hh := xH_word ha hb
    have w1 : Word (xH a b / c) := ⟨Int.ediv_nonneg hh.1 (by omega), Int.lt_of_le_of_lt (Int.ediv_le_self _ hh.1) hh.2⟩
    have w2 : Word (V (xH a b % c) (xL a b) / c) := by
      have m0 := Int.emod_nonneg (xH a b) z
      have m1 := Int.emod_lt_of_pos (xH a b) (show 0 < c by omega)
      have hl := xL_word a b
      unfold Word at hl hc ⊢
      refine ⟨Int.ediv_nonneg (by unfold V; omega) (by omega), ?_⟩
      apply Int.ediv_lt_of_lt_mul (by omega)
      have := Int.mul_le_mul_of_nonneg_left (show xH a b % c + 1 ≤ c by omega) (show (0 : Int) ≤ 18446744073709551616 by omega)
      unfold V; omega
    have hS := fun w => rStop_any _ _ w w1 w2
    rw [e3] at hS
    obtain ⟨x, ex⟩ : ∃ x, xH a b / c = x := ⟨_, rfl⟩
    obtain ⟨y, ey⟩ : ∃ y, V (xH a b % c) (xL a b) / c = y := ⟨_, rfl⟩
    obtain ⟨s, es⟩ : ∃ s, stp (a * b / c) = s := ⟨_, rfl⟩
    obtain ⟨m, em⟩ : ∃ m, decide (0 < a * b % c) = m := ⟨_, rfl⟩
    rw [ex, ey] at hQ hS
    rw [em] at hQ
    rw [es] at hS ⊢
    clear ex ey es em e1 e2 e3 w1 w2 hh
    go_enter Try.func32, Try.ntmps32
    go_wp2_with (first
      | (go_at_call 46; (with_reducible refine (hQ _).mono ?_); rintro e w1 ⟨rfl, hb1⟩)
      | (go_at_call 37; (with_reducible refine (hS _).mono ?_); rintro e w2 ⟨rfl, hb2⟩))
    have t1 := hb1.alloc hb1.size (.cells #[.int .u64 x, .int .u64 y] 54)
    go_ret2
    exact ⟨rfl, up t1 hb2 t1.size⟩
end Go.Proofs.Ytbgccdjkofpiaaa
