/- What a packet's own calls answer: whether it may be, its grains, the ticks that it takes, which one came earlier. No condition but that the numbers are what the fields can hold. -/
import Derived.Test.YtdmgalcfgignpaaDoorGA
import Derived.Test.YtdmgalcfgignpaaDoorPkM
namespace Go.Proofs.YtdmgalcfgignpaaDoor
open Go.RowKit W
set_option linter.unusedVariables false
theorem ups {B : Nat} {W w w' : World} (h : Below B W w) (k : Below w.heap.size w w') (hB : B ≤ w.heap.size) : Below B W w' := h.trans (k.mono hB)

/-- Which one came earlier. -/
def bef (i t j u : Int) : Bool := if t = u then decide (i < j) else decide (t < u)
theorem bef_eq {i t j u : Int} (h : t = u) : bef i t j u = decide (i < j) := by unfold bef; rw [if_pos h]
theorem bef_ne {i t j u : Int} (h : t ≠ u) : bef i t j u = decide (t < u) := by unfold bef; rw [if_neg h]
theorem Before_any (i c l t j d m u : Int) (w : World) :
    Calls Tryd.prog 20 #[.agg #[.int .u64 i, .int .i64 c, .int .i64 l, .int .u64 t], .agg #[.int .u64 j, .int .i64 d, .int .i64 m, .int .u64 u]] w fun e w' => e = .returned (.bool (bef i t j u)) ∧ Below w.heap.size w w' := by
  by_cases h : t = u
  · rw [bef_eq h]
    subst h
    go_enter Tryd.func20, Tryd.ntmps20
    go_wp2
    all_goals (go_ret; exact ⟨by simp_all, up2 _ _ _⟩)
  · rw [bef_ne h]
    go_enter Tryd.func20, Tryd.ntmps20
    go_wp2
    all_goals (go_ret; exact ⟨by simp_all, up2 _ _ _⟩)

/-- Whether it may be. -/
def mayN (l m : Int) : Int := if m < 1 ∨ 65535 < m then 2 else if l < 1 ∨ m < l then 100 else 0
theorem mayN_arg {l m : Int} (h : m < 1 ∨ 65535 < m) : mayN l m = 2 := by unfold mayN; rw [if_pos h]
theorem mayN_len {l m : Int} (h : ¬ (m < 1 ∨ 65535 < m)) (h2 : l < 1 ∨ m < l) : mayN l m = 100 := by unfold mayN; rw [if_neg h, if_pos h2]
theorem mayN_ok {l m : Int} (h : ¬ (m < 1 ∨ 65535 < m)) (h2 : ¬ (l < 1 ∨ m < l)) : mayN l m = 0 := by unfold mayN; rw [if_neg h, if_neg h2]
theorem May_any (i c l t m : Int) (w : World) :
    Calls Tryd.prog 13 #[.agg #[.int .u64 i, .int .i64 c, .int .i64 l, .int .u64 t], .int .i64 m] w fun e w' => e = .returned (.int .i64 (mayN l m)) ∧ Below w.heap.size w w' := by
  go_enter Tryd.func13, Tryd.ntmps13
  go_wp2
  all_goals (go_ret; refine ⟨?_, up1 _ _⟩)
  all_goals (first
    | (rw [mayN_arg (by omega)]; rfl)
    | (rw [mayN_len (by omega) (by omega)]; rfl)
    | (rw [mayN_ok (by omega) (by omega)]; rfl))

/-- Its grains, stopped. -/
def grN (l : Int) : Int := if l < 1 then 0 else if 18014398509481984 ≤ l then 4611686018427387904 else l * 256
theorem grN_no {l : Int} (h : l < 1) : grN l = 0 := by unfold grN; rw [if_pos h]
theorem grN_stop {l : Int} (h : 18014398509481984 ≤ l) : grN l = 4611686018427387904 := by unfold grN; rw [if_neg (by omega), if_pos h]
theorem grN_some {l : Int} (h : ¬ l < 1) (h2 : ¬ 18014398509481984 ≤ l) : grN l = l * 256 := by unfold grN; rw [if_neg h, if_neg h2]
theorem grN_lo (l : Int) : 0 ≤ grN l := by unfold grN; split <;> (try split) <;> omega
theorem grN_hi (l : Int) : grN l ≤ 4611686018427387904 := by unfold grN; split <;> (try split) <;> omega
theorem grN_word (l : Int) : Word (grN l) := by have := grN_lo l; have := grN_hi l; unfold Word; omega
theorem Grains_any (i c l t : Int) (w : World) (hl : -9223372036854775808 ≤ l ∧ l < 9223372036854775808) :
    Calls Tryd.prog 14 #[.agg #[.int .u64 i, .int .i64 c, .int .i64 l, .int .u64 t]] w fun e w' => e = .returned (.int .u64 (grN l)) ∧ Below w.heap.size w w' := by
  by_cases h : l < 1
  · rw [grN_no h]
    have e1 : max l 0 = 0 := by omega
    go_enter Tryd.func14, Tryd.ntmps14
    go_wp2
    all_goals (go_ret; exact ⟨by first | rfl | (show Ending.returned (Value.int .u64 (l * 256)) = _; exact congrArg (fun x => Ending.returned (Value.int .u64 x)) (by omega)), up1 _ _⟩)
  · have e1 : max l 0 = l := by omega
    have e2 : IntKind.u64.wrap l = l := by rw [IntKind.wrap_u64]; omega
    by_cases h2 : 18014398509481984 ≤ l
    · rw [grN_stop h2]
      have e3 : min l 18014398509481984 = 18014398509481984 := by omega
      go_enter Tryd.func14, Tryd.ntmps14
      go_wp2
      all_goals (go_ret; exact ⟨by first | rfl | (show Ending.returned (Value.int .u64 (l * 256)) = _; exact congrArg (fun x => Ending.returned (Value.int .u64 x)) (by omega)), up1 _ _⟩)
    · rw [grN_some h h2]
      have e3 : min l 18014398509481984 = l := by omega
      have e4 : IntKind.u64.wrap (l * 256) = l * 256 := by rw [IntKind.wrap_u64]; omega
      go_enter Tryd.func14, Tryd.ntmps14
      go_wp2
      all_goals (go_ret; exact ⟨by first | rfl | (show Ending.returned (Value.int .u64 (l * 256)) = _; exact congrArg (fun x => Ending.returned (Value.int .u64 x)) (by omega)), up1 _ _⟩)

/-- The ticks that it takes. -/
def tkN (l r : Int) : Int := if grN l = 0 then 0 else if r = 0 then 9223372036854775808 else (grN l - 1) / r + 1
theorem Ticks_any (i c l t r : Int) (w : World) (hl : -9223372036854775808 ≤ l ∧ l < 9223372036854775808) (hr : Word r) :
    Calls Tryd.prog 15 #[.agg #[.int .u64 i, .int .i64 c, .int .i64 l, .int .u64 t], .int .u64 r] w fun e w' => e = .returned (.int .u64 (tkN l r)) ∧ Below w.heap.size w w' := by
  have hG := fun w => Grains_any i c l t w hl
  have g0 := grN_lo l
  have g1 := grN_hi l
  unfold tkN
  generalize grN l = g at hG g0 g1 ⊢
  by_cases hg : g = 0
  · rw [if_pos hg]
    subst hg
    go_enter Tryd.func15, Tryd.ntmps15
    go_wp2_with (go_at_call 14; (with_reducible refine (hG _).mono ?_); rintro e w1 ⟨rfl, hb1⟩)
    go_ret
    exact ⟨rfl, ups (up1 _ _) hb1 (up1 _ _).size⟩
  · rw [if_neg hg]
    by_cases h0 : r = 0
    · rw [if_pos h0]
      subst h0
      have hg' : (g == 0) = false := beq_eq_false_iff_ne.2 hg
      go_enter Tryd.func15, Tryd.ntmps15
      go_wp2_with (go_at_call 14; (with_reducible refine (hG _).mono ?_); rintro e w1 ⟨rfl, hb1⟩)
      go_ret
      exact ⟨rfl, ups (up1 _ _) hb1 (up1 _ _).size⟩
    · rw [if_neg h0]
      have hg' : (g == 0) = false := beq_eq_false_iff_ne.2 hg
      have h0' : (r == 0) = false := beq_eq_false_iff_ne.2 h0
      have r1 : 1 ≤ r := by have := hr.1; omega
      have d0 : 0 ≤ (g - 1) / r := Int.ediv_nonneg (by omega) (by omega)
      have d1 : (g - 1) / r ≤ g - 1 := Int.ediv_le_self _ (by omega)
      have e1 : IntKind.u64.wrap (g - 1) = g - 1 := by rw [IntKind.wrap_u64]; omega
      have e2 : IntKind.u64.wrap ((g - 1) / r) = (g - 1) / r := by rw [IntKind.wrap_u64]; omega
      have e3 : IntKind.u64.wrap ((g - 1) / r + 1) = (g - 1) / r + 1 := by rw [IntKind.wrap_u64]; omega
      have e4 : (g - 1).tdiv r = (g - 1) / r := Int.tdiv_eq_ediv_of_nonneg (by omega)
      go_enter Tryd.func15, Tryd.ntmps15
      go_wp2_with (go_at_call 14; (with_reducible refine (hG _).mono ?_); rintro e w1 ⟨rfl, hb1⟩)
      go_ret
      exact ⟨rfl, ups (up1 _ _) hb1 (up1 _ _).size⟩
end Go.Proofs.YtdmgalcfgignpaaDoor
