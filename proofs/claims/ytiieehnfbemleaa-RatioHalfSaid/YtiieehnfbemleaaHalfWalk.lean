/- The walk of RatioHalf. No condition but that words are words. -/
import Derived.Test.YtiieehnfbemleaaAwakeB
namespace Go.Proofs.Ytiieehnfbemleaa
open Go.RowKit W
set_option linter.unusedVariables false
namespace W
theorem rH_comm (a b : Int) : rH b a = rH a b := by
  unfold rH
  split <;> split <;> omega
theorem rH_lt {a b : Int} (h : a < b) : a ≤ rH a b ∧ rH a b ≤ b ∧ (b - rH a b = rH a b - a ∨ b - rH a b = rH a b - a + 1) := by
  unfold rH; rw [if_pos (by omega)]; omega
theorem rH_gt {a b : Int} (h : b < a) : b ≤ rH a b ∧ rH a b ≤ a ∧ (a - rH a b = rH a b - b ∨ a - rH a b = rH a b - b + 1) := by
  unfold rH; rw [if_neg (by omega)]; omega
theorem rH_eq (a : Int) : rH a a = a := by unfold rH; rw [if_pos (by omega)]; omega
end W

set_option maxRecDepth 100000 in
set_option maxHeartbeats 1000000 in
theorem half_up1 (a b h q r mh ml : Int) (w : World) (ha : 0 ≤ a ∧ a < 18446744073709551616) (hb : 0 ≤ b ∧ b < 18446744073709551616) (H1 : ∀ w, Calls Try.prog 22 #[.int .u64 a, .int .u64 b] w fun e w' => e = .returned (.int .u64 h) ∧ Below w.heap.size w w') (H2 : ∀ w, Calls Try.prog 22 #[.int .u64 b, .int .u64 a] w fun e w' => e = .returned (.int .u64 h) ∧ Below w.heap.size w w') (O : ∀ w, Calls Try.prog 14 #[.int .u64 a, .int .u64 b] w fun e w' => e = .returned (.tuple #[.int .u64 q, .int .u64 r, .int .i64 0]) ∧ Below w.heap.size w w') (M : ∀ w, Calls Try.prog 29 #[.int .u64 q, .int .u64 b] w fun e w' => e = .returned (.agg #[.int .u64 mh, .int .u64 ml]) ∧ Below w.heap.size w w') (P : ∀ w, Calls Try.prog 13 #[.agg #[.int .u64 mh, .int .u64 ml], .agg #[.int .u64 0, .int .u64 r]] w fun e w' => e = .returned (.tuple #[.agg #[.int .u64 0, .int .u64 a], .int .i64 0]) ∧ Below w.heap.size w w') (hr : r < b) (hlt : a < b) (h0 : a ≤ h) (h1 : h ≤ b) (h2 : b - h = h - a ∨ b - h = h - a + 1) (b0 : 0 < b) :
    Calls Try.prog 10 #[.int .u64 a, .int .u64 b] w fun e w' => e = .returned (.bool true) ∧ Below w.heap.size w w' := by
  have hA := awakeB_any
  have T := Below.refl w.heap.size w
  obtain ⟨a0, a1⟩ := ha
  obtain ⟨c0, c1⟩ := hb
  have m1 : min a b = a := by omega
  have m2 : max a b = b := by omega
  have hz : (b == 0) = false := by simp; omega
  rcases h2 with h2 | h2
  all_goals
    go_enter Try.func10, Try.ntmps10
    go_wp2_with (first
      | (go_at_call 28; (with_reducible refine (hA _).mono ?_); rintro e w1 ⟨rfl, hb⟩; replace T := up T hb T.size; clear hb)
      | (go_at_call 22; (with_reducible refine (H1 _).mono ?_); rintro e w2 ⟨rfl, hb⟩; replace T := up T hb T.size; clear hb)
      | (go_at_call 22; (with_reducible refine (H2 _).mono ?_); rintro e w3 ⟨rfl, hb⟩; replace T := up T hb T.size; clear hb)
      | (go_at_call 14; (with_reducible refine (O _).mono ?_); rintro e w4 ⟨rfl, hb⟩; replace T := up T hb T.size; clear hb)
      | (go_at_call 29; (with_reducible refine (M _).mono ?_); rintro e w5 ⟨rfl, hb⟩; replace T := up T hb T.size; clear hb)
      | (go_at_call 13; (with_reducible refine (P _).mono ?_); rintro e w6 ⟨rfl, hb⟩; replace T := up T hb T.size; clear hb))
    go_ret
    exact ⟨rfl, T.alloc T.size _⟩

set_option maxRecDepth 100000 in
set_option maxHeartbeats 1000000 in
theorem half_down0 (a b h q r mh ml : Int) (w : World) (ha : 0 ≤ a ∧ a < 18446744073709551616) (hb : 0 ≤ b ∧ b < 18446744073709551616) (H1 : ∀ w, Calls Try.prog 22 #[.int .u64 a, .int .u64 b] w fun e w' => e = .returned (.int .u64 h) ∧ Below w.heap.size w w') (H2 : ∀ w, Calls Try.prog 22 #[.int .u64 b, .int .u64 a] w fun e w' => e = .returned (.int .u64 h) ∧ Below w.heap.size w w') (O : ∀ w, Calls Try.prog 14 #[.int .u64 a, .int .u64 b] w fun e w' => e = .returned (.tuple #[.int .u64 0, .int .u64 0, .int .i64 2]) ∧ Below w.heap.size w w') (hlt : b < a) (h0 : b ≤ h) (h1 : h ≤ a) (h2 : a - h = h - b ∨ a - h = h - b + 1) (b0 : b = 0) :
    Calls Try.prog 10 #[.int .u64 a, .int .u64 b] w fun e w' => e = .returned (.bool true) ∧ Below w.heap.size w w' := by
  have hA := awakeB_any
  have T := Below.refl w.heap.size w
  obtain ⟨a0, a1⟩ := ha
  obtain ⟨c0, c1⟩ := hb
  have m1 : min a b = b := by omega
  have m2 : max a b = a := by omega
  subst b0
  rcases h2 with h2 | h2
  all_goals
    go_enter Try.func10, Try.ntmps10
    go_wp2_with (first
      | (go_at_call 28; (with_reducible refine (hA _).mono ?_); rintro e w1 ⟨rfl, hb⟩; replace T := up T hb T.size; clear hb)
      | (go_at_call 22; (with_reducible refine (H1 _).mono ?_); rintro e w2 ⟨rfl, hb⟩; replace T := up T hb T.size; clear hb)
      | (go_at_call 22; (with_reducible refine (H2 _).mono ?_); rintro e w3 ⟨rfl, hb⟩; replace T := up T hb T.size; clear hb)
      | (go_at_call 14; (with_reducible refine (O _).mono ?_); rintro e w4 ⟨rfl, hb⟩; replace T := up T hb T.size; clear hb))
    go_ret
    exact ⟨rfl, T⟩

set_option maxRecDepth 100000 in
set_option maxHeartbeats 1000000 in
theorem half_down1 (a b h q r mh ml : Int) (w : World) (ha : 0 ≤ a ∧ a < 18446744073709551616) (hb : 0 ≤ b ∧ b < 18446744073709551616) (H1 : ∀ w, Calls Try.prog 22 #[.int .u64 a, .int .u64 b] w fun e w' => e = .returned (.int .u64 h) ∧ Below w.heap.size w w') (H2 : ∀ w, Calls Try.prog 22 #[.int .u64 b, .int .u64 a] w fun e w' => e = .returned (.int .u64 h) ∧ Below w.heap.size w w') (O : ∀ w, Calls Try.prog 14 #[.int .u64 a, .int .u64 b] w fun e w' => e = .returned (.tuple #[.int .u64 q, .int .u64 r, .int .i64 0]) ∧ Below w.heap.size w w') (M : ∀ w, Calls Try.prog 29 #[.int .u64 q, .int .u64 b] w fun e w' => e = .returned (.agg #[.int .u64 mh, .int .u64 ml]) ∧ Below w.heap.size w w') (P : ∀ w, Calls Try.prog 13 #[.agg #[.int .u64 mh, .int .u64 ml], .agg #[.int .u64 0, .int .u64 r]] w fun e w' => e = .returned (.tuple #[.agg #[.int .u64 0, .int .u64 a], .int .i64 0]) ∧ Below w.heap.size w w') (hr : r < b) (hlt : b < a) (h0 : b ≤ h) (h1 : h ≤ a) (h2 : a - h = h - b ∨ a - h = h - b + 1) (b0 : 0 < b) :
    Calls Try.prog 10 #[.int .u64 a, .int .u64 b] w fun e w' => e = .returned (.bool true) ∧ Below w.heap.size w w' := by
  have hA := awakeB_any
  have T := Below.refl w.heap.size w
  obtain ⟨a0, a1⟩ := ha
  obtain ⟨c0, c1⟩ := hb
  have m1 : min a b = b := by omega
  have m2 : max a b = a := by omega
  have hz : (b == 0) = false := by simp; omega
  rcases h2 with h2 | h2
  all_goals
    go_enter Try.func10, Try.ntmps10
    go_wp2_with (first
      | (go_at_call 28; (with_reducible refine (hA _).mono ?_); rintro e w1 ⟨rfl, hb⟩; replace T := up T hb T.size; clear hb)
      | (go_at_call 22; (with_reducible refine (H1 _).mono ?_); rintro e w2 ⟨rfl, hb⟩; replace T := up T hb T.size; clear hb)
      | (go_at_call 22; (with_reducible refine (H2 _).mono ?_); rintro e w3 ⟨rfl, hb⟩; replace T := up T hb T.size; clear hb)
      | (go_at_call 14; (with_reducible refine (O _).mono ?_); rintro e w4 ⟨rfl, hb⟩; replace T := up T hb T.size; clear hb)
      | (go_at_call 29; (with_reducible refine (M _).mono ?_); rintro e w5 ⟨rfl, hb⟩; replace T := up T hb T.size; clear hb)
      | (go_at_call 13; (with_reducible refine (P _).mono ?_); rintro e w6 ⟨rfl, hb⟩; replace T := up T hb T.size; clear hb))
    go_ret
    exact ⟨rfl, T.alloc T.size _⟩

set_option maxRecDepth 100000 in
set_option maxHeartbeats 1000000 in
theorem half_same0 (a q r mh ml : Int) (w : World) (ha : 0 ≤ a ∧ a < 18446744073709551616) (H1 : ∀ w, Calls Try.prog 22 #[.int .u64 a, .int .u64 a] w fun e w' => e = .returned (.int .u64 a) ∧ Below w.heap.size w w') (O : ∀ w, Calls Try.prog 14 #[.int .u64 a, .int .u64 a] w fun e w' => e = .returned (.tuple #[.int .u64 0, .int .u64 0, .int .i64 2]) ∧ Below w.heap.size w w')   (b0 : a = 0) :
    Calls Try.prog 10 #[.int .u64 a, .int .u64 a] w fun e w' => e = .returned (.bool true) ∧ Below w.heap.size w w' := by
  have hA := awakeB_any
  have T := Below.refl w.heap.size w
  obtain ⟨a0, a1⟩ := ha
  subst b0
  go_enter Try.func10, Try.ntmps10
  go_wp2_with (first
    | (go_at_call 28; (with_reducible refine (hA _).mono ?_); rintro e w1 ⟨rfl, hb⟩; replace T := up T hb T.size; clear hb)
    | (go_at_call 22; (with_reducible refine (H1 _).mono ?_); rintro e w2 ⟨rfl, hb⟩; replace T := up T hb T.size; clear hb)
    | (go_at_call 14; (with_reducible refine (O _).mono ?_); rintro e w3 ⟨rfl, hb⟩; replace T := up T hb T.size; clear hb))
  go_ret
  exact ⟨rfl, T⟩

set_option maxRecDepth 100000 in
set_option maxHeartbeats 1000000 in
theorem half_same1 (a q r mh ml : Int) (w : World) (ha : 0 ≤ a ∧ a < 18446744073709551616) (H1 : ∀ w, Calls Try.prog 22 #[.int .u64 a, .int .u64 a] w fun e w' => e = .returned (.int .u64 a) ∧ Below w.heap.size w w') (O : ∀ w, Calls Try.prog 14 #[.int .u64 a, .int .u64 a] w fun e w' => e = .returned (.tuple #[.int .u64 q, .int .u64 r, .int .i64 0]) ∧ Below w.heap.size w w') (M : ∀ w, Calls Try.prog 29 #[.int .u64 q, .int .u64 a] w fun e w' => e = .returned (.agg #[.int .u64 mh, .int .u64 ml]) ∧ Below w.heap.size w w') (P : ∀ w, Calls Try.prog 13 #[.agg #[.int .u64 mh, .int .u64 ml], .agg #[.int .u64 0, .int .u64 r]] w fun e w' => e = .returned (.tuple #[.agg #[.int .u64 0, .int .u64 a], .int .i64 0]) ∧ Below w.heap.size w w') (hr : r < a)   (b0 : 0 < a) :
    Calls Try.prog 10 #[.int .u64 a, .int .u64 a] w fun e w' => e = .returned (.bool true) ∧ Below w.heap.size w w' := by
  have hA := awakeB_any
  have T := Below.refl w.heap.size w
  obtain ⟨a0, a1⟩ := ha
  have hz : (a == 0) = false := by simp; omega
  go_enter Try.func10, Try.ntmps10
  go_wp2_with (first
    | (go_at_call 28; (with_reducible refine (hA _).mono ?_); rintro e w1 ⟨rfl, hb⟩; replace T := up T hb T.size; clear hb)
    | (go_at_call 22; (with_reducible refine (H1 _).mono ?_); rintro e w2 ⟨rfl, hb⟩; replace T := up T hb T.size; clear hb)
    | (go_at_call 14; (with_reducible refine (O _).mono ?_); rintro e w3 ⟨rfl, hb⟩; replace T := up T hb T.size; clear hb)
    | (go_at_call 29; (with_reducible refine (M _).mono ?_); rintro e w4 ⟨rfl, hb⟩; replace T := up T hb T.size; clear hb)
    | (go_at_call 13; (with_reducible refine (P _).mono ?_); rintro e w5 ⟨rfl, hb⟩; replace T := up T hb T.size; clear hb))
  go_ret
  exact ⟨rfl, T.alloc T.size _⟩

theorem RatioHalf_walk (a b : Int) (ha : Word a) (hb : Word b) (w : World) :
    Calls Try.prog 10 #[.int .u64 a, .int .u64 b] w fun e w' => e = .returned (.bool true) ∧ Below w.heap.size w w' := by
  have h0 : Word 0 := ⟨by omega, by omega⟩
  have H1 := fun w => rHalf'_any a b w ha hb
  have H2 := fun w => rHalf'_any b a w hb ha
  rw [rH_comm a b] at H2
  have O := fun w => Over_any a b w ha hb
  by_cases z : b = 0
  · obtain ⟨e1, e2, e3⟩ : dQ 0 a b = 0 ∧ dR 0 a b = 0 ∧ dE 0 b = 2 := by subst z; exact d_zero 0 a
    rw [e1, e2, e3] at O
    have a0 := ha.1
    rcases Int.lt_or_eq_of_le a0 with h | h
    · obtain ⟨g1, g2, g3⟩ := @rH_gt a b (by omega)
      exact half_down0 a b _ 0 0 0 0 w ha hb H1 H2 O (by omega) g1 g2 g3 z
    · obtain rfl : a = b := by omega
      rw [rH_eq] at H1
      exact half_same0 a 0 0 0 0 w ha H1 O z
  · have b0 : 0 < b := by unfold Word at hb; omega
    obtain ⟨e1, e2, e3⟩ := d_ok (h := 0) (l := a) z b0
    have hV : V 0 a = a := by unfold V; omega
    rw [hV] at e1 e2
    rw [e1, e2, e3] at O
    have q0 := Int.ediv_nonneg ha.1 hb.1
    have q1 := Int.ediv_le_self b ha.1
    have r0 := Int.emod_nonneg a z
    have r1 := Int.emod_lt_of_pos a b0
    have ee := Int.mul_ediv_add_emod a b
    have hq : Word (a / b) := by unfold Word at *; omega
    have hr : Word (a % b) := by unfold Word at *; omega
    have M := fun w => Mul_any (a / b) b w hq hb
    have P := fun w => Plus_any (xH (a / b) b) (xL (a / b) b) 0 (a % b) w (xH_word hq hb) (xL_word _ _) h0 hr
    obtain ⟨p1, p2, p3⟩ := @pOk (xH (a / b) b) (xL (a / b) b) 0 (a % b) 0 a (by rw [V_x, Int.mul_comm]; unfold V; omega) ha h0
    rw [p1, p2, p3] at P
    rcases Int.lt_trichotomy a b with h | rfl | h
    · obtain ⟨g1, g2, g3⟩ := @rH_lt a b h
      exact half_up1 a b _ _ _ _ _ w ha hb H1 H2 O M P r1 h g1 g2 g3 b0
    · rw [rH_eq] at H1
      exact half_same1 a _ _ _ _ w ha H1 O M P r1 b0
    · obtain ⟨g1, g2, g3⟩ := @rH_gt a b h
      exact half_down1 a b _ _ _ _ _ w ha hb H1 H2 O M P r1 h g1 g2 g3 b0
end Go.Proofs.Ytiieehnfbemleaa
