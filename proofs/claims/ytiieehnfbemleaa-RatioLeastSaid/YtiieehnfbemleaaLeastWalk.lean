/- The walk of RatioLeast. No condition but that words are words. -/
import Derived.Test.YtiieehnfbemleaaGrowsWalk
namespace Go.Proofs.Ytiieehnfbemleaa
open Go.RowKit W
set_option linter.unusedVariables false

set_option maxRecDepth 100000 in
set_option maxHeartbeats 1000000 in
theorem least_b0 (a b c n x y mh ml gh gl : Int) (w : World) (ha : Word a) (hb : Word b) (hc : Word c)
    
    (h : b = 0) :
    Calls Try.prog 7 #[.int .u64 a, .int .u64 b, .int .u64 c] w fun e w' => e = .returned (.bool true) ∧ Below w.heap.size w w' := by
  have hA := awakeB_any
  have T := Below.refl w.heap.size w
  subst h
  go_enter Try.func7, Try.ntmps7
  go_wp2_with (go_at_call 28; (with_reducible refine (hA _).mono ?_); rintro e w1 ⟨rfl, hb⟩; replace T := up T hb T.size; clear hb)
  go_ret
  exact ⟨rfl, T⟩

set_option maxRecDepth 100000 in
set_option maxHeartbeats 1000000 in
theorem least_c0 (a b c n x y mh ml gh gl : Int) (w : World) (ha : Word a) (hb : Word b) (hc : Word c)
    
    (h : c = 0) (hb0 : b ≠ 0) :
    Calls Try.prog 7 #[.int .u64 a, .int .u64 b, .int .u64 c] w fun e w' => e = .returned (.bool true) ∧ Below w.heap.size w w' := by
  have hA := awakeB_any
  have T := Below.refl w.heap.size w
  have hz : (b == 0) = false := by simp; omega
  subst h
  go_enter Try.func7, Try.ntmps7
  go_wp2_with (go_at_call 28; (with_reducible refine (hA _).mono ?_); rintro e w1 ⟨rfl, hb⟩; replace T := up T hb T.size; clear hb)
  go_ret
  exact ⟨rfl, T⟩

set_option maxRecDepth 100000 in
set_option maxHeartbeats 1000000 in
theorem least_aC (a b c n x y mh ml gh gl : Int) (w : World) (ha : Word a) (hb : Word b) (hc : Word c)
    
    (h : 4611686018427387904 ≤ a) (hc0 : c ≠ 0) (hb0 : b ≠ 0) :
    Calls Try.prog 7 #[.int .u64 a, .int .u64 b, .int .u64 c] w fun e w' => e = .returned (.bool true) ∧ Below w.heap.size w w' := by
  have hA := awakeB_any
  have T := Below.refl w.heap.size w
  have hz : (b == 0) = false := by simp; omega
  have hz2 : (c == 0) = false := by simp; omega
  go_enter Try.func7, Try.ntmps7
  go_wp2_with (go_at_call 28; (with_reducible refine (hA _).mono ?_); rintro e w1 ⟨rfl, hb⟩; replace T := up T hb T.size; clear hb)
  go_ret
  exact ⟨rfl, T⟩

set_option maxRecDepth 100000 in
set_option maxHeartbeats 1000000 in
theorem least_bC (a b c n x y mh ml gh gl : Int) (w : World) (ha : Word a) (hb : Word b) (hc : Word c)
    
    (h : 4611686018427387904 ≤ b) (aC : a < 4611686018427387904) (hc0 : c ≠ 0) (hb0 : b ≠ 0) :
    Calls Try.prog 7 #[.int .u64 a, .int .u64 b, .int .u64 c] w fun e w' => e = .returned (.bool true) ∧ Below w.heap.size w w' := by
  have hA := awakeB_any
  have T := Below.refl w.heap.size w
  have hz : (b == 0) = false := by simp; omega
  have hz2 : (c == 0) = false := by simp; omega
  have hz3 : decide (4611686018427387904 ≤ a) = false := by simp; omega
  go_enter Try.func7, Try.ntmps7
  go_wp2_with (go_at_call 28; (with_reducible refine (hA _).mono ?_); rintro e w1 ⟨rfl, hb⟩; replace T := up T hb T.size; clear hb)
  go_ret
  exact ⟨rfl, T⟩

set_option maxRecDepth 100000 in
set_option maxHeartbeats 1000000 in
theorem least_stop (a b c n x y mh ml gh gl : Int) (w : World) (ha : Word a) (hb : Word b) (hc : Word c)
    (U : ∀ w, Calls Try.prog 26 #[.int .u64 a, .int .u64 b, .int .u64 c] w fun e w' => e = .returned (.tuple #[.int .u64 4611686018427387904, .int .i64 0]) ∧ Below w.heap.size w w')
    (M1 : ∀ w, Calls Try.prog 29 #[.int .u64 a, .int .u64 b] w fun e w' => e = .returned (.agg #[.int .u64 mh, .int .u64 ml]) ∧ Below w.heap.size w w')
    (M2 : ∀ w, Calls Try.prog 29 #[.int .u64 4611686018427387903, .int .u64 c] w fun e w' => e = .returned (.agg #[.int .u64 gh, .int .u64 gl]) ∧ Below w.heap.size w w')
    (K : ∀ w, Calls Try.prog 30 #[.agg #[.int .u64 mh, .int .u64 ml], .agg #[.int .u64 gh, .int .u64 gl]] w fun e w' => e = .returned (.int .i64 1) ∧ Below w.heap.size w w')
    (aC : a < 4611686018427387904) (bC : b < 4611686018427387904) (hc0 : c ≠ 0) (hb0 : b ≠ 0) :
    Calls Try.prog 7 #[.int .u64 a, .int .u64 b, .int .u64 c] w fun e w' => e = .returned (.bool true) ∧ Below w.heap.size w w' := by
  have hA := awakeB_any
  have T := Below.refl w.heap.size w
  have hz : (b == 0) = false := by simp; omega
  have hz2 : (c == 0) = false := by simp; omega
  have hz3 : decide (4611686018427387904 ≤ a) = false := by simp; omega
  have hz4 : decide (4611686018427387904 ≤ b) = false := by simp; omega
  go_enter Try.func7, Try.ntmps7
  go_wp2_with (first
    | (go_at_call 28; (with_reducible refine (hA _).mono ?_); rintro e w1 ⟨rfl, hb⟩; replace T := up T hb T.size; clear hb)
    | (go_at_call 26; (with_reducible refine (U _).mono ?_); rintro e w2 ⟨rfl, hb⟩; replace T := up T hb T.size; clear hb)
    | (go_at_call 29; (with_reducible refine (M1 _).mono ?_); rintro e w3 ⟨rfl, hb⟩; replace T := up T hb T.size; clear hb)
    | (go_at_call 29; (with_reducible refine (M2 _).mono ?_); rintro e w4 ⟨rfl, hb⟩; replace T := up T hb T.size; clear hb)
    | (go_at_call 30; (with_reducible refine (K _).mono ?_); rintro e w5 ⟨rfl, hb⟩; replace T := up T hb T.size; clear hb))
  go_ret
  exact ⟨rfl, T⟩

set_option maxRecDepth 100000 in
set_option maxHeartbeats 1000000 in
theorem least_none (b c n x y mh ml gh gl : Int) (w : World) (hb : Word b) (hc : Word c)
    (U : ∀ w, Calls Try.prog 26 #[.int .u64 0, .int .u64 b, .int .u64 c] w fun e w' => e = .returned (.tuple #[.int .u64 0, .int .i64 0]) ∧ Below w.heap.size w w')
    (D : ∀ w, Calls Try.prog 24 #[.int .u64 0, .int .u64 c, .int .u64 b] w fun e w' => e = .returned (.tuple #[.int .u64 x, .int .i64 0]) ∧ Below w.heap.size w w')
    (x0 : decide (x < 0) = false) (bC : b < 4611686018427387904) (hc0 : c ≠ 0) (hb0 : b ≠ 0) :
    Calls Try.prog 7 #[.int .u64 0, .int .u64 b, .int .u64 c] w fun e w' => e = .returned (.bool true) ∧ Below w.heap.size w w' := by
  have hA := awakeB_any
  have T := Below.refl w.heap.size w
  have hz : (b == 0) = false := by simp; omega
  have hz2 : (c == 0) = false := by simp; omega
  have hz4 : decide (4611686018427387904 ≤ b) = false := by simp; omega
  go_enter Try.func7, Try.ntmps7
  go_wp2_with (first
    | (go_at_call 28; (with_reducible refine (hA _).mono ?_); rintro e w1 ⟨rfl, hb⟩; replace T := up T hb T.size; clear hb)
    | (go_at_call 26; (with_reducible refine (U _).mono ?_); rintro e w2 ⟨rfl, hb⟩; replace T := up T hb T.size; clear hb)
    | (go_at_call 24; (with_reducible refine (D _).mono ?_); rintro e w3 ⟨rfl, hb⟩; replace T := up T hb T.size; clear hb))
  go_ret
  exact ⟨rfl, T⟩

set_option maxRecDepth 100000 in
set_option maxHeartbeats 1000000 in
theorem least_some (a b c n x y mh ml gh gl : Int) (w : World) (ha : Word a) (hb : Word b) (hc : Word c)
    (U : ∀ w, Calls Try.prog 26 #[.int .u64 a, .int .u64 b, .int .u64 c] w fun e w' => e = .returned (.tuple #[.int .u64 n, .int .i64 0]) ∧ Below w.heap.size w w')
    (D : ∀ w, Calls Try.prog 24 #[.int .u64 n, .int .u64 c, .int .u64 b] w fun e w' => e = .returned (.tuple #[.int .u64 x, .int .i64 0]) ∧ Below w.heap.size w w')
    (D2 : ∀ w, Calls Try.prog 24 #[.int .u64 (n - 1), .int .u64 c, .int .u64 b] w fun e w' => e = .returned (.tuple #[.int .u64 y, .int .i64 0]) ∧ Below w.heap.size w w')
    (n0 : 0 < n) (nC : n < 4611686018427387904) (hx : a ≤ x) (hy : y < a) (aC : a < 4611686018427387904) (bC : b < 4611686018427387904) (hc0 : c ≠ 0) (hb0 : b ≠ 0) :
    Calls Try.prog 7 #[.int .u64 a, .int .u64 b, .int .u64 c] w fun e w' => e = .returned (.bool true) ∧ Below w.heap.size w w' := by
  have hA := awakeB_any
  have T := Below.refl w.heap.size w
  have hz : (b == 0) = false := by simp; omega
  have hz2 : (c == 0) = false := by simp; omega
  have hz3 : decide (4611686018427387904 ≤ a) = false := by simp; omega
  have hz4 : decide (4611686018427387904 ≤ b) = false := by simp; omega
  have hz5 : (n == 4611686018427387904) = false := by simp; omega
  have hz6 : (n == 0) = false := by simp; omega
  have hz7 : decide (x < a) = false := by simp; omega
  go_enter Try.func7, Try.ntmps7
  go_wp2_with (first
    | (go_at_call 28; (with_reducible refine (hA _).mono ?_); rintro e w1 ⟨rfl, hb⟩; replace T := up T hb T.size; clear hb)
    | (go_at_call 26; (with_reducible refine (U _).mono ?_); rintro e w2 ⟨rfl, hb⟩; replace T := up T hb T.size; clear hb)
    | (go_at_call 24; (with_reducible refine (D _).mono ?_); rintro e w3 ⟨rfl, hb⟩; replace T := up T hb T.size; clear hb)
    | (go_at_call 24; (with_reducible refine (D2 _).mono ?_); rintro e w4 ⟨rfl, hb⟩; replace T := up T hb T.size; clear hb))
  go_ret
  exact ⟨rfl, T⟩

theorem RatioLeast_walk (a b c : Int) (ha : Word a) (hb : Word b) (hc : Word c) (w : World) :
    Calls Try.prog 7 #[.int .u64 a, .int .u64 b, .int .u64 c] w fun e w' => e = .returned (.bool true) ∧ Below w.heap.size w w' := by
  by_cases b0 : b = 0
  · exact least_b0 a b c 0 0 0 0 0 0 0 w ha hb hc b0
  by_cases c0 : c = 0
  · exact least_c0 a b c 0 0 0 0 0 0 0 w ha hb hc c0 b0
  by_cases aC : 4611686018427387904 ≤ a
  · exact least_aC a b c 0 0 0 0 0 0 0 w ha hb hc aC c0 b0
  by_cases bC : 4611686018427387904 ≤ b
  · exact least_bC a b c 0 0 0 0 0 0 0 w ha hb hc bC (by omega) c0 b0
  have aC' : a < 4611686018427387904 := by omega
  have bC' : b < 4611686018427387904 := by omega
  have b1 : 0 < b := by have := hb.1; omega
  have c1 : 0 < c := by have := hc.1; omega
  have e1 : qE c = 0 := by unfold qE; rw [if_neg c0]
  have e2 : qE b = 0 := by unfold qE; rw [if_neg b0]
  have U := fun w => Up_any a b c w ha hb hc
  rw [e1] at U
  have hn := qU_nn ha hb hc
  rcases least_spec ha hb hc b1 c1 aC' with ⟨h, k⟩ | ⟨h, rfl⟩ | ⟨h1, h2, h3, h4⟩
  · rw [h] at U
    have hC : Word 4611686018427387903 := ⟨by omega, by omega⟩
    have K := fun w => Cmp_any (xH a b) (xL a b) (xH 4611686018427387903 c) (xL 4611686018427387903 c) w (xL_word _ _) (xL_word _ _)
    rw [cmpW_gt (by rw [V_x, V_x]; exact k)] at K
    exact least_stop a b c 0 0 0 _ _ _ _ w ha hb hc U (fun w => Mul_any a b w ha hb) (fun w => Mul_any _ c w hC hc) K aC' bC' c0 b0
  · rw [h] at U
    have h0 : Word 0 := ⟨by omega, by omega⟩
    have D := fun w => Down_any 0 c b w h0 hc hb
    rw [e2] at D
    have := (qD_nn h0 hc hb).1
    exact least_none b c 0 _ 0 0 0 0 0 w hb hc U D (by simp; omega) bC' c0 b0
  · have D := fun w => Down_any (qU a b c) c b w hn hc hb
    have D2 := fun w => Down_any (qU a b c - 1) c b w (by unfold Word at *; omega) hc hb
    rw [e2] at D D2
    exact least_some a b c _ _ _ 0 0 0 0 w ha hb hc U D D2 h1 h2 h3 h4 aC' bC' c0 b0
end Go.Proofs.Ytiieehnfbemleaa
