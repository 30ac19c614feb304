/- The walk of RatioStops. No condition but that words are words. -/
import Derived.Test.YtiieehnfbemleaaAwakeB
namespace Go.Proofs.Ytiieehnfbemleaa
open Go.RowKit W
set_option linter.unusedVariables false
namespace W
theorem rP_comm (a b : Int) : rP b a = rP a b := by unfold rP; rw [Int.add_comm]
theorem rT_comm (a b : Int) : rT b a = rT a b := by unfold rT; rw [Int.mul_comm]
theorem rM_nn {a b : Int} : 0 ≤ rM a b := by unfold rM; split; exact Int.le_refl _; exact stp_nn (by omega)
theorem rM_le {a b : Int} : rM a b ≤ 4611686018427387904 := by unfold rM; split; omega; exact stp_le _
theorem rP_word {a b : Int} (ha : Word a) (hb : Word b) : Word (rP a b) := stp_word (by unfold Word at *; omega)
theorem rT_word {a b : Int} (ha : Word a) (hb : Word b) : Word (rT a b) := stp_word (word_mul ha hb).1
theorem rM_word {a b : Int} : Word (rM a b) := by have := @rM_nn a b; have := @rM_le a b; unfold Word; omega
theorem stp_mono {x y : Int} (h : x ≤ y) : stp x ≤ stp y := by unfold stp; split <;> split <;> omega
theorem stp_or (x : Int) : (x ≤ 4611686018427387904 ∧ stp x = x) ∨ (4611686018427387904 < x ∧ stp x = 4611686018427387904) := by unfold stp; split <;> omega
theorem rP_assoc {a b c : Int} (ha : Word a) (hb : Word b) (hc : Word c) : rP a (rP b c) = rP (rP a b) c := by
  unfold rP
  unfold Word at *
  have h1 := stp_or (b + c)
  have h2 := stp_or (a + b)
  have h3 := stp_or (a + stp (b + c))
  have h4 := stp_or (stp (a + b) + c)
  omega
theorem stp_mul {x c : Int} (hx : 0 ≤ x) (hc : 0 ≤ c) : stp (stp x * c) = stp (x * c) := by
  rcases stp_or x with ⟨h, e⟩ | ⟨h, e⟩
  · rw [e]
  · rw [e]
    rcases Int.lt_or_eq_of_le hc with h0 | rfl
    · have h1 : (4611686018427387904 : Int) * 1 ≤ 4611686018427387904 * c := Int.mul_le_mul_of_nonneg_left (by omega) (by omega)
      have h2 : (4611686018427387904 : Int) * c < x * c := Int.mul_lt_mul_of_pos_right h h0
      rw [stp_hi (show 4611686018427387904 < x * c by omega)]
      rcases stp_or (4611686018427387904 * c) with ⟨h, e⟩ | ⟨h, e⟩ <;> omega
    · simp
theorem rT_assoc {a b c : Int} (ha : Word a) (hb : Word b) (hc : Word c) : rT a (rT b c) = rT (rT a b) c := by
  unfold rT
  rw [stp_mul (word_mul ha hb).1 hc.1, Int.mul_comm a, stp_mul (word_mul hb hc).1 ha.1, Int.mul_comm (b * c), Int.mul_assoc]
theorem rM_mono {a b c : Int} (h : a ≤ b) : rM a c ≤ rM b c := by
  unfold rM; split <;> split
  · omega
  · exact stp_nn (by omega)
  · omega
  · exact stp_mono (by omega)
theorem rM_anti {a b c : Int} (h : a ≤ b) : rM c b ≤ rM c a := by
  unfold rM; split <;> split
  · omega
  · exact stp_nn (by omega)
  · omega
  · exact stp_mono (by omega)
theorem rT_mono {a b c : Int} (h : a ≤ b) (hc : 0 ≤ c) : rT a c ≤ rT b c := stp_mono (Int.mul_le_mul_of_nonneg_right h hc)
theorem rP_mono {a b c : Int} (h : a ≤ b) : rP a c ≤ rP b c := stp_mono (by omega)
theorem rP_back {x y : Int} (h : x ≤ y) (hx : 0 ≤ x) : rP y 0 = rP (rM y x) x := by
  unfold rP rM
  rw [if_neg (by omega)]
  have h1 := stp_or (y - x)
  have h2 := stp_or (stp (y - x) + x)
  have h3 := stp_or (y + 0)
  omega
end W

set_option maxRecDepth 100000 in
set_option maxHeartbeats 2000000 in
theorem stops_up (a b c p t m q r s v g h i j k l n o : Int) (w : World) (hlt : a < b)
    (P1 : ∀ w, Calls Try.prog 16 #[.int .u64 a, .int .u64 b] w fun e w' => e = .returned (.int .u64 p) ∧ Below w.heap.size w w')
    (T1 : ∀ w, Calls Try.prog 20 #[.int .u64 a, .int .u64 b] w fun e w' => e = .returned (.int .u64 t) ∧ Below w.heap.size w w')
    (M1 : ∀ w, Calls Try.prog 18 #[.int .u64 a, .int .u64 b] w fun e w' => e = .returned (.int .u64 m) ∧ Below w.heap.size w w')
    (P2 : ∀ w, Calls Try.prog 16 #[.int .u64 b, .int .u64 a] w fun e w' => e = .returned (.int .u64 p) ∧ Below w.heap.size w w')
    (T2 : ∀ w, Calls Try.prog 20 #[.int .u64 b, .int .u64 a] w fun e w' => e = .returned (.int .u64 t) ∧ Below w.heap.size w w')
    (P3 : ∀ w, Calls Try.prog 16 #[.int .u64 p, .int .u64 c] w fun e w' => e = .returned (.int .u64 q) ∧ Below w.heap.size w w')
    (P4 : ∀ w, Calls Try.prog 16 #[.int .u64 b, .int .u64 c] w fun e w' => e = .returned (.int .u64 r) ∧ Below w.heap.size w w')
    (P5 : ∀ w, Calls Try.prog 16 #[.int .u64 a, .int .u64 r] w fun e w' => e = .returned (.int .u64 q) ∧ Below w.heap.size w w')
    (T3 : ∀ w, Calls Try.prog 20 #[.int .u64 t, .int .u64 c] w fun e w' => e = .returned (.int .u64 s) ∧ Below w.heap.size w w')
    (T4 : ∀ w, Calls Try.prog 20 #[.int .u64 b, .int .u64 c] w fun e w' => e = .returned (.int .u64 v) ∧ Below w.heap.size w w')
    (T5 : ∀ w, Calls Try.prog 20 #[.int .u64 a, .int .u64 v] w fun e w' => e = .returned (.int .u64 s) ∧ Below w.heap.size w w')
    (P6 : ∀ w, Calls Try.prog 16 #[.int .u64 a, .int .u64 c] w fun e w' => e = .returned (.int .u64 g) ∧ Below w.heap.size w w')
    (T6 : ∀ w, Calls Try.prog 20 #[.int .u64 a, .int .u64 c] w fun e w' => e = .returned (.int .u64 h) ∧ Below w.heap.size w w')
    (M2 : ∀ w, Calls Try.prog 18 #[.int .u64 a, .int .u64 c] w fun e w' => e = .returned (.int .u64 i) ∧ Below w.heap.size w w')
    (M3 : ∀ w, Calls Try.prog 18 #[.int .u64 b, .int .u64 c] w fun e w' => e = .returned (.int .u64 j) ∧ Below w.heap.size w w')
    (M4 : ∀ w, Calls Try.prog 18 #[.int .u64 c, .int .u64 b] w fun e w' => e = .returned (.int .u64 k) ∧ Below w.heap.size w w')
    (M5 : ∀ w, Calls Try.prog 18 #[.int .u64 c, .int .u64 a] w fun e w' => e = .returned (.int .u64 l) ∧ Below w.heap.size w w')
    (M6 : ∀ w, Calls Try.prog 18 #[.int .u64 b, .int .u64 a] w fun e w' => e = .returned (.int .u64 n) ∧ Below w.heap.size w w')
    (P8 : ∀ w, Calls Try.prog 16 #[.int .u64 n, .int .u64 a] w fun e w' => e = .returned (.int .u64 o) ∧ Below w.heap.size w w')
    (P9 : ∀ w, Calls Try.prog 16 #[.int .u64 b, .int .u64 0] w fun e w' => e = .returned (.int .u64 o) ∧ Below w.heap.size w w')
    (d0 : decide (4611686018427387904 < p) = false) (d1 : decide (4611686018427387904 < t) = false) (d2 : decide (4611686018427387904 < m) = false) (d3 : decide (r < g) = false) (d4 : decide (v < h) = false) (d5 : decide (j < i) = false) (d6 : decide (l < k) = false) :
    Calls Try.prog 8 #[.int .u64 a, .int .u64 b, .int .u64 c] w fun e w' => e = .returned (.bool true) ∧ Below w.heap.size w w' := by
  have hA := awakeB_any
  have T := Below.refl w.heap.size w
  have m1 : min a b = a := by omega
  have m2 : max a b = b := by omega
  go_enter Try.func8, Try.ntmps8
  go_wp2_with (first
    | (go_at_call 28; (with_reducible refine (hA _).mono ?_); rintro e w1 ⟨rfl, hb⟩; replace T := up T hb T.size; clear hb)
    | (go_at_call 16; (with_reducible refine (P1 _).mono ?_); rintro e w2 ⟨rfl, hb⟩; replace T := up T hb T.size; clear hb)
    | (go_at_call 20; (with_reducible refine (T1 _).mono ?_); rintro e w3 ⟨rfl, hb⟩; replace T := up T hb T.size; clear hb)
    | (go_at_call 18; (with_reducible refine (M1 _).mono ?_); rintro e w4 ⟨rfl, hb⟩; replace T := up T hb T.size; clear hb)
    | (go_at_call 16; (with_reducible refine (P2 _).mono ?_); rintro e w5 ⟨rfl, hb⟩; replace T := up T hb T.size; clear hb)
    | (go_at_call 20; (with_reducible refine (T2 _).mono ?_); rintro e w6 ⟨rfl, hb⟩; replace T := up T hb T.size; clear hb)
    | (go_at_call 16; (with_reducible refine (P3 _).mono ?_); rintro e w7 ⟨rfl, hb⟩; replace T := up T hb T.size; clear hb)
    | (go_at_call 16; (with_reducible refine (P4 _).mono ?_); rintro e w8 ⟨rfl, hb⟩; replace T := up T hb T.size; clear hb)
    | (go_at_call 16; (with_reducible refine (P5 _).mono ?_); rintro e w9 ⟨rfl, hb⟩; replace T := up T hb T.size; clear hb)
    | (go_at_call 20; (with_reducible refine (T3 _).mono ?_); rintro e w10 ⟨rfl, hb⟩; replace T := up T hb T.size; clear hb)
    | (go_at_call 20; (with_reducible refine (T4 _).mono ?_); rintro e w11 ⟨rfl, hb⟩; replace T := up T hb T.size; clear hb)
    | (go_at_call 20; (with_reducible refine (T5 _).mono ?_); rintro e w12 ⟨rfl, hb⟩; replace T := up T hb T.size; clear hb)
    | (go_at_call 16; (with_reducible refine (P6 _).mono ?_); rintro e w13 ⟨rfl, hb⟩; replace T := up T hb T.size; clear hb)
    | (go_at_call 20; (with_reducible refine (T6 _).mono ?_); rintro e w14 ⟨rfl, hb⟩; replace T := up T hb T.size; clear hb)
    | (go_at_call 18; (with_reducible refine (M2 _).mono ?_); rintro e w15 ⟨rfl, hb⟩; replace T := up T hb T.size; clear hb)
    | (go_at_call 18; (with_reducible refine (M3 _).mono ?_); rintro e w16 ⟨rfl, hb⟩; replace T := up T hb T.size; clear hb)
    | (go_at_call 18; (with_reducible refine (M4 _).mono ?_); rintro e w17 ⟨rfl, hb⟩; replace T := up T hb T.size; clear hb)
    | (go_at_call 18; (with_reducible refine (M5 _).mono ?_); rintro e w18 ⟨rfl, hb⟩; replace T := up T hb T.size; clear hb)
    | (go_at_call 18; (with_reducible refine (M6 _).mono ?_); rintro e w19 ⟨rfl, hb⟩; replace T := up T hb T.size; clear hb)
    | (go_at_call 16; (with_reducible refine (P8 _).mono ?_); rintro e w20 ⟨rfl, hb⟩; replace T := up T hb T.size; clear hb)
    | (go_at_call 16; (with_reducible refine (P9 _).mono ?_); rintro e w21 ⟨rfl, hb⟩; replace T := up T hb T.size; clear hb))
  go_ret
  exact ⟨rfl, T⟩

set_option maxRecDepth 100000 in
set_option maxHeartbeats 2000000 in
theorem stops_down (a b c p t m q r s v g h i j k l n o : Int) (w : World) (hlt : b < a)
    (P1 : ∀ w, Calls Try.prog 16 #[.int .u64 a, .int .u64 b] w fun e w' => e = .returned (.int .u64 p) ∧ Below w.heap.size w w')
    (T1 : ∀ w, Calls Try.prog 20 #[.int .u64 a, .int .u64 b] w fun e w' => e = .returned (.int .u64 t) ∧ Below w.heap.size w w')
    (M1 : ∀ w, Calls Try.prog 18 #[.int .u64 a, .int .u64 b] w fun e w' => e = .returned (.int .u64 m) ∧ Below w.heap.size w w')
    (P2 : ∀ w, Calls Try.prog 16 #[.int .u64 b, .int .u64 a] w fun e w' => e = .returned (.int .u64 p) ∧ Below w.heap.size w w')
    (T2 : ∀ w, Calls Try.prog 20 #[.int .u64 b, .int .u64 a] w fun e w' => e = .returned (.int .u64 t) ∧ Below w.heap.size w w')
    (P3 : ∀ w, Calls Try.prog 16 #[.int .u64 p, .int .u64 c] w fun e w' => e = .returned (.int .u64 q) ∧ Below w.heap.size w w')
    (P4 : ∀ w, Calls Try.prog 16 #[.int .u64 b, .int .u64 c] w fun e w' => e = .returned (.int .u64 r) ∧ Below w.heap.size w w')
    (P5 : ∀ w, Calls Try.prog 16 #[.int .u64 a, .int .u64 r] w fun e w' => e = .returned (.int .u64 q) ∧ Below w.heap.size w w')
    (T3 : ∀ w, Calls Try.prog 20 #[.int .u64 t, .int .u64 c] w fun e w' => e = .returned (.int .u64 s) ∧ Below w.heap.size w w')
    (T4 : ∀ w, Calls Try.prog 20 #[.int .u64 b, .int .u64 c] w fun e w' => e = .returned (.int .u64 v) ∧ Below w.heap.size w w')
    (T5 : ∀ w, Calls Try.prog 20 #[.int .u64 a, .int .u64 v] w fun e w' => e = .returned (.int .u64 s) ∧ Below w.heap.size w w')
    (P6 : ∀ w, Calls Try.prog 16 #[.int .u64 a, .int .u64 c] w fun e w' => e = .returned (.int .u64 g) ∧ Below w.heap.size w w')
    (T6 : ∀ w, Calls Try.prog 20 #[.int .u64 a, .int .u64 c] w fun e w' => e = .returned (.int .u64 h) ∧ Below w.heap.size w w')
    (M2 : ∀ w, Calls Try.prog 18 #[.int .u64 a, .int .u64 c] w fun e w' => e = .returned (.int .u64 i) ∧ Below w.heap.size w w')
    (M3 : ∀ w, Calls Try.prog 18 #[.int .u64 b, .int .u64 c] w fun e w' => e = .returned (.int .u64 j) ∧ Below w.heap.size w w')
    (M4 : ∀ w, Calls Try.prog 18 #[.int .u64 c, .int .u64 b] w fun e w' => e = .returned (.int .u64 k) ∧ Below w.heap.size w w')
    (M5 : ∀ w, Calls Try.prog 18 #[.int .u64 c, .int .u64 a] w fun e w' => e = .returned (.int .u64 l) ∧ Below w.heap.size w w')
    (M6 : ∀ w, Calls Try.prog 18 #[.int .u64 a, .int .u64 b] w fun e w' => e = .returned (.int .u64 m) ∧ Below w.heap.size w w')
    (P8 : ∀ w, Calls Try.prog 16 #[.int .u64 m, .int .u64 b] w fun e w' => e = .returned (.int .u64 o) ∧ Below w.heap.size w w')
    (P9 : ∀ w, Calls Try.prog 16 #[.int .u64 a, .int .u64 0] w fun e w' => e = .returned (.int .u64 o) ∧ Below w.heap.size w w')
    (d0 : decide (4611686018427387904 < p) = false) (d1 : decide (4611686018427387904 < t) = false) (d2 : decide (4611686018427387904 < m) = false) (d3 : decide (g < r) = false) (d4 : decide (h < v) = false) (d5 : decide (i < j) = false) (d6 : decide (k < l) = false) :
    Calls Try.prog 8 #[.int .u64 a, .int .u64 b, .int .u64 c] w fun e w' => e = .returned (.bool true) ∧ Below w.heap.size w w' := by
  have hA := awakeB_any
  have T := Below.refl w.heap.size w
  have m1 : min a b = b := by omega
  have m2 : max a b = a := by omega
  go_enter Try.func8, Try.ntmps8
  go_wp2_with (first
    | (go_at_call 28; (with_reducible refine (hA _).mono ?_); rintro e w1 ⟨rfl, hb⟩; replace T := up T hb T.size; clear hb)
    | (go_at_call 16; (with_reducible refine (P1 _).mono ?_); rintro e w2 ⟨rfl, hb⟩; replace T := up T hb T.size; clear hb)
    | (go_at_call 20; (with_reducible refine (T1 _).mono ?_); rintro e w3 ⟨rfl, hb⟩; replace T := up T hb T.size; clear hb)
    | (go_at_call 18; (with_reducible refine (M1 _).mono ?_); rintro e w4 ⟨rfl, hb⟩; replace T := up T hb T.size; clear hb)
    | (go_at_call 16; (with_reducible refine (P2 _).mono ?_); rintro e w5 ⟨rfl, hb⟩; replace T := up T hb T.size; clear hb)
    | (go_at_call 20; (with_reducible refine (T2 _).mono ?_); rintro e w6 ⟨rfl, hb⟩; replace T := up T hb T.size; clear hb)
    | (go_at_call 16; (with_reducible refine (P3 _).mono ?_); rintro e w7 ⟨rfl, hb⟩; replace T := up T hb T.size; clear hb)
    | (go_at_call 16; (with_reducible refine (P4 _).mono ?_); rintro e w8 ⟨rfl, hb⟩; replace T := up T hb T.size; clear hb)
    | (go_at_call 16; (with_reducible refine (P5 _).mono ?_); rintro e w9 ⟨rfl, hb⟩; replace T := up T hb T.size; clear hb)
    | (go_at_call 20; (with_reducible refine (T3 _).mono ?_); rintro e w10 ⟨rfl, hb⟩; replace T := up T hb T.size; clear hb)
    | (go_at_call 20; (with_reducible refine (T4 _).mono ?_); rintro e w11 ⟨rfl, hb⟩; replace T := up T hb T.size; clear hb)
    | (go_at_call 20; (with_reducible refine (T5 _).mono ?_); rintro e w12 ⟨rfl, hb⟩; replace T := up T hb T.size; clear hb)
    | (go_at_call 16; (with_reducible refine (P6 _).mono ?_); rintro e w13 ⟨rfl, hb⟩; replace T := up T hb T.size; clear hb)
    | (go_at_call 20; (with_reducible refine (T6 _).mono ?_); rintro e w14 ⟨rfl, hb⟩; replace T := up T hb T.size; clear hb)
    | (go_at_call 18; (with_reducible refine (M2 _).mono ?_); rintro e w15 ⟨rfl, hb⟩; replace T := up T hb T.size; clear hb)
    | (go_at_call 18; (with_reducible refine (M3 _).mono ?_); rintro e w16 ⟨rfl, hb⟩; replace T := up T hb T.size; clear hb)
    | (go_at_call 18; (with_reducible refine (M4 _).mono ?_); rintro e w17 ⟨rfl, hb⟩; replace T := up T hb T.size; clear hb)
    | (go_at_call 18; (with_reducible refine (M5 _).mono ?_); rintro e w18 ⟨rfl, hb⟩; replace T := up T hb T.size; clear hb)
    | (go_at_call 18; (with_reducible refine (M6 _).mono ?_); rintro e w19 ⟨rfl, hb⟩; replace T := up T hb T.size; clear hb)
    | (go_at_call 16; (with_reducible refine (P8 _).mono ?_); rintro e w20 ⟨rfl, hb⟩; replace T := up T hb T.size; clear hb)
    | (go_at_call 16; (with_reducible refine (P9 _).mono ?_); rintro e w21 ⟨rfl, hb⟩; replace T := up T hb T.size; clear hb))
  go_ret
  exact ⟨rfl, T⟩

set_option maxRecDepth 100000 in
set_option maxHeartbeats 2000000 in
theorem stops_same (a c p t m q r s v i k o : Int) (w : World)
    (P1 : ∀ w, Calls Try.prog 16 #[.int .u64 a, .int .u64 a] w fun e w' => e = .returned (.int .u64 p) ∧ Below w.heap.size w w')
    (T1 : ∀ w, Calls Try.prog 20 #[.int .u64 a, .int .u64 a] w fun e w' => e = .returned (.int .u64 t) ∧ Below w.heap.size w w')
    (M1 : ∀ w, Calls Try.prog 18 #[.int .u64 a, .int .u64 a] w fun e w' => e = .returned (.int .u64 m) ∧ Below w.heap.size w w')
    (P3 : ∀ w, Calls Try.prog 16 #[.int .u64 p, .int .u64 c] w fun e w' => e = .returned (.int .u64 q) ∧ Below w.heap.size w w')
    (P4 : ∀ w, Calls Try.prog 16 #[.int .u64 a, .int .u64 c] w fun e w' => e = .returned (.int .u64 r) ∧ Below w.heap.size w w')
    (P5 : ∀ w, Calls Try.prog 16 #[.int .u64 a, .int .u64 r] w fun e w' => e = .returned (.int .u64 q) ∧ Below w.heap.size w w')
    (T3 : ∀ w, Calls Try.prog 20 #[.int .u64 t, .int .u64 c] w fun e w' => e = .returned (.int .u64 s) ∧ Below w.heap.size w w')
    (T4 : ∀ w, Calls Try.prog 20 #[.int .u64 a, .int .u64 c] w fun e w' => e = .returned (.int .u64 v) ∧ Below w.heap.size w w')
    (T5 : ∀ w, Calls Try.prog 20 #[.int .u64 a, .int .u64 v] w fun e w' => e = .returned (.int .u64 s) ∧ Below w.heap.size w w')
    (M2 : ∀ w, Calls Try.prog 18 #[.int .u64 a, .int .u64 c] w fun e w' => e = .returned (.int .u64 i) ∧ Below w.heap.size w w')
    (M4 : ∀ w, Calls Try.prog 18 #[.int .u64 c, .int .u64 a] w fun e w' => e = .returned (.int .u64 k) ∧ Below w.heap.size w w')
    (P8 : ∀ w, Calls Try.prog 16 #[.int .u64 m, .int .u64 a] w fun e w' => e = .returned (.int .u64 o) ∧ Below w.heap.size w w')
    (P9 : ∀ w, Calls Try.prog 16 #[.int .u64 a, .int .u64 0] w fun e w' => e = .returned (.int .u64 o) ∧ Below w.heap.size w w')
    (d0 : decide (4611686018427387904 < p) = false) (d1 : decide (4611686018427387904 < t) = false) (d2 : decide (4611686018427387904 < m) = false) :
    Calls Try.prog 8 #[.int .u64 a, .int .u64 a, .int .u64 c] w fun e w' => e = .returned (.bool true) ∧ Below w.heap.size w w' := by
  have hA := awakeB_any
  have T := Below.refl w.heap.size w
  go_enter Try.func8, Try.ntmps8
  go_wp2_with (first
    | (go_at_call 28; (with_reducible refine (hA _).mono ?_); rintro e w1 ⟨rfl, hb⟩; replace T := up T hb T.size; clear hb)
    | (go_at_call 16; (with_reducible refine (P1 _).mono ?_); rintro e w2 ⟨rfl, hb⟩; replace T := up T hb T.size; clear hb)
    | (go_at_call 20; (with_reducible refine (T1 _).mono ?_); rintro e w3 ⟨rfl, hb⟩; replace T := up T hb T.size; clear hb)
    | (go_at_call 18; (with_reducible refine (M1 _).mono ?_); rintro e w4 ⟨rfl, hb⟩; replace T := up T hb T.size; clear hb)
    | (go_at_call 16; (with_reducible refine (P3 _).mono ?_); rintro e w5 ⟨rfl, hb⟩; replace T := up T hb T.size; clear hb)
    | (go_at_call 16; (with_reducible refine (P4 _).mono ?_); rintro e w6 ⟨rfl, hb⟩; replace T := up T hb T.size; clear hb)
    | (go_at_call 16; (with_reducible refine (P5 _).mono ?_); rintro e w7 ⟨rfl, hb⟩; replace T := up T hb T.size; clear hb)
    | (go_at_call 20; (with_reducible refine (T3 _).mono ?_); rintro e w8 ⟨rfl, hb⟩; replace T := up T hb T.size; clear hb)
    | (go_at_call 20; (with_reducible refine (T4 _).mono ?_); rintro e w9 ⟨rfl, hb⟩; replace T := up T hb T.size; clear hb)
    | (go_at_call 20; (with_reducible refine (T5 _).mono ?_); rintro e w10 ⟨rfl, hb⟩; replace T := up T hb T.size; clear hb)
    | (go_at_call 18; (with_reducible refine (M2 _).mono ?_); rintro e w11 ⟨rfl, hb⟩; replace T := up T hb T.size; clear hb)
    | (go_at_call 18; (with_reducible refine (M4 _).mono ?_); rintro e w12 ⟨rfl, hb⟩; replace T := up T hb T.size; clear hb)
    | (go_at_call 16; (with_reducible refine (P8 _).mono ?_); rintro e w13 ⟨rfl, hb⟩; replace T := up T hb T.size; clear hb)
    | (go_at_call 16; (with_reducible refine (P9 _).mono ?_); rintro e w14 ⟨rfl, hb⟩; replace T := up T hb T.size; clear hb))
  go_ret
  exact ⟨rfl, T⟩
theorem RatioStops_walk (a b c : Int) (ha : Word a) (hb : Word b) (hc : Word c) (w : World) :
    Calls Try.prog 8 #[.int .u64 a, .int .u64 b, .int .u64 c] w fun e w' => e = .returned (.bool true) ∧ Below w.heap.size w w' := by
  have h0 : Word 0 := ⟨by omega, by omega⟩
  have d0 : decide (4611686018427387904 < rP a b) = false := by have := stp_le (a + b); unfold rP; simp; omega
  have d1 : decide (4611686018427387904 < rT a b) = false := by have := stp_le (a * b); unfold rT; simp; omega
  have d2 : decide (4611686018427387904 < rM a b) = false := by have := @rM_le a b; simp; omega
  have P1 := fun w => rPlus'_any a b w ha hb
  have T1 := fun w => rTimes'_any a b w ha hb
  have M1 := fun w => rMinus'_any a b w ha hb
  have P3 := fun w => rPlus'_any (rP a b) c w (rP_word ha hb) hc
  have P4 := fun w => rPlus'_any b c w hb hc
  have T3 := fun w => rTimes'_any (rT a b) c w (rT_word ha hb) hc
  have T4 := fun w => rTimes'_any b c w hb hc
  have P5 := fun w => rPlus'_any a (rP b c) w ha (rP_word hb hc)
  rw [rP_assoc ha hb hc] at P5
  have T5 := fun w => rTimes'_any a (rT b c) w ha (rT_word hb hc)
  rw [rT_assoc ha hb hc] at T5
  have M2 := fun w => rMinus'_any a c w ha hc
  have M4 := fun w => rMinus'_any c b w hc hb
  rcases Int.lt_trichotomy a b with h | rfl | h
  · have P2 := fun w => rPlus'_any b a w hb ha
    rw [rP_comm a b] at P2
    have T2 := fun w => rTimes'_any b a w hb ha
    rw [rT_comm a b] at T2
    have P9 := fun w => rPlus'_any b 0 w hb h0
    rw [rP_back (show a ≤ b by omega) ha.1] at P9
    exact stops_up a b c _ _ _ _ _ _ _ _ _ _ _ _ _ _ _ w h P1 T1 M1 P2 T2 P3 P4 P5 T3 T4 T5 (fun w => rPlus'_any a c w ha hc) (fun w => rTimes'_any a c w ha hc) M2 (fun w => rMinus'_any b c w hb hc) M4 (fun w => rMinus'_any c a w hc ha)
      (fun w => rMinus'_any b a w hb ha) (fun w => rPlus'_any (rM b a) a w rM_word ha) P9 d0 d1 d2
      (by have := rP_mono (c := c) (show a ≤ b by omega); simp; omega) (by have := rT_mono (show a ≤ b by omega) hc.1; simp; omega) (by have := rM_mono (c := c) (show a ≤ b by omega); simp; omega) (by have := rM_anti (c := c) (show a ≤ b by omega); simp; omega)
  · have P9 := fun w => rPlus'_any a 0 w ha h0
    rw [rP_back (Int.le_refl a) ha.1] at P9
    exact stops_same a c _ _ _ _ _ _ _ _ _ _ w P1 T1 M1 P3 P4 P5 T3 T4 T5 M2 M4 (fun w => rPlus'_any (rM a a) a w rM_word ha) P9 d0 d1 d2
  · have P2 := fun w => rPlus'_any b a w hb ha
    rw [rP_comm a b] at P2
    have T2 := fun w => rTimes'_any b a w hb ha
    rw [rT_comm a b] at T2
    have P9 := fun w => rPlus'_any a 0 w ha h0
    rw [rP_back (show b ≤ a by omega) hb.1] at P9
    exact stops_down a b c _ _ _ _ _ _ _ _ _ _ _ _ _ 0 _ w h P1 T1 M1 P2 T2 P3 P4 P5 T3 T4 T5 (fun w => rPlus'_any a c w ha hc) (fun w => rTimes'_any a c w ha hc) M2 (fun w => rMinus'_any b c w hb hc) M4 (fun w => rMinus'_any c a w hc ha)
      M1 (fun w => rPlus'_any (rM a b) b w rM_word hb) P9 d0 d1 d2
      (by have := rP_mono (c := c) (show b ≤ a by omega); simp; omega) (by have := rT_mono (show b ≤ a by omega) hc.1; simp; omega) (by have := rM_mono (c := c) (show b ≤ a by omega); simp; omega) (by have := rM_anti (c := c) (show b ≤ a by omega); simp; omega)
end Go.Proofs.Ytiieehnfbemleaa
