/- Sums of products of two rows: in whatever order, and part by part. No condition. -/
import Derived.Test.YtiieehnfbemleaaOwn
namespace Go.Proofs.Ytiieehnfbemleaa.W
set_option linter.unusedVariables false
theorem S_comm (f g : Nat → Int) (n : Nat) : S f g n = S g f n := by
  induction n with
  | zero => rfl
  | succ n ih => show S f g n + f n * g n = S g f n + g n * f n; rw [ih, Int.mul_comm]
theorem S_congr {f g f' g' : Nat → Int} {n : Nat} (hf : ∀ j, j < n → f' j = f j) (hg : ∀ j, j < n → g' j = g j) : S f' g' n = S f g n := by
  induction n with
  | zero => rfl
  | succ n ih => show S f' g' n + f' n * g' n = S f g n + f n * g n; rw [ih (fun j h => hf j (by omega)) (fun j h => hg j (by omega)), hf n (by omega), hg n (by omega)]
theorem S_split (f g : Nat → Int) (k m : Nat) : S f g (k + m) = S f g k + S (fun j => f (k + j)) (fun j => g (k + j)) m := by
  induction m with
  | zero => show S f g k = S f g k + 0; omega
  | succ m ih => show S f g (k + m) + f (k + m) * g (k + m) = S f g k + (S (fun j => f (k + j)) (fun j => g (k + j)) m + f (k + m) * g (k + m)); rw [ih]; omega
theorem S_front (f g : Nat → Int) (n : Nat) : S f g (n + 1) = f 0 * g 0 + S (fun j => f (j + 1)) (fun j => g (j + 1)) n := by
  induction n with
  | zero => show (0 : Int) + f 0 * g 0 = f 0 * g 0 + 0; omega
  | succ n ih => show S f g (n + 1) + f (n + 1) * g (n + 1) = f 0 * g 0 + (S (fun j => f (j + 1)) (fun j => g (j + 1)) n + f (n + 1) * g (n + 1)); rw [ih]; omega
theorem S_rev (f g : Nat → Int) (n : Nat) : S (fun j => f (n - 1 - j)) (fun j => g (n - 1 - j)) n = S f g n := by
  induction n with
  | zero => rfl
  | succ n ih =>
    rw [S_front]
    show f n * g n + S (fun j => f (n - (j + 1))) (fun j => g (n - (j + 1))) n = S f g n + f n * g n
    rw [← ih, S_congr (f := fun j => f (n - 1 - j)) (g := fun j => g (n - 1 - j)) (fun j _ => by show f (n - (j + 1)) = f (n - 1 - j); congr 1; omega) (fun j _ => by show g (n - (j + 1)) = g (n - 1 - j); congr 1; omega)]
    omega
/-- What two parts add up to, told as a sum is told. -/
theorem parts {t a b : Int} (h : t = a + b) (ha : 0 ≤ a) (hb : 0 ≤ b) : (sE t = 0 ↔ sE a = 0 ∧ sE b = 0 ∧ pE (sH a) (sL a) (sH b) (sL b) = 0) ∧ (sE t = 0 → pH (sH a) (sL a) (sH b) (sL b) = sH t ∧ pL (sH a) (sL a) (sH b) (sL b) = sL t) := by
  unfold sE
  by_cases k : t < 340282366920938463463374607431768211456
  · have k1 : a < 340282366920938463463374607431768211456 := by omega
    have k2 : b < 340282366920938463463374607431768211456 := by omega
    obtain ⟨_, e2, e3⟩ := s_ok k
    obtain ⟨_, a2, a3⟩ := s_ok k1
    obtain ⟨_, b2, b3⟩ := s_ok k2
    rw [if_pos k, if_pos k1, if_pos k2, e2, e3, a2, a3, b2, b3]
    obtain ⟨p1, p2, p3⟩ := @pOk (a / 18446744073709551616) (a % 18446744073709551616) (b / 18446744073709551616) (b % 18446744073709551616) (t / 18446744073709551616) (t % 18446744073709551616) (by rw [V_s, V_s, V_s, h]) (by unfold Word; omega) (by unfold Word; omega)
    exact ⟨⟨fun _ => ⟨rfl, rfl, p1⟩, fun _ => rfl⟩, fun _ => ⟨p2, p3⟩⟩
  · rw [if_neg k]
    refine ⟨⟨(fun h => by cases h), fun ⟨h1, h2, h3⟩ => ?_⟩, (fun h => by cases h)⟩
    split at h1
    · rename_i k1
      split at h2
      · rename_i k2
        obtain ⟨_, a2, a3⟩ := s_ok k1
        obtain ⟨_, b2, b3⟩ := s_ok k2
        rw [a2, a3, b2, b3] at h3
        obtain ⟨p1, _, _⟩ := @pNo (a / 18446744073709551616) (a % 18446744073709551616) (b / 18446744073709551616) (b % 18446744073709551616) (by rw [V_s, V_s]; omega)
        rw [p1] at h3
        cases h3
      · cases h2
    · cases h1
end Go.Proofs.Ytiieehnfbemleaa.W
