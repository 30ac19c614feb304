/- The library's small random numbers: one step. -/
import Derived.Test.YtmhmoebdojkbpaaSrt
import Derived.Sort.Walk7a
namespace Go.Proofs.Ytmhmoebdojkbpaa
open Go.RowKit Go.Shelf Go.Sort W
set_option linter.unusedVariables false
set_option maxHeartbeats 4000000 in
set_option maxRecDepth 100000 in
theorem nxt_any (rb ro X : Nat) (hX : X < 18446744073709551616) (w : World) (hc : w.cell? ⟨rb, ro, none⟩ = some (.int .u64 X)) (hf : w.frozen? ⟨rb, ro, none⟩ = false) :
    Calls Try.prog 88 #[.pointer (some ⟨rb, ro, none⟩)] w fun e w' => e = .returned (.int .u64 (xorNextN X : Nat)) ∧ w' = (w.setCell ⟨rb, ro, none⟩ (.int .u64 (xorNextN X : Nat))).drewN 3 := by
  obtain ⟨P, hP⟩ : ∃ P : Nat, P = X ^^^ (X * 8192 % 18446744073709551616) := ⟨_, rfl⟩
  obtain ⟨Q, hQ⟩ : ∃ Q : Nat, Q = P ^^^ (P / 128) := ⟨_, rfl⟩
  obtain ⟨R, hR⟩ : ∃ R : Nat, R = Q ^^^ (Q * 131072 % 18446744073709551616) := ⟨_, rfl⟩
  have lP : P < 18446744073709551616 := by rw [hP]; exact Nat.xor_lt_two_pow (n := 64) (by omega) (by omega)
  have lQ : Q < 18446744073709551616 := by rw [hQ]; exact Nat.xor_lt_two_pow (n := 64) (by omega) (by omega)
  have s1 : bits .xor .u64 (X : Int) (IntKind.u64.wrap ((X : Int) * 8192)) = (P : Int) := by
    have h : (X : Int) * 8192 % 18446744073709551616 = ((X * 8192 % 18446744073709551616 : Nat) : Int) := by omega
    rw [IntKind.wrap_u64, h, bits_xor_u64_nat _ _ hX (by omega), hP]
  have s2 : bits .xor .u64 (P : Int) ((P : Int) / 128) = (Q : Int) := by
    have h : (P : Int) / 128 = ((P / 128 : Nat) : Int) := by omega
    rw [h, bits_xor_u64_nat _ _ lP (by omega), hQ]
  have s3 : bits .xor .u64 (Q : Int) (IntKind.u64.wrap ((Q : Int) * 131072)) = (R : Int) := by
    have h : (Q : Int) * 131072 % 18446744073709551616 = ((Q * 131072 % 18446744073709551616 : Nat) : Int) := by omega
    rw [IntKind.wrap_u64, h, bits_xor_u64_nat _ _ lQ (by omega), hR]
  have e : xorNextN X = R := by
    unfold xorNextN
    simp only []
    rw [← hP, ← hQ, ← hR]
  rw [e]
  clear hP hQ hR e
  have over : ∀ v v', (w.setCell ⟨rb, ro, none⟩ v).setCell ⟨rb, ro, none⟩ v' = w.setCell ⟨rb, ro, none⟩ v' := setCell_setCell w rb ro
  go_enter Try.func88, Try.ntmps88
  go_wp2
  go_region
  all_goals go_wp2
  all_goals go_region
  all_goals go_wp2
  all_goals go_region
  all_goals go_wp2
  go_ret
  exact ⟨rfl, rfl⟩
theorem npt_any (n : Nat) (hn : n < 4611686018427387904) (w : World) :
    Calls Try.prog 87 #[.int .i64 n] w fun e w' => e = .returned (.int .u64 ((1 <<< bitsLen n : Nat) : Int)) ∧ w' = w := by
  have len : ∀ w, Calls Try.prog 65 #[.int .u64 (n : Int)] w fun e w' => e = .returned (.int .i64 (bitsLen n : Nat)) ∧ w' = w := fun w => by
    have h := Try.bits_Len (n : Int) w (by omega) (by omega)
    rwa [Int.toNat_natCast, bitLen_eq _ (by omega)] at h
  have small : bitsLen n ≤ 62 := (bitsLen_le_iff n 62).2 (by omega)
  have pw := wrap_two_pow (bitsLen n) small
  go_enter Try.func87, Try.ntmps87
  go_wp2_with (first | (go_at_call 65; refine (len _).mono ?_; rintro e w' ⟨rfl, rfl⟩))
  go_ret
  exact ⟨rfl, rfl⟩
end Go.Proofs.Ytmhmoebdojkbpaa
