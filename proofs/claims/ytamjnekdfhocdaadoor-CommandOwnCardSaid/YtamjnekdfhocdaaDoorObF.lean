/- An eye's Num and Int: what they tell, and what they leave. Condition: less than 2^59 bytes. -/
import Derived.Test.YtamjnekdfhocdaaDoorObE
import Derived.Laws.Bits64b
namespace Go.Proofs.YtamjnekdfhocdaaDoor
open Go.RowKit
set_option linter.unusedVariables false
theorem pow128 (k : Nat) : 128 ^ k = 2 ^ (7 * k) := by rw [Nat.pow_mul]
/-- A part at its place, in 64 bits; and back. -/
def shN (p k : Nat) : Nat := p * 128 ^ k % 18446744073709551616
def shB (p k : Nat) : Nat := shN p k / 2 ^ (min (7 * k) 64)
theorem sh_l (p k : Nat) : Op.shift .shl .u64 (p : Int) .u64 (7 * (k : Int)) = pure (.int .u64 ((shN p k : Nat) : Int)) := by
  unfold Op.shift
  rw [if_neg (by omega)]
  have e : (7 * (k : Int)).toNat = 7 * k := by omega
  have e' : IntKind.u64.bits = 64 := rfl
  simp only [e, e']
  congr 2
  rw [IntKind.wrap_u64]
  unfold shN
  have h1 : ((p : Int) * 2 ^ (min (7 * k) 64)) = ((p * 2 ^ (min (7 * k) 64) : Nat) : Int) := by simp
  rw [h1]
  have hmm : p * 2 ^ (min (7 * k) 64) % 18446744073709551616 = p * 128 ^ k % 18446744073709551616 := by
    rw [pow128]
    by_cases h : 7 * k ≤ 64
    · rw [Nat.min_eq_left h]
    · rw [Nat.min_eq_right (by omega)]
      obtain ⟨d, hd⟩ : ∃ d, 7 * k = 64 + d := ⟨7 * k - 64, by omega⟩
      rw [hd, Nat.pow_add, ← Nat.mul_assoc, Nat.mul_comm p (2 ^ 64), Nat.mul_assoc]
      show (2 ^ 64 * p) % 2 ^ 64 = (2 ^ 64 * (p * 2 ^ d)) % 2 ^ 64
      rw [Nat.mul_mod_right, Nat.mul_mod_right]
  omega
theorem sh_r (p k : Nat) : Op.shift .shr .u64 ((shN p k : Nat) : Int) .u64 (7 * (k : Int)) = pure (.int .u64 ((shB p k : Nat) : Int)) := by
  unfold Op.shift
  rw [if_neg (by omega)]
  have e : (7 * (k : Int)).toNat = 7 * k := by omega
  have e' : IntKind.u64.bits = 64 := rfl
  simp only [e, e']
  congr 2
  unfold shB
  obtain ⟨m, hm⟩ : ∃ m, min (7 * k) 64 = m := ⟨_, rfl⟩
  rw [hm]
  have h2 : ((2 : Int) ^ m) = ((2 ^ m : Nat) : Int) := by simp
  rw [h2, Int.fdiv_eq_ediv_of_nonneg _ (Int.natCast_nonneg _), ← Int.natCast_ediv]
theorem sh_ok {p k : Nat} (hp : p < 128) (h : p * 128 ^ k < 18446744073709551616) : shN p k = p * 128 ^ k ∧ shB p k = p := by
  have e : shN p k = p * 128 ^ k := Nat.mod_eq_of_lt h
  refine ⟨e, ?_⟩
  unfold shB
  rw [e]
  by_cases h0 : p = 0
  · subst h0; simp
  · have hk : k < 10 := by
      rcases Nat.lt_or_ge k 10 with h' | h'
      · exact h'
      · have := pow_big h'
        have := Nat.mul_le_mul_right (128 ^ k) (show 1 ≤ p by omega)
        omega
    by_cases h9 : 7 * k ≤ 64
    · rw [Nat.min_eq_left h9, ← pow128]
      exact Nat.mul_div_cancel _ (Nat.pow_pos (by decide))
    · omega
theorem sh_no {p k : Nat} (hp : p < 128) (h : 18446744073709551616 ≤ p * 128 ^ k) : shB p k ≠ p := by
  unfold shB
  by_cases hk : 10 ≤ k
  · have e : shN p k = 0 := by
      unfold shN
      obtain ⟨d, hd⟩ : ∃ d, 7 * k = 64 + d := ⟨7 * k - 64, by omega⟩
      rw [pow128, hd, Nat.pow_add, ← Nat.mul_assoc, Nat.mul_comm p (2 ^ 64), Nat.mul_assoc]
      show (2 ^ 64 * (p * 2 ^ d)) % 2 ^ 64 = 0
      rw [Nat.mul_mod_right]
    rw [e, Nat.zero_div]
    intro h0
    rw [← h0] at h
    simp at h
  · rw [Nat.min_eq_left (by omega), ← pow128]
    have e : shN p k < p * 128 ^ k := by
      unfold shN
      have := Nat.mod_lt (p * 128 ^ k) (show 0 < 18446744073709551616 by decide)
      omega
    have := (Nat.div_lt_iff_lt_mul (Nat.pow_pos (n := k) (show 0 < 128 by decide))).2 e
    omega
theorem sh_or {p k acc : Nat} (h : acc < 128 ^ k) : acc ||| p * 128 ^ k = acc + p * 128 ^ k := by
  rw [pow128] at h ⊢
  rw [Nat.or_comm, Nat.mul_comm p, ← Nat.two_pow_add_eq_or_of_lt h, Nat.add_comm]
theorem nu_none {s : Ey} (h : rdNum s.left = none) : nuV s.left = 0 ∧ nuE s = Ey.fail := by unfold nuV nuE; rw [h]; exact ⟨rfl, rfl⟩
theorem nu_some {s : Ey} {n : Nat} {R : List UInt8} (h : rdNum s.left = some (n, R)) : nuV s.left = n ∧ nuE s = ⟨R, s.bad⟩ := by unfold nuV nuE; rw [h]; exact ⟨rfl, rfl⟩
set_option maxHeartbeats 16000000 in
set_option maxRecDepth 100000 in
theorem ENum_any {w : World} {E : Nat} {s : Ey} (h : Eye w E s) (ho : s.ok) (hlen : s.left.length < 576460752303423488) : Calls Tryd.prog 54 #[ptr E] w fun e w' => e = .returned (.int .u64 (nuV s.left : Int)) ∧ Eye w' E (nuE s) ∧ But E w w' := by
  go_enter Tryd.func54, Tryd.ntmps54
  go_wp2
  go_loopw [3, 4, 5, 6, 7] (fun s3 s4 s5 s6 s7 wr => ∃ (k acc : Nat) (S : List UInt8), s3 = .int .u64 acc ∧ s4 = .int .u64 ((7 * k : Nat) : Int) ∧ Mid s.left k acc S ∧ Eye wr E ⟨S, s.bad⟩ ∧ But E w wr) (fun s3 s4 s5 s6 s7 _ => 8 * s.left.length + 8 - (intOf s4).toNat)
  case atStart => exact ⟨0, 0, s.left, rfl, rfl, Mid.start _, h, But.refl _ _⟩
  case round =>
    obtain ⟨k, acc, S, rfl, rfl, hM, hE, hB⟩ := hrel
    clear h
    have hK := EByte_any hE
    have hm := hM.many
    cases S with
    | nil =>
      obtain ⟨e1, e2⟩ := nu_none hM.none
      go_wp2_with (first
        | (go_at_call 35; (with_reducible refine hK.mono ?_); rintro e w1 ⟨rfl, hE1, hB1⟩; have hQ := Failed_any hE1; have hF := Fail_any hE1)
        | (go_at_call 57; (with_reducible refine hQ.mono ?_); rintro e w1 ⟨rfl, rfl⟩)
        | (go_at_call 53; (with_reducible refine hF.mono ?_); rintro e w2 ⟨rfl, hE2, hB2⟩))
      go_ret
      rw [e1, e2]
      exact ⟨rfl, hE2, (hB.trans hB1).trans hB2⟩
    | cons b R =>
      have hbad : s.bad = false := by
        cases hb : s.bad
        · rfl
        · have := ho hb
          rw [this] at hm
          simp at hm
      have hb256 := UInt8.toNat_lt b
      have hK : Calls Tryd.prog 35 #[ptr E] wr fun e w' => e = .returned (.int .u8 ((b.toNat : Nat) : Int)) ∧ Eye w' E ⟨R, false⟩ ∧ But E wr w' := by
        rw [hbad] at hK
        exact hK
      obtain ⟨v, hv⟩ : ∃ v, b.toNat = v := ⟨_, rfl⟩
      rw [hv] at hK hb256
      have hF1 : ∀ w1, Eye w1 E ⟨R, false⟩ → Calls Tryd.prog 57 #[ptr E] w1 fun e w' => e = .returned (.bool false) ∧ w1 = w' := fun w1 h => Failed_any h
      have hF2 : ∀ w1, Eye w1 E ⟨R, false⟩ → Calls Tryd.prog 53 #[ptr E] w1 fun e w' => e = .returned unitV ∧ Eye w' E Ey.fail ∧ But E w1 w' := fun w1 h => Fail_any h
      obtain ⟨p, hp⟩ : ∃ p, v % 128 = p := ⟨_, rfl⟩
      have hp128 : p < 128 := by omega
      have hpi : (v : Int) % 128 = (p : Int) := by omega
      have hs1 := sh_l p k
      have hs2 := sh_r p k
      by_cases hz : v = 0 ∧ 0 < k
      · have hn := nu_none (hM.zero hz.2 (by rw [hv]; exact hz.1))
        have j1 : ((v : Int) == 0) = true := by rw [hz.1]; rfl
        have j2 : (0 : Int) < 7 * (k : Int) := by omega
        replace hn := Lib.hid hn
        clear hE hM hz hs1 hs2
        go_wp2_with (first
          | (go_at_call 35; (with_reducible refine hK.mono ?_); rintro e w1 ⟨rfl, hE1, hB1⟩; have hQ := hF1 _ hE1; have hG := hF2 _ hE1)
          | (go_at_call 57; (with_reducible refine hQ.mono ?_); rintro e w1 ⟨rfl, rfl⟩)
          | (go_at_call 53; (with_reducible refine hG.mono ?_); rintro e w2 ⟨rfl, hE2, hB2⟩))
        go_ret
        rw [hn.out.1, hn.out.2]
        exact ⟨rfl, hE2, (hB.trans hB1).trans hB2⟩
      · by_cases hg : 18446744073709551616 ≤ p * 128 ^ k
        · have hn := Lib.hid (nu_none (hM.great (by rw [hv, hp]; exact hg)))
          have hne := sh_no hp128 hg
          have h0 : v ≠ 0 := by
            intro e
            subst e
            subst hp
            simp at hg
          have j1 : ((v : Int) == 0) = false := beq_eq_false_iff_ne.2 (by omega)
          obtain ⟨y, hy⟩ : ∃ y, shB p k = y := ⟨_, rfl⟩
          obtain ⟨q, hq⟩ : ∃ q, shN p k = q := ⟨_, rfl⟩
          rw [hy] at hs2 hne
          rw [hq] at hs1 hs2
          have j2 : ((y : Int) == (p : Int)) = false := beq_eq_false_iff_ne.2 (by omega)
          have j3 : ((y : Int) != (p : Int)) = true := by rw [bne, j2]; rfl
          clear hE hM hz hg hy hq hne
          go_wp2_with (first
            | (go_at_call 35; (with_reducible refine hK.mono ?_); rintro e w1 ⟨rfl, hE1, hB1⟩; have hQ := hF1 _ hE1; have hG := hF2 _ hE1)
            | (go_at_call 57; (with_reducible refine hQ.mono ?_); rintro e w1 ⟨rfl, rfl⟩)
            | (go_at_call 53; (with_reducible refine hG.mono ?_); rintro e w2 ⟨rfl, hE2, hB2⟩))
          go_ret
          rw [hn.out.1, hn.out.2]
          exact ⟨rfl, hE2, (hB.trans hB1).trans hB2⟩
        · have hsm : b.toNat % 128 * 128 ^ k < 18446744073709551616 := by rw [hv, hp]; omega
          obtain ⟨a1, a2⟩ := sh_ok hp128 (Nat.lt_of_not_le hg)
          have hfit := hM.fits hsm
          rw [hv, hp] at hfit
          have hor : bits .or .u64 (acc : Int) ((p * 128 ^ k : Nat) : Int) = ((acc + p * 128 ^ k : Nat) : Int) := by rw [bits_or_u64_nat acc _ hM.word (by omega), sh_or hM.lo]
          rw [a2] at hs2
          rw [a1] at hs1 hs2
          have hlast := Lib.hid (fun (h7 : v < 128) => nu_some (hM.last (by rw [hv]; exact h7) (by rw [hv]; omega) hsm))
          have hnext := Lib.hid (fun (h7 : 128 ≤ v) => hM.next (by rw [hv]; exact h7) hsm)
          rw [hv, hp] at hlast hnext
          obtain ⟨q, hq⟩ : ∃ q, p * 128 ^ k = q := ⟨_, rfl⟩
          rw [hq] at hs1 hs2 hor hlast hnext hfit
          obtain ⟨N, hN⟩ : ∃ N, acc + q = N := ⟨_, rfl⟩
          rw [hN] at hor hlast hnext hfit
          clear hE hM hsm hg hq hN a1 a2
          by_cases h0 : v = 0
          · have j1 : ((v : Int) == 0) = true := by rw [h0]; rfl
            have j2 : decide ((0 : Int) < 7 * (k : Int)) = false := decide_eq_false (by omega)
            have j3 : (v : Int) < 128 := by omega
            have hn := Lib.hid (hlast.out (by omega))
            clear hz h0 hlast hnext
            go_wp2_with (first
              | (go_at_call 35; (with_reducible refine hK.mono ?_); rintro e w1 ⟨rfl, hE1, hB1⟩; have hQ := hF1 _ hE1; have hG := hF2 _ hE1)
              | (go_at_call 57; (with_reducible refine hQ.mono ?_); rintro e w1 ⟨rfl, rfl⟩)
              | (go_at_call 53; (with_reducible refine hG.mono ?_); rintro e w2 ⟨rfl, hE2, hB2⟩))
            go_ret
            rw [hn.out.1, hn.out.2, hbad]
            exact ⟨rfl, hE1, hB.trans hB1⟩
          · have j1 : ((v : Int) == 0) = false := beq_eq_false_iff_ne.2 (by omega)
            by_cases h7 : v < 128
            · have j2 : (v : Int) < 128 := by omega
              have hn := Lib.hid (hlast.out h7)
              clear hz hlast hnext
              go_wp2_with (first
                | (go_at_call 35; (with_reducible refine hK.mono ?_); rintro e w1 ⟨rfl, hE1, hB1⟩; have hQ := hF1 _ hE1; have hG := hF2 _ hE1)
                | (go_at_call 57; (with_reducible refine hQ.mono ?_); rintro e w1 ⟨rfl, rfl⟩)
                | (go_at_call 53; (with_reducible refine hG.mono ?_); rintro e w2 ⟨rfl, hE2, hB2⟩))
              go_ret
              rw [hn.out.1, hn.out.2, hbad]
              exact ⟨rfl, hE1, hB.trans hB1⟩
            · have j2 : ¬ (v : Int) < 128 := by omega
              have hn := hnext.out (by omega)
              have hn2 := hn.many
              clear hz hlast hnext
              replace hn := Lib.hid hn
              go_wp2_with (first
                | (go_at_call 35; (with_reducible refine hK.mono ?_); rintro e w1 ⟨rfl, hE1, hB1⟩; have hQ := hF1 _ hE1; have hG := hF2 _ hE1)
                | (go_at_call 57; (with_reducible refine hQ.mono ?_); rintro e w1 ⟨rfl, rfl⟩)
                | (go_at_call 53; (with_reducible refine hG.mono ?_); rintro e w2 ⟨rfl, hE2, hB2⟩))
              go_roundw
              case rel => exact ⟨k + 1, N, R, rfl, by rw [show ((7 * (k + 1) : Nat) : Int) = 7 * (k : Int) + 7 by omega], hn.out, by rw [hbad]; exact hE1, hB.trans hB1⟩
              case measure =>
                simp only [intOf, List.length_cons] at hm ⊢
                omega
set_option maxHeartbeats 16000000 in
set_option maxRecDepth 100000 in
theorem ENum_nil (w : World) : Calls Tryd.prog 54 #[.pointer none] w fun e w' => e = .returned (.int .u64 0) ∧ w = w' := by
  have hK := EByte_nil w
  have hQ := Failed_nil w
  have hF := Fail_nil w
  go_enter Tryd.func54, Tryd.ntmps54
  go_wp2
  go_loopw [3, 4, 5, 6, 7] (fun s3 s4 s5 s6 s7 wr => s3 = .int .u64 0 ∧ s4 = .int .u64 0 ∧ w = wr) (fun s3 s4 s5 s6 s7 _ => 0)
  case atStart => exact ⟨rfl, rfl, rfl⟩
  case round =>
    obtain ⟨rfl, rfl, rfl⟩ := hrel
    go_wp2_with (first
      | (go_at_call 35; (with_reducible refine hK.mono ?_); rintro e w1 ⟨rfl, rfl⟩)
      | (go_at_call 57; (with_reducible refine hQ.mono ?_); rintro e w1 ⟨rfl, rfl⟩)
      | (go_at_call 53; (with_reducible refine hF.mono ?_); rintro e w1 ⟨rfl, rfl⟩))
    go_ret
    exact ⟨rfl, rfl⟩
set_option maxHeartbeats 16000000 in
set_option maxRecDepth 100000 in
theorem EInt_any {w : World} {E : Nat} {s : Ey} (h : Eye w E s) (ho : s.ok) (hlen : s.left.length < 576460752303423488) : Calls Tryd.prog 55 #[ptr E] w fun e w' => e = .returned (.int .i64 (sg (nuV s.left))) ∧ Eye w' E (nuE s) ∧ But E w w' := by
  have hK := ENum_any h ho hlen
  have hn := nuV_lt s.left
  unfold sg
  obtain ⟨n, hnn⟩ : ∃ n, nuV s.left = n := ⟨_, rfl⟩
  rw [hnn] at hK hn ⊢
  clear hnn h
  by_cases h2 : n % 2 = 0
  · rw [if_pos h2]
    have j0 : (n : Int) % 2 = 0 := by omega
    have j1 : IntKind.i64.wrap ((n : Int) / 2) = (n : Int) / 2 := by rw [IntKind.wrap_i64]; omega
    go_enter Tryd.func55, Tryd.ntmps55
    go_wp2_with (go_at_call 54; (with_reducible refine hK.mono ?_); rintro e w1 ⟨rfl, hE, hB⟩)
    go_ret
    exact ⟨by simp, hE, hB⟩
  · rw [if_neg h2]
    have j0 : (n : Int) % 2 = 1 := by omega
    have j1 : IntKind.i64.wrap ((n : Int) / 2) = (n : Int) / 2 := by rw [IntKind.wrap_i64]; omega
    go_enter Tryd.func55, Tryd.ntmps55
    go_wp2_with (go_at_call 54; (with_reducible refine hK.mono ?_); rintro e w1 ⟨rfl, hE, hB⟩)
    go_ret
    exact ⟨by simp, hE, hB⟩
end Go.Proofs.YtamjnekdfhocdaaDoor
