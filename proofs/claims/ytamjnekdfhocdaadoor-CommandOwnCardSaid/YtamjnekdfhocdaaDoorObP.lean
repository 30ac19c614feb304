/- The document's eye: a number. Condition: less than 2^59 bytes. -/
import Derived.Test.YtamjnekdfhocdaaDoorObO
import Derived.Deep.RegionHeld3
import Derived.MapKept
import Derived.Laws.StructEq
namespace Go.Proofs.YtamjnekdfhocdaaDoor
open Go.RowKit
set_option linter.unusedVariables false
/-- How many bytes of 128 or more stand at the beginning. -/
def hiC : List UInt8 → Nat
  | [] => 0
  | b :: R => if 128 ≤ b.toNat then hiC R + 1 else 0
theorem hiC_le : ∀ S, hiC S ≤ S.length
  | [] => Nat.le_refl _
  | b :: R => by
    have := hiC_le R
    unfold hiC
    split
    · simp only [List.length_cons]; omega
    · exact Nat.zero_le _
theorem hiC_lt : ∀ (S : List UInt8) (j : Nat), j < hiC S → ∃ b, S[j]? = some b ∧ 128 ≤ b.toNat
  | [], j, h => by simp [hiC] at h
  | b :: R, j, h => by
    unfold hiC at h
    split at h
    · rename_i hb
      cases j with
      | zero => exact ⟨b, rfl, hb⟩
      | succ j => exact hiC_lt R j (by omega)
    · omega
theorem hiC_at : ∀ (S : List UInt8) (b : UInt8), S[hiC S]? = some b → b.toNat < 128
  | [], b, h => by simp at h
  | c :: R, b, h => by
    unfold hiC at h
    split at h
    · rw [List.getElem?_cons_succ] at h
      exact hiC_at R b h
    · rename_i hb
      rw [List.getElem?_cons_zero] at h
      cases h
      omega
theorem hiC_num : ∀ (n : Nat) (R : List UInt8), hiC (numL n ++ R) + 1 = (numL n).length := by
  intro n
  induction n using Nat.strongRecOn with
  | _ n ih =>
    intro R
    by_cases h : n < 128
    · rw [numL_lt h]
      show hiC (UInt8.ofNat n :: R) + 1 = 1
      unfold hiC
      rw [if_neg (by rw [toNat_lo h]; omega)]
    · rw [numL_ge (by omega : 128 ≤ n)]
      show hiC (_ :: (numL (n / 128) ++ R)) + 1 = _
      unfold hiC
      rw [if_pos (by rw [toNat_hi]; omega), ih (n / 128) (by omega) R, List.length_cons]
/-- What bytes are worth, the least first. -/
def valL : List UInt8 → Nat
  | [] => 0
  | b :: R => b.toNat % 128 + 128 * valL R
theorem val_num : ∀ n, valL (numL n) = n := by
  intro n
  induction n using Nat.strongRecOn with
  | _ n ih =>
    by_cases h : n < 128
    · rw [numL_lt h]
      simp only [valL, toNat_lo h]
      omega
    · rw [numL_ge (by omega : 128 ≤ n)]
      simp only [valL, toNat_hi, ih (n / 128) (by omega)]
      omega
theorem drop_one {S : List UInt8} {m : Nat} {b : UInt8} (h : S[m]? = some b) : S.drop m = b :: S.drop (m + 1) := by
  obtain ⟨hl, e⟩ := List.getElem?_eq_some_iff.1 h
  rw [List.drop_eq_getElem_cons hl, e]
/-- What may be told of a number by the first byte below 128. -/
theorem rd_far {S : List UInt8} (h : S.length ≤ hiC S ∨ 9 < hiC S) : rdNum S = none :=
  rdNum_none fun n R hn e => by
    have h1 := hiC_num n R
    have h2 := numL_le10 hn
    have h3 : S.length = (numL n).length + R.length := by rw [e, List.length_append]
    rw [← e] at h1
    omega
theorem rd_same {S : List UInt8} {N : Nat} (h : hiC S < S.length) (hN : N < 18446744073709551616) (e : numL N = S.take (hiC S + 1)) : rdNum S = some (N, S.drop (hiC S + 1)) := by
  have : S = numL N ++ S.drop (hiC S + 1) := by rw [e, List.take_append_drop]
  conv => lhs; rw [this]
  exact rdNum_num hN _
theorem rd_other {S : List UInt8} {N : Nat} (hN : N = valL (S.take (hiC S + 1)) % 18446744073709551616) (e : numL N ≠ S.take (hiC S + 1)) : rdNum S = none :=
  rdNum_none fun n R hn h => by
    have h1 := hiC_num n R
    rw [← h] at h1
    have h2 : S.take (hiC S + 1) = numL n := by rw [h1, h]; simp
    rw [h2, val_num, Nat.mod_eq_of_lt hn] at hN
    subst hN
    exact e h2.symm
theorem bs_get {S : List UInt8} {j : Nat} {b : UInt8} (h : S[j]? = some b) (hj : j < (bs S).size) : (bs S)[j]'hj = b := by
  obtain ⟨hl, e⟩ := List.getElem?_eq_some_iff.1 h
  exact e
theorem bs_take' (L : List UInt8) (q : Nat) : (bs L).extract 0 q = bs (L.take q) := by rw [bs_extract, List.drop_zero]
theorem bs_drop (L : List UInt8) (q : Nat) : (bs L).extract q L.length = bs (L.drop q) := by
  rw [bs_extract, List.take_length]
set_option maxHeartbeats 16000000 in
set_option maxRecDepth 100000 in
theorem REye_num {w : World} {E : Nat} {s : Ey} (h : Rye w E s) (hlen : s.left.length < 576460752303423488) : Calls Tryd.prog 39 #[ptr E] w fun e w' => e = .returned (.int .u64 (nuV s.left : Int)) ∧ Rye w' E (nuE s) ∧ But E w w' := by
  have hF := RFail_any h
  obtain ⟨c0, c1, f0, f1⟩ := h.cells
  have hz := bs_size s.left
  go_enter Tryd.func39, Tryd.ntmps39
  go_wp2
  go_loopw [3] (fun s3 wr => ∃ j : Nat, s3 = .int .i64 j ∧ j ≤ hiC s.left ∧ w = wr) (fun s3 _ => hiC s.left - (intOf s3).toNat)
  case atStart => exact ⟨0, rfl, Nat.zero_le _, rfl⟩
  case round =>
    obtain ⟨j, rfl, hj, rfl⟩ := hrel
    have hle := hiC_le s.left
    by_cases hlt : j < hiC s.left
    · obtain ⟨b, hb, hb128⟩ := hiC_lt _ _ hlt
      have k0 : (j : Int) < (s.left.length : Int) := by omega
      have hjs : j < (bs s.left).size := by omega
      have k1 : (128 : Int) ≤ (((bs s.left)[j]'hjs).toNat : Int) := by rw [bs_get hb hjs]; omega
      go_wp2
      go_roundw
      case rel => exact ⟨j + 1, by simp, by omega, by simp⟩
      case measure => simp only [intOf]; omega
    · obtain rfl : j = hiC s.left := by omega
      obtain ⟨j, hjj⟩ : ∃ j, hiC s.left = j := ⟨_, rfl⟩
      have hfar := Lib.hid (fun hend : s.left.length ≤ j ∨ 9 < j => nu_none (rd_far (by rw [hjj]; exact hend)))
      have hat := Lib.hid (fun (b : UInt8) (hb : s.left[j]? = some b) => hiC_at s.left b (by rw [hjj]; exact hb))
      have hsame := Lib.hid (fun (N : Nat) (h1 : j < s.left.length) (h2 : N < 18446744073709551616) (h3 : numL N = s.left.take (j + 1)) => nu_some (rd_same (S := s.left) (N := N) (by rw [hjj]; exact h1) h2 (by rw [hjj]; exact h3)))
      have hother := Lib.hid (fun (N : Nat) (h2 : N = valL (s.left.take (j + 1)) % 18446744073709551616) (h3 : numL N ≠ s.left.take (j + 1)) => nu_none (rd_other (S := s.left) (N := N) (by rw [hjj]; exact h2) (by rw [hjj]; exact h3)))
      rw [hjj] at hsame
      clear hlt hle hj
      rw [hjj]
      clear hjj
      by_cases hend : s.left.length ≤ j
      · have hn := Lib.hid (hfar.out (.inl hend))
        have k0 : ¬ (j : Int) < (s.left.length : Int) := by omega
        have k1 : (s.left.length : Int) ≤ (j : Int) := by omega
        clear hfar hat hsame hother hend
        go_wp2_with (go_at_call 58; (with_reducible refine hF.mono ?_); rintro e w1 ⟨rfl, hE, hB⟩)
        go_ret
        rw [hn.out.1, hn.out.2]
        exact ⟨rfl, hE, hB⟩
      · obtain ⟨b, hb⟩ : ∃ b, s.left[j]? = some b := ⟨_, List.getElem?_eq_getElem (by omega)⟩
        have hb128 := hat.out b hb
        have k0 : (j : Int) < (s.left.length : Int) := by omega
        have k0' : ¬ (s.left.length : Int) ≤ (j : Int) := by omega
        have hjs : j < (bs s.left).size := by omega
        have k1 : ¬ (128 : Int) ≤ (((bs s.left)[j]'hjs).toNat : Int) := by rw [bs_get hb hjs]; omega
        by_cases h9 : 9 < j
        · have hn := Lib.hid (hfar.out (.inr h9))
          have k2 : (9 : Int) < (j : Int) := by omega
          clear hfar hat hsame hother hend hb hb128
          go_wp2_with (go_at_call 58; (with_reducible refine hF.mono ?_); rintro e w1 ⟨rfl, hE, hB⟩)
          go_ret
          rw [hn.out.1, hn.out.2]
          exact ⟨rfl, hE, hB⟩
        · have k2 : ¬ (9 : Int) < (j : Int) := by omega
          clear hfar hat hb hb128
          go_wp2
          go_loopw [4, 5] (fun s4 s5 wr => ∃ m V : Nat, s4 = .int .u64 V ∧ s5 = .int .i64 ((m : Int) - 1) ∧ m ≤ j + 1 ∧ V = valL ((s.left.take (j + 1)).drop m) % 18446744073709551616 ∧ w = wr) (fun s4 s5 _ => (intOf s5 + 1).toNat)
          case atStart => exact ⟨j + 1, 0, rfl, by rw [show ((j + 1 : Nat) : Int) - 1 = (j : Int) by omega], Nat.le_refl _, by rw [List.drop_eq_nil_of_le (by simp; omega)]; rfl, rfl⟩
          case round =>
            obtain ⟨m, V, rfl, rfl, hm, hV, rfl⟩ := hrel
            have hV64 : V < 18446744073709551616 := by rw [hV]; exact Nat.mod_lt _ (by decide)
            cases m with
            | succ i =>
              obtain ⟨b, hb⟩ : ∃ b, s.left[i]? = some b := ⟨_, List.getElem?_eq_getElem (by omega)⟩
              have hdr : (s.left.take (j + 1)).drop i = b :: (s.left.take (j + 1)).drop (i + 1) := drop_one (by rw [List.getElem?_take_of_lt (by omega)]; exact hb)
              obtain ⟨V', hV'⟩ : ∃ V', valL ((s.left.take (j + 1)).drop i) % 18446744073709551616 = V' := ⟨_, rfl⟩
              have hstep : V' = (128 * V % 18446744073709551616 + b.toNat % 128) % 18446744073709551616 := by
                rw [← hV', hdr, valL, hV]
                omega
              have k3 : (((i + 1 : Nat) : Int) - 1) = (i : Int) := by omega
              rw [k3]
              have k4 : (0 : Int) ≤ (i : Int) := by omega
              have k5 : (i : Int) < (s.left.length : Int) := by omega
              have his : i < (bs s.left).size := by omega
              have hbg : (bs s.left)[i]'his = b := bs_get hb his
              obtain ⟨p, hp⟩ : ∃ p, b.toNat % 128 = p := ⟨_, rfl⟩
              have hpi : (b.toNat : Int) % 128 = (p : Int) := by omega
              obtain ⟨x, hx⟩ : ∃ x, 128 * V % 18446744073709551616 = x := ⟨_, rfl⟩
              have k6 : IntKind.u64.wrap (128 * (V : Int)) = (x : Int) := by rw [IntKind.wrap_u64]; omega
              rw [hx, hp] at hstep
              have k7 : IntKind.u64.wrap ((x : Int) + (p : Int)) = (V' : Int) := by rw [IntKind.wrap_u64]; omega
              have hp128 : (p : Int) < 128 := by omega
              have hVs := Lib.hid hV'
              clear hdr hV hV' hstep hx hp hb k3
              go_wp2
              go_roundw
              case rel => exact ⟨i, V', rfl, rfl, by omega, hVs.out.symm, by simp⟩
              case measure => simp only [intOf]; omega
            | zero =>
              have k4 : ¬ (0 : Int) ≤ ((0 : Nat) : Int) - 1 := by omega
              have k4' : ((0 : Nat) : Int) - 1 = -1 := by omega
              rw [List.drop_zero] at hV
              have hK : ∀ v, Calls Tryd.prog 28 #[.int .u64 (V : Int)] v fun e w' => e = .returned (.string (bs (numL V))) ∧ Below v.heap.size v w' := RNum_any V hV64
              have hx1 : (bs s.left).extract 0 (j + 1) = bs (s.left.take (j + 1)) := bs_take' s.left (j + 1)
              have hx2 : (bs s.left).extract (j + 1) s.left.length = bs (s.left.drop (j + 1)) := bs_drop s.left (j + 1)
              have hlt0 := h.lt
              have hwj : IntKind.i64.wrap ((j : Int) + 1) = (j : Int) + 1 := by rw [IntKind.wrap_i64]; omega
              have k6 : (0 : Int) ≤ (j : Int) + 1 := by omega
              have k7 : ((j : Int) + 1).toNat = j + 1 := by omega
              have k8 : (j : Int) + 1 ≤ ((bs s.left).size : Int) := by omega
              have k5 : (j : Int) + 1 ≤ (s.left.length : Int) := by omega
              rw [k4']
              clear k4 k4'
              by_cases heq : numL V = s.left.take (j + 1)
              · have hn := Lib.hid (hsame.out V (by omega) hV64 heq)
                rw [heq] at hK
                clear hother hV heq
                go_upto_region 12 with fail
                go_region_held3 (fun v => v.cell? ⟨E, 0, none⟩ = some (.string (bs s.left)))
                  (first | exact c0 | exact (T1.cell (p := ⟨E, 0, none⟩) hlt0).trans c0)
                  (first | (go_at_call 28; (with_reducible refine (hK _).mono ?_); rintro e w1 ⟨rfl, T1⟩))
                have T2 := undrew T1
                have R1 := h.below T2
                obtain ⟨d0, d1, g0, g1⟩ := R1.cells
                have hE := Lib.hid (R1.set0 (s.left.drop (j + 1)))
                have hB := Lib.hid (((But.of T2).trans (But.refl E w1)).set 0 (.string (bs (s.left.drop (j + 1)))))
                go_wp2
                go_ret
                rw [hn.out.1, hn.out.2]
                exact ⟨rfl, hE.out, hB.out⟩
              · have hn := Lib.hid (hother.out V hV heq)
                have hneb : ((bs (numL V)).toList == (bs (s.left.take (j + 1))).toList) = false := by
                  rw [← beq_toListBytes]
                  exact Bool.eq_false_iff.2 (fun e => heq (bs_inj.1 ((Go.MapKept.bytes_beq _ _).1 e)))
                have hnee : ¬ (bs (numL V)).toList = (bs (s.left.take (j + 1))).toList := fun e => by rw [e, beq_self_eq_true] at hneb; cases hneb
                clear hsame hother hV heq
                go_upto_region 12 with fail
                go_region_held3 (fun v => v.cell? ⟨E, 0, none⟩ = some (.string (bs s.left)))
                  (first | exact c0 | exact (T1.cell (p := ⟨E, 0, none⟩) hlt0).trans c0)
                  (first | (go_at_call 28; (with_reducible refine (hK _).mono ?_); rintro e w1 ⟨rfl, T1⟩))
                have T2 := undrew T1
                have R1 := h.below T2
                have hF1 := RFail_any R1
                go_wp2_with (go_at_call 58; (with_reducible refine hF1.mono ?_); rintro e w2 ⟨rfl, hE, hB⟩)
                go_ret
                rw [hn.out.1, hn.out.2]
                exact ⟨rfl, hE, (But.of T2).trans hB⟩
set_option maxHeartbeats 16000000 in
set_option maxRecDepth 100000 in
theorem REye_int {w : World} {E : Nat} {s : Ey} (h : Rye w E s) (hlen : s.left.length < 576460752303423488) : Calls Tryd.prog 40 #[ptr E] w fun e w' => e = .returned (.int .i64 (sg (nuV s.left))) ∧ Rye w' E (nuE s) ∧ But E w w' := by
  have hK := REye_num h hlen
  have hn := nuV_lt s.left
  unfold sg
  obtain ⟨n, hnn⟩ : ∃ n, nuV s.left = n := ⟨_, rfl⟩
  rw [hnn] at hK hn ⊢
  clear hnn h
  by_cases h2 : n % 2 = 0
  · rw [if_pos h2]
    have j0 : (n : Int) % 2 = 0 := by omega
    have j1 : IntKind.i64.wrap ((n : Int) / 2) = (n : Int) / 2 := by rw [IntKind.wrap_i64]; omega
    go_enter Tryd.func40, Tryd.ntmps40
    go_wp2_with (go_at_call 39; (with_reducible refine hK.mono ?_); rintro e w1 ⟨rfl, hE, hB⟩)
    go_ret
    exact ⟨by simp, hE, hB⟩
  · rw [if_neg h2]
    have j0 : (n : Int) % 2 = 1 := by omega
    have j1 : IntKind.i64.wrap ((n : Int) / 2) = (n : Int) / 2 := by rw [IntKind.wrap_i64]; omega
    go_enter Tryd.func40, Tryd.ntmps40
    go_wp2_with (go_at_call 39; (with_reducible refine hK.mono ?_); rintro e w1 ⟨rfl, hE, hB⟩)
    go_ret
    exact ⟨by simp, hE, hB⟩
end Go.Proofs.YtamjnekdfhocdaaDoor
