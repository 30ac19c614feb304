/- OctetLess's walk. Condition: what the slice can hold. -/
import Derived.Test.YtpjhhmmfcoknpaaOcH
namespace Go.Proofs.Ytpjhhmmfcoknpaa
open Go.RowKit
set_option linter.unusedVariables false
/-- The eye behind so many things' readings. -/
noncomputable def runE (xs : Nat → Th) (k : Nat) : Nat → Ey → Ey
  | 0, s => s
  | m + 1, s => runE xs (k + 1) m (thE (xs k) s)
theorem byE_fail : byE Ey.fail = Ey.fail := rfl
theorem th_fail (t : Th) : thE t Ey.fail = Ey.fail := by
  have h := (nu_none (s := Ey.fail) rdNum_nil).2
  unfold thE
  split
  · rfl
  · split
    · exact h
    · split
      · exact h
      · rfl
theorem run_fail (xs : Nat → Th) : ∀ m k, runE xs k m Ey.fail = Ey.fail
  | 0, k => rfl
  | m + 1, k => by rw [runE, th_fail, run_fail xs m]
theorem th_less (t : Th) (ht : t.ok) (P R : List UInt8) (h : wrB t = P ++ R) (hR : R ≠ []) : thE t ⟨P, false⟩ = Ey.fail := by
  have hone : ∀ b : UInt8, [b] = P ++ R → P = [] := fun b e => by
    have h1 := congrArg List.length e
    simp only [List.length_cons, List.length_nil, List.length_append] at h1
    have h2 : 1 ≤ R.length := by
      cases R with
      | nil => exact absurd rfl hR
      | cons x R => simp
    exact List.length_eq_zero_iff.1 (by omega)
  unfold wrB at h
  unfold thE
  by_cases h0 : t.k % 4 = 0
  · rw [if_pos h0] at h ⊢
    rw [hone _ h]; rfl
  · rw [if_neg h0] at h ⊢
    by_cases h1 : t.k % 4 = 1
    · rw [if_pos h1] at h ⊢
      exact (nu_none (s := ⟨P, false⟩) (rdNum_none fun n S _ => numL_less _ n P R h hR S)).2
    · rw [if_neg h1] at h ⊢
      by_cases h2 : t.k % 4 = 2
      · rw [if_pos h2] at h ⊢
        exact (nu_none (s := ⟨P, false⟩) (rdNum_none fun n S _ => numL_less _ n P R h hR S)).2
      · rw [if_neg h2] at h ⊢
        rw [hone _ h]; rfl
theorem run_less {xs : Nat → Th} (hok : ∀ i, (xs i).ok) : ∀ (m k : Nat) (P R : List UInt8), fromB xs k m = P ++ R → R ≠ [] → runE xs k m ⟨P, false⟩ = Ey.fail
  | 0, k, P, R, h, hR => by
    rw [fromB] at h
    have := congrArg List.length h
    simp only [List.length_nil, List.length_append] at this
    exact absurd (List.length_eq_zero_iff.1 (by omega)) hR
  | m + 1, k, P, R, h, hR => by
    rw [fromB] at h
    rw [runE]
    rcases List.append_eq_append_iff.1 h with ⟨P', e1, e2⟩ | ⟨C, e1, e2⟩
    · rw [e1, (th_back (xs k) (hok k) P').1]
      exact run_less hok m (k + 1) P' R e2 hR
    · by_cases hC : C = []
      · subst hC
        rw [List.append_nil] at e1
        have e3 := (th_back (xs k) (hok k) []).1
        rw [List.append_nil, e1] at e3
        rw [e3]
        exact run_less hok m (k + 1) [] R (by rw [e2]; rfl) hR
      · rw [th_less (xs k) (hok k) P C e1 hC, run_fail]
theorem runE_ok {xs : Nat → Th} : ∀ (m k : Nat) (s : Ey), s.ok → (runE xs k m s).ok
  | 0, _, _, h => h
  | m + 1, k, s, h => runE_ok m (k + 1) _ (thE_ok h)
theorem bs_take (L : List UInt8) (q : Nat) : (bs L).extract 0 q = bs (L.take q) := by
  rw [bs_extract, List.drop_zero]
set_option maxHeartbeats 16000000 in
set_option maxRecDepth 100000 in
theorem OctetLess_walk (a : Option Addr) (n c : Nat) (xs : Nat → Th) (z : Int) (w0 : World) (hI : IsThs w0 a n c xs) (hok : ∀ i, (xs i).ok) (hn : n < 400000000000000000) (hz : -9223372036854775808 ≤ z ∧ z < 9223372036854775808) :
    Calls Try.prog 7 #[.slice a n c, .int .i64 z] w0 fun e w' => e = .returned (.bool true) ∧ Below w0.heap.size w0 w' := by
  have hA := awake_any w0
  have j3 : (n : Int) ≤ (c : Int) := by have := hI.1; omega
  have hW : ∀ w, Below w0.heap.size w0 w → Calls Try.prog 31 #[.slice a n c] w fun e w' => e = .returned (writV (allB xs n)) ∧ Below w0.heap.size w0 w' := fun w T =>
    (written_any (hI.below T) hok hn).mono fun e w' ⟨x, y⟩ => ⟨x, ups T y T.size⟩
  by_cases hbig : 100 < n
  · have j0 : (100 : Int) < (n : Int) := by omega
    obtain ⟨S, B, hSB⟩ : ∃ S B, writV (allB xs n) = .tuple #[.string S, .bool B] := by
      by_cases h : (allB xs n).length ≤ 4096
      · exact ⟨_, _, writV_ok h⟩
      · exact ⟨_, _, writV_no h⟩
    rw [hSB] at hW
    go_enter Try.func7, Try.ntmps7
    go_wp2_with (first
      | (go_at_call 30; (with_reducible refine hA.mono ?_); rintro e w1 ⟨rfl, T1⟩; have hW1 := hW _ T1)
      | (go_at_call 31; (with_reducible refine hW1.mono ?_); rintro e w2 ⟨rfl, T2⟩))
    go_ret
    exact ⟨rfl, T2⟩
  · have j0 : ¬ (100 : Int) < (n : Int) := by omega
    have hl := allB_le hok n
    rw [writV_ok (by omega)] at hW
    have hO : ∀ w q, Below w0.heap.size w0 w → Calls Try.prog 15 #[.string (bs ((allB xs n).take q))] w fun e w' => ∃ A, e = .returned (ptr A) ∧ Eye w' A ⟨(allB xs n).take q, false⟩ ∧ w0.heap.size ≤ A ∧ Below w0.heap.size w0 w' := fun w q T =>
      (Open_any w _).mono fun e w' ⟨x, y, z⟩ => ⟨_, x, y, T.size, ups T z T.size⟩
    have hrun : ∀ q, q < (allB xs n).length → runE xs 0 n ⟨(allB xs n).take q, false⟩ = Ey.fail := fun q hq =>
      run_less hok n 0 _ ((allB xs n).drop q) (by rw [List.take_append_drop]; have := from_all xs n; rw [Nat.sub_zero] at this; exact this.symm) (fun e => by
        have := congrArg List.length e
        simp only [List.length_drop, List.length_nil] at this
        omega)
    have hsz := bs_size (allB xs n)
    obtain ⟨S, hS⟩ : ∃ S, allB xs n = S := ⟨_, rfl⟩
    rw [hS] at hW hO hrun hsz hl
    clear hS
    by_cases h0 : S.length = 0
    · have j1 : ((S.length : Int) == 0) = true := by rw [h0]; rfl
      clear hrun hO
      go_enter Try.func7, Try.ntmps7
      go_wp2_with (first
        | (go_at_call 30; (with_reducible refine hA.mono ?_); rintro e w1 ⟨rfl, T1⟩; have hW1 := hW _ T1)
        | (go_at_call 31; (with_reducible refine hW1.mono ?_); rintro e w2 ⟨rfl, T2⟩))
      go_ret
      exact ⟨rfl, T2⟩
    · have j1 : ((S.length : Int) == 0) = false := beq_eq_false_iff_ne.2 (by omega)
      have j2 : ¬ (S.length : Int) = 0 := by omega
      have hu : IntKind.u64.wrap z = z % 18446744073709551616 := by rw [IntKind.wrap_u64]
      obtain ⟨y, hy⟩ : ∃ y : Nat, z % 18446744073709551616 = (y : Int) := ⟨(z % 18446744073709551616).toNat, by omega⟩
      obtain ⟨q, hq⟩ : ∃ q : Nat, y % S.length = q := ⟨_, rfl⟩
      have hql : q < S.length := by rw [← hq]; exact Nat.mod_lt _ (by omega)
      have hqi : (y : Int).tmod (S.length : Int) = (q : Int) := by rw [Int.tmod_eq_emod_of_nonneg (by omega), ← hq]; exact (Int.natCast_emod _ _).symm
      have hqj : (y : Int) % (S.length : Int) = (q : Int) := by rw [← hq]; exact (Int.natCast_emod _ _).symm
      have hr := Lib.hid (hrun q hql)
      have hO := fun w T => hO w q T
      rw [← bs_take] at hO
      rw [hy] at hu
      have j4 : (q : Int) ≤ (S.length : Int) := by omega
      clear hrun hq hy
      go_enter Try.func7, Try.ntmps7
      go_wp2_with (first
        | (go_at_call 30; (with_reducible refine hA.mono ?_); rintro e w1 ⟨rfl, T1⟩; have hW1 := hW _ T1)
        | (go_at_call 31; (with_reducible refine hW1.mono ?_); rintro e w2 ⟨rfl, T2⟩; have hO2 := hO _ T2)
        | (go_at_call 15; (with_reducible refine hO2.mono ?_); rintro e w3 ⟨A, rfl, E3, L3, T3⟩))
      clear hA hW hO hW1 hO2 T1 T2 hu hqi hqj
      go_loopw [8] (fun s8 wr => ∃ (k : Nat) (s : Ey), s8 = .int .i64 k ∧ k ≤ n ∧ Eye wr A s ∧ s.ok ∧ s.left.length ≤ 1000 ∧ runE xs k (n - k) s = Ey.fail ∧ Below w0.heap.size w0 wr) (fun s8 _ => n - (intOf s8).toNat)
      case atStart => exact ⟨0, _, rfl, by omega, E3, (fun h => by cases h), by simp only [List.length_take]; omega, by rw [Nat.sub_zero]; exact hr.out, T3⟩
      case round =>
        clear E3 T3 hr
        obtain ⟨k, s, rfl, hk, E, hso, hsl, hr, T⟩ := hrel
        by_cases hlt : k < n
        · obtain ⟨b, o, rfl, hb, c0, c1⟩ := (hI.below T).at hlt
          have j5 : (k : Int) < (n : Int) := by omega
          have hK := read_any E (xs k) (hok k) hso (by omega)
          have hso' := thE_ok (t := xs k) hso
          have hsl' := thE_len (xs k) s
          rw [show n - k = (n - (k + 1)) + 1 by omega, runE] at hr
          replace hr := Lib.hid hr
          generalize thE (xs k) s = s' at *
          generalize thB (xs k) s.left = v at *
          go_wp2_with (go_at_call 32; (with_reducible refine hK.mono ?_); rintro e w4 ⟨rfl, E4, B4⟩)
          go_roundw
          case rel => exact ⟨k + 1, s', by simp, by omega, E4, hso', by omega, hr.out, B4.up T L3⟩
          case measure => simp only [intOf]; omega
        · obtain rfl : k = n := by omega
          have j5 : ¬ (k : Int) < (k : Int) := by omega
          rw [Nat.sub_self, runE] at hr
          subst hr
          have f1 : Calls Try.prog 26 #[ptr A] wr fun e w' => e = .returned (.bool true) ∧ wr = w' := Failed_any E
          have f2 : Calls Try.prog 28 #[ptr A] wr fun e w' => e = .returned (.int .i64 140) ∧ wr = w' := End_any E
          have f3 : Calls Try.prog 27 #[ptr A] wr fun e w' => e = .returned (.int .i64 0) ∧ wr = w' := Left_any E
          go_wp2_with (first
            | (go_at_call 26; (with_reducible refine f1.mono ?_); rintro e w3 ⟨rfl, rfl⟩)
            | (go_at_call 28; (with_reducible refine f2.mono ?_); rintro e w3 ⟨rfl, rfl⟩)
            | (go_at_call 27; (with_reducible refine f3.mono ?_); rintro e w3 ⟨rfl, rfl⟩))
          go_ret
          exact ⟨rfl, T⟩
end Go.Proofs.Ytpjhhmmfcoknpaa
