/- OctetShort's walk. Condition: the numbers are what the parameters can hold. -/
import Derived.Test.YtpjhhmmfcoknpaaOcJ
namespace Go.Proofs.Ytpjhhmmfcoknpaa
open Go.RowKit
set_option linter.unusedVariables false
theorem numL_mono : ∀ (n m : Nat), n ≤ m → (numL n).length ≤ (numL m).length := by
  intro n
  induction n using Nat.strongRecOn with
  | _ n ih =>
    intro m h
    by_cases hn : n < 128
    · rw [numL_lt hn]
      exact numL_pos m
    · rw [numL_ge (by omega : 128 ≤ n), numL_ge (by omega : 128 ≤ m), List.length_cons, List.length_cons]
      have := ih (n / 128) (by omega) (m / 128) (by omega)
      omega
theorem numL_odd (d : Nat) : (numL (2 * d + 1)).length = (numL (2 * d)).length := by
  by_cases h : 2 * d < 128
  · rw [numL_lt h, numL_lt (by omega : 2 * d + 1 < 128)]; rfl
  · rw [numL_ge (by omega : 128 ≤ 2 * d), numL_ge (by omega : 128 ≤ 2 * d + 1), List.length_cons, List.length_cons, show (2 * d + 1) / 128 = 2 * d / 128 by omega]
/-- How many bytes are still to come. -/
def lenB (m : Nat) : Nat := if m = 0 then 0 else (numL m).length
theorem lenB_first (x : Nat) : (numL x).length = 1 + lenB (x / 128) := by
  unfold lenB
  by_cases h : x < 128
  · rw [numL_lt h, if_pos (by omega)]; rfl
  · rw [numL_ge (by omega : 128 ≤ x), if_neg (by omega), List.length_cons]; omega
theorem lenB_next {m : Nat} (h : 0 < m) : lenB m = 1 + lenB (m / 128) := by
  have := lenB_first m
  rw [← this]
  unfold lenB
  rw [if_neg (by omega)]
theorem one_ths (w : World) (k n : Nat) : IsThs (w.alloc (.cells #[.int .u8 (k : Int), .int .u64 (n : Int)] 31)) (some ⟨w.heap.size, 0, none⟩) 1 1 (fun _ => ⟨k, n⟩) := by
  have b := Box.new w 31 #[.int .u8 (k : Int), .int .u64 (n : Int)]
  refine ⟨Nat.le_refl _, .inr ⟨_, 0, rfl, b.lt, fun i hi => ?_⟩⟩
  obtain rfl : i = 0 := by omega
  exact ⟨b.cell 0, b.cell 1⟩
theorem one_written (w : World) (k n : Nat) (hk : k < 256) (hn : n < 18446744073709551616) :
    Calls Try.prog 31 #[.slice (some ⟨w.heap.size, 0, none⟩) 1 1] (w.alloc (.cells #[.int .u8 (k : Int), .int .u64 (n : Int)] 31)) fun e w' => e = .returned (.tuple #[.string (bs (wrB ⟨k, n⟩)), .bool true]) ∧ Below w.heap.size w w' := by
  have h := written_any (one_ths w k n) (fun _ => ⟨hk, hn⟩) (by decide)
  have hl := wrB_le (t := ⟨k, n⟩) ⟨hk, hn⟩
  have e : allB (fun _ => (⟨k, n⟩ : Th)) 1 = wrB ⟨k, n⟩ := by simp [allB]
  rw [e, writV_ok (by omega)] at h
  exact h.mono fun e w' ⟨x, y⟩ => ⟨x, (up1 w _).trans (y.mono (up1 w _).size)⟩
set_option maxHeartbeats 16000000 in
set_option maxRecDepth 100000 in
theorem Short_lt (x y dd : Nat) (n : Int) (w0 : World) (hxy0 : x < y) (hy : y < 18446744073709551616)
    (hn : -9223372036854775808 ≤ n ∧ n < 9223372036854775808) (hd : (dd : Int) = if n < 0 then -(n + 1) else n) :
    Calls Try.prog 8 #[.int .u64 (x : Int), .int .u64 (y : Int), .int .i64 n] w0 fun e w' => e = .returned (.bool true) ∧ Below w0.heap.size w0 w' := by
  have hxy : x ≤ y := Nat.le_of_lt hxy0
  have hlt : (x : Int) < (y : Int) := by omega
  have hmin : min (x : Int) (y : Int) = (x : Int) := by omega
  have hmax : max (x : Int) (y : Int) = (y : Int) := by omega
  have hA := awake_any w0
  have hX : ∀ w, Below w0.heap.size w0 w → Calls Try.prog 31 #[.slice (some ⟨w.heap.size, 0, none⟩) 1 1] (w.alloc (.cells #[.int .u8 1, .int .u64 (x : Int)] 31)) fun e w' => e = .returned (.tuple #[.string (bs (numL x)), .bool true]) ∧ Below w0.heap.size w0 w' := fun w T =>
    (one_written w 1 x (by decide) (by omega)).mono fun e w' ⟨p, q⟩ => ⟨p, ups T q T.size⟩
  have hY : ∀ w, Below w0.heap.size w0 w → Calls Try.prog 31 #[.slice (some ⟨w.heap.size, 0, none⟩) 1 1] (w.alloc (.cells #[.int .u8 1, .int .u64 (y : Int)] 31)) fun e w' => e = .returned (.tuple #[.string (bs (numL y)), .bool true]) ∧ Below w0.heap.size w0 w' := fun w T =>
    (one_written w 1 y (by decide) hy).mono fun e w' ⟨p, q⟩ => ⟨p, ups T q T.size⟩
  have hU : ∀ w, Below w0.heap.size w0 w → Calls Try.prog 31 #[.slice (some ⟨w.heap.size, 0, none⟩) 1 1] (w.alloc (.cells #[.int .u8 2, .int .u64 ((uns n : Nat) : Int)] 31)) fun e w' => e = .returned (.tuple #[.string (bs (numL (zg n))), .bool true]) ∧ Below w0.heap.size w0 w' := fun w T => by
    have h := one_written w 2 (uns n) (by decide) (u64_lt n)
    have e : wrB ⟨2, uns n⟩ = numL (zg n) := by
      show numL (zg (i64 (uns n))) = _
      rw [i64_u64 hn]
    rw [e] at h
    exact h.mono fun e w' ⟨p, q⟩ => ⟨p, ups T q T.size⟩
  have hdd : 2 * dd < 18446744073709551616 := by split at hd <;> omega
  have hV : ∀ w, Below w0.heap.size w0 w → Calls Try.prog 31 #[.slice (some ⟨w.heap.size, 0, none⟩) 1 1] (w.alloc (.cells #[.int .u8 1, .int .u64 (2 * (dd : Int))] 31)) fun e w' => e = .returned (.tuple #[.string (bs (numL (2 * dd))), .bool true]) ∧ Below w0.heap.size w0 w' := fun w T => by
    have h := one_written w 1 (2 * dd) (by decide) hdd
    rw [show ((2 * dd : Nat) : Int) = 2 * (dd : Int) by omega] at h
    exact h.mono fun e w' ⟨p, q⟩ => ⟨p, ups T q T.size⟩
  have hlen : (numL (zg n)).length = (numL (2 * dd)).length := by
    unfold zg
    by_cases h0 : 0 ≤ n
    · rw [if_pos h0]
      rw [if_neg (by omega)] at hd
      congr 2; omega
    · rw [if_neg h0]
      rw [if_pos (by omega)] at hd
      rw [show (2 * (-(n + 1)) + 1).toNat = 2 * dd + 1 by omega, numL_odd]
  have hw1 : IntKind.u64.wrap n = ((uns n : Nat) : Int) := by rw [IntKind.wrap_u64]; unfold uns; omega
  have p1 := numL_pos x
  have p2 := numL_mono x y hxy
  have p3 := numL_le10 hy
  have p4 := lenB_first x
  have z1 := bs_size (numL x)
  have z2 := bs_size (numL y)
  have z3 := bs_size (numL (zg n))
  have z4 := bs_size (numL (2 * dd))
  have hx64 : x < 18446744073709551616 := by omega
  generalize hX0 : numL x = X at *
  generalize hY0 : numL y = Y at *
  generalize hU0 : numL (zg n) = U at *
  generalize hV0 : numL (2 * dd) = V at *
  clear hX0 hY0 hU0 hV0
  have j1 : ¬ (Y.length : Int) < (X.length : Int) := by omega
  have j2 : ¬ (X.length : Int) < 1 := by omega
  have j3 : ¬ (10 : Int) < (Y.length : Int) := by omega
  go_enter Try.func8, Try.ntmps8
  go_wp2_with (first
    | (go_at_call 30; (with_reducible refine hA.mono ?_); rintro e w1 ⟨rfl, T1⟩; have hX1 := hX _ T1)
    | (go_at_call 31; (with_reducible refine hX1.mono ?_); rintro e w2 ⟨rfl, T2⟩; have hY1 := hY _ T2)
    | (go_at_call 31; (with_reducible refine hY1.mono ?_); rintro e w3 ⟨rfl, T3⟩))
  clear hA hX hY hX1 hY1 T1 T2
  go_loopw [13, 14] (fun s13 s14 wr => ∃ d m : Nat, s13 = .int .i64 d ∧ s14 = .int .u64 m ∧ m < 18446744073709551616 ∧ d + lenB m = X.length ∧ Below w0.heap.size w0 wr) (fun s13 s14 _ => (intOf s14).toNat)
  case atStart => exact ⟨1, x / 128, rfl, by simp, by omega, p4.symm, T3⟩
  case round =>
    clear T3
    obtain ⟨d, m, rfl, rfl, hm, hdm, T⟩ := hrel
    by_cases h0 : 0 < m
    · have k0 : (0 : Int) < (m : Int) := by omega
      have hnx := lenB_next h0
      have hdl : d ≤ 10 := by omega
      have hds := Lib.hid hdm
      clear hdm
      go_wp2
      go_roundw
      case rel => exact ⟨d + 1, m / 128, by simp, by simp, by omega, by rw [← hds.out, hnx]; omega, T⟩
      case measure => simp only [intOf]; omega
    · have k0 : ¬ (0 : Int) < (m : Int) := by omega
      have hdx : (X.length : Int) = (d : Int) := by
        have : lenB m = 0 := by unfold lenB; rw [if_pos (by omega)]
        omega
      have k1 : ((X.length : Int) == (d : Int)) = true := by rw [hdx]; exact beq_self_eq_true _
      have k2 : ((U.length : Int) == (V.length : Int)) = true := by rw [hlen]; exact beq_self_eq_true _
      have hU1 := hU _ T
      clear hdm hdx hlen p4
      by_cases hneg : n < 0
      · rw [if_pos hneg] at hd
        have k3 : IntKind.u64.wrap (-(n + 1)) = (dd : Int) := by rw [IntKind.wrap_u64]; omega
        have k4 : IntKind.u64.wrap (2 * (dd : Int)) = 2 * (dd : Int) := by rw [IntKind.wrap_u64]; omega
        clear hd
        go_wp2_with (first
          | (go_at_call 31; (with_reducible refine hU1.mono ?_); rintro e w4 ⟨rfl, T4⟩; have hV1 := hV _ T4)
          | (go_at_call 31; (with_reducible refine hV1.mono ?_); rintro e w5 ⟨rfl, T5⟩))
        go_ret
        exact ⟨by simp [*], T5⟩
      · rw [if_neg hneg] at hd
        have k3 : IntKind.u64.wrap n = (dd : Int) := by rw [IntKind.wrap_u64]; omega
        have k4 : IntKind.u64.wrap (2 * (dd : Int)) = 2 * (dd : Int) := by rw [IntKind.wrap_u64]; omega
        have k5 : uns n = dd := by unfold uns; omega
        rw [k5] at hU1 hw1
        clear hd k5
        go_wp2_with (first
          | (go_at_call 31; (with_reducible refine hU1.mono ?_); rintro e w4 ⟨rfl, T4⟩; have hV1 := hV _ T4)
          | (go_at_call 31; (with_reducible refine hV1.mono ?_); rintro e w5 ⟨rfl, T5⟩))
        go_ret
        exact ⟨by simp [*], T5⟩
set_option maxHeartbeats 16000000 in
set_option maxRecDepth 100000 in
theorem Short_gt (x y dd : Nat) (n : Int) (w0 : World) (hxy0 : x < y) (hy : y < 18446744073709551616)
    (hn : -9223372036854775808 ≤ n ∧ n < 9223372036854775808) (hd : (dd : Int) = if n < 0 then -(n + 1) else n) :
    Calls Try.prog 8 #[.int .u64 (y : Int), .int .u64 (x : Int), .int .i64 n] w0 fun e w' => e = .returned (.bool true) ∧ Below w0.heap.size w0 w' := by
  have hxy : x ≤ y := Nat.le_of_lt hxy0
  have hlt : (x : Int) < (y : Int) := by omega
  have hmin : min (y : Int) (x : Int) = (x : Int) := by omega
  have hmax : max (y : Int) (x : Int) = (y : Int) := by omega
  have hA := awake_any w0
  have hX : ∀ w, Below w0.heap.size w0 w → Calls Try.prog 31 #[.slice (some ⟨w.heap.size, 0, none⟩) 1 1] (w.alloc (.cells #[.int .u8 1, .int .u64 (x : Int)] 31)) fun e w' => e = .returned (.tuple #[.string (bs (numL x)), .bool true]) ∧ Below w0.heap.size w0 w' := fun w T =>
    (one_written w 1 x (by decide) (by omega)).mono fun e w' ⟨p, q⟩ => ⟨p, ups T q T.size⟩
  have hY : ∀ w, Below w0.heap.size w0 w → Calls Try.prog 31 #[.slice (some ⟨w.heap.size, 0, none⟩) 1 1] (w.alloc (.cells #[.int .u8 1, .int .u64 (y : Int)] 31)) fun e w' => e = .returned (.tuple #[.string (bs (numL y)), .bool true]) ∧ Below w0.heap.size w0 w' := fun w T =>
    (one_written w 1 y (by decide) hy).mono fun e w' ⟨p, q⟩ => ⟨p, ups T q T.size⟩
  have hU : ∀ w, Below w0.heap.size w0 w → Calls Try.prog 31 #[.slice (some ⟨w.heap.size, 0, none⟩) 1 1] (w.alloc (.cells #[.int .u8 2, .int .u64 ((uns n : Nat) : Int)] 31)) fun e w' => e = .returned (.tuple #[.string (bs (numL (zg n))), .bool true]) ∧ Below w0.heap.size w0 w' := fun w T => by
    have h := one_written w 2 (uns n) (by decide) (u64_lt n)
    have e : wrB ⟨2, uns n⟩ = numL (zg n) := by
      show numL (zg (i64 (uns n))) = _
      rw [i64_u64 hn]
    rw [e] at h
    exact h.mono fun e w' ⟨p, q⟩ => ⟨p, ups T q T.size⟩
  have hdd : 2 * dd < 18446744073709551616 := by split at hd <;> omega
  have hV : ∀ w, Below w0.heap.size w0 w → Calls Try.prog 31 #[.slice (some ⟨w.heap.size, 0, none⟩) 1 1] (w.alloc (.cells #[.int .u8 1, .int .u64 (2 * (dd : Int))] 31)) fun e w' => e = .returned (.tuple #[.string (bs (numL (2 * dd))), .bool true]) ∧ Below w0.heap.size w0 w' := fun w T => by
    have h := one_written w 1 (2 * dd) (by decide) hdd
    rw [show ((2 * dd : Nat) : Int) = 2 * (dd : Int) by omega] at h
    exact h.mono fun e w' ⟨p, q⟩ => ⟨p, ups T q T.size⟩
  have hlen : (numL (zg n)).length = (numL (2 * dd)).length := by
    unfold zg
    by_cases h0 : 0 ≤ n
    · rw [if_pos h0]
      rw [if_neg (by omega)] at hd
      congr 2; omega
    · rw [if_neg h0]
      rw [if_pos (by omega)] at hd
      rw [show (2 * (-(n + 1)) + 1).toNat = 2 * dd + 1 by omega, numL_odd]
  have hw1 : IntKind.u64.wrap n = ((uns n : Nat) : Int) := by rw [IntKind.wrap_u64]; unfold uns; omega
  have p1 := numL_pos x
  have p2 := numL_mono x y hxy
  have p3 := numL_le10 hy
  have p4 := lenB_first x
  have z1 := bs_size (numL x)
  have z2 := bs_size (numL y)
  have z3 := bs_size (numL (zg n))
  have z4 := bs_size (numL (2 * dd))
  have hx64 : x < 18446744073709551616 := by omega
  generalize hX0 : numL x = X at *
  generalize hY0 : numL y = Y at *
  generalize hU0 : numL (zg n) = U at *
  generalize hV0 : numL (2 * dd) = V at *
  clear hX0 hY0 hU0 hV0
  have j1 : ¬ (Y.length : Int) < (X.length : Int) := by omega
  have j2 : ¬ (X.length : Int) < 1 := by omega
  have j3 : ¬ (10 : Int) < (Y.length : Int) := by omega
  go_enter Try.func8, Try.ntmps8
  go_wp2_with (first
    | (go_at_call 30; (with_reducible refine hA.mono ?_); rintro e w1 ⟨rfl, T1⟩; have hX1 := hX _ T1)
    | (go_at_call 31; (with_reducible refine hX1.mono ?_); rintro e w2 ⟨rfl, T2⟩; have hY1 := hY _ T2)
    | (go_at_call 31; (with_reducible refine hY1.mono ?_); rintro e w3 ⟨rfl, T3⟩))
  clear hA hX hY hX1 hY1 T1 T2
  go_loopw [13, 14] (fun s13 s14 wr => ∃ d m : Nat, s13 = .int .i64 d ∧ s14 = .int .u64 m ∧ m < 18446744073709551616 ∧ d + lenB m = X.length ∧ Below w0.heap.size w0 wr) (fun s13 s14 _ => (intOf s14).toNat)
  case atStart => exact ⟨1, x / 128, rfl, by simp, by omega, p4.symm, T3⟩
  case round =>
    clear T3
    obtain ⟨d, m, rfl, rfl, hm, hdm, T⟩ := hrel
    by_cases h0 : 0 < m
    · have k0 : (0 : Int) < (m : Int) := by omega
      have hnx := lenB_next h0
      have hdl : d ≤ 10 := by omega
      have hds := Lib.hid hdm
      clear hdm
      go_wp2
      go_roundw
      case rel => exact ⟨d + 1, m / 128, by simp, by simp, by omega, by rw [← hds.out, hnx]; omega, T⟩
      case measure => simp only [intOf]; omega
    · have k0 : ¬ (0 : Int) < (m : Int) := by omega
      have hdx : (X.length : Int) = (d : Int) := by
        have : lenB m = 0 := by unfold lenB; rw [if_pos (by omega)]
        omega
      have k1 : ((X.length : Int) == (d : Int)) = true := by rw [hdx]; exact beq_self_eq_true _
      have k2 : ((U.length : Int) == (V.length : Int)) = true := by rw [hlen]; exact beq_self_eq_true _
      have hU1 := hU _ T
      clear hdm hdx hlen p4
      by_cases hneg : n < 0
      · rw [if_pos hneg] at hd
        have k3 : IntKind.u64.wrap (-(n + 1)) = (dd : Int) := by rw [IntKind.wrap_u64]; omega
        have k4 : IntKind.u64.wrap (2 * (dd : Int)) = 2 * (dd : Int) := by rw [IntKind.wrap_u64]; omega
        clear hd
        go_wp2_with (first
          | (go_at_call 31; (with_reducible refine hU1.mono ?_); rintro e w4 ⟨rfl, T4⟩; have hV1 := hV _ T4)
          | (go_at_call 31; (with_reducible refine hV1.mono ?_); rintro e w5 ⟨rfl, T5⟩))
        go_ret
        exact ⟨by simp [*], T5⟩
      · rw [if_neg hneg] at hd
        have k3 : IntKind.u64.wrap n = (dd : Int) := by rw [IntKind.wrap_u64]; omega
        have k4 : IntKind.u64.wrap (2 * (dd : Int)) = 2 * (dd : Int) := by rw [IntKind.wrap_u64]; omega
        have k5 : uns n = dd := by unfold uns; omega
        rw [k5] at hU1 hw1
        clear hd k5
        go_wp2_with (first
          | (go_at_call 31; (with_reducible refine hU1.mono ?_); rintro e w4 ⟨rfl, T4⟩; have hV1 := hV _ T4)
          | (go_at_call 31; (with_reducible refine hV1.mono ?_); rintro e w5 ⟨rfl, T5⟩))
        go_ret
        exact ⟨by simp [*], T5⟩
set_option maxHeartbeats 16000000 in
set_option maxRecDepth 100000 in
theorem Short_eq (x dd : Nat) (n : Int) (w0 : World) (hx64 : x < 18446744073709551616)
    (hn : -9223372036854775808 ≤ n ∧ n < 9223372036854775808) (hd : (dd : Int) = if n < 0 then -(n + 1) else n) :
    Calls Try.prog 8 #[.int .u64 (x : Int), .int .u64 (x : Int), .int .i64 n] w0 fun e w' => e = .returned (.bool true) ∧ Below w0.heap.size w0 w' := by
  have hA := awake_any w0
  have hX : ∀ w, Below w0.heap.size w0 w → Calls Try.prog 31 #[.slice (some ⟨w.heap.size, 0, none⟩) 1 1] (w.alloc (.cells #[.int .u8 1, .int .u64 (x : Int)] 31)) fun e w' => e = .returned (.tuple #[.string (bs (numL x)), .bool true]) ∧ Below w0.heap.size w0 w' := fun w T =>
    (one_written w 1 x (by decide) (by omega)).mono fun e w' ⟨p, q⟩ => ⟨p, ups T q T.size⟩
  have hU : ∀ w, Below w0.heap.size w0 w → Calls Try.prog 31 #[.slice (some ⟨w.heap.size, 0, none⟩) 1 1] (w.alloc (.cells #[.int .u8 2, .int .u64 ((uns n : Nat) : Int)] 31)) fun e w' => e = .returned (.tuple #[.string (bs (numL (zg n))), .bool true]) ∧ Below w0.heap.size w0 w' := fun w T => by
    have h := one_written w 2 (uns n) (by decide) (u64_lt n)
    have e : wrB ⟨2, uns n⟩ = numL (zg n) := by
      show numL (zg (i64 (uns n))) = _
      rw [i64_u64 hn]
    rw [e] at h
    exact h.mono fun e w' ⟨p, q⟩ => ⟨p, ups T q T.size⟩
  have hdd : 2 * dd < 18446744073709551616 := by split at hd <;> omega
  have hV : ∀ w, Below w0.heap.size w0 w → Calls Try.prog 31 #[.slice (some ⟨w.heap.size, 0, none⟩) 1 1] (w.alloc (.cells #[.int .u8 1, .int .u64 (2 * (dd : Int))] 31)) fun e w' => e = .returned (.tuple #[.string (bs (numL (2 * dd))), .bool true]) ∧ Below w0.heap.size w0 w' := fun w T => by
    have h := one_written w 1 (2 * dd) (by decide) hdd
    rw [show ((2 * dd : Nat) : Int) = 2 * (dd : Int) by omega] at h
    exact h.mono fun e w' ⟨p, q⟩ => ⟨p, ups T q T.size⟩
  have hlen : (numL (zg n)).length = (numL (2 * dd)).length := by
    unfold zg
    by_cases h0 : 0 ≤ n
    · rw [if_pos h0]
      rw [if_neg (by omega)] at hd
      congr 2; omega
    · rw [if_neg h0]
      rw [if_pos (by omega)] at hd
      rw [show (2 * (-(n + 1)) + 1).toNat = 2 * dd + 1 by omega, numL_odd]
  have hw1 : IntKind.u64.wrap n = ((uns n : Nat) : Int) := by rw [IntKind.wrap_u64]; unfold uns; omega
  have p1 := numL_pos x
  have p3 := numL_le10 hx64
  have p4 := lenB_first x
  have z1 := bs_size (numL x)
  have z3 := bs_size (numL (zg n))
  have z4 := bs_size (numL (2 * dd))
  generalize hX0 : numL x = X at *
  generalize hU0 : numL (zg n) = U at *
  generalize hV0 : numL (2 * dd) = V at *
  clear hX0 hU0 hV0
  have j2 : ¬ (X.length : Int) < 1 := by omega
  have j3 : ¬ (10 : Int) < (X.length : Int) := by omega
  go_enter Try.func8, Try.ntmps8
  go_wp2_with (first
    | (go_at_call 30; (with_reducible refine hA.mono ?_); rintro e w1 ⟨rfl, T1⟩; have hX1 := hX _ T1)
    | (go_at_call 31; (with_reducible refine hX1.mono ?_); rintro e w2 ⟨rfl, T2⟩; have hY1 := hX _ T2)
    | (go_at_call 31; (with_reducible refine hY1.mono ?_); rintro e w3 ⟨rfl, T3⟩))
  clear hA hX hX1 hY1 T1 T2
  go_loopw [13, 14] (fun s13 s14 wr => ∃ d m : Nat, s13 = .int .i64 d ∧ s14 = .int .u64 m ∧ m < 18446744073709551616 ∧ d + lenB m = X.length ∧ Below w0.heap.size w0 wr) (fun s13 s14 _ => (intOf s14).toNat)
  case atStart => exact ⟨1, x / 128, rfl, by simp, by omega, p4.symm, T3⟩
  case round =>
    clear T3
    obtain ⟨d, m, rfl, rfl, hm, hdm, T⟩ := hrel
    by_cases h0 : 0 < m
    · have k0 : (0 : Int) < (m : Int) := by omega
      have hnx := lenB_next h0
      have hdl : d ≤ 10 := by omega
      have hds := Lib.hid hdm
      clear hdm
      go_wp2
      go_roundw
      case rel => exact ⟨d + 1, m / 128, by simp, by simp, by omega, by rw [← hds.out, hnx]; omega, T⟩
      case measure => simp only [intOf]; omega
    · have k0 : ¬ (0 : Int) < (m : Int) := by omega
      have hdx : (X.length : Int) = (d : Int) := by
        have : lenB m = 0 := by unfold lenB; rw [if_pos (by omega)]
        omega
      have k1 : ((X.length : Int) == (d : Int)) = true := by rw [hdx]; exact beq_self_eq_true _
      have k2 : ((U.length : Int) == (V.length : Int)) = true := by rw [hlen]; exact beq_self_eq_true _
      have hU1 := hU _ T
      clear hdm hdx hlen p4
      by_cases hneg : n < 0
      · rw [if_pos hneg] at hd
        have k3 : IntKind.u64.wrap (-(n + 1)) = (dd : Int) := by rw [IntKind.wrap_u64]; omega
        have k4 : IntKind.u64.wrap (2 * (dd : Int)) = 2 * (dd : Int) := by rw [IntKind.wrap_u64]; omega
        clear hd
        go_wp2_with (first
          | (go_at_call 31; (with_reducible refine hU1.mono ?_); rintro e w4 ⟨rfl, T4⟩; have hV1 := hV _ T4)
          | (go_at_call 31; (with_reducible refine hV1.mono ?_); rintro e w5 ⟨rfl, T5⟩))
        go_ret
        exact ⟨by simp [*], T5⟩
      · rw [if_neg hneg] at hd
        have k3 : IntKind.u64.wrap n = (dd : Int) := by rw [IntKind.wrap_u64]; omega
        have k4 : IntKind.u64.wrap (2 * (dd : Int)) = 2 * (dd : Int) := by rw [IntKind.wrap_u64]; omega
        have k5 : uns n = dd := by unfold uns; omega
        rw [k5] at hU1 hw1
        clear hd k5
        go_wp2_with (first
          | (go_at_call 31; (with_reducible refine hU1.mono ?_); rintro e w4 ⟨rfl, T4⟩; have hV1 := hV _ T4)
          | (go_at_call 31; (with_reducible refine hV1.mono ?_); rintro e w5 ⟨rfl, T5⟩))
        go_ret
        exact ⟨by simp [*], T5⟩
theorem OctetShort_walk (a b n : Int) (w0 : World) (ha : 0 ≤ a ∧ a < 18446744073709551616) (hb : 0 ≤ b ∧ b < 18446744073709551616) (hn : -9223372036854775808 ≤ n ∧ n < 9223372036854775808) :
    Calls Try.prog 8 #[.int .u64 a, .int .u64 b, .int .i64 n] w0 fun e w' => e = .returned (.bool true) ∧ Below w0.heap.size w0 w' := by
  obtain ⟨x, rfl⟩ : ∃ x : Nat, a = (x : Int) := ⟨a.toNat, by omega⟩
  obtain ⟨y, rfl⟩ : ∃ y : Nat, b = (y : Int) := ⟨b.toNat, by omega⟩
  obtain ⟨dd, hd⟩ : ∃ dd : Nat, (dd : Int) = if n < 0 then -(n + 1) else n := by
    by_cases h : n < 0
    · exact ⟨(-(n + 1)).toNat, by rw [if_pos h]; omega⟩
    · exact ⟨n.toNat, by rw [if_neg h]; omega⟩
  rcases Nat.lt_trichotomy x y with h | h | h
  · exact Short_lt x y dd n w0 h (by omega) hn hd
  · subst h
    exact Short_eq x dd n w0 (by omega) hn hd
  · exact Short_gt y x dd n w0 h (by omega) hn hd
end Go.Proofs.Ytpjhhmmfcoknpaa
