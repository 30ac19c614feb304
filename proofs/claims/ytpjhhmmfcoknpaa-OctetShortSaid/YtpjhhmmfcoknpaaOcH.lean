/- OctetBack's walk. Condition: what the slice and the string can hold. -/
import Derived.Test.YtpjhhmmfcoknpaaOcG
import Derived.Laws.Concat
namespace Go.Proofs.Ytpjhhmmfcoknpaa
open Go.RowKit
set_option linter.unusedVariables false
theorem fl_one (R : List UInt8) : flE ⟨1 :: R, false⟩ = ⟨R, false⟩ ∧ flV (1 :: R) = true := ⟨rfl, rfl⟩
theorem fl_zero (R : List UInt8) : flE ⟨0 :: R, false⟩ = ⟨R, false⟩ ∧ flV (0 :: R) = false := ⟨rfl, rfl⟩
/-- What is written is read as it was. -/
theorem th_back (t : Th) (ht : t.ok) (R : List UInt8) : thE t ⟨wrB t ++ R, false⟩ = ⟨R, false⟩ ∧ thB t (wrB t ++ R) = true := by
  unfold thE thB wrB
  rcases (by omega : t.k % 4 = 0 ∨ t.k % 4 = 1 ∨ t.k % 4 = 2 ∨ t.k % 4 = 3) with hk | hk | hk | hk
  · rw [if_pos hk, if_pos hk, if_pos hk]
    refine ⟨rfl, ?_⟩
    show (((UInt8.ofNat t.n).toNat : Int) == (t.n : Int) % 256) = true
    rw [UInt8.toNat_ofNat', show ((t.n % 2 ^ 8 : Nat) : Int) = (t.n : Int) % 256 by omega]
    exact beq_self_eq_true _
  · have h0 : ¬ t.k % 4 = 0 := by omega
    rw [if_neg h0, if_pos hk, if_neg h0, if_pos hk, if_neg h0, if_pos hk]
    have e := rdNum_num ht.2 R
    obtain ⟨e1, e2⟩ := nu_some (s := ⟨numL t.n ++ R, false⟩) e
    have e1 : nuV (numL t.n ++ R) = t.n := e1
    exact ⟨e2, by rw [e1]; exact beq_self_eq_true _⟩
  · have h0 : ¬ t.k % 4 = 0 := by omega
    have h1 : ¬ t.k % 4 = 1 := by omega
    rw [if_neg h0, if_neg h1, if_pos hk, if_neg h0, if_neg h1, if_pos hk, if_neg h0, if_neg h1, if_pos hk]
    have e := rdNum_num (zg_lt (i64_lt ht.2)) R
    obtain ⟨e1, e2⟩ := nu_some (s := ⟨numL (zg (i64 t.n)) ++ R, false⟩) e
    have e1 : nuV (numL (zg (i64 t.n)) ++ R) = zg (i64 t.n) := e1
    exact ⟨e2, by rw [e1, sg_zg]; exact beq_self_eq_true _⟩
  · have h0 : ¬ t.k % 4 = 0 := by omega
    have h1 : ¬ t.k % 4 = 1 := by omega
    have h2 : ¬ t.k % 4 = 2 := by omega
    rw [if_neg h0, if_neg h1, if_neg h2, if_neg h0, if_neg h1, if_neg h2, if_neg h0, if_neg h1, if_neg h2, odd_int]
    by_cases h : ((t.n : Int) % 2 == 1) = true
    · rw [if_pos h, h]
      exact ⟨(fl_one R).1, by show (flV (1 :: R) == true) = true; rw [(fl_one R).2]; rfl⟩
    · rw [if_neg h, Bool.eq_false_iff.2 h]
      exact ⟨(fl_zero R).1, by show (flV (0 :: R) == false) = true; rw [(fl_zero R).2]; rfl⟩
/-- Two eyes of the call's own. -/
structure Duo (w0 w : World) (A B : Nat) (s t : Ey) : Prop where
  a : Eye w A s
  b : Eye w B t
  ne : A ≠ B
  la : w0.heap.size ≤ A
  lb : w0.heap.size ≤ B
  T : Below w0.heap.size w0 w
section
variable {w0 w w' : World} {A B : Nat} {s t s' : Ey}
theorem Duo.onA (h : Duo w0 w A B s t) (e : Eye w' A s') (k : But A w w') : Duo w0 w' A B s' t := ⟨e, h.b.but k (Ne.symm h.ne), h.ne, h.la, h.lb, k.up h.T h.la⟩
theorem Duo.onB (h : Duo w0 w A B s t) (e : Eye w' B s') (k : But B w w') : Duo w0 w' A B s s' := ⟨h.a.but k h.ne, e, h.ne, h.la, h.lb, k.up h.T h.lb⟩
end
theorem from_next (xs : Nat → Th) {k n : Nat} (h : k < n) : fromB xs k (n - k) = wrB (xs k) ++ fromB xs (k + 1) (n - (k + 1)) := by
  rw [show n - k = (n - (k + 1)) + 1 by omega, fromB]
theorem from_all (xs : Nat → Th) (n : Nat) : allB xs n = fromB xs 0 (n - 0) := by
  have := all_from xs n 0
  rw [Nat.zero_add] at this
  rw [← this]; simp [allB]
theorem from_le {xs : Nat → Th} (h : ∀ i, (xs i).ok) : ∀ m k, (fromB xs k m).length ≤ 10 * m
  | 0, k => by simp [fromB]
  | m + 1, k => by
    have := from_le h m (k + 1)
    have := wrB_le (h k)
    simp only [fromB, List.length_append]
    omega
set_option maxHeartbeats 16000000 in
set_option maxRecDepth 100000 in
theorem OctetBack_walk (a : Option Addr) (n c : Nat) (xs : Nat → Th) (M : List UInt8) (w0 : World) (hI : IsThs w0 a n c xs) (hok : ∀ i, (xs i).ok) :
    Calls Try.prog 5 #[.slice a n c, .string (bs M)] w0 fun e w' => e = .returned (.bool true) ∧ Below w0.heap.size w0 w' := by
  have hA := awake_any w0
  have j3 : (n : Int) ≤ (c : Int) := by have := hI.1; omega
  have hz := bs_size M
  by_cases hbig : 300 < n ∨ 100 < M.length
  · by_cases hb1 : 300 < n
    · have j0 : (300 : Int) < (n : Int) := by omega
      go_enter Try.func5, Try.ntmps5
      go_wp2_with (go_at_call 30; (with_reducible refine hA.mono ?_); rintro e w1 ⟨rfl, T⟩)
      go_ret
      exact ⟨rfl, T⟩
    · have j0 : ¬ (300 : Int) < (n : Int) := by omega
      have j1 : (100 : Int) < (M.length : Int) := by omega
      go_enter Try.func5, Try.ntmps5
      go_wp2_with (go_at_call 30; (with_reducible refine hA.mono ?_); rintro e w1 ⟨rfl, T⟩)
      go_ret
      exact ⟨rfl, T⟩
  · have j0 : ¬ (300 : Int) < (n : Int) := by omega
    have j1 : ¬ (100 : Int) < (M.length : Int) := by omega
    have hW : ∀ w, Below w0.heap.size w0 w → Calls Try.prog 31 #[.slice a n c] w fun e w' => e = .returned (.tuple #[.string (bs (fromB xs 0 (n - 0))), .bool true]) ∧ Below w0.heap.size w0 w' := fun w T => by
      have := written_any (hI.below T) hok (by omega)
      have hl := allB_le hok n
      rw [writV_ok (by omega), from_all] at this
      exact this.mono fun e w' ⟨x, y⟩ => ⟨x, ups T y T.size⟩
    have hO : ∀ w, Below w0.heap.size w0 w → Calls Try.prog 15 #[.string (bs (fromB xs 0 (n - 0)))] w fun e w' => ∃ A, e = .returned (ptr A) ∧ Eye w' A ⟨fromB xs 0 (n - 0), false⟩ ∧ w0.heap.size ≤ A ∧ Below w0.heap.size w0 w' := fun w T =>
      (Open_any w _).mono fun e w' ⟨x, y, z⟩ => ⟨_, x, y, T.size, ups T z T.size⟩
    have hP : ∀ w A, Below w0.heap.size w0 w → Eye w A ⟨fromB xs 0 (n - 0), false⟩ → w0.heap.size ≤ A → Calls Try.prog 15 #[.string (bs (fromB xs 0 (n - 0) ++ M))] w fun e w' => ∃ B, e = .returned (ptr B) ∧ Duo w0 w' A B ⟨fromB xs 0 (n - 0), false⟩ ⟨fromB xs 0 (n - 0) ++ M, false⟩ := fun w A T hE hA =>
      (Open_any w _).mono fun e w' ⟨x, y, z⟩ => ⟨_, x, hE.below z, y, Nat.ne_of_lt hE.lt, hA, T.size, ups T z T.size⟩
    have hadd : ∀ W, (Op.stringOp .add (bs (fromB xs 0 (n - 0))) (bs M)).run Try.prog W = .ok (.string (bs (fromB xs 0 (n - 0) ++ M))) W := fun W => by
      have hl := from_le hok (n - 0) 0
      have h := run_string_add_sum (P := Try.prog) (w := W) (bs (fromB xs 0 (n - 0))) (bs M) (by rw [bs_size, bs_size]; omega)
      rw [bs_append] at h
      exact h
    obtain ⟨F0, hF0⟩ : ∃ F, fromB xs 0 (n - 0) = F := ⟨_, rfl⟩
    rw [hF0] at hW hO hP hadd
    go_enter Try.func5, Try.ntmps5
    go_wp2_with (first
      | (go_at_call 30; (with_reducible refine hA.mono ?_); rintro e w1 ⟨rfl, T1⟩; have hW1 := hW _ T1)
      | (go_at_call 31; (with_reducible refine hW1.mono ?_); rintro e w2 ⟨rfl, T2⟩; have hO2 := hO _ T2)
      | (go_at_call 15; (with_reducible refine hO2.mono ?_); rintro e w3 ⟨A, rfl, E3, L3, T3⟩; have hP3 := hP _ _ T3 E3 L3)
      | (go_at_call 15; (with_reducible refine hP3.mono ?_); rintro e w4 ⟨B, rfl, D4⟩))
    replace hF0 := Lib.hid hF0
    clear hA hW hO hP hadd hW1 hO2 hP3 T1 T2 T3 E3 L3
    go_loopw [9] (fun s9 wr => ∃ k : Nat, s9 = .int .i64 k ∧ k ≤ n ∧ Duo w0 wr A B ⟨fromB xs k (n - k), false⟩ ⟨fromB xs k (n - k) ++ M, false⟩) (fun s9 _ => n - (intOf s9).toNat)
    case atStart => exact ⟨0, rfl, by omega, by rw [hF0.out]; exact D4⟩
    case round =>
      clear D4
      obtain ⟨k, rfl, hk, D⟩ := hrel
      by_cases hlt : k < n
      · obtain ⟨b, o, rfl, hb, c0, c1⟩ := hI.at hlt
        have hcell : ∀ W, Below w0.heap.size w0 W → W.cell? ⟨b, o + k * 2, none⟩ = some (.int .u8 ((xs k).k : Int)) ∧ W.cell? ⟨b, o + k * 2 + 1, none⟩ = some (.int .u64 ((xs k).n : Int)) := fun W T => ⟨(T.cell (p := ⟨b, _, none⟩) hb).trans c0, (T.cell (p := ⟨b, _, none⟩) hb).trans c1⟩
        clear c0 c1
        have j4 : (k : Int) < (n : Int) := by omega
        have hl := from_le hok (n - (k + 1)) (k + 1)
        rw [from_next xs hlt] at D
        have hG := from_next xs hlt
        obtain ⟨G, hg⟩ : ∃ G, fromB xs (k + 1) (n - (k + 1)) = G := ⟨_, rfl⟩
        rw [hg] at hl D
        have hRA : Calls Try.prog 32 #[thV (xs k), ptr A] wr fun e w' => e = .returned (.bool true) ∧ Duo w0 w' A B ⟨G, false⟩ ⟨wrB (xs k) ++ G ++ M, false⟩ := by
          have h := read_any D.a (xs k) (hok k) (fun h => by cases h) (by have := wrB_le (hok k); simp only [List.length_append]; omega)
          obtain ⟨e1, e2⟩ := th_back (xs k) (hok k) G
          rw [e1, e2] at h
          exact h.mono fun e w' ⟨x, y, z⟩ => ⟨x, D.onA y z⟩
        have hRB : ∀ w, Duo w0 w A B ⟨G, false⟩ ⟨wrB (xs k) ++ G ++ M, false⟩ → Calls Try.prog 32 #[thV (xs k), ptr B] w fun e w' => e = .returned (.bool true) ∧ Duo w0 w' A B ⟨G, false⟩ ⟨G ++ M, false⟩ := fun w D => by
          have h := read_any D.b (xs k) (hok k) (fun h => by cases h) (by have := wrB_le (hok k); simp only [List.length_append]; omega)
          obtain ⟨e1, e2⟩ := th_back (xs k) (hok k) (G ++ M)
          rw [← List.append_assoc] at e1 e2
          rw [e1, e2] at h
          exact h.mono fun e w' ⟨x, y, z⟩ => ⟨x, D.onB y z⟩
        have hFA : ∀ w, Duo w0 w A B ⟨G, false⟩ ⟨G ++ M, false⟩ → Calls Try.prog 26 #[ptr A] w fun e w' => e = .returned (.bool false) ∧ w = w' := fun w D => Failed_any D.a
        have hFB : ∀ w, Duo w0 w A B ⟨G, false⟩ ⟨G ++ M, false⟩ → Calls Try.prog 26 #[ptr B] w fun e w' => e = .returned (.bool false) ∧ w = w' := fun w D => Failed_any D.b
        have hLA : ∀ w, Duo w0 w A B ⟨G, false⟩ ⟨G ++ M, false⟩ → Calls Try.prog 27 #[ptr A] w fun e w' => e = .returned (.int .i64 (G.length : Int)) ∧ w = w' := fun w D => Left_any D.a
        have hLB : ∀ w, Duo w0 w A B ⟨G, false⟩ ⟨G ++ M, false⟩ → Calls Try.prog 27 #[ptr B] w fun e w' => e = .returned (.int .i64 ((G.length : Int) + (M.length : Int))) ∧ w = w' := fun w D => by
          have h := Left_any D.b
          have e : (((G ++ M).length : Nat) : Int) = (G.length : Int) + (M.length : Int) := by simp
          have h : Calls Try.prog 27 #[ptr B] w fun e w' => e = .returned (.int .i64 (((G ++ M).length : Nat) : Int)) ∧ w = w' := h
          rw [e] at h
          exact h
        have j5 : (G.length : Int) ≤ 3000 := by omega
        have j6 : 0 ≤ (G.length : Int) := by omega
        have j7 : (M.length : Int) ≤ 100 := by omega
        have hw : IntKind.i64.wrap ((G.length : Int) + (M.length : Int)) = (G.length : Int) + (M.length : Int) := by rw [IntKind.wrap_i64]; omega
        obtain ⟨c0, c1⟩ := hcell _ D.T
        clear D hG
        go_wp2_with (first
          | (go_at_call 32; (with_reducible refine hRA.mono ?_); rintro e w1 ⟨rfl, D1⟩; have hRB1 := hRB _ D1; obtain ⟨c2, c3⟩ := hcell _ D1.T)
          | (go_at_call 32; (with_reducible refine hRB1.mono ?_); rintro e w2 ⟨rfl, D2⟩; have f1 := hFA _ D2; have f2 := hFB _ D2; have f3 := hLA _ D2; have f4 := hLB _ D2)
          | (go_at_call 26; (with_reducible refine f1.mono ?_); rintro e w3 ⟨rfl, rfl⟩)
          | (go_at_call 26; (with_reducible refine f2.mono ?_); rintro e w3 ⟨rfl, rfl⟩)
          | (go_at_call 27; (with_reducible refine f3.mono ?_); rintro e w3 ⟨rfl, rfl⟩)
          | (go_at_call 27; (with_reducible refine f4.mono ?_); rintro e w3 ⟨rfl, rfl⟩))
        go_roundw
        case rel => exact ⟨k + 1, by simp, by omega, by rw [hg]; exact D2⟩
        case measure => simp only [intOf]; omega
      · obtain rfl : k = n := by omega
        have j4 : ¬ (k : Int) < (k : Int) := by omega
        rw [Nat.sub_self] at D
        have e1 : Calls Try.prog 28 #[ptr A] wr fun e w' => e = .returned (.int .i64 0) ∧ wr = w' := End_any D.a
        have f3 : Calls Try.prog 27 #[ptr A] wr fun e w' => e = .returned (.int .i64 0) ∧ wr = w' := Left_any D.a
        have f4 : Calls Try.prog 27 #[ptr B] wr fun e w' => e = .returned (.int .i64 (M.length : Int)) ∧ wr = w' := Left_any D.b
        have e2 : Calls Try.prog 28 #[ptr B] wr fun e w' => e = .returned (.int .i64 (endV ⟨M, false⟩)) ∧ wr = w' := End_any D.b
        have hcase : (endV ⟨M, false⟩ == 0) = ((M.length : Int) == 0) := by
          cases M with
          | nil => rfl
          | cons x M =>
            have : (((x :: M).length : Int) == 0) = false := beq_eq_false_iff_ne.2 (by simp only [List.length_cons]; omega)
            rw [this]; rfl
        have T := D.T
        clear D
        generalize endV ⟨M, false⟩ = z at *
        go_wp2_with (first
          | (go_at_call 28; (with_reducible refine e1.mono ?_); rintro e w3 ⟨rfl, rfl⟩)
          | (go_at_call 28; (with_reducible refine e2.mono ?_); rintro e w3 ⟨rfl, rfl⟩)
          | (go_at_call 27; (with_reducible refine f3.mono ?_); rintro e w3 ⟨rfl, rfl⟩)
          | (go_at_call 27; (with_reducible refine f4.mono ?_); rintro e w3 ⟨rfl, rfl⟩))
        go_ret
        exact ⟨by simp, T⟩
end Go.Proofs.Ytpjhhmmfcoknpaa
