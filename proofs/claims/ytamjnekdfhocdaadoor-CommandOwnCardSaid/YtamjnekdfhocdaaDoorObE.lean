/- An eye's calls: what each tells, and what it leaves. No condition. -/
import Derived.Test.YtamjnekdfhocdaaDoorObC
namespace Go.Proofs.YtamjnekdfhocdaaDoor
open Go.RowKit
set_option linter.unusedVariables false
theorem Eye.cells {w : World} {E : Nat} {s : Ey} (h : Eye w E s) : w.cell? ⟨E, 0, none⟩ = some (.string (bs s.left)) ∧ w.cell? ⟨E, 1, none⟩ = some (.bool s.bad) ∧ w.frozen? ⟨E, 0, none⟩ = false ∧ w.frozen? ⟨E, 1, none⟩ = false :=
  ⟨Box.cell h 0, Box.cell h 1, Box.thaw h 0, Box.thaw h 1⟩
theorem Eye.set0 {w : World} {E : Nat} {s : Ey} (h : Eye w E s) (R : List UInt8) : Eye (w.setCell ⟨E, 0, none⟩ (.string (bs R))) E ⟨R, s.bad⟩ := by
  have := Box.set h 0 (.string (bs R))
  simp at this
  exact this
theorem Eye.fail2 {w : World} {E : Nat} {s : Ey} (h : Eye w E s) : Eye ((w.setCell ⟨E, 0, none⟩ (.string (bs []))).setCell ⟨E, 1, none⟩ (.bool true)) E Ey.fail := by
  have := (Box.set h 0 (.string (bs []))).set 1 (.bool true)
  simp at this
  exact this
theorem Eye.but {w w' : World} {E B : Nat} {s : Ey} (h : Eye w E s) (k : But B w w') (hn : E ≠ B) : Eye w' E s := k.box h hn
theorem Eye.below {w w' : World} {E : Nat} {s : Ey} (h : Eye w E s) (k : Below w.heap.size w w') : Eye w' E s := Box.below h k
theorem Pen.but {w w' : World} {E B : Nat} {L : List UInt8} (h : Pen w E L) (k : But B w w') (hn : E ≠ B) : Pen w' E L := k.box h hn
theorem Pen.below {w w' : World} {E : Nat} {L : List UInt8} (h : Pen w E L) (k : Below w.heap.size w w') : Pen w' E L := Box.below h k
set_option maxHeartbeats 4000000 in
set_option maxRecDepth 100000 in
theorem Left_any {w : World} {E : Nat} {s : Ey} (h : Eye w E s) : Calls Tryd.prog 52 #[ptr E] w fun e w' => e = .returned (.int .i64 (s.left.length : Int)) ∧ w = w' := by
  obtain ⟨c0, c1, f0, f1⟩ := h.cells
  go_enter Tryd.func52, Tryd.ntmps52
  go_wp2
  go_ret
  exact ⟨by simp [bs_size], rfl⟩
set_option maxHeartbeats 4000000 in
set_option maxRecDepth 100000 in
theorem Left_nil (w : World) : Calls Tryd.prog 52 #[.pointer none] w fun e w' => e = .returned (.int .i64 0) ∧ w = w' := by
  go_enter Tryd.func52, Tryd.ntmps52
  go_wp2
  go_ret
  exact ⟨rfl, rfl⟩
set_option maxHeartbeats 4000000 in
set_option maxRecDepth 100000 in
theorem Failed_any {w : World} {E : Nat} {s : Ey} (h : Eye w E s) : Calls Tryd.prog 57 #[ptr E] w fun e w' => e = .returned (.bool s.bad) ∧ w = w' := by
  obtain ⟨c0, c1, f0, f1⟩ := h.cells
  go_enter Tryd.func57, Tryd.ntmps57
  go_wp2
  go_ret
  exact ⟨rfl, rfl⟩
set_option maxHeartbeats 4000000 in
set_option maxRecDepth 100000 in
theorem Failed_nil (w : World) : Calls Tryd.prog 57 #[.pointer none] w fun e w' => e = .returned (.bool true) ∧ w = w' := by
  go_enter Tryd.func57, Tryd.ntmps57
  go_wp2
  go_ret
  exact ⟨rfl, rfl⟩
set_option maxHeartbeats 4000000 in
set_option maxRecDepth 100000 in
theorem Fail_any {w : World} {E : Nat} {s : Ey} (h : Eye w E s) : Calls Tryd.prog 53 #[ptr E] w fun e w' => e = .returned unitV ∧ Eye w' E Ey.fail ∧ But E w w' := by
  obtain ⟨c0, c1, f0, f1⟩ := h.cells
  have hE := Lib.hid h.fail2
  have hB := Lib.hid (((But.refl E w).set 0 (.string (bs []))).set 1 (.bool true))
  go_enter Tryd.func53, Tryd.ntmps53
  go_wp2
  exact ⟨rfl, .tuple #[], by simp [results, Tryd.results53, go_sem], rfl, hE.out, hB.out⟩
set_option maxHeartbeats 4000000 in
set_option maxRecDepth 100000 in
theorem Fail_nil (w : World) : Calls Tryd.prog 53 #[.pointer none] w fun e w' => e = .returned unitV ∧ w = w' := by
  go_enter Tryd.func53, Tryd.ntmps53
  go_wp2
  exact ⟨rfl, .tuple #[], by simp [results, Tryd.results53, go_sem], rfl, rfl⟩
set_option maxHeartbeats 4000000 in
set_option maxRecDepth 100000 in
theorem Open_any (w : World) (S : List UInt8) : Calls Tryd.prog 34 #[.string (bs S)] w fun e w' => e = .returned (ptr w.heap.size) ∧ Eye w' w.heap.size ⟨S, false⟩ ∧ Below w.heap.size w w' := by
  go_enter Tryd.func34, Tryd.ntmps34
  go_wp2
  go_ret
  exact ⟨rfl, Box.new w 113 _, up1 w _⟩
theorem bs_extract (L : List UInt8) (a b : Nat) : (bs L).extract a b = bs ((L.take b).drop a) := by
  apply ByteArray.ext
  simp [bs, ByteArray.data_extract]
  rw [List.drop_take]
theorem bs_tail (b : UInt8) (R : List UInt8) : (bs (b :: R)).extract 1 (R.length + 1) = bs R := by
  rw [bs_extract]
  congr 1
  simp
theorem byE_nil {s : Ey} (h : s.left = []) : byE s = Ey.fail := by unfold byE; rw [h]
theorem byE_cons {s : Ey} {b : UInt8} {R : List UInt8} (h : s.left = b :: R) : byE s = ⟨R, s.bad⟩ := by unfold byE; rw [h]
set_option maxHeartbeats 4000000 in
set_option maxRecDepth 100000 in
theorem EByte_any {w : World} {E : Nat} {s : Ey} (h : Eye w E s) : Calls Tryd.prog 35 #[ptr E] w fun e w' => e = .returned (.int .u8 (byV s.left : Int)) ∧ Eye w' E (byE s) ∧ But E w w' := by
  have hL := Left_any h
  have hF := Fail_any h
  obtain ⟨c0, c1, f0, f1⟩ := h.cells
  cases hs : s.left with
  | nil =>
    rw [byE_nil hs]
    rw [hs] at hL
    go_enter Tryd.func35, Tryd.ntmps35
    go_wp2_with (first
      | (go_at_call 52; (with_reducible refine hL.mono ?_); rintro e w1 ⟨rfl, rfl⟩)
      | (go_at_call 53; (with_reducible refine hF.mono ?_); rintro e w2 ⟨rfl, hE, hB⟩))
    go_ret
    exact ⟨rfl, hE, hB⟩
  | cons b R =>
    rw [byE_cons hs]
    have hE := Lib.hid (h.set0 R)
    have hB := Lib.hid ((But.refl E w).set 0 (.string (bs R)))
    rw [hs] at hL c0
    have j0 : ((b :: R).length : Int) = R.length + 1 := by simp
    have j1 : ((R.length : Int) + 1 == 0) = false := beq_eq_false_iff_ne.2 (by omega)
    rw [j0] at hL
    have hz := bs_size (b :: R)
    go_enter Tryd.func35, Tryd.ntmps35
    go_wp2_with (first
      | (go_at_call 52; (with_reducible refine hL.mono ?_); rintro e w1 ⟨rfl, rfl⟩))
    go_ret
    rw [bs_tail]
    exact ⟨rfl, hE.out, hB.out⟩
set_option maxHeartbeats 4000000 in
set_option maxRecDepth 100000 in
theorem EByte_nil (w : World) : Calls Tryd.prog 35 #[.pointer none] w fun e w' => e = .returned (.int .u8 0) ∧ w = w' := by
  have hL := Left_nil w
  have hF := Fail_nil w
  go_enter Tryd.func35, Tryd.ntmps35
  go_wp2_with (first
    | (go_at_call 52; (with_reducible refine hL.mono ?_); rintro e w1 ⟨rfl, rfl⟩)
    | (go_at_call 53; (with_reducible refine hF.mono ?_); rintro e w2 ⟨rfl, rfl⟩))
  go_ret
  exact ⟨rfl, rfl⟩
set_option maxHeartbeats 4000000 in
set_option maxRecDepth 100000 in
theorem EFlag_any {w : World} {E : Nat} {s : Ey} (h : Eye w E s) : Calls Tryd.prog 56 #[ptr E] w fun e w' => e = .returned (.bool (flV s.left)) ∧ Eye w' E (flE s) ∧ But E w w' := by
  have hK := EByte_any h
  have hb := byV_lt s.left
  unfold flV flE
  obtain ⟨v, hv⟩ : ∃ v, byV s.left = v := ⟨_, rfl⟩
  rw [hv] at hK hb ⊢
  clear hv h
  by_cases h1 : 1 < v
  · rw [if_pos h1]
    have j0 : (1 : Int) < (v : Int) := by omega
    have j1 : ((v : Int) == 1) = false := beq_eq_false_iff_ne.2 (by omega)
    have j2 : (v == 1) = false := beq_eq_false_iff_ne.2 (by omega)
    rw [j2]
    go_enter Tryd.func56, Tryd.ntmps56
    go_wp2_with (first
      | (go_at_call 35; (with_reducible refine hK.mono ?_); rintro e w1 ⟨rfl, hE, hB⟩; have hF := Fail_any hE)
      | (go_at_call 53; (with_reducible refine hF.mono ?_); rintro e w2 ⟨rfl, hE2, hB2⟩))
    go_ret
    exact ⟨rfl, hE2, hB.trans hB2⟩
  · rw [if_neg h1]
    have j0 : ¬ (1 : Int) < (v : Int) := by omega
    have j1 : ((v : Int) == 1) = (v == 1) := by
      by_cases e : v = 1
      · subst e; rfl
      · rw [beq_eq_false_iff_ne.2 e, beq_eq_false_iff_ne.2 (by omega)]
    go_enter Tryd.func56, Tryd.ntmps56
    go_wp2_with (first
      | (go_at_call 35; (with_reducible refine hK.mono ?_); rintro e w1 ⟨rfl, hE, hB⟩))
    go_ret
    exact ⟨rfl, hE, hB⟩
set_option maxHeartbeats 4000000 in
set_option maxRecDepth 100000 in
/-- What End tells. -/
def endV (s : Ey) : Int := if s.bad || decide (s.left ≠ []) then 140 else 0
theorem End_any {w : World} {E : Nat} {s : Ey} (h : Eye w E s) : Calls Tryd.prog 37 #[ptr E] w fun e w' => e = .returned (.int .i64 (endV s)) ∧ w = w' := by
  have hK := Failed_any h
  have hL := Left_any h
  clear h
  obtain ⟨S, b⟩ := s
  unfold endV
  cases b
  · cases S with
    | nil =>
      go_enter Tryd.func37, Tryd.ntmps37
      go_wp2_with (first
        | (go_at_call 57; (with_reducible refine hK.mono ?_); rintro e w1 ⟨rfl, rfl⟩)
        | (go_at_call 52; (with_reducible refine hL.mono ?_); rintro e w1 ⟨rfl, rfl⟩))
      go_ret
      exact ⟨rfl, rfl⟩
    | cons x R =>
      have j0 : (0 : Int) < ((x :: R).length : Int) := by simp
      obtain ⟨n, hn⟩ : ∃ n, (x :: R).length = n := ⟨_, rfl⟩
      have hL : Calls Tryd.prog 52 #[ptr E] w fun e w' => e = .returned (.int .i64 ((x :: R).length : Int)) ∧ w = w' := hL
      rw [hn] at hL j0
      go_enter Tryd.func37, Tryd.ntmps37
      go_wp2_with (first
        | (go_at_call 57; (with_reducible refine hK.mono ?_); rintro e w1 ⟨rfl, rfl⟩)
        | (go_at_call 52; (with_reducible refine hL.mono ?_); rintro e w1 ⟨rfl, rfl⟩))
      go_ret
      exact ⟨by simp, rfl⟩
  · go_enter Tryd.func37, Tryd.ntmps37
    go_wp2_with (first
      | (go_at_call 57; (with_reducible refine hK.mono ?_); rintro e w1 ⟨rfl, rfl⟩))
    go_ret
    exact ⟨by simp, rfl⟩
set_option maxHeartbeats 4000000 in
set_option maxRecDepth 100000 in
theorem End_nil (w : World) : Calls Tryd.prog 37 #[.pointer none] w fun e w' => e = .returned (.int .i64 140) ∧ w = w' := by
  have hK := Failed_nil w
  go_enter Tryd.func37, Tryd.ntmps37
  go_wp2_with (first
    | (go_at_call 57; (with_reducible refine hK.mono ?_); rintro e w1 ⟨rfl, rfl⟩))
  go_ret
  exact ⟨rfl, rfl⟩
end Go.Proofs.YtamjnekdfhocdaaDoor
