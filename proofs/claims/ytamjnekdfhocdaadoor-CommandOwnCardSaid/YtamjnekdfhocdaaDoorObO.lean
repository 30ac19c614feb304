/- The document's eye: what each call tells, and what it leaves. Condition: less than 2^59 bytes. -/
import Derived.Test.YtamjnekdfhocdaaDoorObF
import Derived.Test.YtamjnekdfhocdaaDoorObL
namespace Go.Proofs.YtamjnekdfhocdaaDoor
open Go.RowKit
set_option linter.unusedVariables false
theorem Rye.cells {w : World} {E : Nat} {s : Ey} (h : Rye w E s) : w.cell? ⟨E, 0, none⟩ = some (.string (bs s.left)) ∧ w.cell? ⟨E, 1, none⟩ = some (.bool s.bad) ∧ w.frozen? ⟨E, 0, none⟩ = false ∧ w.frozen? ⟨E, 1, none⟩ = false :=
  ⟨Box.cell h 0, Box.cell h 1, Box.thaw h 0, Box.thaw h 1⟩
theorem Rye.set0 {w : World} {E : Nat} {s : Ey} (h : Rye w E s) (R : List UInt8) : Rye (w.setCell ⟨E, 0, none⟩ (.string (bs R))) E ⟨R, s.bad⟩ := by
  have := Box.set h 0 (.string (bs R))
  simp at this
  exact this
theorem Rye.fail2 {w : World} {E : Nat} {s : Ey} (h : Rye w E s) : Rye ((w.setCell ⟨E, 0, none⟩ (.string (bs []))).setCell ⟨E, 1, none⟩ (.bool true)) E Ey.fail := by
  have := (Box.set h 0 (.string (bs []))).set 1 (.bool true)
  simp at this
  exact this
theorem Rye.but {w w' : World} {E B : Nat} {s : Ey} (h : Rye w E s) (k : But B w w') (hn : E ≠ B) : Rye w' E s := k.box h hn
theorem Rye.below {w w' : World} {E : Nat} {s : Ey} (h : Rye w E s) (k : Below w.heap.size w w') : Rye w' E s := Box.below h k
set_option maxHeartbeats 4000000 in
set_option maxRecDepth 100000 in
theorem RFail_any {w : World} {E : Nat} {s : Ey} (h : Rye w E s) : Calls Tryd.prog 58 #[ptr E] w fun e w' => e = .returned unitV ∧ Rye w' E Ey.fail ∧ But E w w' := by
  obtain ⟨c0, c1, f0, f1⟩ := h.cells
  have hE := Lib.hid h.fail2
  have hB := Lib.hid (((But.refl E w).set 0 (.string (bs []))).set 1 (.bool true))
  go_enter Tryd.func58, Tryd.ntmps58
  go_wp2
  exact ⟨rfl, .tuple #[], by simp [results, Tryd.results58, go_sem], rfl, hE.out, hB.out⟩
set_option maxHeartbeats 4000000 in
set_option maxRecDepth 100000 in
theorem RByte_any {w : World} {E : Nat} {s : Ey} (h : Rye w E s) : Calls Tryd.prog 38 #[ptr E] w fun e w' => e = .returned (.int .u8 (byV s.left : Int)) ∧ Rye w' E (byE s) ∧ But E w w' := by
  have hF := RFail_any h
  obtain ⟨c0, c1, f0, f1⟩ := h.cells
  cases hs : s.left with
  | nil =>
    rw [byE_nil hs]
    rw [hs] at c0
    have hz := bs_size []
    go_enter Tryd.func38, Tryd.ntmps38
    go_wp2_with (go_at_call 58; (with_reducible refine hF.mono ?_); rintro e w2 ⟨rfl, hE, hB⟩)
    go_ret
    exact ⟨rfl, hE, hB⟩
  | cons b R =>
    rw [byE_cons hs]
    have hE := Lib.hid (h.set0 R)
    have hB := Lib.hid ((But.refl E w).set 0 (.string (bs R)))
    rw [hs] at c0
    have j0 : ((b :: R).length : Int) = R.length + 1 := by simp
    have j1 : ((R.length : Int) + 1 == 0) = false := beq_eq_false_iff_ne.2 (by omega)
    have hz := bs_size (b :: R)
    go_enter Tryd.func38, Tryd.ntmps38
    go_wp2
    go_ret
    rw [bs_tail]
    exact ⟨rfl, hE.out, hB.out⟩
set_option maxHeartbeats 4000000 in
set_option maxRecDepth 100000 in
theorem RFlagE_any {w : World} {E : Nat} {s : Ey} (h : Rye w E s) : Calls Tryd.prog 41 #[ptr E] w fun e w' => e = .returned (.bool (flV s.left)) ∧ Rye w' E (flE s) ∧ But E w w' := by
  have hK := RByte_any h
  have hb := byV_lt s.left
  unfold flV flE
  obtain ⟨v, hv⟩ : ∃ v, byV s.left = v := ⟨_, rfl⟩
  rw [hv] at hK hb ⊢
  clear hv h
  by_cases h1 : 1 < v
  · rw [if_pos h1]
    have j0 : (1 : Int) < (v : Int) := by omega
    have j1 : ((v : Int) == 1) = false := beq_eq_false_iff_ne.2 (by omega)
    have j2 : (v == 1) = false := beq_eq_false_iff_ne.2 (by omega)
    rw [j2]
    go_enter Tryd.func41, Tryd.ntmps41
    go_wp2_with (first
      | (go_at_call 38; (with_reducible refine hK.mono ?_); rintro e w1 ⟨rfl, hE, hB⟩; have hF := RFail_any hE)
      | (go_at_call 58; (with_reducible refine hF.mono ?_); rintro e w2 ⟨rfl, hE2, hB2⟩))
    go_ret
    exact ⟨rfl, hE2, hB.trans hB2⟩
  · rw [if_neg h1]
    have j0 : ¬ (1 : Int) < (v : Int) := by omega
    have j1 : ((v : Int) == 1) = (v == 1) := by
      by_cases e : v = 1
      · subst e; rfl
      · rw [beq_eq_false_iff_ne.2 e, beq_eq_false_iff_ne.2 (by omega)]
    go_enter Tryd.func41, Tryd.ntmps41
    go_wp2_with (first
      | (go_at_call 38; (with_reducible refine hK.mono ?_); rintro e w1 ⟨rfl, hE, hB⟩))
    go_ret
    exact ⟨rfl, hE, hB⟩
set_option maxHeartbeats 4000000 in
set_option maxRecDepth 100000 in
theorem RDone_any {w : World} {E : Nat} {s : Ey} (h : Rye w E s) : Calls Tryd.prog 43 #[ptr E] w fun e w' => e = .returned (.bool (endV s == 0)) ∧ w = w' := by
  obtain ⟨c0, c1, f0, f1⟩ := h.cells
  clear h
  obtain ⟨S, b⟩ := s
  unfold endV
  cases b
  · cases S with
    | nil =>
      have hz := bs_size []
      go_enter Tryd.func43, Tryd.ntmps43
      go_wp2
      go_ret
      exact ⟨by simp, rfl⟩
    | cons x R =>
      have hz := bs_size (x :: R)
      have j0 : ((x :: R).length : Int) = R.length + 1 := by simp
      have j1 : ((R.length : Int) + 1 == 0) = false := beq_eq_false_iff_ne.2 (by omega)
      go_enter Tryd.func43, Tryd.ntmps43
      go_wp2
      go_ret
      exact ⟨by simp, rfl⟩
  · go_enter Tryd.func43, Tryd.ntmps43
    go_wp2
    go_ret
    exact ⟨by simp, rfl⟩
end Go.Proofs.YtamjnekdfhocdaaDoor
