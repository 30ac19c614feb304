/- What the tree's small calls answer: Less, the summaries' functions, isRed, tinted, total, over. No condition. -/
import Derived.Test.YtcpienpkpodfmaaTA
namespace Go.Proofs.Ytcpienpkpodfmaa
open Go.RowKit Go.Shelf
set_option linter.unusedVariables false
abbrev ky (k : Ky) : Value := .agg #[eU k.1, eI k.2]
theorem less_any (k x : Ky) (w : World) : Calls Try.prog 54 #[ky k, ky x] w fun e w' => e = .returned (.bool (decide (kLt k x))) ∧ Below w.heap.size w w' := by
  obtain ⟨k1, k2⟩ := k
  obtain ⟨x1, x2⟩ := x
  by_cases h : k1 = x1
  · subst h
    have e : decide (kLt (k1, k2) (k1, x2)) = decide (k2 < x2) := by simp [kLt]
    rw [e]
    clear e
    go_enter Try.func54, Try.ntmps54
    go_wp2
    go_ret
    exact ⟨rfl, up2 _ _ _⟩
  · have e : decide (kLt (k1, k2) (x1, x2)) = decide (k1 < x1) := by simp [kLt, h]
    rw [e]
    clear e
    have h1 : (k1 != x1) = true := by simpa using h
    go_enter Try.func54, Try.ntmps54
    go_wp2
    go_ret
    exact ⟨rfl, up2 _ _ _⟩
theorem own_any (k : Ky) (s : Mk) (w : World) : Calls Try.prog 26 #[ky k, mV s] w fun e w' => e = .returned (mV s) ∧ Below w.heap.size w w' := by
  have T := up3 w (.cells #[eU k.1, eI k.2] 59) (.cells #[eU s.1, eI s.2] 61) (.cells #[eU 0, eI 0] 61)
  have b1 := Box.new ((w.alloc (.cells #[eU k.1, eI k.2] 59)).alloc (.cells #[eU s.1, eI s.2] 61)) 61 #[eU 0, eI 0]
  have b2 := (Box.new (w.alloc (.cells #[eU k.1, eI k.2] 59)) 61 #[eU s.1, eI s.2]).alloc (.cells #[eU 0, eI 0] 61)
  simp only [World.size_alloc] at b1 b2
  obtain ⟨W0, hW0⟩ : ∃ v, ((w.alloc (.cells #[eU k.1, eI k.2] 59)).alloc (.cells #[eU s.1, eI s.2] 61)).alloc (.cells #[eU 0, eI 0] 61) = v := ⟨_, rfl⟩
  rw [hW0] at T b1 b2
  have c0 := b2.cell 0
  have c1 := b2.cell 1
  have f0 := b1.thaw 0
  have f1 := b1.thaw 1
  have d0 := b1.cell 0
  have d1 := b1.cell 1
  have l1 := b1.lt
  go_enter Try.func26, Try.ntmps26
  go_wp2
  have b3 : Box ((W0.setCell ⟨w.heap.size + 1 + 1, 0, none⟩ (.int .u64 s.1)).setCell ⟨w.heap.size + 1 + 1, 1, none⟩ (.int .i64 s.2)) (w.heap.size + 1 + 1) #[eU s.1, eI s.2] 61 := (b1.set 0 (eU s.1)).set 1 (eI s.2)
  have e0 := b3.cell 0
  have e1 := b3.cell 1
  exact bodyPost_ret (v := mV s) (by simp [results, Try.results26, go_sem, e0, e1]) rfl ⟨rfl, (T.setCell (p := ⟨w.heap.size + 1 + 1, 0, none⟩) (by simp; omega) _).setCell (p := ⟨w.heap.size + 1 + 1, 1, none⟩) (by simp; omega) _⟩
theorem lesser_any (a b : Mk) (w : World) : Calls Try.prog 28 #[mV a, mV b] w fun e w' => e = .returned (mV (mn a b)) ∧ Below w.heap.size w w' := by
  have T := up3 w (.cells #[eU a.1, eI a.2] 61) (.cells #[eU b.1, eI b.2] 61) (.cells #[eU 0, eI 0] 61)
  have b1 := Box.new ((w.alloc (.cells #[eU a.1, eI a.2] 61)).alloc (.cells #[eU b.1, eI b.2] 61)) 61 #[eU 0, eI 0]
  have b2 := (Box.new (w.alloc (.cells #[eU a.1, eI a.2] 61)) 61 #[eU b.1, eI b.2]).alloc (.cells #[eU 0, eI 0] 61)
  have b0 := ((Box.new w 61 #[eU a.1, eI a.2]).alloc (.cells #[eU b.1, eI b.2] 61)).alloc (.cells #[eU 0, eI 0] 61)
  simp only [World.size_alloc] at b1 b2
  obtain ⟨W0, hW0⟩ : ∃ v, ((w.alloc (.cells #[eU a.1, eI a.2] 61)).alloc (.cells #[eU b.1, eI b.2] 61)).alloc (.cells #[eU 0, eI 0] 61) = v := ⟨_, rfl⟩
  rw [hW0] at T b0 b1 b2
  have a0 := b0.cell 0
  have a1 := b0.cell 1
  have c0 := b2.cell 0
  have c1 := b2.cell 1
  have f0 := b1.thaw 0
  have f1 := b1.thaw 1
  have d0 := b1.cell 0
  have d1 := b1.cell 1
  have l1 := b1.lt
  have b3 : ∀ s : Mk, Box ((W0.setCell ⟨w.heap.size + 1 + 1, 0, none⟩ (.int .u64 s.1)).setCell ⟨w.heap.size + 1 + 1, 1, none⟩ (.int .i64 s.2)) (w.heap.size + 1 + 1) #[eU s.1, eI s.2] 61 := fun s => (b1.set 0 (eU s.1)).set 1 (eI s.2)
  have TT : ∀ s : Mk, Below w.heap.size w ((W0.setCell ⟨w.heap.size + 1 + 1, 0, none⟩ (.int .u64 s.1)).setCell ⟨w.heap.size + 1 + 1, 1, none⟩ (.int .i64 s.2)) := fun s => (T.setCell (p := ⟨w.heap.size + 1 + 1, 0, none⟩) (by simp; omega) _).setCell (p := ⟨w.heap.size + 1 + 1, 1, none⟩) (by simp; omega) _
  obtain ⟨a1', a2'⟩ := a
  obtain ⟨b1', b2'⟩ := b
  rcases Int.lt_trichotomy b1' a1' with h | rfl | h
  · rw [show mn (a1', a2') (b1', b2') = (b1', b2') from if_pos (.inl h)]
    have g1 : decide (b1' < a1') = true := by simpa using h
    go_enter Try.func28, Try.ntmps28
    go_wp2
    have e0 := (b3 (b1', b2')).cell 0
    have e1 := (b3 (b1', b2')).cell 1
    exact bodyPost_ret (v := mV (b1', b2')) (by simp [results, Try.results28, go_sem, e0, e1]) rfl ⟨rfl, TT (b1', b2')⟩
  · have g1 : decide (b1' < b1') = false := by simp
    have g3 : (b1' == b1') = true := by simp
    by_cases h2 : b2' < a2'
    · rw [show mn (b1', a2') (b1', b2') = (b1', b2') from if_pos (.inr ⟨rfl, h2⟩)]
      have g2 : decide (b2' < a2') = true := by simpa using h2
      go_enter Try.func28, Try.ntmps28
      go_wp2
      have e0 := (b3 (b1', b2')).cell 0
      have e1 := (b3 (b1', b2')).cell 1
      exact bodyPost_ret (v := mV (b1', b2')) (by simp [results, Try.results28, go_sem, e0, e1]) rfl ⟨rfl, TT (b1', b2')⟩
    · rw [show mn (b1', a2') (b1', b2') = (b1', a2') from if_neg (by unfold mLt; simp; omega)]
      have g2 : decide (b2' < a2') = false := by simpa using h2
      go_enter Try.func28, Try.ntmps28
      go_wp2
      have e0 := (b3 (b1', a2')).cell 0
      have e1 := (b3 (b1', a2')).cell 1
      exact bodyPost_ret (v := mV (b1', a2')) (by simp [results, Try.results28, go_sem, e0, e1]) rfl ⟨rfl, TT (b1', a2')⟩
  · rw [show mn (a1', a2') (b1', b2') = (a1', a2') from if_neg (by unfold mLt; simp; omega)]
    have g1 : decide (b1' < a1') = false := by simp; omega
    have g3 : (b1' == a1') = false := by simp; omega
    go_enter Try.func28, Try.ntmps28
    go_wp2
    have e0 := (b3 (a1', a2')).cell 0
    have e1 := (b3 (a1', a2')).cell 1
    exact bodyPost_ret (v := mV (a1', a2')) (by simp [results, Try.results28, go_sem, e0, e1]) rfl ⟨rfl, TT (a1', a2')⟩
/-- Is a mark's value at most what the captured box holds? -/
theorem ok_any (Bv : Nat) (y : Int) (s : Mk) (w : World) (h : Box w Bv #[eU y] 29) : Calls Try.prog 45 #[mV s, .pointer (some ⟨Bv, 0, none⟩)] w fun e w' => e = .returned (.bool (decide (s.1 ≤ y))) ∧ Below w.heap.size w w' := by
  have c0 := (h.alloc (.cells #[eU s.1, eI s.2] 61)).cell 0
  go_enter Try.func45, Try.ntmps45
  go_wp2
  go_ret
  exact ⟨rfl, up1 _ _⟩
theorem isRed_nil (w : World) : Calls Try.prog 78 #[.pointer none] w fun e w' => e = .returned (.bool false) ∧ w = w' := by
  go_enter Try.func78, Try.ntmps78
  go_wp2
  go_ret
  exact ⟨rfl, rfl⟩
theorem isRed_at (B : Nat) (r : Bool) (w : World) (h : w.cell? ⟨B, 2 + 2, none⟩ = some (.bool r)) : Calls Try.prog 78 #[.pointer (some ⟨B, 0, none⟩)] w fun e w' => e = .returned (.bool r) ∧ w = w' := by
  go_enter Try.func78, Try.ntmps78
  go_wp2
  go_ret
  exact ⟨rfl, rfl⟩
end Go.Proofs.Ytcpienpkpodfmaa
