/- The walk of CurveOne, whatever the curves. No condition but that words are words. -/
import Derived.Test.YtbgccdjkofpiaaaOneW
namespace Go.Proofs.Ytbgccdjkofpiaaa
open Go.RowKit W
set_option linter.unusedVariables false
set_option maxRecDepth 100000 in
set_option maxHeartbeats 1000000 in
theorem one_no (f l r f' l' r' : Int) (w : World) (hM : ∀ w, Calls Try.prog 14 #[.agg #[.int .u64 f, .int .u64 l, .int .u64 r]] w fun e w' => e = .returned (.bool false) ∧ Below w.heap.size w w') :
    Calls Try.prog 8 #[.agg #[.int .u64 f, .int .u64 l, .int .u64 r], .agg #[.int .u64 f', .int .u64 l', .int .u64 r']] w fun e w' => e = .returned (.bool true) ∧ Below w.heap.size w w' := by
  have hA := awake_any
  have BA := (Box.new w 24 #[.int .u64 f, .int .u64 l, .int .u64 r]).alloc (.cells #[.int .u64 f', .int .u64 l', .int .u64 r'] 24)
  have BB := Box.new (w.alloc (.cells #[.int .u64 f, .int .u64 l, .int .u64 r] 24)) 24 #[.int .u64 f', .int .u64 l', .int .u64 r']
  simp only [World.size_alloc] at BB
  have T := up2 w (.cells #[.int .u64 f, .int .u64 l, .int .u64 r] 24) (.cells #[.int .u64 f', .int .u64 l', .int .u64 r'] 24)
  go_enter Try.func8, Try.ntmps8
  go_wp2_with (first
    | (go_at_call 27; (with_reducible refine (hA _).mono ?_); rintro e w1 ⟨rfl, hb⟩; replace BA := BA.below hb; replace BB := BB.below hb; replace T := up T hb (by have := T.size; simp at this ⊢; omega); obtain ⟨c0, c1, c2, c3⟩ := BA.tri; obtain ⟨d0, d1, d2, d3⟩ := BB.tri; clear hb)
    | (go_at_call 14; (with_reducible refine (hM _).mono ?_); rintro e w2 ⟨rfl, hb⟩; replace BA := BA.below hb; replace BB := BB.below hb; replace T := up T hb (by have := T.size; simp at this ⊢; omega); obtain ⟨c0, c1, c2, c3⟩ := BA.tri; obtain ⟨d0, d1, d2, d3⟩ := BB.tri; clear hb))
  go_ret
  exact ⟨rfl, T⟩
set_option maxRecDepth 100000 in
set_option maxHeartbeats 1000000 in
theorem one_no2 (f l r f' l' r' : Int) (w : World) (hM : ∀ w, Calls Try.prog 14 #[.agg #[.int .u64 f, .int .u64 l, .int .u64 r]] w fun e w' => e = .returned (.bool true) ∧ Below w.heap.size w w') (hN : ∀ w, Calls Try.prog 14 #[.agg #[.int .u64 f', .int .u64 l', .int .u64 r']] w fun e w' => e = .returned (.bool false) ∧ Below w.heap.size w w') :
    Calls Try.prog 8 #[.agg #[.int .u64 f, .int .u64 l, .int .u64 r], .agg #[.int .u64 f', .int .u64 l', .int .u64 r']] w fun e w' => e = .returned (.bool true) ∧ Below w.heap.size w w' := by
  have hA := awake_any
  have BA := (Box.new w 24 #[.int .u64 f, .int .u64 l, .int .u64 r]).alloc (.cells #[.int .u64 f', .int .u64 l', .int .u64 r'] 24)
  have BB := Box.new (w.alloc (.cells #[.int .u64 f, .int .u64 l, .int .u64 r] 24)) 24 #[.int .u64 f', .int .u64 l', .int .u64 r']
  simp only [World.size_alloc] at BB
  have T := up2 w (.cells #[.int .u64 f, .int .u64 l, .int .u64 r] 24) (.cells #[.int .u64 f', .int .u64 l', .int .u64 r'] 24)
  go_enter Try.func8, Try.ntmps8
  go_wp2_with (first
    | (go_at_call 27; (with_reducible refine (hA _).mono ?_); rintro e w1 ⟨rfl, hb⟩; replace BA := BA.below hb; replace BB := BB.below hb; replace T := up T hb (by have := T.size; simp at this ⊢; omega); obtain ⟨c0, c1, c2, c3⟩ := BA.tri; obtain ⟨d0, d1, d2, d3⟩ := BB.tri; clear hb)
    | (go_at_call 14; (with_reducible refine (hM _).mono ?_); rintro e w2 ⟨rfl, hb⟩; replace BA := BA.below hb; replace BB := BB.below hb; replace T := up T hb (by have := T.size; simp at this ⊢; omega); obtain ⟨c0, c1, c2, c3⟩ := BA.tri; obtain ⟨d0, d1, d2, d3⟩ := BB.tri; clear hb)
    | (go_at_call 14; (with_reducible refine (hN _).mono ?_); rintro e w3 ⟨rfl, hb⟩; replace BA := BA.below hb; replace BB := BB.below hb; replace T := up T hb (by have := T.size; simp at this ⊢; omega); obtain ⟨c0, c1, c2, c3⟩ := BA.tri; obtain ⟨d0, d1, d2, d3⟩ := BB.tri; clear hb))
  go_ret
  exact ⟨rfl, T⟩
theorem SS_self (f l r : Int) : ∀ k, SS f l r f l r k = true
  | 0 => rfl
  | k + 1 => by
    show (SS f l r f l r k && eq1 f l r f l r k && eq2 f l r f l r k) = true
    rw [SS_self f l r k]
    simp [eq1, eq2]
theorem SS_all {f l r f' l' r' : Int} : ∀ k, SS f l r f' l' r' k = true → ∀ j, j < k → eq1 f l r f' l' r' j = true
  | 0, _, j, hj => by omega
  | k + 1, h, j, hj => by
    have h' : (SS f l r f' l' r' k && eq1 f l r f' l' r' k && eq2 f l r f' l' r' k) = true := h
    rw [Bool.and_eq_true, Bool.and_eq_true] at h'
    rcases Nat.lt_or_ge j k with g | g
    · exact SS_all k h'.1.1 j g
    · rw [show j = k by omega]; exact h'.1.2
theorem SS_fin {f l r f' l' r' : Int} (hf : Word f) (hl : Word l) (hr : Word r) (hf' : Word f') (hl' : Word l') (hr' : Word r') (h : cMay f l r) (h' : cMay f' l' r') :
    SS f l r f' l' r' 7 = decide (f = f' ∧ l = l' ∧ r = r') := by
  by_cases g : f = f' ∧ l = l' ∧ r = r'
  · rw [decide_eq_true g]
    obtain ⟨rfl, rfl, rfl⟩ := g
    exact SS_self f l r 7
  · rw [decide_eq_false g]
    cases hs : SS f l r f' l' r' 7 with
    | false => rfl
    | true =>
      exfalso
      apply g
      have l1 := h.2.2.1
      have l1' := h'.2.2.1
      have key : ∀ j, j < 7 → cW f l r (tk l l' j) = cW f' l' r' (tk l l' j) := fun j hj => by
        have e := SS_all 7 hs j hj
        unfold eq1 at e
        rw [beq_iff_eq] at e
        obtain ⟨n0, n1⟩ := tk_word hl.1 l1 hl'.1 l1' j
        rwa [cAt_small hf.1 hr.1 hl.1 n0 h (by omega), cAt_small hf'.1 hr'.1 hl'.1 n0 h' (by omega)] at e
      exact one_way hf.1 hl.1 hr.1 hf'.1 hl'.1 hr'.1 h h' (key 0 (by omega)) (key 1 (by omega)) (key 2 (by omega)) (key 3 (by omega)) (key 4 (by omega)) (key 5 (by omega)) (key 6 (by omega))
theorem CurveOne_walk (f l r f' l' r' : Int) (hf : Word f) (hl : Word l) (hr : Word r) (hf' : Word f') (hl' : Word l') (hr' : Word r') (w : World) :
    Calls Try.prog 8 #[.agg #[.int .u64 f, .int .u64 l, .int .u64 r], .agg #[.int .u64 f', .int .u64 l', .int .u64 r']] w fun e w' => e = .returned (.bool true) ∧ Below w.heap.size w w' := by
  have hM := fun w => may_any f l r w hf hl hr
  have hN := fun w => may_any f' l' r' w hf' hl' hr'
  by_cases h : mayB f l r = true
  · rw [h] at hM
    by_cases h' : mayB f' l' r' = true
    · rw [h'] at hN
      have m := mayB_iff.1 h
      have m' := mayB_iff.1 h'
      exact one_of f l r f' l' r' w hM hN hl.1 m.2.2.1 hl'.1 m'.2.2.1 (Lib.hid (fun t w ht => At_any f l r t w hf hl hr ht)) (Lib.hid (fun t w ht => At_any f' l' r' t w hf' hl' hr' ht)) (Lib.hid (SS_fin hf hl hr hf' hl' hr' m m'))
    · rw [show mayB f' l' r' = false by simpa using h'] at hN
      exact one_no2 f l r f' l' r' w hM hN
  · rw [show mayB f l r = false by simpa using h] at hM
    exact one_no f l r f' l' r' w hM
end Go.Proofs.Ytbgccdjkofpiaaa
