/- What the document's curve has at a tick, in two words. No condition but that words are words. -/
import Derived.Test.YtbgccdjkofpiaaaRefC
import Derived.Test.YtbgccdjkofpiaaaRefA
namespace Go.Proofs.Ytbgccdjkofpiaaa
open Go.RowKit W
set_option linter.unusedVariables false
theorem Box.has {W : World} {B : Nat} {t : TypeId} {x y : Int} (h : Box W B #[.int .u64 x, .int .u64 y] t) : Has W B x y :=
  ⟨h.lt, by simp [World.cell?, show W.heap[B]? = _ from h], by simp [World.cell?, show W.heap[B]? = _ from h]⟩
theorem Box.setNe {W : World} {B : Nat} {t : TypeId} {vs : Array Value} (h : Box W B vs t) {a : Addr} (hne : B ≠ a.block) (v : Value) : Box (W.setCell a v) B vs t := (Below.heap_setCell W a v B hne).trans h
set_option maxRecDepth 100000 in
set_option maxHeartbeats 2000000 in
theorem kWide_lo (f l r t a b : Int) (w : World) (h1 : t ≤ l)
    (hM : ∀ w, Calls Try.prog 49 #[.int .u64 f, .int .u64 t] w fun e w' => e = .returned (.agg #[.int .u64 a, .int .u64 b]) ∧ Below w.heap.size w w')
    (hP : ∀ w, Calls Try.prog 51 #[.agg #[.int .u64 a, .int .u64 b], .agg #[.int .u64 0, .int .u64 0]] w fun e w' => e = .returned (.tuple #[.agg #[.int .u64 a, .int .u64 b], .int .i64 0]) ∧ Below w.heap.size w w') :
    Calls Try.prog 38 #[.agg #[.int .u64 f, .int .u64 l, .int .u64 r], .int .u64 t] w fun e w' => e = .returned (.agg #[.int .u64 a, .int .u64 b]) ∧ Below w.heap.size w w' := by
  have T2 := up2 w (.cells #[.int .u64 f, .int .u64 l, .int .u64 r] 24) (.cells #[.int .u64 0, .int .u64 0] 54)
  have BC := (Box.new w 24 #[.int .u64 f, .int .u64 l, .int .u64 r]).alloc (.cells #[.int .u64 0, .int .u64 0] 54)
  have BR := Box.new (w.alloc (.cells #[.int .u64 f, .int .u64 l, .int .u64 r] 24)) 54 #[.int .u64 0, .int .u64 0]
  simp only [World.size_alloc] at BR
  have m1 : min t l = t := by omega
  have m2 : max t l = l := by omega
  have hd : decide (l < t) = false := by simp; omega
  go_enter Try.func38, Try.ntmps38
  go_wp2_with (first
    | (go_at_call 49; (with_reducible refine (hM _).mono ?_); rintro e w1 ⟨rfl, hb1⟩; replace BC := BC.below hb1; replace BR := BR.below hb1; obtain ⟨c0, c1, c2, c3⟩ := BC.tri; replace T2 := up T2 hb1 (by simp; omega))
    | (go_at_call 51; (with_reducible refine (hP _).mono ?_); rintro e w2 ⟨rfl, hb2⟩; have BR2 := (((BR.alloc (.cells #[.int .u64 a, .int .u64 b] 54)).alloc (.cells #[.int .u64 0, .int .u64 0] 54)).below hb2).alloc (.cells #[.int .u64 a, .int .u64 b] 54); obtain ⟨r0, r1, r2⟩ := BR2.has; have g0 := BR2.frz 0; have g1 := BR2.frz 1; have T3 := (T2.alloc T2.size (.cells #[.int .u64 a, .int .u64 b] 54)).alloc (by have := T2.size; simp; omega) (.cells #[.int .u64 0, .int .u64 0] 54); have T4 := (up T3 hb2 T3.size).alloc (up T3 hb2 T3.size).size (.cells #[.int .u64 a, .int .u64 b] 54)))
  exact bodyPost_ret (v := .agg #[.int .u64 a, .int .u64 b]) (by simp [results, Try.results38, go_sem, r1, r2]) rfl ⟨rfl, (T4.setCell (by simp) _).setCell (by simp) _⟩
set_option maxRecDepth 100000 in
set_option maxHeartbeats 2000000 in
theorem kWide_hi (f l r t a b c d x y : Int) (w : World) (h1 : l < t) (hw : IntKind.u64.wrap (t - l) = t - l)
    (hM : ∀ w, Calls Try.prog 49 #[.int .u64 f, .int .u64 l] w fun e w' => e = .returned (.agg #[.int .u64 a, .int .u64 b]) ∧ Below w.heap.size w w')
    (hN : ∀ w, Calls Try.prog 49 #[.int .u64 r, .int .u64 (t - l)] w fun e w' => e = .returned (.agg #[.int .u64 c, .int .u64 d]) ∧ Below w.heap.size w w')
    (hP : ∀ w, Calls Try.prog 51 #[.agg #[.int .u64 a, .int .u64 b], .agg #[.int .u64 c, .int .u64 d]] w fun e w' => e = .returned (.tuple #[.agg #[.int .u64 x, .int .u64 y], .int .i64 0]) ∧ Below w.heap.size w w') :
    Calls Try.prog 38 #[.agg #[.int .u64 f, .int .u64 l, .int .u64 r], .int .u64 t] w fun e w' => e = .returned (.agg #[.int .u64 x, .int .u64 y]) ∧ Below w.heap.size w w' := by
  have T2 := up2 w (.cells #[.int .u64 f, .int .u64 l, .int .u64 r] 24) (.cells #[.int .u64 0, .int .u64 0] 54)
  have BC := (Box.new w 24 #[.int .u64 f, .int .u64 l, .int .u64 r]).alloc (.cells #[.int .u64 0, .int .u64 0] 54)
  have BR := Box.new (w.alloc (.cells #[.int .u64 f, .int .u64 l, .int .u64 r] 24)) 54 #[.int .u64 0, .int .u64 0]
  simp only [World.size_alloc] at BR
  have m1 : min t l = l := by omega
  have m2 : max t l = t := by omega
  have hd : decide (l < t) = true := by simp; omega
  go_enter Try.func38, Try.ntmps38
  go_wp2_with (first
    | (go_at_call 49; (with_reducible refine (hM _).mono ?_); rintro e w1 ⟨rfl, hb1⟩; replace BC := BC.below hb1; replace BR := BR.below hb1; obtain ⟨c0, c1, c2, c3⟩ := BC.tri; have hq := BR.lt; replace T2 := up T2 hb1 (by simp; omega))
    | (go_at_call 49; (with_reducible refine (hN _).mono ?_); rintro e w2 ⟨rfl, hb2⟩; have BF := ((Box.new w1 54 #[.int .u64 a, .int .u64 b]).alloc (.cells #[.int .u64 0, .int .u64 0] 54)).below hb2; have BS := Box.new (w1.alloc (.cells #[.int .u64 a, .int .u64 b] 54)) 54 #[.int .u64 0, .int .u64 0]; simp only [World.size_alloc] at BS; replace BS := BS.below hb2; obtain ⟨s0, s1, s2⟩ := BS.has; obtain ⟨f0, f1, f2⟩ := BF.has; have g0 := BS.frz 0; have g1 := BS.frz 1; have T3 := (T2.alloc T2.size (.cells #[.int .u64 a, .int .u64 b] 54)).alloc (by have := T2.size; simp; omega) (.cells #[.int .u64 0, .int .u64 0] 54); replace T3 := up T3 hb2 T3.size; replace BR := ((BR.alloc (.cells #[.int .u64 a, .int .u64 b] 54)).alloc (.cells #[.int .u64 0, .int .u64 0] 54)).below hb2)
    | (go_at_call 51; (with_reducible refine (hP _).mono ?_); rintro e w3 ⟨rfl, hb3⟩; have BR3 := (((BR.setNe (a := ⟨w1.heap.size + 1, 0, none⟩) (by simp; omega) (.int .u64 c)).setNe (a := ⟨w1.heap.size + 1, 1, none⟩) (by simp; omega) (.int .u64 d)).below hb3).alloc (.cells #[.int .u64 x, .int .u64 y] 54); obtain ⟨r0, r1, r2⟩ := BR3.has; have k0 := BR3.frz 0; have k1 := BR3.frz 1; have T4 := (T3.setCell (p := ⟨w1.heap.size + 1, 0, none⟩) (by simp; omega) (.int .u64 c)).setCell (p := ⟨w1.heap.size + 1, 1, none⟩) (by simp; omega) (.int .u64 d); have T5 := (up T4 hb3 T4.size).alloc (up T4 hb3 T4.size).size (.cells #[.int .u64 x, .int .u64 y] 54)))
  exact bodyPost_ret (v := .agg #[.int .u64 x, .int .u64 y]) (by simp [results, Try.results38, go_sem, r1, r2]) rfl ⟨rfl, (T5.setCell (by simp) _).setCell (by simp) _⟩
theorem pZero {a b : Int} (ha : Word a) (hb : Word b) : pE a b 0 0 = 0 ∧ pH a b 0 0 = a ∧ pL a b 0 0 = b := @pOk a b 0 0 a b (by unfold V; omega) hb ha
theorem kWide_any (f l r t : Int) (w : World) (hf : Word f) (hl : Word l) (hr : Word r) (ht : Word t) :
    Calls Try.prog 38 #[.agg #[.int .u64 f, .int .u64 l, .int .u64 r], .int .u64 t] w fun e w' => e = .returned (.agg #[.int .u64 (cW f l r t / 18446744073709551616), .int .u64 (cW f l r t % 18446744073709551616)]) ∧ Below w.heap.size w w' := by
  rcases Int.lt_or_le l t with h | h
  · have e := cW_hi (F := f) (L := l) (R := r) (show l ≤ t by omega)
    have ha := xH_word hf hl
    have hb := xL_word f l
    have ht' : Word (t - l) := by unfold Word at *; omega
    have hc := xH_word hr ht'
    have hd := xL_word r (t - l)
    have hP := fun w => rPlus_any (xH f l) (xL f l) (xH r (t - l)) (xL r (t - l)) w ha hb hc hd
    have b1 : f * l ≤ 18446744073709551615 * l := Int.mul_le_mul_of_nonneg_right (by unfold Word at hf; omega) hl.1
    have b2 : r * (t - l) ≤ 18446744073709551615 * (t - l) := Int.mul_le_mul_of_nonneg_right (by unfold Word at hr; omega) ht'.1
    have b3 := Int.mul_nonneg hf.1 hl.1
    have b4 := Int.mul_nonneg hr.1 ht'.1
    unfold Word at ht hl
    obtain ⟨e1, e2, e3⟩ := @pOk (xH f l) (xL f l) (xH r (t - l)) (xL r (t - l)) (cW f l r t / 18446744073709551616) (cW f l r t % 18446744073709551616) (by rw [V_x, V_x]; unfold V; omega) (by unfold Word; omega) (by unfold Word; omega)
    rw [e1, e2, e3] at hP
    exact kWide_hi f l r t _ _ _ _ _ _ w h (IntWalk.u64_in _ (by omega)) (fun w => rMul_any f l w hf hl) (fun w => rMul_any r (t - l) w hr ht') hP
  · have e := cW_lo (F := f) (R := r) h
    rw [e]
    have hP := fun w => rPlus_any (xH f t) (xL f t) 0 0 w (xH_word hf ht) (xL_word f t) ⟨by omega, by omega⟩ ⟨by omega, by omega⟩
    obtain ⟨e1, e2, e3⟩ := pZero (xH_word hf ht) (xL_word f t)
    rw [e1, e2, e3] at hP
    exact kWide_lo f l r t _ _ w h (fun w => rMul_any f t w hf ht) hP
theorem cW_word2 {f l r t : Int} (hf : Word f) (hl : Word l) (hr : Word r) (ht : Word t) : 0 ≤ cW f l r t ∧ cW f l r t < 340282366920938463463374607431768211456 := by
  refine ⟨cW_nn hf.1 hr.1 hl.1 ht.1, ?_⟩
  rcases Int.lt_or_le l t with h | h
  · rw [cW_hi (by omega)]
    have b1 : f * l ≤ 18446744073709551615 * l := Int.mul_le_mul_of_nonneg_right (by unfold Word at hf; omega) hl.1
    have b2 : r * (t - l) ≤ 18446744073709551615 * (t - l) := Int.mul_le_mul_of_nonneg_right (by unfold Word at hr; omega) (by omega)
    unfold Word at ht; omega
  · rw [cW_lo h]
    have b1 : f * t ≤ 18446744073709551615 * t := Int.mul_le_mul_of_nonneg_right (by unfold Word at hf; omega) ht.1
    unfold Word at ht; omega
theorem kAt_any (f l r t : Int) (w : World) (hf : Word f) (hl : Word l) (hr : Word r) (ht : Word t) :
    Calls Try.prog 24 #[.agg #[.int .u64 f, .int .u64 l, .int .u64 r], .int .u64 t] w fun e w' => e = .returned (.int .u64 (cAt f l r t)) ∧ Below w.heap.size w w' := by
  have hW := fun w => kWide_any f l r t w hf hl hr ht
  obtain ⟨c0, c1⟩ := cW_word2 hf hl hr ht
  have hS := fun w => rStop_any (cW f l r t / 18446744073709551616) (cW f l r t % 18446744073709551616) w (by unfold Word; omega) (by unfold Word; omega)
  have e : V (cW f l r t / 18446744073709551616) (cW f l r t % 18446744073709551616) = cW f l r t := by unfold V; omega
  rw [e] at hS
  have e2 : stp (cW f l r t) = cAt f l r t := rfl
  rw [e2] at hS
  obtain ⟨x, ex⟩ : ∃ x, cW f l r t / 18446744073709551616 = x := ⟨_, rfl⟩
  obtain ⟨y, ey⟩ : ∃ y, cW f l r t % 18446744073709551616 = y := ⟨_, rfl⟩
  rw [ex, ey] at hW hS
  clear ex ey e e2 c0 c1
  go_enter Try.func24, Try.ntmps24
  go_wp2_with (first
    | (go_at_call 38; (with_reducible refine (hW _).mono ?_); rintro e w1 ⟨rfl, hb1⟩)
    | (go_at_call 37; (with_reducible refine (hS _).mono ?_); rintro e w2 ⟨rfl, hb2⟩))
  go_ret
  exact ⟨rfl, up (up (up1 _ _) hb1 (by simp)) hb2 (up (up1 _ _) hb1 (by simp)).size⟩
end Go.Proofs.Ytbgccdjkofpiaaa
