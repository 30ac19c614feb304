/- What the program's calls answer that stop a number of two words; and its Plus, Minus, Times. No condition but that words are words. -/
import Derived.Test.YtbgccdjkofpiaaaStop
import Derived.Test.YtbgccdjkofpiaaaSum
import Derived.Test.YtbgccdjkofpiaaaMul
import Derived.Deep.CutRange
namespace Go.Proofs.Ytbgccdjkofpiaaa
open Go.RowKit W
set_option linter.unusedVariables false
theorem stopW_gt (h l : Int) (w : World) (hl : Word l) (hgt : 4611686018427387904 < V h l) :
    Calls Try.prog 53 #[.agg #[.int .u64 h, .int .u64 l], .agg #[.int .u64 0, .int .u64 4611686018427387904], .func (.func 54) #[] #[]] w fun e w' => e = .returned (.agg #[.int .u64 0, .int .u64 4611686018427387904]) ∧ Below w.heap.size w w' := by
  have hC := fun w => Cmp_any h l 0 4611686018427387904 w hl ⟨by omega, by omega⟩
  rw [cmpW_gt (by unfold V at *; omega)] at hC
  clear hgt
  go_enter Try.func53, Try.ntmps53
  go_wp2_with (go_at_call 54; (with_reducible refine (hC _).mono ?_); rintro e w1 ⟨rfl, hb1⟩; obtain ⟨hc1, hf1⟩ := bcell hb1; have hz1 := hb1.size)
  exact bodyPost_ret (v := .agg #[.int .u64 0, .int .u64 4611686018427387904]) (by simp [results, Try.results53, go_sem, hc1]) rfl ⟨rfl, (((up3 w _ _ _).trans (hb1.mono (by simp; omega))).setCell (by simp; omega) _).setCell (by simp; omega) _⟩
theorem stopW_le (h l : Int) (w : World) (hl : Word l) (hle : V h l ≤ 4611686018427387904) :
    Calls Try.prog 53 #[.agg #[.int .u64 h, .int .u64 l], .agg #[.int .u64 0, .int .u64 4611686018427387904], .func (.func 54) #[] #[]] w fun e w' => e = .returned (.agg #[.int .u64 h, .int .u64 l]) ∧ Below w.heap.size w w' := by
  have hC := fun w => Cmp_any h l 0 4611686018427387904 w hl ⟨by omega, by omega⟩
  have hz : ∃ z, cmpW h l 0 4611686018427387904 = z ∧ decide (0 < z) = false := by
    rcases Int.lt_or_eq_of_le hle with h | h
    · exact ⟨_, cmpW_lt (by unfold V at *; omega), rfl⟩
    · exact ⟨_, cmpW_eq (by unfold V at *; omega), rfl⟩
  obtain ⟨z, e1, e2⟩ := hz
  rw [e1] at hC
  clear hle e1
  go_enter Try.func53, Try.ntmps53
  go_wp2_with (go_at_call 54; (with_reducible refine (hC _).mono ?_); rintro e w1 ⟨rfl, hb1⟩; obtain ⟨hc1, hf1⟩ := bcell hb1; have hz1 := hb1.size)
  exact bodyPost_ret (v := .agg #[.int .u64 h, .int .u64 l]) (by simp [results, Try.results53, go_sem, hc1]) rfl ⟨rfl, (((up3 w _ _ _).trans (hb1.mono (by simp; omega))).setCell (by simp; omega) _).setCell (by simp; omega) _⟩

theorem fieldLow (x y : Int) (w : World) : (Instr.field 54 (.agg #[.int .u64 x, .int .u64 y]) 1).run Try.prog w = .ok (.int .u64 y) w := by rfl

theorem stoppedWide_of (h l x y : Int) (w : World) (hS : ∀ w, Calls Try.prog 53 #[.agg #[.int .u64 h, .int .u64 l], .agg #[.int .u64 0, .int .u64 4611686018427387904], .func (.func 54) #[] #[]] w fun e w' => e = .returned (.agg #[.int .u64 x, .int .u64 y]) ∧ Below w.heap.size w w') :
    Calls Try.prog 40 #[.agg #[.int .u64 h, .int .u64 l]] w fun e w' => e = .returned (.int .u64 y) ∧ Below w.heap.size w w' := by
  have hfl := fieldLow
  have HA := Has.new w h l
  have T := up1 w (.cells #[.int .u64 h, .int .u64 l] 54)
  obtain ⟨xA, yA, zA⟩ := id HA
  go_enter Try.func40, Try.ntmps40
  go_upto_region 1 with (fail)
  go_region_held3 (fun w' => w'.cell? ⟨w.heap.size, 0, none⟩ = some (.int .u64 h) ∧ w'.cell? ⟨w.heap.size, 1, none⟩ = some (.int .u64 l))
    (first | exact ⟨yA, zA⟩ | exact ⟨(HA.below hb1).2.1, (HA.below hb1).2.2⟩ | exact ⟨((HA.below hb1).below hb2).2.1, ((HA.below hb1).below hb2).2.2⟩)
    (first
      | (go_at_call 44; (with_reducible refine (word_any _ _).mono ?_); rintro e w1 ⟨rfl, hb1⟩; (first | replace hb1 := undrew hb1 | replace hb1 := undrewN hb1 | skip))
      | (go_at_call 53; (with_reducible refine (hS _).mono ?_); rintro e w2 ⟨rfl, hb2⟩; (first | replace hb2 := undrew hb2 | replace hb2 := undrewN hb2 | skip)))
  go_wp2
  go_ret
  exact ⟨rfl, up (up T hb1 T.size) hb2 (up T hb1 T.size).size⟩
theorem stoppedWide_any (h l : Int) (w : World) (hh : Word h) (hl : Word l) :
    Calls Try.prog 40 #[.agg #[.int .u64 h, .int .u64 l]] w fun e w' => e = .returned (.int .u64 (stp (V h l))) ∧ Below w.heap.size w w' := by
  by_cases g : 4611686018427387904 < V h l
  · rw [stp_hi g]
    exact stoppedWide_of h l 0 _ w (fun w => stopW_gt h l w hl g)
  · rw [stp_lo (by omega)]
    have : V h l = l := by unfold Word at *; unfold V at *; omega
    rw [this]
    exact stoppedWide_of h l h l w (fun w => stopW_le h l w hl (by omega))
theorem rPlus'_any (a b : Int) (w : World) (ha : Word a) (hb : Word b) :
    Calls Try.prog 30 #[.int .u64 a, .int .u64 b] w fun e w' => e = .returned (.int .u64 (rP a b)) ∧ Below w.heap.size w w' := by
  have hP := fun w => Plus_any 0 a 0 b w ⟨by omega, by omega⟩ ha ⟨by omega, by omega⟩ hb
  unfold Word at ha hb
  obtain ⟨e1, e2, e3⟩ := @pOk 0 a 0 b ((a + b) / 18446744073709551616) ((a + b) % 18446744073709551616) (by unfold V; omega) (by unfold Word; omega) (by unfold Word; omega)
  rw [e1, e2, e3] at hP
  clear e1 e2 e3
  have hS := fun w => stoppedWide_any ((a + b) / 18446744073709551616) ((a + b) % 18446744073709551616) w (by unfold Word; omega) (by unfold Word; omega)
  have e : V ((a + b) / 18446744073709551616) ((a + b) % 18446744073709551616) = a + b := by unfold V; omega
  rw [e] at hS
  have e' : stp (a + b) = rP a b := rfl
  rw [e'] at hS
  clear e e'
  obtain ⟨x, ex⟩ : ∃ x, (a + b) / 18446744073709551616 = x := ⟨_, rfl⟩
  obtain ⟨y, ey⟩ : ∃ y, (a + b) % 18446744073709551616 = y := ⟨_, rfl⟩
  rw [ex, ey] at hP hS
  clear ex ey
  go_enter Try.func30, Try.ntmps30
  go_wp2_with (first
    | (go_at_call 44; (with_reducible refine (word_any a _).mono ?_); rintro e w1 ⟨rfl, hb1⟩)
    | (go_at_call 44; (with_reducible refine (word_any b _).mono ?_); rintro e w2 ⟨rfl, hb2⟩)
    | (go_at_call 45; (with_reducible refine (hP _).mono ?_); rintro e w3 ⟨rfl, hb3⟩)
    | (go_at_call 40; (with_reducible refine (hS _).mono ?_); rintro e w4 ⟨rfl, hb4⟩))
  have t2 := up hb1 hb2 hb1.size
  have t3 := (up t2 hb3 t2.size).alloc (up t2 hb3 t2.size).size (.cells #[.int .u64 x, .int .u64 y] 54)
  go_ret
  exact ⟨rfl, up t3 hb4 t3.size⟩
theorem rMinus'_any (a b : Int) (w : World) (ha : Word a) (hb : Word b) :
    Calls Try.prog 33 #[.int .u64 a, .int .u64 b] w fun e w' => e = .returned (.int .u64 (rM a b)) ∧ Below w.heap.size w w' := by
  unfold Word at ha hb
  obtain ⟨a0, a1⟩ := ha
  obtain ⟨b0, b1⟩ := hb
  unfold rM
  by_cases h : a < b
  · rw [if_pos h]
    go_enter Try.func33, Try.ntmps33
    go_wp2
    go_ret
    exact ⟨rfl, Below.refl _ _⟩
  · rw [if_neg h]
    have hS := fun w => stop_any (a - b) w (by unfold Word; omega)
    obtain ⟨z, ez⟩ : ∃ z, stp (a - b) = z := ⟨_, rfl⟩
    rw [ez] at hS ⊢
    clear ez
    go_enter Try.func33, Try.ntmps33
    go_wp2_with (go_at_call 47; (with_reducible refine (hS _).mono ?_); rintro e w1 ⟨rfl, hb1⟩)
    go_ret
    exact ⟨rfl, hb1⟩
theorem rTimes'_any (a b : Int) (w : World) (ha : Word a) (hb : Word b) :
    Calls Try.prog 28 #[.int .u64 a, .int .u64 b] w fun e w' => e = .returned (.int .u64 (rT a b)) ∧ Below w.heap.size w w' := by
  have hM := fun w => Mul_any a b w ha hb
  have hS := fun w => stoppedWide_any (xH a b) (xL a b) w (xH_word ha hb) (xL_word a b)
  rw [V_x] at hS
  have e' : stp (a * b) = rT a b := rfl
  rw [e'] at hS
  clear e'
  go_enter Try.func28, Try.ntmps28
  go_wp2_with (first
    | (go_at_call 41; (with_reducible refine (hM _).mono ?_); rintro e w1 ⟨rfl, hb1⟩)
    | (go_at_call 40; (with_reducible refine (hS _).mono ?_); rintro e w2 ⟨rfl, hb2⟩))
  go_ret
  exact ⟨rfl, up hb1 hb2 hb1.size⟩
end Go.Proofs.Ytbgccdjkofpiaaa
