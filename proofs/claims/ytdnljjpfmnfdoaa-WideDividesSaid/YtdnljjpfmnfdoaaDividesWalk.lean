/- The walk of WideDivides. No condition but that words are words. -/
import Derived.Test.YtdnljjpfmnfdoaaAwake
import Derived.WalkKit
import Derived.ProofKit
namespace Go.Proofs.Ytdnljjpfmnfdoaa.wideDivides
open Go.RowKit W
set_option linter.unusedVariables false
theorem mulBack {h l n : Int} (hl : Word l) (hn : Word n) (h1 : h < n) (h0 : Word h) : Word (V h l / n) ∧ Word (V h l % n) ∧ V h l % n < n ∧ V h l / n * n + V h l % n = V h l := by
  unfold Word at *
  have hV : 0 ≤ V h l := by unfold V; omega
  have a := Int.ediv_nonneg hV (show 0 ≤ n by omega)
  have b : V h l / n < 18446744073709551616 := by
    apply Int.ediv_lt_of_lt_mul (by omega)
    have := Int.mul_le_mul_of_nonneg_left (show h + 1 ≤ n by omega) (show (0 : Int) ≤ 18446744073709551616 by omega)
    unfold V; omega
  have c := Int.emod_nonneg (V h l) (show n ≠ 0 by omega)
  have d := Int.emod_lt_of_pos (V h l) (show 0 < n by omega)
  have e := Int.mul_ediv_add_emod (V h l) n
  rw [Int.mul_comm] at e
  exact ⟨⟨a, b⟩, ⟨c, by omega⟩, d, e⟩
theorem xH_lt {l n : Int} (hl : Word l) (hn : 0 < n) : xH l n < n := by
  unfold xH
  apply Int.ediv_lt_of_lt_mul (by omega)
  rw [Int.mul_comm n]
  exact Int.mul_lt_mul_of_pos_right hl.2 hn

set_option maxRecDepth 100000 in
set_option maxHeartbeats 1000000 in
theorem walk (h l n : Int) (hh : Word h) (hl : Word l) (hn : Word n) (w : World) :
    Calls Try.prog 6 #[.agg #[.int .u64 h, .int .u64 l], .int .u64 n] w fun e w' => e = .returned (.bool true) ∧ Below w.heap.size w w' := by
  have hD := fun w => Div_any h l n w hh hl hn
  by_cases z : n = 0
  · subst z
    obtain ⟨e1, e2, e3⟩ := d_zero h l
    rw [e1, e2, e3] at hD
    clear e1 e2 e3
    go_enter Try.func6, Try.ntmps6
    go_wp2_with (first
      | (go_at_call 24; (with_reducible refine (awake_any _).mono ?_); rintro e w1 ⟨rfl, hb1⟩; have HA1 := (Has.new w h l).below hb1; obtain ⟨xA1, yA1, zA1⟩ := id HA1)
      | (go_at_call 14; (with_reducible refine (hD _).mono ?_); rintro e w2 ⟨rfl, hb2⟩; have HA2 := HA1.below hb2; obtain ⟨xA2, yA2, zA2⟩ := id HA2))
    go_ret
    exact ⟨rfl, up (up (up1 w _) hb1 (by simp)) hb2 (up (up1 w _) hb1 (by simp)).size⟩
  · have hn0 : 0 < n := by unfold Word at hn; omega
    have hz : (n == 0) = false := by simp; omega
    by_cases s : n ≤ h
    · obtain ⟨e1, e2, e3⟩ := d_much (l := l) z s
      rw [e1, e2, e3] at hD
      clear e1 e2 e3
      go_enter Try.func6, Try.ntmps6
      go_wp2_with (first
        | (go_at_call 24; (with_reducible refine (awake_any _).mono ?_); rintro e w1 ⟨rfl, hb1⟩; have HA1 := (Has.new w h l).below hb1; obtain ⟨xA1, yA1, zA1⟩ := id HA1)
        | (go_at_call 14; (with_reducible refine (hD _).mono ?_); rintro e w2 ⟨rfl, hb2⟩; have HA2 := HA1.below hb2; obtain ⟨xA2, yA2, zA2⟩ := id HA2))
      go_ret
      exact ⟨rfl, up (up (up1 w _) hb1 (by simp)) hb2 (up (up1 w _) hb1 (by simp)).size⟩
    · have s' : h < n := by omega
      obtain ⟨e1, e2, e3⟩ := d_ok (l := l) z s'
      rw [e1, e2, e3] at hD
      clear e1 e2 e3 s
      obtain ⟨hq, hr, hrn, hqr⟩ := mulBack hl hn s' hh
      obtain ⟨q, eq⟩ : ∃ q, V h l / n = q := ⟨_, rfl⟩
      obtain ⟨r, er⟩ : ∃ r, V h l % n = r := ⟨_, rfl⟩
      rw [eq] at hq hqr hD
      rw [er] at hr hrn hqr hD
      clear eq er
      have hM := fun w => Mul_any q n w hq hn
      have hP := fun w => Plus_any (xH q n) (xL q n) 0 r w (xH_word hq hn) (xL_word _ _) ⟨by omega, by omega⟩ hr
      obtain ⟨p1, p2, p3⟩ := @pOk (xH q n) (xL q n) 0 r h l (by rw [V_x, ← hqr]; unfold V; omega) hl hh
      rw [p1, p2, p3] at hP
      have hM2 := fun w => Mul_any l n w hl hn
      have hD2 := fun w => Div_any (xH l n) (xL l n) n w (xH_word hl hn) (xL_word _ _) hn
      obtain ⟨g1, g2, g3⟩ := d_ok (l := xL l n) z (xH_lt hl hn0)
      rw [g1, g2, g3, V_x, Int.mul_ediv_cancel l z, Int.mul_emod_left] at hD2
      clear p1 p2 p3 g1 g2 g3 hqr
      go_enter Try.func6, Try.ntmps6
      go_wp2_with (first
        | (go_at_call 24; (with_reducible refine (awake_any _).mono ?_); rintro e w1 ⟨rfl, hb1⟩; have HA1 := (Has.new w h l).below hb1; obtain ⟨xA1, yA1, zA1⟩ := id HA1)
        | (go_at_call 14; (with_reducible refine (hD _).mono ?_); rintro e w2 ⟨rfl, hb2⟩; have HA2 := HA1.below hb2; obtain ⟨xA2, yA2, zA2⟩ := id HA2)
        | (go_at_call 20; (with_reducible refine (hM _).mono ?_); rintro e w3 ⟨rfl, hb3⟩; have HA3 := HA2.below hb3; obtain ⟨xA3, yA3, zA3⟩ := id HA3)
        | (go_at_call 10; (with_reducible refine (hP _).mono ?_); rintro e w4 ⟨rfl, hb4⟩; have HA4 := HA3.below hb4; obtain ⟨xA4, yA4, zA4⟩ := id HA4)
        | (go_at_call 20; (with_reducible refine (hM2 _).mono ?_); rintro e w5 ⟨rfl, hb5⟩; have HA5 := (HA4.alloc (.cells #[.int .u64 h, .int .u64 l] 24)).below hb5; have HB5 := (Has.new w4 h l).below hb5; obtain ⟨xA5, yA5, zA5⟩ := id HA5; obtain ⟨xB5, yB5, zB5⟩ := id HB5)
        | (go_at_call 14; (with_reducible refine (hD2 _).mono ?_); rintro e w6 ⟨rfl, hb6⟩; have HA6 := HA5.below hb6; have HB6 := HB5.below hb6; obtain ⟨xA6, yA6, zA6⟩ := id HA6; obtain ⟨xB6, yB6, zB6⟩ := id HB6))
      have t1 := up (up1 w _) hb1 (by simp)
      have t2 := up t1 hb2 t1.size
      have t3 := up t2 hb3 t2.size
      have t4 := (up t3 hb4 t3.size).alloc (up t3 hb4 t3.size).size (.cells #[.int .u64 h, .int .u64 l] 24)
      have t5 := up t4 hb5 t4.size
      go_ret
      exact ⟨rfl, up t5 hb6 t5.size⟩
end Go.Proofs.Ytdnljjpfmnfdoaa.wideDivides
