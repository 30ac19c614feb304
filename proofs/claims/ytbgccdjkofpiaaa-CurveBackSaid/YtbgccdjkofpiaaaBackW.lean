/- The walk of CurveBack, whatever the curve. No condition but that words are words. -/
import Derived.Test.YtbgccdjkofpiaaaBackC
namespace Go.Proofs.Ytbgccdjkofpiaaa
open Go.RowKit W
set_option linter.unusedVariables false
theorem reach_word {f l r y n : Int} (h : IsReach f l r y n) : Word n := by rcases h with ⟨rfl, _⟩ | ⟨a, b, _⟩ <;> unfold Word <;> omega
theorem CurveBack_walk (f l r t y : Int) (hf : Word f) (hl : Word l) (hr : Word r) (ht : Word t) (hy : Word y) (w : World) :
    Calls Try.prog 5 #[.agg #[.int .u64 f, .int .u64 l, .int .u64 r], .int .u64 t, .int .u64 y] w fun e w' => e = .returned (.bool true) ∧ Below w.heap.size w w' := by
  have hM := fun w => may_any f l r w hf hl hr
  by_cases h : mayB f l r = true
  · have hm := mayB_iff.1 h
    rw [h] at hM
    by_cases hc : 4611686018427387904 ≤ t
    · exact back_far f l r t y w awake_any hM (by simpa using hc)
    · have hc' : decide (4611686018427387904 ≤ t) = false := by simpa using hc
      obtain ⟨n, hn⟩ := reach_ex f l r y hf hl hr
      have hR := fun w => Reach_is f l r y n w hf hl hr hy hm hn
      have nw := reach_word hn
      rcases hn with ⟨rfl, hn⟩ | ⟨n0, n1, n2, n3⟩
      · exact back_never f l r t y _ w awake_any hM hR (fun w => At_any f l r 9223372036854775807 w hf hl hr ⟨by omega, by omega⟩) hc' (by simpa using hn)
      · have hAt : ∀ x, Word x → Word (cAt f l r x) := fun x hx => stp_word (cW_nn hf.1 hr.1 hl.1 hx.1)
        obtain ⟨b, hb⟩ := reach_ex f l r (cAt f l r t) hf hl hr
        have hB := fun w => Reach_is f l r (cAt f l r t) b w hf hl hr (hAt t ht) hm hb
        have bw := reach_word hb
        obtain ⟨b0, b1, b2, b3⟩ := hb.back hf.1 hr.1 ht.1 (by omega)
        have h1 := fun w => At_any f l r n w hf hl hr nw
        have h3 := fun w => At_any f l r t w hf hl hr ht
        have h5 := fun w => At_any f l r b w hf hl hr bw
        rw [b2] at h5
        have p1 : (n == 9223372036854775808) = false := by simp; omega
        have p2 : decide (9223372036854775808 < n) = false := by simp; omega
        have p3 : decide (cAt f l r n < y) = false := by simp; omega
        have p4 : decide (t < b) = false := by simp; omega
        unfold Word at nw ht
        rcases n3 with n3 | n3
        · have q1 : decide (0 < n) = false := by simp; omega
          rcases b3 with ⟨k1, k2⟩ | ⟨k1, k2⟩
          · exact back_00 f l r t y n _ _ b w awake_any hM hR h1 h3 hB h5 hc' p1 p2 p3 q1 p4 (by simp [k1]) (by simp [k2])
          · exact back_01 f l r t y n _ _ b _ w awake_any hM hR h1 h3 hB h5 (fun w => At_any f l r (t - 1) w hf hl hr ⟨by omega, by omega⟩) hc' p1 p2 p3 q1 p4 (by simp; omega) (by simpa using k1) (IntWalk.u64_in _ (by omega))
              (beqB (fun e => decide_eq_true (k2.1 e)) (fun e => decide_eq_false (fun g => e (k2.2 g))))
        · by_cases q0 : n = 0
          · have q1 : decide (0 < n) = false := by simp; omega
            rcases b3 with ⟨k1, k2⟩ | ⟨k1, k2⟩
            · exact back_00 f l r t y n _ _ b w awake_any hM hR h1 h3 hB h5 hc' p1 p2 p3 q1 p4 (by simp [k1]) (by simp [k2])
            · exact back_01 f l r t y n _ _ b _ w awake_any hM hR h1 h3 hB h5 (fun w => At_any f l r (t - 1) w hf hl hr ⟨by omega, by omega⟩) hc' p1 p2 p3 q1 p4 (by simp; omega) (by simpa using k1) (IntWalk.u64_in _ (by omega))
                (beqB (fun e => decide_eq_true (k2.1 e)) (fun e => decide_eq_false (fun g => e (k2.2 g))))
          · have q1 : decide (0 < n) = true := by simp; omega
            have h2 := fun w => At_any f l r (n - 1) w hf hl hr ⟨by omega, by omega⟩
            have q2 : decide (y ≤ cAt f l r (n - 1)) = false := by simp; omega
            rcases b3 with ⟨k1, k2⟩ | ⟨k1, k2⟩
            · exact back_10 f l r t y n _ _ _ b w awake_any hM hR h1 h2 h3 hB h5 hc' p1 p2 p3 q1 (IntWalk.u64_in _ (by omega)) q2 p4 (by simp [k1]) (by simp [k2])
            · exact back_11 f l r t y n _ _ _ b _ w awake_any hM hR h1 h2 h3 hB h5 (fun w => At_any f l r (t - 1) w hf hl hr ⟨by omega, by omega⟩) hc' p1 p2 p3 q1 (IntWalk.u64_in _ (by omega)) q2 p4 (by simp; omega) (by simpa using k1) (IntWalk.u64_in _ (by omega))
                (beqB (fun e => decide_eq_true (k2.1 e)) (fun e => decide_eq_false (fun g => e (k2.2 g))))
  · rw [show mayB f l r = false by simpa using h] at hM
    exact back_no f l r t y w awake_any hM
end Go.Proofs.Ytbgccdjkofpiaaa
