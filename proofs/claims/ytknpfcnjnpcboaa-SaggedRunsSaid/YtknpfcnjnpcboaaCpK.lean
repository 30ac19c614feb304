/- The document's copies: how many are kept. -/
import Derived.Test.YtknpfcnjnpcboaaCpB
namespace Go.Proofs.Ytknpfcnjnpcboaa
open Go.RowKit Go.Shelf W
set_option linter.unusedVariables false
set_option maxRecDepth 100000
namespace W
def beB (a b : Nat → Nat → Bool) (k i : Nat) : Bool := (decide (k < i) && a i k) || (decide (i < k) && a i k && b i k)
end W
set_option maxHeartbeats 8000000 in
theorem c_keptN (B n : Nat) (a b : Nat → Nat → Bool) (R : World → Prop) (hRb : ∀ w w', R w → Below w.heap.size w w' → R w') (hn : n ≤ 1000)
    (hC : ∀ w, R w → ∃ ad cap, w.cell? ⟨B, 3, none⟩ = some (.slice ad n cap))
    (hO : ∀ i k, i < n → k < n → ∀ w, R w → Calls Try.prog 50 #[.pointer (some ⟨B, 0, none⟩), .int .i64 i, .int .i64 k] w fun e w' => e = .returned (.tuple #[.bool (a i k), .bool (b i k)]) ∧ Below w.heap.size w w') (w : World) (h : R w) :
    Calls Try.prog 33 #[.pointer (some ⟨B, 0, none⟩)] w fun e w' => e = .returned (.int .i64 (cntB (fun k => noneB (beB a b k) n) n)) ∧ Below w.heap.size w w' := by
  have hRh := Lib.hid (fun w' (T : Below w.heap.size w w') => hRb _ _ h T)
  have T0 := Lib.hid (Below.refl w.heap.size w)
  have hCh := Lib.hid (fun w' (T : Below w.heap.size w w') => hC _ (hRb _ _ h T))
  have hOh := Lib.hid hO
  clear hRb hC hO h
  go_enter Try.func33, Try.ntmps33
  go_wp2_with fail
  go_loopw [3, 4] (fun s3 s4 wr => ∃ k : Nat, s3 = .int .i64 (cntB (fun k => noneB (beB a b k) n) k) ∧ s4 = .int .i64 k ∧ k ≤ n ∧ Below w.heap.size w wr) (fun _ s4 _ => n - (intOf s4).toNat)
  case atStart => exact ⟨0, rfl, rfl, by omega, T0.out⟩
  case round =>
    obtain ⟨k, h3, rfl, hk, T⟩ := hrel
    obtain ⟨ad, cap, c3⟩ := hCh.out _ T
    by_cases hlt : k < n
    · have i1 : (k : Int) < (n : Int) := by omega
      have i2 : (0 : Int) ≤ (k : Int) := by omega
      have ms : cntB (fun k => noneB (beB a b k) n) (k + 1) = cntB (fun k => noneB (beB a b k) n) k + (if noneB (beB a b k) n = true then 1 else 0) := rfl
      obtain ⟨q, hq⟩ : ∃ q, cntB (fun k => noneB (beB a b k) n) k = q := ⟨_, rfl⟩
      have hqn : q ≤ k := by
        rw [← hq]
        clear hq ms h3 hlt i1 i2 hk
        induction k with
        | zero => exact Nat.le_refl _
        | succ k ih =>
          show cntB _ k + _ ≤ _
          split <;> omega
      rw [hq] at ms h3
      subst h3
      have msh := Lib.hid ms
      clear ms hq
      go_wp2_with fail
      go_loopw [5, 6] (fun s5 s6 wr => ∃ i : Nat, s5 = .bool (noneB (beB a b k) i) ∧ s6 = .int .i64 i ∧ i ≤ n ∧ Below w.heap.size w wr) (fun _ s6 _ => n - (intOf s6).toNat)
      case atStart => exact ⟨0, rfl, rfl, by omega, T⟩
      case round =>
        clear T c3
        obtain ⟨i, h5, rfl, hi, T⟩ := hrel
        obtain ⟨ad, cap, c3⟩ := hCh.out _ T
        by_cases hlt2 : i < n
        · have j1 : (i : Int) < (n : Int) := by omega
          have j2 : (0 : Int) ≤ (i : Int) := by omega
          have hO1 := fun w' (T : Below w.heap.size w w') => hOh.out i k hlt2 hlt w' (hRh.out _ T)
          have ns : noneB (beB a b k) (i + 1) = (noneB (beB a b k) i && !((decide (k < i) && a i k) || (decide (i < k) && a i k && b i k))) := rfl
          obtain ⟨b0, hb0⟩ : ∃ z, noneB (beB a b k) i = z := ⟨_, rfl⟩
          obtain ⟨b1, hb1⟩ : ∃ z, a i k = z := ⟨_, rfl⟩
          obtain ⟨b2, hb2⟩ : ∃ z, b i k = z := ⟨_, rfl⟩
          rw [hb0, hb1, hb2] at ns
          rw [hb0] at h5
          rw [hb1, hb2] at hO1
          subst h5
          have hO1h := Lib.hid hO1
          clear hb0 hb1 hb2 hO1
          have fin : ∀ x : Bool, ((decide (k < i) && b1) || (decide (i < k) && b1 && b2)) = !x → noneB (beB a b k) (i + 1) = (b0 && x) := fun x e => by rw [ns, e]; simp
          have finh := Lib.hid fin
          clear ns fin
          rcases Nat.lt_trichotomy i k with hik | hik | hik
          · have d1 : ¬ (k : Int) < (i : Int) := by omega
            have d2 : (i : Int) < (k : Int) := by omega
            have d3 : ¬ k < i := by omega
            have keyh := Lib.hid (finh.out (!(b1 && b2)) (by simp [hik, d3]))
            clear finh
            cases b1 <;> cases b2
            all_goals go_wp2_with (go_at_call 50; (with_reducible refine (hO1h.out _ (by first | exact T | exact T.drew)).mono ?_); rintro e w3 ⟨rfl, hb⟩; (first | replace hb := undrew hb | skip); replace T := up T hb T.size; clear hb)
            all_goals go_roundw
            all_goals first
              | (refine ⟨i + 1, ?_, by go_num, by omega, T⟩; rw [keyh.out]; cases b0 <;> rfl)
              | (simp [intOf]; omega)
          · subst hik
            have d1 : ¬ (i : Int) < (i : Int) := by omega
            have keyh := Lib.hid (finh.out true (by simp))
            clear finh
            cases b1 <;> cases b2
            all_goals go_wp2_with (go_at_call 50; (with_reducible refine (hO1h.out _ (by first | exact T | exact T.drew)).mono ?_); rintro e w3 ⟨rfl, hb⟩; (first | replace hb := undrew hb | skip); replace T := up T hb T.size; clear hb)
            all_goals go_roundw
            all_goals first
              | (refine ⟨i + 1, ?_, by go_num, by omega, T⟩; rw [keyh.out]; cases b0 <;> rfl)
              | (simp [intOf]; omega)
          · have d1 : (k : Int) < (i : Int) := by omega
            have d2 : ¬ (i : Int) < (k : Int) := by omega
            have d3 : ¬ i < k := by omega
            have keyh := Lib.hid (finh.out (!b1) (by simp [hik, d3]))
            clear finh
            cases b1 <;> cases b2
            all_goals go_wp2_with (go_at_call 50; (with_reducible refine (hO1h.out _ (by first | exact T | exact T.drew)).mono ?_); rintro e w3 ⟨rfl, hb⟩; (first | replace hb := undrew hb | skip); replace T := up T hb T.size; clear hb)
            all_goals go_roundw
            all_goals first
              | (refine ⟨i + 1, ?_, by go_num, by omega, T⟩; rw [keyh.out]; cases b0 <;> rfl)
              | (simp [intOf]; omega)
        · obtain rfl : i = n := by omega
          have j1 : ¬ (i : Int) < (i : Int) := by omega
          have ms := msh.out
          obtain ⟨b0, hb0⟩ : ∃ z, noneB (beB a b k) i = z := ⟨_, rfl⟩
          rw [hb0] at ms h5
          subst h5
          have msh2 := Lib.hid ms
          clear ms hb0
          cases b0
          · go_wp2_with fail
            exact ⟨⟨k + 1, by rw [msh2.out]; rfl, by go_num, by omega, T⟩, by simp [intOf]; omega⟩
          · go_wp2_with fail
            exact ⟨⟨k + 1, by rw [msh2.out]; rfl, by go_num, by omega, T⟩, by simp [intOf]; omega⟩
    · obtain rfl : k = n := by omega
      have j1 : ¬ (k : Int) < (k : Int) := by omega
      subst h3
      go_wp2_with fail
      go_ret
      exact ⟨rfl, T⟩
end Go.Proofs.Ytknpfcnjnpcboaa
