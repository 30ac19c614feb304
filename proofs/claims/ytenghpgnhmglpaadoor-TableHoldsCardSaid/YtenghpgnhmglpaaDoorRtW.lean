/- What acts make of a new table. No condition but words, and what a table must keep. -/
import Derived.Test.YtenghpgnhmglpaaDoorRtV
namespace Go.Proofs.YtenghpgnhmglpaaDoor
open Go.RowKit Go.Shelf
set_option linter.unusedVariables false
theorem kd_rem {k : Int} (h : 0 ≤ k ∧ k < 256) : k.tmod 3 = k % 3 := Int.tmod_eq_emod_of_nonneg h.1
section
variable {Tb : World → (Nat → Nat) → Nat → Nat → List Im → Prop} (hT : TbLaws Tb) {w0 w w' : World} {B : Nat} {L M : List Im}
include hT
theorem acted_over (a : Option Addr) (n c : Nat) (w : World) (ht : Tab w) (hn : 200 < n) : Calls Tryd.prog 23 #[.slice a n c] w fun e w' => e = .returned (.pointer none) ∧ Below w.heap.size w w' := by
  have hN := own1_new hT w ht
  have h1 : (200 : Int) < (n : Int) := by omega
  go_enter Tryd.func23, Tryd.ntmps23
  go_wp2_with (go_at_call 9; (with_reducible refine hN.mono ?_); rintro e w1 ⟨B, rfl, H⟩)
  go_ret
  exact ⟨rfl, H.world⟩
set_option maxRecDepth 100000 in
set_option maxHeartbeats 4000000 in
theorem acted_ok (a : Option Addr) (n c : Nat) (xs : Nat → Ac) (w : World) (ht : Tab w) (hn : n ≤ 200) (hI : IsRow acC 4 w a n c xs) (hw : ∀ i, (xs i).ok) :
    Calls Tryd.prog 23 #[.slice a n c] w fun e w' => ∃ B : Nat, e = .returned (.pointer (some ⟨B, 0, none⟩)) ∧ Own1 Tb w w' B (rowA xs n) := by
  have hN := own1_new hT w ht
  have hcell : ∀ (k : Nat) w', k < n → Below w.heap.size w w' → ∃ b o, a = some ⟨b, o, none⟩ ∧ w'.cell? ⟨b, o + k * 4, none⟩ = some (.int .u8 (xs k).kd) ∧ w'.cell? ⟨b, o + k * 4 + 1, none⟩ = some (.int .i64 (xs k).id) ∧ w'.cell? ⟨b, o + k * 4 + 2, none⟩ = some (.int .u64 (xs k).v) := fun k w' hk T => by
    obtain ⟨b, o, e, _, h⟩ := row_at hI k hk
    exact ⟨b, o, e, h w' T 0 _ rfl, h w' T 1 _ rfl, h w' T 2 _ rfl⟩
  have hPut : ∀ (W : World) (B k : Nat), k < n → Own1 Tb w W B (rowA xs k) → Calls Tryd.prog 16 #[.pointer (some ⟨B, 0, none⟩), eI (xs k).id, eU (xs k).v] W fun e w' => ∃ z : Int, e = .returned (eI z) ∧ Own1 Tb w w' B (putI (xs k).id (xs k).v (rowA xs k)) := fun W B k hk h =>
    (own1_put hT _ _ (hw k).2.1 (hw k).2.2.1 h (by have := rowA_len xs k; omega) rfl rfl).mono fun e w' ⟨h1, h2⟩ => ⟨_, h1, h2⟩
  have hSet : ∀ (W : World) (B k : Nat), k < n → Own1 Tb w W B (rowA xs k) → Calls Tryd.prog 18 #[.pointer (some ⟨B, 0, none⟩), eI (xs k).id, eU (xs k).v] W fun e w' => ∃ z : Int, e = .returned (eI z) ∧ Own1 Tb w w' B (setT (xs k).id (xs k).v (rowA xs k)) := fun W B k hk h =>
    (own1_set hT _ _ (hw k).2.1 (hw k).2.2.1 h (by have := rowA_len xs k; omega) rfl rfl).mono fun e w' ⟨h1, h2⟩ => ⟨_, h1, h2⟩
  have hDrop : ∀ (W : World) (B k : Nat), k < n → Own1 Tb w W B (rowA xs k) → Calls Tryd.prog 17 #[.pointer (some ⟨B, 0, none⟩), eI (xs k).id] W fun e w' => ∃ z : Int, e = .returned (eI z) ∧ Own1 Tb w w' B (dropT (xs k).id (rowA xs k)) := fun W B k hk h =>
    (own1_drop hT _ (hw k).2.1 h (by have := rowA_len xs k; omega) rfl rfl).mono fun e w' ⟨h1, h2⟩ => ⟨_, h1, h2⟩
  have hdrew : ∀ (W : World) (B k : Nat), Own1 Tb w W B (rowA xs k) → Own1 Tb w W.drew B (rowA xs k) := fun W B k h => h.below hT (Below.refl _ W).drew
  have hrem : ∀ k, (xs k).kd.tmod 3 = (xs k).kd % 3 := fun k => kd_rem (hw k).1
  have hce := Lib.hid hcell
  have hp := Lib.hid hPut
  have hs := Lib.hid hSet
  have hd := Lib.hid hDrop
  have hdw := Lib.hid hdrew
  have hrm := Lib.hid hrem
  have hnc : (n : Int) ≤ (c : Int) := by have := hI.1; omega
  have h1 : ¬ (200 : Int) < (n : Int) := by omega
  clear hcell hPut hSet hDrop hdrew hrem hI hw hT
  go_enter Tryd.func23, Tryd.ntmps23
  go_wp2_with (go_at_call 9; (with_reducible refine hN.mono ?_); rintro e w1 ⟨B, rfl, H0⟩)
  clear hN
  go_loopw [4] (fun s4 wr => ∃ k : Nat, s4 = .int .i64 k ∧ k ≤ n ∧ Own1 Tb w wr B (rowA xs k)) (fun s4 _ => n - (intOf s4).toNat)
  case atStart => exact ⟨0, rfl, by omega, H0⟩
  case round =>
    clear H0
    obtain ⟨k, rfl, hk, H⟩ := hrel
    by_cases hlt : k < n
    · have i1 : (k : Int) < (n : Int) := by omega
      have i2 : (0 : Int) ≤ (k : Int) := by omega
      obtain ⟨b, o, rfl, x0, x1, x2⟩ := hce.out k wr hlt H.world
      have hr := hrm.out k
      have hst : Hid (rowA xs (k + 1) = stepA (rowA xs k) (xs k)) := rfl
      have P := hp.out _ B k hlt (hdw.out _ _ _ H)
      have S := hs.out _ B k hlt (hdw.out _ _ _ H)
      have D := hd.out _ B k hlt H
      obtain ⟨m, hm⟩ : ∃ m, (xs k).kd % 3 = m := ⟨_, rfl⟩
      rw [hm] at hr
      unfold stepA at hst
      rw [hm] at hst
      by_cases h0 : m = 0
      · subst h0
        rw [if_pos rfl] at hst
        go_upto_region 10 with fail
        clear D S
        go_region_held3 (fun w' => w'.cell? ⟨b, o + k * 4 + 1, none⟩ = some (.int .i64 (xs k).id) ∧ w'.cell? ⟨b, o + k * 4 + 2, none⟩ = some (.int .u64 (xs k).v))
          (first | exact ⟨x1, x2⟩ | (obtain ⟨b', o', e, _, z1, z2⟩ := hce.out k _ hlt H5.world; cases e; exact ⟨z1, z2⟩))
          (first | (go_at_call 16; (with_reducible refine P.mono ?_); rintro e w5 ⟨z5, rfl, H5⟩))
        all_goals go_wp2_with fail
        exact ⟨⟨k + 1, rfl, by omega, by rw [hst.out]; exact H5⟩, by simp [intOf]; omega⟩
      · have q0 : (m == 0) = false := by simpa using h0
        rw [if_neg h0] at hst
        by_cases h1 : m = 1
        · subst h1
          rw [if_pos rfl] at hst
          clear q0 h0
          go_upto_region 12 with fail
          clear D P
          go_region_held3 (fun w' => w'.cell? ⟨b, o + k * 4 + 1, none⟩ = some (.int .i64 (xs k).id) ∧ w'.cell? ⟨b, o + k * 4 + 2, none⟩ = some (.int .u64 (xs k).v))
            (first | exact ⟨x1, x2⟩ | (obtain ⟨b', o', e, _, z1, z2⟩ := hce.out k _ hlt H5.world; cases e; exact ⟨z1, z2⟩))
            (first | (go_at_call 18; (with_reducible refine S.mono ?_); rintro e w5 ⟨z5, rfl, H5⟩))
          all_goals go_wp2_with fail
          exact ⟨⟨k + 1, rfl, by omega, by rw [hst.out]; exact H5⟩, by simp [intOf]; omega⟩
        · have q1 : (m == 1) = false := by simpa using h1
          rw [if_neg h1] at hst
          clear P S
          go_wp2_with (first | (go_at_call 17; (with_reducible refine D.mono ?_); rintro e w5 ⟨z5, rfl, H5⟩))
          exact ⟨⟨k + 1, rfl, by omega, by rw [hst.out]; exact H5⟩, by simp [intOf]; omega⟩
    · obtain rfl : k = n := by omega
      have i1 : ¬ (k : Int) < (k : Int) := by omega
      go_wp2_with fail
      go_ret
      exact ⟨_, rfl, H⟩
end
end Go.Proofs.YtenghpgnhmglpaaDoor
