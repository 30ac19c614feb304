/- The document's copies: what all have at a tick, and when they have it. -/
import Derived.Test.YtejolaifdjcghaaGreatCpW
namespace Go.Proofs.YtejolaifdjcghaaGreat
open Go.RowKit Go.Shelf W
set_option linter.unusedVariables false
set_option maxRecDepth 100000
theorem c_at_nil (B : Nat) (t : Int) (a : Option Addr) (cap : Nat) (w : World) (c3 : w.cell? ⟨B, 3, none⟩ = some (.slice a 0 cap)) :
    Calls Tryz.prog 33 #[.pointer (some ⟨B, 0, none⟩), eU t] w fun e w' => e = .returned (eU 0) ∧ Below w.heap.size w w' := by
  go_enter Tryz.func33, Tryz.ntmps33
  go_wp2
  go_ret
  exact ⟨rfl, Below.refl _ _⟩
theorem c_at (B n : Nat) (t x m : Int) (v : Int) (a : Option Addr) (cap : Nat) (w : World) (hn : 0 < n) (c3 : w.cell? ⟨B, 3, none⟩ = some (.slice a n cap)) (hm : max t x = m)
    (hL : Calls Tryz.prog 32 #[.pointer (some ⟨B, 0, none⟩)] w fun e w' => e = .returned (eU x) ∧ Below w.heap.size w w')
    (hW : ∀ w', Below w.heap.size w w' → Calls Tryz.prog 42 #[.pointer (some ⟨B, 0, none⟩), eU m] w' fun e w'' => e = .returned (.agg #[eU (hiW v), eU (loW v)]) ∧ Below w'.heap.size w' w'')
    (hS : ∀ w, Calls Tryz.prog 41 #[.agg #[eU (hiW v), eU (loW v)]] w fun e w' => e = .returned (eU (stp v)) ∧ Below w.heap.size w w') :
    Calls Tryz.prog 33 #[.pointer (some ⟨B, 0, none⟩), eU t] w fun e w' => e = .returned (eU (stp v)) ∧ Below w.heap.size w w' := by
  have hn0 : ((n : Int) == 0) = false := by simp only [beq_eq_false_iff_ne]; omega
  go_enter Tryz.func33, Tryz.ntmps33
  go_wp2_with (first
    | (go_at_call 32; (with_reducible refine hL.mono ?_); rintro e w1 ⟨rfl, T⟩)
    | (go_at_call 42; (with_reducible refine (hW _ T).mono ?_); rintro e w2 ⟨rfl, hb⟩; replace T := up T hb T.size; clear hb)
    | (go_at_call 41; (with_reducible refine (hS _).mono ?_); rintro e w3 ⟨rfl, hb⟩; replace T := up T hb T.size; clear hb))
  go_ret
  exact ⟨rfl, T⟩
theorem c_reach_nil (B : Nat) (y : Int) (a : Option Addr) (cap : Nat) (w : World) (c3 : w.cell? ⟨B, 3, none⟩ = some (.slice a 0 cap)) :
    Calls Tryz.prog 34 #[.pointer (some ⟨B, 0, none⟩), eU y] w fun e w' => e = .returned (eU (if y = 0 then 0 else 9223372036854775808)) ∧ Below w.heap.size w w' := by
  by_cases h : y = 0
  · subst h
    go_enter Tryz.func34, Tryz.ntmps34
    go_wp2
    go_ret
    exact ⟨rfl, Below.refl _ _⟩
  · rw [if_neg h]
    have h' : (y == 0) = false := by simp only [beq_eq_false_iff_ne]; exact h
    clear h
    go_enter Tryz.func34, Tryz.ntmps34
    go_wp2
    go_ret
    exact ⟨rfl, Below.refl _ _⟩
theorem c_reach_far (B n : Nat) (y v : Int) (a : Option Addr) (cap : Nat) (w : World) (hn : 0 < n) (c3 : w.cell? ⟨B, 3, none⟩ = some (.slice a n cap)) (hv : v < y)
    (hA : Calls Tryz.prog 33 #[.pointer (some ⟨B, 0, none⟩), eU 9223372036854775807] w fun e w' => e = .returned (eU v) ∧ Below w.heap.size w w') :
    Calls Tryz.prog 34 #[.pointer (some ⟨B, 0, none⟩), eU y] w fun e w' => e = .returned (eU 9223372036854775808) ∧ Below w.heap.size w w' := by
  have hn0 : ((n : Int) == 0) = false := by simp only [beq_eq_false_iff_ne]; omega
  go_enter Tryz.func34, Tryz.ntmps34
  go_wp2_with (first
    | (go_at_call 33; (with_reducible refine hA.mono ?_); rintro e w1 ⟨rfl, T⟩))
  go_ret
  exact ⟨rfl, T⟩
set_option maxHeartbeats 2000000 in
theorem c_reach (B n : Nat) (x y v : Int) (A : Int → Int) (a : Option Addr) (cap : Nat) (w : World) (hn : 0 < n) (c3 : w.cell? ⟨B, 3, none⟩ = some (.slice a n cap)) (x0 : 0 ≤ x) (x1 : x ≤ 9223372036854775808) (hv : y ≤ A 9223372036854775807)
    (hA : ∀ t w', 0 ≤ t ∧ t ≤ 9223372036854775808 → Below w.heap.size w w' → Calls Tryz.prog 33 #[.pointer (some ⟨B, 0, none⟩), eU t] w' fun e w'' => e = .returned (eU (A t)) ∧ Below w'.heap.size w' w'')
    (hL : ∀ w', Below w.heap.size w w' → Calls Tryz.prog 32 #[.pointer (some ⟨B, 0, none⟩)] w' fun e w'' => e = .returned (eU x) ∧ Below w'.heap.size w' w'') :
    Calls Tryz.prog 34 #[.pointer (some ⟨B, 0, none⟩), eU y] w fun e w' => (∃ r, e = .returned (eU r) ∧ x ≤ r ∧ r ≤ 9223372036854775808 ∧ ((r = 9223372036854775808 ∧ x = 9223372036854775808) ∨ (r < 9223372036854775808 ∧ y ≤ A r ∧ (r = x ∨ A (r - 1) < y)))) ∧ Below w.heap.size w w' := by
  have hn0 : ((n : Int) == 0) = false := by simp only [beq_eq_false_iff_ne]; omega
  have hA1 := hA 9223372036854775807
  have hv' : ¬ A 9223372036854775807 < y := by omega
  obtain ⟨z, hz⟩ : ∃ z, A 9223372036854775807 = z := ⟨_, rfl⟩
  rw [hz] at hA1 hv'
  have hZ := Lib.hid hz
  have hAh := Lib.hid hA
  clear hz hA
  go_enter Tryz.func34, Tryz.ntmps34
  go_wp2_with (first
    | (go_at_call 33; (with_reducible refine (hA1 _ ⟨by decide, by decide⟩ (Below.refl _ _)).mono ?_); rintro e w1 ⟨rfl, T⟩)
    | (go_at_call 32; (with_reducible refine (hL _ T).mono ?_); rintro e w2 ⟨rfl, hb⟩; replace T := up T hb T.size; clear hb))
  go_loopw [5, 6] (fun s5 s6 wr => ∃ lo hi : Int, s5 = eU lo ∧ s6 = eU hi ∧ x ≤ lo ∧ (lo ≤ hi ∨ (lo = 9223372036854775808 ∧ x = 9223372036854775808)) ∧ hi ≤ 9223372036854775807 ∧ y ≤ A hi ∧ (lo = x ∨ A (lo - 1) < y) ∧ Below w.heap.size w wr) (fun s5 s6 _ => (intOf s6 - intOf s5).toNat)
  case atStart => exact ⟨x, 9223372036854775807, rfl, rfl, by omega, by omega, by omega, hv, .inl rfl, T⟩
  case round =>
    clear T
    obtain ⟨lo, hi, rfl, rfl, h1, h2, h3, h4, h5, T⟩ := hrel
    by_cases hlt : lo < hi
    · have e1 := u64_id (hi - lo) ⟨by omega, by omega⟩
      obtain ⟨md, hmd⟩ : ∃ md, lo + (hi - lo) / 2 = md := ⟨_, rfl⟩
      have e2 : IntKind.u64.wrap (lo + (hi - lo) / 2) = md := by rw [hmd]; exact u64_id md ⟨by omega, by omega⟩
      have e3 := u64_id (md + 1) ⟨by omega, by omega⟩
      have e4 : (hi - lo).tdiv 2 = (hi - lo) / 2 := Int.tdiv_eq_ediv_of_nonneg (by omega)
      have m1 : lo ≤ md := by omega
      have m2 : md < hi := by omega
      obtain ⟨u, hu⟩ : ∃ u, A md = u := ⟨_, rfl⟩
      have hAm := fun w' (hb : Below w.heap.size w w') => hAh.out md w' ⟨by omega, by omega⟩ hb
      rw [hu] at hAm
      have hU := Lib.hid hu
      have hM := Lib.hid hmd
      have hTh := Lib.hid T
      clear hu hmd
      go_wp2_with (first
        | (go_at_call 33; (with_reducible refine (hAm _ T).mono ?_); rintro e w3 ⟨rfl, hb⟩; replace T := up T hb T.size; clear hb))
      all_goals rename_i hq
      · exact ⟨⟨lo, md, rfl, rfl, h1, .inl m1, by omega, by rw [hU.out]; exact hq, h5, T⟩, by simp [intOf]; omega⟩
      · exact ⟨⟨md + 1, hi, rfl, rfl, by omega, .inl (by omega), h3, h4, .inr (by rw [show md + 1 - 1 = md by omega, hU.out]; exact hq), T⟩, by simp [intOf]; omega⟩
    · go_wp2
      go_ret
      refine ⟨⟨lo, rfl, h1, by omega, ?_⟩, T⟩
      rcases h2 with h2 | h2
      · have : lo = hi := by omega
        subst this
        exact .inr ⟨by omega, h4, h5⟩
      · exact .inl h2
end Go.Proofs.YtejolaifdjcghaaGreat
