/- At Reach of an amount a run has it, a tick ahead less, or that is the last start: the walk of the statement. -/
import Derived.Test.YtdhfblcheoahaaaAwk
namespace Go.Proofs.Ytdhfblcheoahaaa
open Go.RowKit Go.Shelf W
set_option linter.unusedVariables false
set_option maxRecDepth 100000
section
variable (f l r : Int) (a : Option Addr) (n c : Nat) (y : Int) (w : World)
set_option maxHeartbeats 1000000 in
theorem back_no (hS : ∀ w', Below w.heap.size w w' → Calls Try.prog 21 #[.agg #[eU f, eU l, eU r], .slice a n c] w' fun e w'' => e = .returned (.pointer none) ∧ Below w'.heap.size w' w'') :
    Calls Try.prog 8 #[.agg #[eU f, eU l, eU r], .slice a n c, eU y] w fun e w' => e = .returned (.bool true) ∧ Below w.heap.size w w' := by
  have BC := Box.new w 24 #[eU f, eU l, eU r]
  have T := up1 w (.cells #[eU f, eU l, eU r] 24)
  go_enter Try.func8, Try.ntmps8
  go_wp2_with (first
    | (go_at_call 20; (with_reducible refine (awake_any _).mono ?_); rintro e w1 ⟨rfl, hb⟩; replace BC := BC.below hb; replace T := up T hb T.size; clear hb; obtain ⟨c0, c1, c2, c3⟩ := BC.tri)
    | (go_at_call 21; (with_reducible refine (hS _ T).mono ?_); rintro e w2 ⟨rfl, hb⟩; replace T := up T hb T.size; clear hb))
  go_ret
  exact ⟨rfl, T⟩
set_option maxHeartbeats 1000000 in
theorem back_zero (hS : ∀ w', Below w.heap.size w w' → Calls Try.prog 21 #[.agg #[eU f, eU l, eU r], .slice a 0 c] w' fun e w'' => ∃ B : Nat, e = .returned (.pointer (some ⟨B, 0, none⟩)) ∧ Below w'.heap.size w' w'') :
    Calls Try.prog 8 #[.agg #[eU f, eU l, eU r], .slice a 0 c, eU y] w fun e w' => e = .returned (.bool true) ∧ Below w.heap.size w w' := by
  have BC := Box.new w 24 #[eU f, eU l, eU r]
  have T := up1 w (.cells #[eU f, eU l, eU r] 24)
  go_enter Try.func8, Try.ntmps8
  go_wp2_with (first
    | (go_at_call 20; (with_reducible refine (awake_any _).mono ?_); rintro e w1 ⟨rfl, hb⟩; replace BC := BC.below hb; replace T := up T hb T.size; clear hb; obtain ⟨c0, c1, c2, c3⟩ := BC.tri)
    | (go_at_call 21; (with_reducible refine (hS _ T).mono ?_); rintro e w2 ⟨B, rfl, hb⟩; replace T := up T hb T.size; clear hb))
  go_ret
  exact ⟨rfl, T⟩
set_option maxHeartbeats 2000000 in
theorem back_run (x v v1 a1 a2 a3 : Int) (R : Nat → World → Prop) (hRb : ∀ B w w', R B w → Below w.heap.size w w' → R B w') (hn : ((n : Int) == 0) = false)
    (hS : ∀ w', Below w.heap.size w w' → Calls Try.prog 21 #[.agg #[eU f, eU l, eU r], .slice a n c] w' fun e w'' => ∃ B : Nat, e = .returned (.pointer (some ⟨B, 0, none⟩)) ∧ w'.heap.size ≤ B ∧ R B w'' ∧ Below w'.heap.size w' w'')
    (hL : ∀ B w, R B w → Calls Try.prog 15 #[.pointer (some ⟨B, 0, none⟩)] w fun e w' => e = .returned (.tuple #[eU x, .bool true]) ∧ w = w')
    (hRe : ∀ B w, R B w → Calls Try.prog 17 #[.pointer (some ⟨B, 0, none⟩), eU y] w fun e w' => e = .returned (eU v) ∧ Below w.heap.size w w')
    (hA1 : ∀ B w, R B w → Calls Try.prog 18 #[.pointer (some ⟨B, 0, none⟩), eU 9223372036854775807] w fun e w' => e = .returned (eU a1) ∧ Below w.heap.size w w')
    (hA2 : ∀ B w, R B w → Calls Try.prog 18 #[.pointer (some ⟨B, 0, none⟩), eU v] w fun e w' => e = .returned (eU a2) ∧ Below w.heap.size w w')
    (hv1 : IntKind.u64.wrap (v - 1) = v1)
    (hA3 : ∀ B w, R B w → Calls Try.prog 18 #[.pointer (some ⟨B, 0, none⟩), eU v1] w fun e w' => e = .returned (eU a3) ∧ Below w.heap.size w w')
    (h : Hid ((v = 9223372036854775808 ∧ (x = 9223372036854775808 ∨ a1 < y)) ∨ (x ≤ v ∧ v < 9223372036854775808 ∧ y ≤ a2 ∧ (v = x ∨ a3 < y)))) :
    Calls Try.prog 8 #[.agg #[eU f, eU l, eU r], .slice a n c, eU y] w fun e w' => e = .returned (.bool true) ∧ Below w.heap.size w w' := by
  have BC := Box.new w 24 #[eU f, eU l, eU r]
  have T := up1 w (.cells #[eU f, eU l, eU r] 24)
  have fin : ∀ b : Bool, (b = true) → b = true := fun _ h => h
  go_enter Try.func8, Try.ntmps8
  go_upto_if 32 with (first
    | (go_at_call 20; (with_reducible refine (awake_any _).mono ?_); rintro e w1 ⟨rfl, hb⟩; replace BC := BC.below hb; replace T := up T hb T.size; clear hb; obtain ⟨c0, c1, c2, c3⟩ := BC.tri)
    | (go_at_call 21; (with_reducible refine (hS _ T).mono ?_); rintro e w2 ⟨B, rfl, hB, hR, hb⟩; replace T := up T hb T.size; clear hb)
    | (go_at_call 15; (with_reducible refine (hL _ _ hR).mono ?_); rintro e w3 ⟨rfl, rfl⟩)
    | (go_at_call 17; (with_reducible refine (hRe _ _ hR).mono ?_); rintro e w4 ⟨rfl, hb⟩; replace hR := hRb _ _ _ hR hb; replace T := up T hb T.size; clear hb))
  rcases h.out with ⟨rfl, rfl | h1⟩ | ⟨h1, h2, h3, rfl | h4⟩
  · go_wp2_with fail
    go_ret
    exact ⟨rfl, T⟩
  · by_cases hx : x = 9223372036854775808
    · subst hx
      go_wp2_with fail
      go_ret
      exact ⟨rfl, T⟩
    · go_wp2_with (go_at_call 18; (with_reducible refine (hA1 _ _ hR).mono ?_); rintro e w5 ⟨rfl, hb⟩; replace T := up T hb T.size; clear hb)
      go_ret
      exact ⟨rfl, T⟩
  · have h2' : (v == 9223372036854775808) = false := by simp only [beq_eq_false_iff_ne]; omega
    go_wp2_with (go_at_call 18; (with_reducible refine (hA2 _ _ hR).mono ?_); rintro e w5 ⟨rfl, hb⟩; replace T := up T hb T.size; clear hb)
    go_ret
    exact ⟨rfl, T⟩
  · have h2' : (v == 9223372036854775808) = false := by simp only [beq_eq_false_iff_ne]; omega
    by_cases hx : v = x
    · subst hx
      go_wp2_with (go_at_call 18; (with_reducible refine (hA2 _ _ hR).mono ?_); rintro e w5 ⟨rfl, hb⟩; replace T := up T hb T.size; clear hb)
      go_ret
      exact ⟨rfl, T⟩
    · go_wp2_with (first
        | (go_at_call 18; (with_reducible refine (hA2 _ _ hR).mono ?_); rintro e w5 ⟨rfl, hb⟩; replace hR := hRb _ _ _ hR hb; replace T := up T hb T.size; clear hb)
        | (go_at_call 18; (with_reducible refine (hA3 _ _ hR).mono ?_); rintro e w6 ⟨rfl, hb⟩; replace T := up T hb T.size; clear hb))
      go_ret
      exact ⟨rfl, T⟩
end
theorem BentBack_walk (f l r : Int) (a : Option Addr) (n c : Nat) (xs : Nat → Ac) (y : Int) (w : World) (hf : Word f) (hl : Word l) (hr : Word r) (hI : IsAcs w a n c xs) (hw : ∀ i, (xs i).word) (hcm : c ≤ maxLen) (hnn : a = none → n = 0 ∧ c = 0) (hy : Word y) :
    Calls Try.prog 8 #[.agg #[eU f, eU l, eU r], .slice a n c, eU y] w fun e w' => e = .returned (.bool true) ∧ Below w.heap.size w w' := by
  have hS := fun w' (T : Below w.heap.size w w') => started_any f l r a n c xs w' hf hl hr hw (hI.below T)
  by_cases hc : CvB f l r ∧ n ≤ 40
  · have hS2 : ∀ w', Below w.heap.size w w' → Calls Try.prog 21 #[.agg #[eU f, eU l, eU r], .slice a n c] w' fun e w'' => ∃ B : Nat, e = .returned (.pointer (some ⟨B, 0, none⟩)) ∧ w'.heap.size ≤ B ∧ Rn w'' B f l r (fun i => (xs i).x) (fun i => (xs i).y) n ∧ Below w'.heap.size w' w'' := fun w' T => (hS w' T).mono fun e w'' h => by
      obtain ⟨h1, h2⟩ := h
      rcases h1 with ⟨_, B, e1, e2, e3⟩ | ⟨h1, _⟩
      · exact ⟨B, e1, e2, e3, h2⟩
      · exact absurd hc h1
    rcases Nat.eq_zero_or_pos n with rfl | hn
    · exact back_zero f l r a c y w fun w' T => (hS2 w' T).mono fun e w'' h => by obtain ⟨B, e1, _, _, h2⟩ := h; exact ⟨B, e1, h2⟩
    · have hY : ∀ k, 0 ≤ (xs k).y := fun k => (hw k).2.1.1
      obtain ⟨v, hv, hRR, hRe⟩ := rn_reach f l r y (fun i => (xs i).x) (fun i => (xs i).y) n hc.1 hY hn hy
      have hA := fun t (ht : Word t) (B : Nat) w h => rn_at B f l r t (fun i => (xs i).x) (fun i => (xs i).y) n w hc.1 hY hn ht h
      have hx0 := xS_nn (fun i => (xs i).x) n
      have hx1 := xS_never (fun i => (xs i).x) n
      have e1 : IntKind.u64.wrap (v - 1) = if v = 0 then 18446744073709551615 else v - 1 := by
        unfold Word at hv
        split
        · rw [u64_under _ ⟨by omega, by omega⟩]; omega
        · exact u64_same _ ⟨by omega, by omega⟩
      refine back_run f l r a n c y w _ v _ _ _ _ (fun B w => Rn w B f l r (fun i => (xs i).x) (fun i => (xs i).y) n) (fun B w w' h hb => h.below hb) (nat_zero hn) hS2 (fun B w h => bn_last_any B _ _ _ _ _ _ _ w h (nat_zero hn)) hRe (hA _ ⟨by omega, by omega⟩) (hA _ hv) e1 (hA _ ?_) (Lib.hid ?_)
      · unfold Word at hv ⊢; split <;> omega
      · unfold rA
        unfold IsRR at hRR
        rcases hRR with ⟨h1, h2⟩ | ⟨h1, h2, h3, h4⟩
        · left
          refine ⟨h1, ?_⟩
          rcases h2 with h2 | h2
          · exact .inl h2
          · by_cases hx : xS (fun i => (xs i).x) n = 9223372036854775808
            · exact .inl hx
            · right
              rwa [show max 9223372036854775807 (xS (fun i => (xs i).x) n) = 9223372036854775807 by omega]
        · right
          refine ⟨h1, h2, ?_, ?_⟩
          · rwa [show max v (xS (fun i => (xs i).x) n) = v by omega]
          · by_cases hx : v = xS (fun i => (xs i).x) n
            · exact .inl hx
            · right
              rcases h4 with h4 | h4
              · exact absurd h4 hx
              · rw [if_neg (by omega), show max (v - 1) (xS (fun i => (xs i).x) n) = v - 1 by omega]
                exact h4
  · exact back_no f l r a n c y w fun w' T => (hS w' T).mono fun e w'' h => by
      obtain ⟨h1, h2⟩ := h
      rcases h1 with ⟨h1, _⟩ | ⟨_, h1⟩
      · exact absurd h1 hc
      · exact ⟨h1, h2⟩
end Go.Proofs.Ytdhfblcheoahaaa
