/- The run behind all starts of a slice. -/
import Derived.Test.YtejolaifdjcghaaRuX
import Derived.Test.YtejolaifdjcghaaAcs
namespace Go.Proofs.Ytejolaifdjcghaa
open Go.RowKit Go.Shelf W
set_option linter.unusedVariables false
set_option maxRecDepth 100000
set_option maxHeartbeats 4000000 in
theorem started_ok (f l r : Int) (a : Option Addr) (n c : Nat) (xs : Nat → Ac) (w : World) (hc : CvR f l r) (hw : ∀ i, (xs i).word) (hI : IsAcs w a n c xs) (hn : n ≤ 40)
    (hN : ∀ w', Below w.heap.size w w' → Calls Try.prog 20 #[.agg #[eU f, eU l, eU r]] w' fun e w'' => (∃ B : Nat, e = .returned (.pointer (some ⟨B, 0, none⟩)) ∧ Ru w'' (fun k => w.heap.size ≤ k ∧ k < w''.heap.size) B f l r (fun i => (xs i).x) (fun i => (xs i).y) 0) ∧ Below w'.heap.size w' w'') :
    Calls Try.prog 18 #[.agg #[eU f, eU l, eU r], .slice a n c] w fun e w' => (∃ B : Nat, e = .returned (.pointer (some ⟨B, 0, none⟩)) ∧ Ru w' (fun k => w.heap.size ≤ k ∧ k < w'.heap.size) B f l r (fun i => (xs i).x) (fun i => (xs i).y) n) ∧ Below w.heap.size w w' := by
  have hS := fun (S : Nat → Prop) (B k : Nat) (w : World) (hk : k ≤ 800) (h : Ru w S B f l r (fun i => (xs i).x) (fun i => (xs i).y) k) => ru_start (fun i => (hw i).2.1.1) S B k w hk (hw k).1 (hw k).2.1 h
  have BC := Box.new w 27 #[eU f, eU l, eU r]
  have T := up1 w (.cells #[eU f, eU l, eU r] 27)
  obtain ⟨c0, c1, c2⟩ := BC.three
  have hn' : ¬ ((40 : Int) < (n : Int)) := by omega
  have hSh := Lib.hid hS
  have hIh := Lib.hid hI
  clear hS hI hc hw
  go_enter Try.func18, Try.ntmps18
  go_wp2_with (go_at_call 20; (with_reducible refine (hN _ T).mono ?_); rintro e w1 ⟨⟨B, rfl, hR⟩, hb⟩; replace BC := BC.below hb; replace T := up T hb T.size; clear hb c0 c1 c2; obtain ⟨c0, c1, c2⟩ := BC.three)
  clear hN BC c0 c1 c2
  go_loopw [6] (fun s6 wr => ∃ k : Nat, s6 = .int .i64 k ∧ k ≤ n ∧ Ru wr (fun k => w.heap.size ≤ k ∧ k < wr.heap.size) B f l r (fun i => (xs i).x) (fun i => (xs i).y) k ∧ Below w.heap.size w wr) (fun s6 _ => n - (intOf s6).toNat)
  case atStart => exact ⟨0, rfl, by omega, hR, T⟩
  case round =>
    clear hR T
    obtain ⟨k, rfl, hk, hR, T⟩ := hrel
    by_cases hlt : k < n
    · have i1 : (k : Int) < (n : Int) := by omega
      have i2 : (0 : Int) ≤ (k : Int) := by omega
      obtain ⟨h2, h3⟩ := hIh.out
      rcases h3 with h3 | ⟨b, o, rfl, h3⟩
      · omega
      · have hbw := h3.1
        obtain ⟨x1, x2, _, _⟩ := (h3.below T).2 k hlt
        have hz := T.size
        have hcs : (n : Int) ≤ (c : Int) := by omega
        have hR' := Lib.hid hR
        have Th := Lib.hid T
        have hxk : ∀ w2, Off (fun k => w.heap.size ≤ k ∧ k < wr.heap.size) wr.drew w2 → w2.cell? ⟨b, o + k * 4, none⟩ = some (.int .u64 (xs k).x) ∧ w2.cell? ⟨b, o + k * 4 + 1, none⟩ = some (.int .u64 (xs k).y) := fun w2 q => by
          have hb := Th.out.drew.trans (q.below (n := w.heap.size) (fun _ _ h => h.1) hz)
          obtain ⟨y1, y2, _, _⟩ := (h3.below hb).2 k hlt
          exact ⟨y1, y2⟩
        have hxkh := Lib.hid hxk
        clear hR h3 hxk T
        go_upto_region 7 with fail
        go_region_held3 (fun w' => w'.cell? ⟨b, o + k * 4, none⟩ = some (.int .u64 (xs k).x) ∧ w'.cell? ⟨b, o + k * 4 + 1, none⟩ = some (.int .u64 (xs k).y))
          (first | exact ⟨x1, x2⟩ | exact hxkh.out _ hb2)
          (first | (go_at_call 8; refine (hSh.out _ B k wr.drew (by omega) (show Ru wr.drew _ _ _ _ _ _ _ _ from hR'.out.drew)).mono ?_; rintro e w2 ⟨rfl, hR2, hb2⟩))
        all_goals go_wp2
        go_roundw
        case rel => exact ⟨k + 1, by go_num, by omega, hR2.mono (fun k hk => by have := hb2.size; have e : wr.drew.heap.size = wr.heap.size := rfl; omega), Th.out.drew.trans (hb2.below (fun _ _ h => h.1) hz)⟩
        case measure => simp [intOf]; omega
    · obtain rfl : k = n := by omega
      have i1 : ¬ (k : Int) < (k : Int) := by omega
      go_wp2
      go_ret
      exact ⟨⟨B, rfl, hR⟩, T⟩
set_option maxHeartbeats 2000000 in
theorem started_long (f l r : Int) (a : Option Addr) (n c : Nat) (w : World) (hn : 40 < n)
    (hN : ∀ w', Below w.heap.size w w' → Calls Try.prog 20 #[.agg #[eU f, eU l, eU r]] w' fun e w'' => (∃ B : Nat, e = .returned (.pointer (some ⟨B, 0, none⟩))) ∧ Below w'.heap.size w' w'') :
    Calls Try.prog 18 #[.agg #[eU f, eU l, eU r], .slice a n c] w fun e w' => e = .returned (.pointer none) ∧ Below w.heap.size w w' := by
  have BC := Box.new w 27 #[eU f, eU l, eU r]
  have T := up1 w (.cells #[eU f, eU l, eU r] 27)
  obtain ⟨c0, c1, c2⟩ := BC.three
  have hn' : ((40 : Int) < (n : Int)) := by omega
  go_enter Try.func18, Try.ntmps18
  go_wp2_with (go_at_call 20; (with_reducible refine (hN _ T).mono ?_); rintro e w1 ⟨⟨B, rfl⟩, hb⟩; replace BC := BC.below hb; replace T := up T hb T.size; clear hb c0 c1 c2; obtain ⟨c0, c1, c2⟩ := BC.three)
  go_ret
  exact ⟨rfl, T⟩
set_option maxHeartbeats 2000000 in
theorem started_not (f l r : Int) (a : Option Addr) (n c : Nat) (w : World)
    (hN : ∀ w', Below w.heap.size w w' → Calls Try.prog 20 #[.agg #[eU f, eU l, eU r]] w' fun e w'' => e = .returned (.pointer none) ∧ Below w'.heap.size w' w'') :
    Calls Try.prog 18 #[.agg #[eU f, eU l, eU r], .slice a n c] w fun e w' => e = .returned (.pointer none) ∧ Below w.heap.size w w' := by
  have BC := Box.new w 27 #[eU f, eU l, eU r]
  have T := up1 w (.cells #[eU f, eU l, eU r] 27)
  obtain ⟨c0, c1, c2⟩ := BC.three
  go_enter Try.func18, Try.ntmps18
  go_wp2_with (go_at_call 20; (with_reducible refine (hN _ T).mono ?_); rintro e w1 ⟨rfl, hb⟩; replace BC := BC.below hb; replace T := up T hb T.size; clear hb c0 c1 c2; obtain ⟨c0, c1, c2⟩ := BC.three)
  go_ret
  exact ⟨rfl, T⟩
theorem started_any (f l r : Int) (a : Option Addr) (n c : Nat) (xs : Nat → Ac) (w : World) (hf : Word f) (hl : Word l) (hr : Word r) (hw : ∀ i, (xs i).word) (hI : IsAcs w a n c xs) :
    Calls Try.prog 18 #[.agg #[eU f, eU l, eU r], .slice a n c] w fun e w' =>
      (((CvR f l r ∧ n ≤ 40) ∧ ∃ B : Nat, e = .returned (.pointer (some ⟨B, 0, none⟩)) ∧ Ru w' (fun k => w.heap.size ≤ k ∧ k < w'.heap.size) B f l r (fun i => (xs i).x) (fun i => (xs i).y) n) ∨ (¬ (CvR f l r ∧ n ≤ 40) ∧ e = .returned (.pointer none))) ∧ Below w.heap.size w w' := by
  have hN := fun w => ru_new f l r (fun i => (xs i).x) (fun i => (xs i).y) w hf hl hr
  by_cases hc : CvR f l r
  · by_cases hn : n ≤ 40
    · refine (started_ok f l r a n c xs w hc hw hI hn fun w' T => (hN w').mono fun e w'' h => ?_).mono ?_
      · obtain ⟨h1, h2⟩ := h
        have := T.size
        rcases h1 with ⟨_, B, e1, e2⟩ | ⟨h1, _⟩
        · exact ⟨⟨B, e1, e2.mono fun k hk => ⟨by omega, hk.2⟩⟩, h2⟩
        · exact absurd hc h1
      · rintro e w' ⟨⟨B, e1, e2⟩, h2⟩
        exact ⟨.inl ⟨⟨hc, hn⟩, B, e1, e2⟩, h2⟩
    · refine (started_long f l r a n c w (by omega) fun w' T => (hN w').mono fun e w'' h => ?_).mono ?_
      · obtain ⟨h1, h2⟩ := h
        rcases h1 with ⟨_, B, e1, e2⟩ | ⟨h1, _⟩
        · exact ⟨⟨B, e1⟩, h2⟩
        · exact absurd hc h1
      · rintro e w' ⟨e1, h2⟩
        exact ⟨.inr ⟨fun h => hn h.2, e1⟩, h2⟩
  · refine (started_not f l r a n c w fun w' T => (hN w').mono fun e w'' h => ?_).mono ?_
    · obtain ⟨h1, h2⟩ := h
      rcases h1 with ⟨h1, _⟩ | ⟨_, h1⟩
      · exact absurd h1 hc
      · exact ⟨h1, h2⟩
    · rintro e w' ⟨e1, h2⟩
      exact ⟨.inr ⟨fun h => hc h.1, e1⟩, h2⟩
end Go.Proofs.Ytejolaifdjcghaa
