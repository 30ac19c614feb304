/- A copy starts; the run behind all starts of a slice. -/
import Derived.Test.YtdhfblcheoahaaaBnR
import Derived.Test.YtdhfblcheoahaaaAcs
namespace Go.Proofs.Ytdhfblcheoahaaa
open Go.RowKit Go.Shelf W
set_option linter.unusedVariables false
theorem i64_same (n : Int) (h : 0 ≤ n ∧ n < 9223372036854775808) : IntKind.i64.wrap n = n := by
  simp [IntKind.wrap, IntKind.signed, IntKind.bits]; omega
set_option maxHeartbeats 1000000 in
theorem rn_start (B : Nat) (f l r : Int) (X Y : Nat → Int) (n : Nat) (w : World) (hc : CvB f l r) (hYs : ∀ k, 0 ≤ Y k) (hn : n ≤ 1000) (hX : Word (X n)) (hY : Word (Y n)) (h : Rn w B f l r X Y n) :
    Calls Try.prog 13 #[.pointer (some ⟨B, 0, none⟩), eU (X n), eU (Y n)] w fun e w' => e = .returned (.tuple #[]) ∧ Rn w' B f l r X Y (n + 1) ∧ But B w w' := by
  obtain ⟨l0, o0, o1, r0, rf, f1⟩ := hc.over
  have ho : ((f - r) * l == 0) = false := by simp only [beq_eq_false_iff_ne]; omega
  have ow : Word ((f - r) * l) := ⟨by omega, by omega⟩
  have hP := fun w => rPlus'_any (Y n) ((f - r) * l) w hY ow
  unfold Rn at h ⊢
  obtain ⟨X0, X1⟩ := hX
  obtain ⟨Y0, Y1⟩ := hY
  rcases Nat.eq_zero_or_pos n with rfl | hn0
  · have e1 : xS X (0 + 1) = min (X 0) 9223372036854775808 := by rw [xS_succ]; show max _ (0 : Int) = _; omega
    have e2 : hS f 0 X Y (0 + 1) = min (Y 0) 4611686018427387904 := by
      show stp (Y 0 + 0) = _
      rw [Int.add_zero]; have := stp_or (Y 0); omega
    have e3 : hS r ((f - r) * l) X Y (0 + 1) = rP (Y 0) ((f - r) * l) := rfl
    rw [e1, e2, e3]
    exact bn_start_first B _ f _ r _ _ _ _ _ _ _ w h ho rfl rfl hP
  · have hs := xS_step X n
    have hx0 := xS_nn X n
    have hx1 := xS_never X (n + 1)
    obtain ⟨p0, p1⟩ := hS_bounds (s := f) (o := 0) (X := X) (Y := Y) (by omega) (by omega) hYs n
    obtain ⟨q0, q1⟩ := hS_bounds (s := r) (o := (f - r) * l) (X := X) (Y := Y) r0 (by omega) hYs n
    have hdw : Word (xS X (n + 1) - xS X n) := ⟨by omega, by omega⟩
    have hA := fun w => has_any (hS f 0 X Y n) f (xS X (n + 1) - xS X n) w ⟨p0, by omega⟩ hc.1 hdw
    have hB := fun w => has_any (hS r ((f - r) * l) X Y n) r (xS X (n + 1) - xS X n) w ⟨q0, by omega⟩ hc.2.2.1 hdw
    rw [rP_line (by omega) hdw.1 p0] at hA
    rw [rP_line r0 hdw.1 q0] at hB
    have e1 : max (min (X n) 9223372036854775808) (xS X n) = xS X (n + 1) := rfl
    have e2 : min (min (Y n) 4611686018427387904) (stp (hS f 0 X Y n + f * (xS X (n + 1) - xS X n))) = hS f 0 X Y (n + 1) := by
      rw [hS_succ hn0, Int.add_zero]; have := stp_or (Y n); omega
    have e3 : min (rP (Y n) ((f - r) * l)) (stp (hS r ((f - r) * l) X Y n + r * (xS X (n + 1) - xS X n))) = hS r ((f - r) * l) X Y (n + 1) := by
      rw [hS_succ hn0]; rfl
    have ek : IntKind.i64.wrap ((n : Int) + 1) = (n : Int) + 1 := i64_same _ ⟨by omega, by omega⟩
    have en : ((n + 1 : Nat) : Int) = (n : Int) + 1 := by omega
    rw [en]
    exact bn_start_more B _ f _ r _ _ _ _ _ _ _ _ _ _ _ _ _ _ w h ho (by omega) ek rfl rfl e1 (u64_same _ ⟨by omega, by omega⟩) e2 e3 hP hA hB
set_option maxRecDepth 100000 in
set_option maxHeartbeats 4000000 in
theorem started_ok (f l r : Int) (a : Option Addr) (n c : Nat) (xs : Nat → Ac) (w : World) (hc : CvB f l r) (hw : ∀ i, (xs i).word) (hI : IsAcs w a n c xs) (hn : n ≤ 40)
    (hN : ∀ w, Calls Try.prog 9 #[.agg #[eU f, eU l, eU r]] w fun e w' => ∃ B : Nat, e = .returned (.tuple #[.pointer (some ⟨B, 0, none⟩), eI 0]) ∧ w.heap.size ≤ B ∧ Rn w' B f l r (fun i => (xs i).x) (fun i => (xs i).y) 0 ∧ Below w.heap.size w w') :
    Calls Try.prog 21 #[.agg #[eU f, eU l, eU r], .slice a n c] w fun e w' => ∃ B : Nat, e = .returned (.pointer (some ⟨B, 0, none⟩)) ∧ w.heap.size ≤ B ∧ Rn w' B f l r (fun i => (xs i).x) (fun i => (xs i).y) n ∧ Below w.heap.size w w' := by
  have hS := fun (B k : Nat) (w : World) (hk : k ≤ 1000) (h : Rn w B f l r (fun i => (xs i).x) (fun i => (xs i).y) k) => rn_start B f l r (fun i => (xs i).x) (fun i => (xs i).y) k w hc (fun i => (hw i).2.1.1) hk (hw k).1 (hw k).2.1 h
  have BC := Box.new w 24 #[eU f, eU l, eU r]
  have T := up1 w (.cells #[eU f, eU l, eU r] 24)
  have hn' : ¬ ((40 : Int) < (n : Int)) := by omega
  have hSh := Lib.hid hS
  have hIh := Lib.hid hI
  clear hS hI hc hw
  go_enter Try.func21, Try.ntmps21
  go_wp2_with (go_at_call 9; (with_reducible refine (hN _).mono ?_); rintro e w1 ⟨B, rfl, hB, hR, hb⟩; replace BC := BC.below hb; replace T := up T hb T.size; clear hb; obtain ⟨c0, c1, c2, c3⟩ := BC.tri)
  have hBw : w.heap.size ≤ B := by simp at hB; omega
  clear hN hB BC c0 c1 c2 c3
  go_loopw [7] (fun s7 wr => ∃ k : Nat, s7 = .int .i64 k ∧ k ≤ n ∧ Rn wr B f l r (fun i => (xs i).x) (fun i => (xs i).y) k ∧ Below w.heap.size w wr) (fun s7 _ => n - (intOf s7).toNat)
  case atStart => exact ⟨0, rfl, by omega, hR, T⟩
  case round =>
    clear hR T
    obtain ⟨k, rfl, hk, hR, T⟩ := hrel
    by_cases hlt : k < n
    · have i1 : (k : Int) < (n : Int) := by omega
      have i2 : (0 : Int) ≤ (k : Int) := by omega
      obtain ⟨h2, h3⟩ := hIh.out
      rcases h3 with h3 | ⟨b, o, rfl, h3⟩
      · omega
      · have hbw := h3.1
        obtain ⟨x1, x2, _, _⟩ := (h3.below T).2 k hlt
        have hz := T.size
        have hbr : b < wr.heap.size := by omega
        have hbB : b ≠ B := by omega
        have hcs : (n : Int) ≤ (c : Int) := by omega
        have hR' := Lib.hid hR
        clear hR h3
        go_upto_region 7 with fail
        go_region_held3 (fun w' => w'.cell? ⟨b, o + k * 4, none⟩ = some (.int .u64 (xs k).x) ∧ w'.cell? ⟨b, o + k * 4 + 1, none⟩ = some (.int .u64 (xs k).y))
          (first | exact ⟨x1, x2⟩ | exact ⟨(hb2.cell (p := ⟨b, _, none⟩) hbr hbB).trans x1, (hb2.cell (p := ⟨b, _, none⟩) hbr hbB).trans x2⟩)
          (first | (go_at_call 13; refine (hSh.out B k wr.drew (by omega) (show Rn wr.drew _ _ _ _ _ _ _ from hR'.out)).mono ?_; rintro e w2 ⟨rfl, hR2, hb2⟩))
        all_goals go_wp2
        go_roundw
        case rel => exact ⟨k + 1, by go_num, by omega, hR2, T.drew.trans (hb2.below hBw T.size)⟩
        case measure => simp [intOf]; omega
    · obtain rfl : k = n := by omega
      have i1 : ¬ (k : Int) < (k : Int) := by omega
      go_wp2
      go_ret
      exact ⟨B, rfl, hBw, hR, T⟩
set_option maxRecDepth 100000 in
set_option maxHeartbeats 2000000 in
theorem started_long (f l r : Int) (a : Option Addr) (n c : Nat) (w : World) (hn : 40 < n)
    (hN : ∀ w, Calls Try.prog 9 #[.agg #[eU f, eU l, eU r]] w fun e w' => ∃ B : Nat, e = .returned (.tuple #[.pointer (some ⟨B, 0, none⟩), eI 0]) ∧ w.heap.size ≤ B ∧ Below w.heap.size w w') :
    Calls Try.prog 21 #[.agg #[eU f, eU l, eU r], .slice a n c] w fun e w' => e = .returned (.pointer none) ∧ Below w.heap.size w w' := by
  have BC := Box.new w 24 #[eU f, eU l, eU r]
  have T := up1 w (.cells #[eU f, eU l, eU r] 24)
  have hn' : ((40 : Int) < (n : Int)) := by omega
  go_enter Try.func21, Try.ntmps21
  go_wp2_with (go_at_call 9; (with_reducible refine (hN _).mono ?_); rintro e w1 ⟨B, rfl, hB, hb⟩; replace BC := BC.below hb; replace T := up T hb T.size; clear hb; obtain ⟨c0, c1, c2, c3⟩ := BC.tri)
  go_ret
  exact ⟨rfl, T⟩
set_option maxRecDepth 100000 in
set_option maxHeartbeats 2000000 in
theorem started_not (f l r : Int) (a : Option Addr) (n c : Nat) (w : World)
    (hN : ∀ w, Calls Try.prog 9 #[.agg #[eU f, eU l, eU r]] w fun e w' => e = .returned (.tuple #[.pointer none, eI 30]) ∧ Below w.heap.size w w') :
    Calls Try.prog 21 #[.agg #[eU f, eU l, eU r], .slice a n c] w fun e w' => e = .returned (.pointer none) ∧ Below w.heap.size w w' := by
  have BC := Box.new w 24 #[eU f, eU l, eU r]
  have T := up1 w (.cells #[eU f, eU l, eU r] 24)
  go_enter Try.func21, Try.ntmps21
  go_wp2_with (go_at_call 9; (with_reducible refine (hN _).mono ?_); rintro e w1 ⟨rfl, hb⟩; replace BC := BC.below hb; replace T := up T hb T.size; clear hb; obtain ⟨c0, c1, c2, c3⟩ := BC.tri)
  go_ret
  exact ⟨rfl, T⟩
/-- A run that was just made. -/
theorem rn_new {w : World} {B : Nat} {f l r : Int} (X Y : Nat → Int) (h : Bn w B 0 f 0 r ((f - r) * l) 0 0) : Rn w B f l r X Y 0 := h
theorem started_any (f l r : Int) (a : Option Addr) (n c : Nat) (xs : Nat → Ac) (w : World) (hf : Word f) (hl : Word l) (hr : Word r) (hw : ∀ i, (xs i).word) (hI : IsAcs w a n c xs) :
    Calls Try.prog 21 #[.agg #[eU f, eU l, eU r], .slice a n c] w fun e w' =>
      (((CvB f l r ∧ n ≤ 40) ∧ ∃ B : Nat, e = .returned (.pointer (some ⟨B, 0, none⟩)) ∧ w.heap.size ≤ B ∧ Rn w' B f l r (fun i => (xs i).x) (fun i => (xs i).y) n) ∨ (¬ (CvB f l r ∧ n ≤ 40) ∧ e = .returned (.pointer none))) ∧ Below w.heap.size w w' := by
  have hN := fun w => bn_new_any f l r w hf hl hr
  by_cases hc : CvB f l r
  · have hN2 : ∀ w, Calls Try.prog 9 #[.agg #[eU f, eU l, eU r]] w fun e w' => ∃ B : Nat, e = .returned (.tuple #[.pointer (some ⟨B, 0, none⟩), eI 0]) ∧ w.heap.size ≤ B ∧ Rn w' B f l r (fun i => (xs i).x) (fun i => (xs i).y) 0 ∧ Below w.heap.size w w' := fun w => (hN w).mono fun e w' h => by
      obtain ⟨h1, h2⟩ := h
      rcases h1 with ⟨_, B, e1, e2, e3⟩ | ⟨h1, _⟩
      · exact ⟨B, e1, e2, rn_new _ _ e3, h2⟩
      · exact absurd hc h1
    by_cases hn : n ≤ 40
    · refine (started_ok f l r a n c xs w hc hw hI hn hN2).mono ?_
      rintro e w' ⟨B, e1, e2, e3, h2⟩
      exact ⟨.inl ⟨⟨hc, hn⟩, B, e1, e2, e3⟩, h2⟩
    · refine (started_long f l r a n c w (by omega) (fun w => (hN2 w).mono fun e w' h => by obtain ⟨B, e1, e2, _, h2⟩ := h; exact ⟨B, e1, e2, h2⟩)).mono ?_
      rintro e w' ⟨e1, h2⟩
      exact ⟨.inr ⟨fun h => hn h.2, e1⟩, h2⟩
  · refine (started_not f l r a n c w (fun w => (hN w).mono fun e w' h => by
      obtain ⟨h1, h2⟩ := h
      rcases h1 with ⟨h1, _⟩ | ⟨_, h1⟩
      · exact absurd h1 hc
      · exact ⟨h1, h2⟩)).mono ?_
    rintro e w' ⟨e1, h2⟩
    exact ⟨.inr ⟨fun h => hc h.1, e1⟩, h2⟩
end Go.Proofs.Ytdhfblcheoahaaa
