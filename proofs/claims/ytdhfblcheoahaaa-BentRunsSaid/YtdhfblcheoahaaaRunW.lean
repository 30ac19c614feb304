/- Whatever copies of a curve start, a run tells what the document's copies tell: the walk of the statement. -/
import Derived.Test.YtdhfblcheoahaaaSamW
import Derived.Test.YtdhfblcheoahaaaAcs
import Derived.Deep.DeepCutAuto
import Derived.Deep.CutBlock
namespace Go.Proofs.Ytdhfblcheoahaaa
open Go.RowKit Go.Shelf W
set_option linter.unusedVariables false
set_option maxRecDepth 100000
namespace W
theorem xS_congr {X X' : Nat → Int} : ∀ {n : Nat}, (∀ i, i < n → X i = X' i) → xS X n = xS X' n
  | 0, _ => rfl
  | n + 1, h => by rw [xS_succ, xS_succ, h n (by omega), xS_congr (n := n) (fun i hi => h i (by omega))]
theorem hS_congr {s o : Int} {X X' Y Y' : Nat → Int} : ∀ {n : Nat}, (∀ i, i < n → X i = X' i) → (∀ i, i < n → Y i = Y' i) → hS s o X Y n = hS s o X' Y' n
  | 0, _, _ => rfl
  | 1, _, g => by rw [hS_one, hS_one, g 0 (by omega)]
  | n + 2, h, g => by
    show hS s o X Y (n + 1 + 1) = hS s o X' Y' (n + 1 + 1)
    rw [hS_succ (X := X) (Y := Y) (k := n + 1) (by omega), hS_succ (X := X') (Y := Y') (k := n + 1) (by omega), g (n + 1) (by omega), hS_congr (n := n + 1) (fun i hi => h i (by omega)) (fun i hi => g i (by omega)), xS_congr (n := n + 1 + 1) h, xS_congr (n := n + 1) (fun i hi => h i (by omega))]
end W
theorem Rn.congr {w : World} {B n : Nat} {f l r : Int} {X X' Y Y' : Nat → Int} (h : Rn w B f l r X Y n) (hX : ∀ i, i < n → X i = X' i) (hY : ∀ i, i < n → Y i = Y' i) : Rn w B f l r X' Y' n := by
  unfold Rn at h ⊢
  rwa [hS_congr hX hY, hS_congr hX hY, xS_congr hX] at h
theorem quiet {k : Nat} {args : Array Value} {w : World} {v : Value} (h : Calls Try.prog k args w fun e w' => e = .returned v ∧ w = w') : Calls Try.prog k args w fun e w' => e = .returned v ∧ Below w.heap.size w w' :=
  h.mono fun e w' h => ⟨h.1, by rw [← h.2]; exact Below.refl _ _⟩
theorem c_lines_nil (B : Nat) (a : Option Addr) (cap : Nat) (w : World) (c3 : w.cell? ⟨B, 3, none⟩ = some (.slice a 0 cap)) :
    Calls Try.prog 29 #[.pointer (some ⟨B, 0, none⟩)] w fun e w' => e = .returned (.tuple #[eU 0, eU 0]) ∧ Below w.heap.size w w' := by
  go_enter Try.func29, Try.ntmps29
  go_wp2
  go_ret2
  exact ⟨rfl, Below.refl _ _⟩
theorem same_any {f l r : Int} {X Y : Nat → Int} (hc : CvB f l r) (hY : ∀ k, 0 ≤ Y k) (Bb Br n : Nat) (ax ay T N : Int) (w : World) (hn2 : n ≤ 1000) (hT : Word T) (hN : Word N) (hR : Rn w Bb f l r X Y n) (hC : Rc w Br f l r X Y n) :
    Calls Try.prog 12 #[.pointer (some ⟨Bb, 0, none⟩), .pointer (some ⟨Br, 0, none⟩), .agg #[eU ax, eU ay, eU T, eU N]] w fun e w' => e = .returned (.bool true) ∧ Below w.heap.size w w' := by
  obtain ⟨a, cap, c3⟩ := hC.len
  have hlt := hC.lt
  rcases Nat.eq_zero_or_pos n with rfl | hn
  · have h19 := fun w' (E : Below w.heap.size w w') => bn_starts_any _ _ _ _ _ _ _ _ w' (hR.below E)
    by_cases hN0 : N = 0
    · subst hN0
      exact same_nil Bb Br ax ay T 0 0 0 0 0 0 a cap w (fun w' E => quiet (bn_last_none _ w' (h19 w' E))) (fun w' E => quiet (bn_lines_none _ w' (h19 w' E)))
        (fun w' E => c_lines_nil Br a cap w' ((E.cell (p := ⟨Br, 3, none⟩) hlt).trans c3)) (fun w' E => rc_last Br 0 w' (by omega) (hC.below E)) (fun w' E => quiet (h19 w' E)) (fun w' E => quiet (bn_at_none _ T w' (h19 w' E)))
        (fun w' E => c_at_nil Br T a cap w' ((E.cell (p := ⟨Br, 3, none⟩) hlt).trans c3)) (fun w' E => quiet (bn_reach_none0 _ w' (h19 w' E))) (fun w' E => c_reach_nil Br 0 a cap w' ((E.cell (p := ⟨Br, 3, none⟩) hlt).trans c3)) (fun w' E => (E.cell (p := ⟨Br, 3, none⟩) hlt).trans c3)
    · have hb : (N == 0) = false := by simp only [beq_eq_false_iff_ne]; exact hN0
      refine same_nil Bb Br ax ay T N 0 0 0 0 9223372036854775808 a cap w (fun w' E => quiet (bn_last_none _ w' (h19 w' E))) (fun w' E => quiet (bn_lines_none _ w' (h19 w' E)))
        (fun w' E => c_lines_nil Br a cap w' ((E.cell (p := ⟨Br, 3, none⟩) hlt).trans c3)) (fun w' E => rc_last Br 0 w' (by omega) (hC.below E)) (fun w' E => quiet (h19 w' E)) (fun w' E => quiet (bn_at_none _ T w' (h19 w' E)))
        (fun w' E => c_at_nil Br T a cap w' ((E.cell (p := ⟨Br, 3, none⟩) hlt).trans c3)) (fun w' E => quiet (bn_reach_none _ N w' hb (h19 w' E))) (fun w' E => ?_) (fun w' E => (E.cell (p := ⟨Br, 3, none⟩) hlt).trans c3)
      have := c_reach_nil Br N a cap w' ((E.cell (p := ⟨Br, 3, none⟩) hlt).trans c3)
      rwa [if_neg hN0] at this
  · obtain ⟨v, hvw, hv, hre⟩ := rn_reach f l r N X Y n hc hY hn hN
    exact same_of Bb Br n ax ay T N _ _ _ _ v a cap w hn (fun w' E => quiet (bn_last_any Bb _ _ _ _ _ _ _ w' (hR.below E) (nat_zero hn))) (fun w' E => bn_lines_any Bb _ _ _ _ _ _ _ w' (hR.below E) (nat_zero hn))
      (fun w' E => rc_lines hc hY Br n w' hn hn2 (hC.below E)) (fun w' E => rc_last Br n w' hn2 (hC.below E)) (fun w' E => quiet (bn_starts_any _ _ _ _ _ _ _ _ w' (hR.below E)))
      (fun w' E => rn_at Bb f l r T X Y n w' hc hY hn hT (hR.below E)) (fun w' E => rc_at hc hY Br n T w' hT hn hn2 (hC.below E)) (fun w' E => hre Bb w' (hR.below E)) (fun w' E => rc_reach hc hY Br n N v w' hn hn2 hv (hC.below E))
      (fun w' E => (E.cell (p := ⟨Br, 3, none⟩) hlt).trans c3)
set_option maxHeartbeats 8000000 in
theorem run_ok (f l r : Int) (a : Option Addr) (n c : Nat) (xs : Nat → Ac) (at' : Int) (w : World) (hc : CvB f l r) (hw : ∀ i, (xs i).word) (hI : IsAcs w a n c xs) (hn : n ≤ 40)
    (hN9 : ∀ w, Calls Try.prog 9 #[.agg #[eU f, eU l, eU r]] w fun e w' => ∃ B : Nat, e = .returned (.tuple #[.pointer (some ⟨B, 0, none⟩), eI 0]) ∧ w.heap.size ≤ B ∧ Rn w' B f l r (fun i => (xs i).x) (fun i => (xs i).y) 0 ∧ Below w.heap.size w w')
    (hN10 : ∀ w, Calls Try.prog 10 #[.agg #[eU f, eU l, eU r]] w fun e w' => ∃ B : Nat, e = .returned (.tuple #[.pointer (some ⟨B, 0, none⟩), eI 0]) ∧ w.heap.size ≤ B ∧ Rc w' B f l r (fun i => (xs i).x) (fun i => (xs i).y) 0 ∧ Below w.heap.size w w') :
    Calls Try.prog 3 #[.agg #[eU f, eU l, eU r], .slice a n c, .int .i64 at'] w fun e w' => e = .returned (.bool true) ∧ Below w.heap.size w w' := by
  obtain ⟨X, hX⟩ : ∃ X : Nat → Int, X = fun i => (xs i).x := ⟨_, rfl⟩
  obtain ⟨Y, hY⟩ : ∃ Y : Nat → Int, Y = fun i => (xs i).y := ⟨_, rfl⟩
  rw [← hX, ← hY] at hN9 hN10
  have eX : ∀ i, (xs i).x = X i := fun i => by rw [hX]
  have eY : ∀ i, (xs i).y = Y i := fun i => by rw [hY]
  have wX : ∀ i, Word (X i) := fun i => by rw [← eX]; exact (hw i).1
  have wY : ∀ i, Word (Y i) := fun i => by rw [← eY]; exact (hw i).2.1
  have hSame := fun (Bb Br k i : Nat) (w : World) (hk : k ≤ 1000) (hR : Rn w Bb f l r X Y k) (hC : Rc w Br f l r X Y k) => same_any hc (fun k => (wY k).1) Bb Br k (X i) (Y i) (xs i).t (xs i).n w hk (hw i).2.2.1 (hw i).2.2.2 hR hC
  have hSt := fun (B k : Nat) (w : World) (hk : k ≤ 1000) (h : Rn w B f l r X Y k) => rn_start B f l r X Y k w hc (fun k => (wY k).1) hk (wX k) (wY k) h
  have hSc := fun (B k : Nat) (w : World) (hk : k ≤ 900) (h : Rc w B f l r X Y k) => rc_start (f := f) (l := l) (r := r) (X := X) (Y := Y) B k w hk h
  have hSo : ∀ (m B k : Nat) (w : World), k ≤ 1000 → m ≤ k → Rn w B f l r (fun i => if i < m then X i else Y i) (fun i => if i < m then Y i else X i) k → Calls Try.prog 13 #[.pointer (some ⟨B, 0, none⟩), eU (Y k), eU (X k)] w fun e w' => e = .returned (.tuple #[]) ∧ Rn w' B f l r (fun i => if i < m then X i else Y i) (fun i => if i < m then Y i else X i) (k + 1) ∧ But B w w' := fun m B k w hk hm h => by
    have h1 : (if k < m then X k else Y k) = Y k := by simp only [show ¬ k < m by omega, if_false]
    have h2 : (if k < m then Y k else X k) = X k := by simp only [show ¬ k < m by omega, if_false]
    have h0 := rn_start B f l r (fun i => if i < m then X i else Y i) (fun i => if i < m then Y i else X i) k w hc (fun k => by
      by_cases h : k < m
      · simp only [h, if_true]; exact (wY k).1
      · simp only [h, if_false]; exact (wX k).1) hk (by rw [h1]; exact wY k) (by rw [h2]; exact wX k) h
    rw [h1, h2] at h0
    exact h0
  have hcell : ∀ (k : Nat) w', k < n → Below w.heap.size w w' → ∃ b o, a = some ⟨b, o, none⟩ ∧ b < w.heap.size ∧ w'.cell? ⟨b, o + k * 4, none⟩ = some (.int .u64 (X k)) ∧ w'.cell? ⟨b, o + k * 4 + 1, none⟩ = some (.int .u64 (Y k)) ∧ w'.cell? ⟨b, o + k * 4 + 2, none⟩ = some (.int .u64 (xs k).t) ∧ w'.cell? ⟨b, o + k * 4 + 3, none⟩ = some (.int .u64 (xs k).n) := fun k w' hk T => by
    obtain ⟨h2, h3⟩ := hI
    rcases h3 with h3 | ⟨b, o, e, h3⟩
    · omega
    · have := (h3.below T).2 k hk
      rw [eX, eY] at this
      exact ⟨b, o, e, h3.1, this⟩
  have hnc : (n : Int) ≤ (c : Int) := by have := hI.1; omega
  have hsa := Lib.hid hSame
  have hst := Lib.hid hSt
  have hsc := Lib.hid hSc
  have hso := Lib.hid hSo
  have hce := Lib.hid hcell
  have BC := Box.new w 24 #[eU f, eU l, eU r]
  have T := up1 w (.cells #[eU f, eU l, eU r] 24)
  have hn' : ¬ ((40 : Int) < (n : Int)) := by omega
  clear hSame hSt hSc hSo hcell hI hw wX wY eX eY hX hY hc
  go_enter Try.func3, Try.ntmps3
  go_wp2_with (first
    | (go_at_call 9; (with_reducible refine (hN9 _).mono ?_); rintro e w1 ⟨Bb, rfl, hB, hR, hb⟩; replace BC := BC.below hb; replace T := up T hb T.size; clear hb; obtain ⟨c0, c1, c2, c3⟩ := BC.tri)
    | (go_at_call 10; (with_reducible refine (hN10 _).mono ?_); rintro e w2 ⟨Br, rfl, hB2, hC, hb⟩; have hBl := Nat.lt_of_lt_of_le hR.lt hB2; replace T := up T hb T.size; replace hR := hR.below hb; clear hb c0 c1 c2 c3))
  have hBw : w.heap.size ≤ Bb := by simp at hB; omega
  have hne : Bb ≠ Br := Nat.ne_of_lt hBl
  have hBw2 : w.heap.size ≤ Br := by omega
  clear hN9 hN10 hB hB2 BC
  go_loopw [11] (fun s11 wr => ∃ k : Nat, s11 = .int .i64 k ∧ k ≤ n ∧ Rn wr Bb f l r X Y k ∧ Rc wr Br f l r X Y k ∧ Below w.heap.size w wr) (fun s11 _ => n - (intOf s11).toNat)
  case atStart => exact ⟨0, rfl, by omega, hR, hC, T⟩
  case round =>
    clear hR hC T
    obtain ⟨k, rfl, hk, hR, hC, T⟩ := hrel
    by_cases hlt : k < n
    · have i1 : (k : Int) < (n : Int) := by omega
      have i2 : (0 : Int) ≤ (k : Int) := by omega
      obtain ⟨b, o, rfl, hbw, x1, x2, x3, x4⟩ := hce.out k wr hlt T
      go_upto_if 59 with fail
      go_cut [] (fun wx => Rn wx Bb f l r X Y k ∧ Rc wx Br f l r X Y k ∧ Below w.heap.size w wx)
      case first =>
        by_cases hat : (k : Int) = at'
        · subst hat
          have hP1 : w.heap.size ≤ wr.heap.size := T.size
          have hP2 : Bb ≠ wr.heap.size := Nat.ne_of_lt hR.lt
          have hP3 : Br ≠ wr.heap.size := Nat.ne_of_lt hC.lt
          have hbr : b < wr.heap.size := Nat.lt_of_lt_of_le hbw hP1
          have hCp : Calls Try.prog 11 #[.pointer (some ⟨Bb, 0, none⟩)] wr fun e w' => e = .returned (.pointer (some ⟨wr.heap.size, 0, none⟩)) ∧ Rn w' wr.heap.size f l r X Y k ∧ Below wr.heap.size wr w' := bn_copy_any Bb _ _ _ _ _ _ _ wr hR
          go_wp2_with (first
            | (go_at_call 11; (with_reducible refine hCp.mono ?_); rintro e w3 ⟨rfl, hP, hb⟩; replace T := up T hb T.size; replace hR := hR.below hb; replace hC := hC.below hb; clear hb x1 x2 x3 x4; obtain ⟨_, _, he, _, x1, x2, x3, x4⟩ := hce.out k _ hlt T; cases he)
            | (go_at_call 12; (with_reducible refine (hsa.out wr.heap.size Br k k _ (by omega) hP hC).mono ?_); rintro e w4 ⟨rfl, hb⟩; replace T := up T hb T.size; replace hR := hR.below hb; replace hC := hC.below hb; replace hP := hP.below hb; clear hb x1 x2 x3 x4))
          have hP' : Rn _ wr.heap.size f l r (fun i => if i < k then X i else Y i) (fun i => if i < k then Y i else X i) k := Rn.congr (X := X) (Y := Y) hP (fun i hi => by simp only [hi, if_true]) (fun i hi => by simp only [hi, if_true])
          clear hP hCp
          obtain ⟨P, hPd⟩ : ∃ P, wr.heap.size = P := ⟨_, rfl⟩
          rw [hPd] at hP' hP1 hP2 hP3
          rw [hPd]
          clear hPd hbr
          go_loopw [13] (fun s13 wx => ∃ j : Nat, s13 = .int .i64 j ∧ k ≤ j ∧ j ≤ n ∧ Rn wx P f l r (fun i => if i < k then X i else Y i) (fun i => if i < k then Y i else X i) j ∧ Rn wx Bb f l r X Y k ∧ Rc wx Br f l r X Y k ∧ Below w.heap.size w wx) (fun s13 _ => n - (intOf s13).toNat)
          case atStart => exact ⟨k, rfl, Nat.le_refl _, hk, hP', hR, hC, T⟩
          case round =>
            clear hP' hR hC T
            obtain ⟨j, rfl, hkj, hj, hP, hR, hC, T⟩ := hrel
            by_cases hlt2 : j < n
            · have j1 : (j : Int) < (n : Int) := by omega
              have j2 : (0 : Int) ≤ (j : Int) := by omega
              obtain ⟨_, _, he, _, y1, y2, y3, y4⟩ := hce.out j _ hlt2 T
              cases he
              have hPh := Lib.hid hP
              clear hP
              have hbj : b < wr.heap.size := Nat.lt_of_lt_of_le hbw T.size
              have hbP : b ≠ P := by omega
              go_upto_region 17 with fail
              go_region_held3 (fun w' => w'.cell? ⟨b, o + j * 4, none⟩ = some (.int .u64 (X j)) ∧ w'.cell? ⟨b, o + j * 4 + 1, none⟩ = some (.int .u64 (Y j)))
                (first | exact ⟨y1, y2⟩ | exact ⟨(hb2.cell (p := ⟨b, _, none⟩) hbj hbP).trans y1, (hb2.cell (p := ⟨b, _, none⟩) hbj hbP).trans y2⟩)
                (first | (go_at_call 13; refine (hso.out k P j wr.drew (by omega) hkj (show Rn wr.drew _ _ _ _ _ _ _ from hPh.out)).mono ?_; rintro e w5 ⟨rfl, hP4, hb2⟩))
              all_goals go_wp2_with fail
              have hR4 : Rn w5 Bb f l r X Y k := Rn.but (W := wr.drew) (show Rn wr.drew _ _ _ _ _ _ _ from hR) hb2 hP2
              have hC4 : Rc w5 Br f l r X Y k := Rc.but (hC.below ((Below.refl _ wr).drew)) hb2 (show Box wr.drew P _ 42 from hPh.out) (by decide) (by decide)
              exact ⟨⟨j + 1, rfl, by omega, by omega, hP4, hR4, hC4, T.drew.trans (hb2.below hP1 T.size)⟩, by simp [intOf]; omega⟩
            · obtain rfl : j = n := by omega
              have j1 : ¬ (j : Int) < (j : Int) := by omega
              go_wp2_with fail
              go_meet
              exact ⟨hR, hC, T⟩
        · have hb1 : ((k : Int) == at') = false := by simp only [beq_eq_false_iff_ne]; exact hat
          go_wp2_with fail
          go_meet
          exact ⟨hR, hC, T⟩
      case rest =>
        clear hR hC T x1 x2 x3 x4
        obtain ⟨hR, hC, T⟩ := hcut
        obtain ⟨_, _, he, _, x1, x2, x3, x4⟩ := hce.out k _ hlt T
        cases he
        go_upto_region 20 with (go_at_call 12; (with_reducible refine (hsa.out Bb Br k k _ (by omega) hR hC).mono ?_); rintro e w5 ⟨rfl, hb⟩; replace T := up T hb T.size; replace hR := hR.below hb; replace hC := hC.below hb; clear hb x1 x2 x3 x4)
        obtain ⟨_, _, he, _, x1, x2, x3, x4⟩ := hce.out k _ hlt T
        cases he
        have hbj : b < w5.heap.size := Nat.lt_of_lt_of_le hbw T.size
        have hbB : b ≠ Bb := by omega
        have hbR : b ≠ Br := by omega
        have hRh := Lib.hid hR
        have hBx : Box w5 Bb _ 42 := hR
        have hBx' := Lib.hid hBx
        clear hR hBx
        go_region_held3 (fun w' => w'.cell? ⟨b, o + k * 4, none⟩ = some (.int .u64 (X k)) ∧ w'.cell? ⟨b, o + k * 4 + 1, none⟩ = some (.int .u64 (Y k)))
          (first | exact ⟨x1, x2⟩ | exact ⟨(hb2.cell (p := ⟨b, _, none⟩) hbj hbB).trans x1, (hb2.cell (p := ⟨b, _, none⟩) hbj hbB).trans x2⟩)
          (first | (go_at_call 13; refine (hst.out Bb k w5.drew (by omega) (show Rn w5.drew _ _ _ _ _ _ _ from hRh.out)).mono ?_; rintro e w6 ⟨rfl, hR2, hb2⟩))
        have hC4 : Rc w6 Br f l r X Y k := Rc.but (hC.below ((Below.refl _ w5).drew)) hb2 (show Box w5.drew Bb _ 42 from hBx'.out) (by decide) (by decide)
        have T4 := T.drew.trans (hb2.below hBw T.size)
        clear hC T x1 x2 x3 x4 hRh hBx' hb2 hbj
        obtain ⟨_, _, he, _, x1, x2, x3, x4⟩ := hce.out k _ hlt T4
        cases he
        have hbr : b < Br := by omega
        have hR2h := Lib.hid hR2
        have hC4h := Lib.hid hC4
        clear hR2 hC4
        go_upto_region 21 with fail
        go_region_held3 (fun w' => w'.cell? ⟨b, o + k * 4, none⟩ = some (.int .u64 (X k)) ∧ w'.cell? ⟨b, o + k * 4 + 1, none⟩ = some (.int .u64 (Y k)))
          (first | exact ⟨x1, x2⟩ | exact ⟨(hb3.cell (p := ⟨b, _, none⟩) hbr).trans x1, (hb3.cell (p := ⟨b, _, none⟩) hbr).trans x2⟩)
          (first | (go_at_call 14; refine (hsc.out Br k w6.drew (by omega) (hC4h.out.below ((Below.refl _ w6).drew))).mono ?_; rintro e w7 ⟨rfl, hC5, hb3, hbx⟩))
        have hR5 : Rn w7 Bb f l r X Y (k + 1) := hbx Bb _ 42 (show Box w6.drew Bb _ 42 from hR2h.out) (by decide) (by decide)
        have T5 := T4.drew.trans (hb3.mono hBw2)
        clear T4 x1 x2 x3 x4 hR2h hC4h hb3 hbx
        obtain ⟨_, _, he, _, x1, x2, x3, x4⟩ := hce.out k _ hlt T5
        cases he
        go_wp2_with (go_at_call 12; (with_reducible refine (hsa.out Bb Br (k + 1) k _ (by omega) hR5 hC5).mono ?_); rintro e w8 ⟨rfl, hb⟩; replace T5 := up T5 hb T5.size; replace hR5 := hR5.below hb; replace hC5 := hC5.below hb; clear hb x1 x2 x3 x4)
        go_roundw
        case rel => exact ⟨k + 1, rfl, by omega, hR5, hC5, T5⟩
        case measure => simp [intOf]; omega
    · obtain rfl : k = n := by omega
      have i1 : ¬ (k : Int) < (k : Int) := by omega
      go_wp2
      go_ret
      exact ⟨rfl, T⟩
end Go.Proofs.Ytdhfblcheoahaaa
