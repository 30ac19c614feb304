/- Whatever copies of a sagging curve start, a run tells what the document's copies tell: the walk of the statement. -/
import Derived.Test.YtknpfcnjnpcboaaSamW
import Derived.Deep.DeepCutAuto
import Derived.Deep.CutBlock
namespace Go.Proofs.Ytknpfcnjnpcboaa
open Go.RowKit Go.Shelf W
set_option linter.unusedVariables false
set_option maxRecDepth 100000
namespace W
theorem xS_congr {X X' : Nat → Int} : ∀ {n : Nat}, (∀ i, i < n → X i = X' i) → xS X n = xS X' n
  | 0, _ => rfl
  | n + 1, h => by rw [xS_succ, xS_succ, h n (by omega), xS_congr (n := n) (fun i hi => h i (by omega))]
theorem allL_congr {X X' Y Y' : Nat → Int} : ∀ {n : Nat}, (∀ i, i < n → X i = X' i) → (∀ i, i < n → Y i = Y' i) → allL X Y n = allL X' Y' n
  | 0, _, _ => rfl
  | n + 1, h, g => by
    rw [allL_succ, allL_succ, allL_congr (n := n) (fun i hi => h i (by omega)) (fun i hi => g i (by omega))]
    unfold cpy
    rw [xS_congr (n := n + 1) h, g n (by omega)]
end W
theorem Rg.congr {w : World} {m B n : Nat} {f l r : Int} {X X' Y Y' : Nat → Int} {K : List (Int × Int)} (h : Rg w m B f l r X Y n K) (hX : ∀ i, i < n → X i = X' i) (hY : ∀ i, i < n → Y i = Y' i) : Rg w m B f l r X' Y' n K := by
  obtain ⟨⟨h1, h2, h3, h4, h5, h6⟩, v, a, b, c⟩ := h
  rw [xS_congr hX] at h1 h2 a
  rw [allL_congr hX hY] at h2 h3
  exact ⟨⟨h1, h2, h3, h4, h5, h6⟩, v, a, b, c⟩
theorem Rg.mono {w : World} {m m' B n : Nat} {f l r : Int} {X Y : Nat → Int} {K : List (Int × Int)} (h : Rg w m B f l r X Y n K) (hm : m' ≤ m) : Rg w m' B f l r X Y n K := by
  obtain ⟨h1, v, a, b, c⟩ := h
  exact ⟨h1, v, a, b.mono hm, c⟩
theorem quiet {k : Nat} {args : Array Value} {w : World} {v : Value} (h : Calls Try.prog k args w fun e w' => e = .returned v ∧ w = w') : Calls Try.prog k args w fun e w' => e = .returned v ∧ Below w.heap.size w w' :=
  h.mono fun e w' h => ⟨h.1, by rw [← h.2]; exact Below.refl _ _⟩
theorem rc_lines {f l r : Int} {X Y : Nat → Int} (m B n : Nat) (w : World) (h : Rc w m B f l r X Y n) : Calls Try.prog 31 #[.pointer (some ⟨B, 0, none⟩)] w fun e w' => (∃ Bl : Nat, e = .returned (.pointer (some ⟨Bl, 0, none⟩)) ∧ Rc w' m Bl 0 0 r X Y n) ∧ Below w.heap.size w w' := by
  obtain ⟨vX, vY, h⟩ := h
  refine (c_lines m B f l r _ _ vX vY w h).mono ?_
  rintro e w' ⟨⟨B', e1, _, h2⟩, h3⟩
  exact ⟨⟨B', e1, vX, vY, h2⟩, h3⟩
theorem same_any {f l r : Int} {X Y : Nat → Int} (hc : CvS f l r) (hY : ∀ k, 0 ≤ Y k) (m m' Bb Br n : Nat) (K : List (Int × Int)) (ax ay T N : Int) (w : World) (hn2 : n ≤ 800) (hT : Word T) (hN : Word N) (hR : Rg w m Bb f l r X Y n K) (hC : Rc w m' Br f l r X Y n) :
    Calls Try.prog 11 #[.pointer (some ⟨Bb, 0, none⟩), .pointer (some ⟨Br, 0, none⟩), .agg #[eU ax, eU ay, eU T, eU N]] w fun e w' => e = .returned (.bool true) ∧ Below w.heap.size w w' := by
  obtain ⟨hf, hl, hr, hm, hfr⟩ := id hc
  obtain ⟨hf1, hr1, hl1, _⟩ := id hm
  obtain ⟨a, cap, c3⟩ := hC.len
  have hk := hR.1.count
  have z0 : Word 0 := ⟨by omega, by omega⟩
  have hc3 : ∀ w', Below w.heap.size w w' → w'.cell? ⟨Br, 3, none⟩ = some (.slice a n cap) := fun w' E => E.cellAt c3
  have h31 := fun w' (E : Below w.heap.size w w') => rc_lines m' Br n w' (hC.below E)
  have h20 : ∀ w', Below w.heap.size w w' → Calls Try.prog 20 #[.pointer (some ⟨Bb, 0, none⟩)] w' fun e w'' => e = .returned (.int .i64 (docN f l r X Y n)) ∧ Below w'.heap.size w' w'' := fun w' E => by
    have := quiet (rg_kept m Bb n K w' (hR.below E))
    rwa [hk] at this
  rcases Nat.eq_zero_or_pos n with rfl | hn
  · have h0 := fun w' (E : Below w.heap.size w w') => rg_kept0 m Bb K w' (hR.below E)
    exact same_nil Bb Br _ ax ay T N 0 0 (if N = 0 then 0 else 9223372036854775808) 0 (if N = 0 then 0 else 9223372036854775808) a cap w (fun Bl w => Rc w m' Bl 0 0 r X Y 0) (fun w' E => quiet (rg_last0 m Bb K w' (hR.below E))) (fun w' E => rc_last m' Br 0 w' (by omega) (hC.below E)) (fun w' E => quiet (rg_starts m Bb 0 K w' (hR.below E)))
      h20 (fun w' E => rc_kept hc hY m' Br 0 w' (by omega) (hC.below E)) (fun w' E => quiet (sg_at_none _ T w' (h0 w' E))) (fun w' E => c_at_nil Br T a cap w' (hc3 w' E)) (fun w' E => quiet (sg_reach_none _ N w' (h0 w' E))) (fun w' E => c_reach_nil Br N a cap w' (hc3 w' E))
      (fun w' E => quiet (sg_line_none _ T w' (h0 w' E))) (fun w' E => quiet (sg_ahead_none _ N w' (h0 w' E))) h31 (fun Bl w w' h hb => h.below hb)
      (fun Bl w h => by obtain ⟨a', cap', c3'⟩ := h.len; exact c_at_nil Bl T a' cap' w c3') (fun Bl w h => by obtain ⟨a', cap', c3'⟩ := h.len; exact c_reach_nil Bl N a' cap' w c3') hc3
  · have hx1 := xS_never X n
    have hlen : 0 < (allL X Y n).length := by simp [allL]; exact hn
    have hall := allL_le (X := X) (n := n) hY
    obtain ⟨A, hA⟩ := lst_ex (fun k => hv f l r k (max T (xS X n))) hlen
    obtain ⟨C, hC2⟩ := lst_ex (fun k => hv 0 0 r k (max T (xS X n))) hlen
    obtain ⟨v, hv1⟩ := rch_ex (F := f) (L := l) (R := r) (y := N) hf hl hr hx1 _ hlen hall
    obtain ⟨u, hu⟩ := rch_ex (F := 0) (L := 0) (R := r) (y := N) z0 z0 hr hx1 _ hlen hall
    exact same_of Bb Br n _ ax ay T N _ (stp A) v (stp C) u a cap w (fun Bl w => Rc w m' Bl 0 0 r X Y n) hn (fun w' E => quiet (rg_last m Bb n K w' hn (hR.below E))) (fun w' E => rc_last m' Br n w' (by omega) (hC.below E)) (fun w' E => quiet (rg_starts m Bb n K w' (hR.below E)))
      h20 (fun w' E => rc_kept hc hY m' Br n w' (by omega) (hC.below E)) (fun w' E => rg_at hc hY m Bb n K T A w' hn hn2 hT hA (hR.below E)) (fun w' E => rc_at ⟨hf.1, hf1⟩ hl ⟨hr.1, hr1⟩ hY m' Br n T A w' hT hn (by omega) hA (hC.below E))
      (fun w' E => rg_reach hc hY m Bb n K N v w' hn hn2 hN hv1 (hR.below E)) (fun w' E => rc_reach ⟨hf.1, hf1⟩ hl ⟨hr.1, hr1⟩ hY m' Br n N v w' hn (by omega) hv1 (hC.below E))
      (fun w' E => rg_line hc hY m Bb n K T C w' hn hn2 hT hC2 (hR.below E)) (fun w' E => rg_ahead hc hY m Bb n K N u w' hn hn2 hN hu (hR.below E)) h31 (fun Bl w w' h hb => h.below hb)
      (fun Bl w h => rc_at ⟨by omega, by omega⟩ z0 ⟨hr.1, hr1⟩ hY m' Bl n T C w hT hn (by omega) hC2 h) (fun Bl w h => rc_reach ⟨by omega, by omega⟩ z0 ⟨hr.1, hr1⟩ hY m' Bl n N u w hn (by omega) hu h) hc3
set_option maxHeartbeats 8000000 in
theorem run_ok (f l r : Int) (a : Option Addr) (n c : Nat) (xs : Nat → Ac) (at' : Int) (w : World) (hc : CvS f l r) (hw : ∀ i, (xs i).word) (hI : IsAcs w a n c xs) (hn : n ≤ 25)
    (hN8 : ∀ w0, Below w.heap.size w w0 → Calls Try.prog 8 #[.agg #[eU f, eU l, eU r]] w0 fun e w' => (∃ B : Nat, e = .returned (.tuple #[.pointer (some ⟨B, 0, none⟩), eI 0]) ∧ w.heap.size ≤ B ∧ ∃ K, Rg w' w.heap.size B f l r (fun i => (xs i).x) (fun i => (xs i).y) 0 K) ∧ Below w0.heap.size w0 w')
    (hN9 : ∀ w0, Below w.heap.size w w0 → Calls Try.prog 9 #[.agg #[eU f, eU l, eU r]] w0 fun e w' => (∃ B : Nat, e = .returned (.tuple #[.pointer (some ⟨B, 0, none⟩), eI 0]) ∧ w.heap.size ≤ B ∧ Rc w' w.heap.size B f l r (fun i => (xs i).x) (fun i => (xs i).y) 0) ∧ Below w0.heap.size w0 w') :
    Calls Try.prog 3 #[.agg #[eU f, eU l, eU r], .slice a n c, .int .i64 at'] w fun e w' => e = .returned (.bool true) ∧ Below w.heap.size w w' := by
  obtain ⟨X, hX⟩ : ∃ X : Nat → Int, X = fun i => (xs i).x := ⟨_, rfl⟩
  obtain ⟨Y, hY⟩ : ∃ Y : Nat → Int, Y = fun i => (xs i).y := ⟨_, rfl⟩
  rw [← hX, ← hY] at hN8 hN9
  have eX : ∀ i, (xs i).x = X i := fun i => by rw [hX]
  have eY : ∀ i, (xs i).y = Y i := fun i => by rw [hY]
  have wX : ∀ i, Word (X i) := fun i => by rw [← eX]; exact (hw i).1
  have wY : ∀ i, Word (Y i) := fun i => by rw [← eY]; exact (hw i).2.1
  obtain ⟨m0, hm0⟩ : ∃ m0, w.heap.size = m0 := ⟨_, rfl⟩
  have hSame := fun (m Bb Br k i : Nat) (K : List (Int × Int)) (w : World) (hk : k ≤ 800) (hR : Rg w m Bb f l r X Y k K) (hC : Rc w m0 Br f l r X Y k) => same_any hc (fun k => (wY k).1) m m0 Bb Br k K (X i) (Y i) (xs i).t (xs i).n w hk (hw i).2.2.1 (hw i).2.2.2 hR hC
  have hSt := fun (B k : Nat) (K : List (Int × Int)) (w : World) (hk : k ≤ 800) (hB : m0 ≤ B) (h : Rg w m0 B f l r X Y k K) => rg_start hc (fun k => (wY k).1) m0 B k K w hk hB (wX k) (wY k) h
  have hSc := fun (B k : Nat) (w : World) (hk : k ≤ 900) (hB : m0 ≤ B) (h : Rc w m0 B f l r X Y k) => rc_start (f := f) (l := l) (r := r) (X := X) (Y := Y) m0 B k w hk hB h
  have hSo : ∀ (q B k : Nat) (K : List (Int × Int)) (w : World), k ≤ 800 → q ≤ k → Rg w B B f l r (fun i => if i < q then X i else Y i) (fun i => if i < q then Y i else X i) k K →
      Calls Try.prog 12 #[.pointer (some ⟨B, 0, none⟩), eU (Y k), eU (X k)] w fun e w' => e = .returned (.tuple #[]) ∧ (∃ K', Rg w' B B f l r (fun i => if i < q then X i else Y i) (fun i => if i < q then Y i else X i) (k + 1) K') ∧ Below B w w' := fun q B k K w hk hq h => by
    have h1 : (if k < q then X k else Y k) = Y k := by simp only [show ¬ k < q by omega, if_false]
    have h2 : (if k < q then Y k else X k) = X k := by simp only [show ¬ k < q by omega, if_false]
    have h0 := rg_start hc (X := fun i => if i < q then X i else Y i) (Y := fun i => if i < q then Y i else X i) (fun k => by
      by_cases h : k < q
      · simp only [h, if_true]; exact (wY k).1
      · simp only [h, if_false]; exact (wX k).1) B B k K w hk (Nat.le_refl _) (by show Word (if k < q then X k else Y k); rw [h1]; exact wY k) (by show Word (if k < q then Y k else X k); rw [h2]; exact wX k) h
    simp only [h1, h2] at h0
    exact h0.mono fun e w' ⟨g1, g2, g3, _⟩ => ⟨g1, g2, g3⟩
  have hcell : ∀ (k : Nat) w', k < n → Below w.heap.size w w' → ∃ b o, a = some ⟨b, o, none⟩ ∧ w'.cell? ⟨b, o + k * 4, none⟩ = some (.int .u64 (X k)) ∧ w'.cell? ⟨b, o + k * 4 + 1, none⟩ = some (.int .u64 (Y k)) ∧ w'.cell? ⟨b, o + k * 4 + 2, none⟩ = some (.int .u64 (xs k).t) ∧ w'.cell? ⟨b, o + k * 4 + 3, none⟩ = some (.int .u64 (xs k).n) := fun k w' hk T => by
    obtain ⟨h2, h3⟩ := hI
    rcases h3 with h3 | ⟨b, o, e, h3⟩
    · omega
    · have := (h3.below T).2 k hk
      rw [eX, eY] at this
      exact ⟨b, o, e, this⟩
  have hnc : (n : Int) ≤ (c : Int) := by have := hI.1; omega
  have hCpy := fun (B k : Nat) (K : List (Int × Int)) (w : World) (hk : k ≤ 800) (h : Rg w m0 B f l r X Y k K) => rg_copy m0 B k K w hk h
  have hsa := Lib.hid hSame
  have hst := Lib.hid hSt
  have hsc := Lib.hid hSc
  have hso := Lib.hid hSo
  have hce := Lib.hid hcell
  have hcp := Lib.hid hCpy
  have hm0h := Lib.hid hm0
  have BC := Box.new w 24 #[eU f, eU l, eU r]
  have T := up1 w (.cells #[eU f, eU l, eU r] 24)
  have hn' : ¬ ((25 : Int) < (n : Int)) := by omega
  obtain ⟨c0, c1, c2⟩ := BC.three
  clear hSame hSt hSc hSo hcell hCpy hI hw wX wY eX eY hX hY hc hm0
  go_enter Try.func3, Try.ntmps3
  go_wp2_with (first
    | (go_at_call 8; (with_reducible refine (hN8 _ T).mono ?_); rintro e w1 ⟨⟨Bb, rfl, hB, hR⟩, hb⟩; replace BC := BC.below hb; replace T := up T hb T.size; clear hb c0 c1 c2; obtain ⟨c0, c1, c2⟩ := BC.three)
    | (go_at_call 9; (with_reducible refine (hN9 _ T).mono ?_); rintro e w2 ⟨⟨Br, rfl, hB2, hC⟩, hb⟩; obtain ⟨K, hR⟩ := hR; replace T := up T hb T.size; replace hR := hR.below hb; clear hb c0 c1 c2))
  have hm0 := hm0h.out
  have hBw : m0 ≤ Bb := by omega
  have hBw2 : m0 ≤ Br := by omega
  rw [hm0] at hR hC
  have hR0 : ∃ K, Rg w2 m0 Bb f l r X Y 0 K := ⟨K, hR⟩
  clear hN8 hN9 hB hB2 BC hR hm0
  go_loopw [11] (fun s11 wr => ∃ k : Nat, s11 = .int .i64 k ∧ k ≤ n ∧ (∃ K, Rg wr m0 Bb f l r X Y k K) ∧ Rc wr m0 Br f l r X Y k ∧ Below w.heap.size w wr) (fun s11 _ => n - (intOf s11).toNat)
  case atStart => exact ⟨0, rfl, by omega, hR0, hC, T⟩
  case round =>
    clear hR0 hC T
    rename World => WO
    obtain ⟨k, rfl, hk, ⟨K, hR⟩, hC, T⟩ := hrel
    by_cases hlt : k < n
    · have i1 : (k : Int) < (n : Int) := by omega
      have i2 : (0 : Int) ≤ (k : Int) := by omega
      obtain ⟨b, o, rfl, x1, x2, x3, x4⟩ := hce.out k WO hlt T
      go_upto_if 59 with fail
      go_cut [] (fun wx => Rg wx m0 Bb f l r X Y k K ∧ Rc wx m0 Br f l r X Y k ∧ Below w.heap.size w wx)
      case first =>
        by_cases hat : (k : Int) = at'
        · subst hat
          have hCp := hcp.out Bb k K WO (by omega) hR
          go_wp2_with (first
            | (go_at_call 10; (with_reducible refine hCp.mono ?_); rintro e w3 ⟨⟨rfl, hP⟩, hb⟩; have TT := hb; clear hb x1 x2 x3 x4; obtain ⟨_, _, he, x1, x2, x3, x4⟩ := hce.out k _ hlt (up T TT T.size); cases he)
            | (go_at_call 11; (with_reducible refine (hsa.out WO.heap.size WO.heap.size Br k k K _ (by omega) hP (hC.below TT)).mono ?_); rintro e w4 ⟨rfl, hb⟩; replace TT := up TT hb TT.size; replace hP := hP.below hb; clear hb x1 x2 x3 x4))
          have hP' : ∃ K', Rg w4 WO.heap.size WO.heap.size f l r (fun i => if i < k then X i else Y i) (fun i => if i < k then Y i else X i) k K' := ⟨K, Rg.congr (X := X) (Y := Y) hP (fun i hi => by simp only [hi, if_true]) (fun i hi => by simp only [hi, if_true])⟩
          clear hP hCp
          obtain ⟨P, hPd⟩ : ∃ P, WO.heap.size = P := ⟨_, rfl⟩
          rw [hPd] at hP'
          rw [hPd]
          have hPh := Lib.hid hPd
          have hmP := Lib.hid T.size
          clear hPd
          go_loopw [13] (fun s13 wx => ∃ j : Nat, s13 = .int .i64 j ∧ k ≤ j ∧ j ≤ n ∧ (∃ K', Rg wx P P f l r (fun i => if i < k then X i else Y i) (fun i => if i < k then Y i else X i) j K') ∧ Below WO.heap.size WO wx) (fun s13 _ => n - (intOf s13).toNat)
          case atStart => exact ⟨k, rfl, Nat.le_refl _, hk, hP', TT⟩
          case round =>
            clear hP' TT
            obtain ⟨j, rfl, hkj, hj, ⟨K', hP⟩, TT⟩ := hrel
            by_cases hlt2 : j < n
            · have j1 : (j : Int) < (n : Int) := by omega
              have j2 : (0 : Int) ≤ (j : Int) := by omega
              obtain ⟨_, _, he, y1, y2, y3, y4⟩ := hce.out j _ hlt2 (up T TT T.size)
              cases he
              have hPP := Lib.hid hP
              have TTh := Lib.hid TT
              have TM : ∀ w5, Below P wr.drew w5 → Below WO.heap.size WO w5 := fun w5 q => TTh.out.drew.trans (by rw [hPh.out]; exact q)
              have TMh := Lib.hid TM
              have hyk : ∀ w5, Below P wr.drew w5 → w5.cell? ⟨b, o + j * 4, none⟩ = some (.int .u64 (X j)) ∧ w5.cell? ⟨b, o + j * 4 + 1, none⟩ = some (.int .u64 (Y j)) := fun w5 q => by
                obtain ⟨_, _, he, z1, z2, _⟩ := hce.out j w5 hlt2 (up T (TM w5 q) T.size)
                cases he
                exact ⟨z1, z2⟩
              have hykh := Lib.hid hyk
              clear hP TT TM hyk y3 y4
              go_upto_region 17 with fail
              go_region_held3 (fun w' => w'.cell? ⟨b, o + j * 4, none⟩ = some (.int .u64 (X j)) ∧ w'.cell? ⟨b, o + j * 4 + 1, none⟩ = some (.int .u64 (Y j)))
                (first | exact ⟨y1, y2⟩ | exact hykh.out _ hb2)
                (first | (go_at_call 12; refine (hso.out k P j K' wr.drew (by omega) hkj (show Rg wr.drew _ _ _ _ _ _ _ _ _ from hPP.out.drew)).mono ?_; rintro e w5 ⟨rfl, hP4, hb2⟩))
              all_goals go_wp2_with fail
              exact ⟨⟨j + 1, rfl, by omega, by omega, hP4, TMh.out _ hb2⟩, by simp [intOf]; omega⟩
            · obtain rfl : j = n := by omega
              have j1 : ¬ (j : Int) < (j : Int) := by omega
              go_wp2_with fail
              go_meet
              exact ⟨hR.below TT, hC.below TT, up T TT T.size⟩
        · have hb1 : ((k : Int) == at') = false := by simp only [beq_eq_false_iff_ne]; exact hat
          go_wp2_with fail
          go_meet
          exact ⟨hR, hC, T⟩
      case rest =>
        clear hR hC T x1 x2 x3 x4
        obtain ⟨hR, hC, T⟩ := hcut
        obtain ⟨_, _, he, x1, x2, x3, x4⟩ := hce.out k _ hlt T
        cases he
        go_upto_region 20 with (go_at_call 11; (with_reducible refine (hsa.out m0 Bb Br k k K _ (by omega) hR hC).mono ?_); rintro e w5 ⟨rfl, hb⟩; replace T := up T hb T.size; replace hR := hR.below hb; replace hC := hC.below hb; clear hb x1 x2 x3 x4)
        obtain ⟨_, _, he, x1, x2, x3, x4⟩ := hce.out k _ hlt T
        cases he
        have hRh := Lib.hid hR
        have Th := Lib.hid T
        have TM : ∀ w6, Below m0 w5.drew w6 → Below w.heap.size w w6 := fun w6 q => Th.out.drew.trans (by rw [hm0h.out]; exact q)
        have hyk : ∀ w6, Below m0 w5.drew w6 → w6.cell? ⟨b, o + k * 4, none⟩ = some (.int .u64 (X k)) ∧ w6.cell? ⟨b, o + k * 4 + 1, none⟩ = some (.int .u64 (Y k)) := fun w6 q => by
          obtain ⟨_, _, he, z1, z2, _⟩ := hce.out k w6 hlt (TM w6 q)
          cases he
          exact ⟨z1, z2⟩
        have TMh := Lib.hid TM
        have hykh := Lib.hid hyk
        clear hR T TM hyk
        go_region_held3 (fun w' => w'.cell? ⟨b, o + k * 4, none⟩ = some (.int .u64 (X k)) ∧ w'.cell? ⟨b, o + k * 4 + 1, none⟩ = some (.int .u64 (Y k)))
          (first | exact ⟨x1, x2⟩ | exact hykh.out _ hb2)
          (first | (go_at_call 12; refine (hst.out Bb k K w5.drew (by omega) hBw (show Rg w5.drew _ _ _ _ _ _ _ _ _ from hRh.out.drew)).mono ?_; rintro e w6 ⟨rfl, hR2, hb2, hkeep⟩))
        have hC4 := Rc.keep hC.drew hkeep
        have T4 := TMh.out _ hb2
        clear hC x1 x2 x3 x4 hRh Th TMh hykh hb2 hkeep
        obtain ⟨K2, hR2⟩ := hR2
        obtain ⟨_, _, he, x1, x2, x3, x4⟩ := hce.out k _ hlt T4
        cases he
        have hR2h := Lib.hid hR2
        have hC4h := Lib.hid hC4
        have T4h := Lib.hid T4
        have TM : ∀ w7, Below m0 w6.drew w7 → Below w.heap.size w w7 := fun w7 q => T4h.out.drew.trans (by rw [hm0h.out]; exact q)
        have hyk : ∀ w7, Below m0 w6.drew w7 → w7.cell? ⟨b, o + k * 4, none⟩ = some (.int .u64 (X k)) ∧ w7.cell? ⟨b, o + k * 4 + 1, none⟩ = some (.int .u64 (Y k)) := fun w7 q => by
          obtain ⟨_, _, he, z1, z2, _⟩ := hce.out k w7 hlt (TM w7 q)
          cases he
          exact ⟨z1, z2⟩
        have TMh := Lib.hid TM
        have hykh := Lib.hid hyk
        clear hR2 hC4 T4 TM hyk
        go_upto_region 21 with fail
        go_region_held3 (fun w' => w'.cell? ⟨b, o + k * 4, none⟩ = some (.int .u64 (X k)) ∧ w'.cell? ⟨b, o + k * 4 + 1, none⟩ = some (.int .u64 (Y k)))
          (first | exact ⟨x1, x2⟩ | exact hykh.out _ hb3)
          (first | (go_at_call 13; refine (hsc.out Br k w6.drew (by omega) hBw2 hC4h.out.drew).mono ?_; rintro e w7 ⟨rfl, hC5, hb3, hbx⟩))
        have hR5 := Rg.keep hR2h.out.drew hbx (by decide) (by decide) (by decide) (by decide)
        have T5 := TMh.out _ hb3
        clear x1 x2 x3 x4 hR2h hC4h T4h TMh hykh hb3 hbx
        obtain ⟨_, _, he, x1, x2, x3, x4⟩ := hce.out k _ hlt T5
        cases he
        go_wp2_with (go_at_call 11; (with_reducible refine (hsa.out m0 Bb Br (k + 1) k K2 _ (by omega) hR5 hC5).mono ?_); rintro e w8 ⟨rfl, hb⟩; replace T5 := up T5 hb T5.size; replace hR5 := hR5.below hb; replace hC5 := hC5.below hb; clear hb x1 x2 x3 x4)
        go_roundw
        case rel => exact ⟨k + 1, rfl, by omega, ⟨K2, hR5⟩, hC5, T5⟩
        case measure => simp [intOf]; omega
    · obtain rfl : k = n := by omega
      have i1 : ¬ (k : Int) < (k : Int) := by omega
      go_wp2_with fail
      go_ret
      exact ⟨rfl, T⟩
set_option maxHeartbeats 1000000 in
theorem run_long (f l r : Int) (a : Option Addr) (n c : Nat) (at' : Int) (w : World) (hn : 25 < n) :
    Calls Try.prog 3 #[.agg #[eU f, eU l, eU r], .slice a n c, .int .i64 at'] w fun e w' => e = .returned (.bool true) ∧ Below w.heap.size w w' := by
  have hn' : ((25 : Int) < (n : Int)) := by omega
  go_enter Try.func3, Try.ntmps3
  go_wp2_with fail
  go_ret
  exact ⟨rfl, up1 _ _⟩
set_option maxHeartbeats 1000000 in
theorem run_not (f l r : Int) (a : Option Addr) (n c : Nat) (at' : Int) (w : World) (hn : n ≤ 25)
    (hN9 : ∀ w, Calls Try.prog 8 #[.agg #[eU f, eU l, eU r]] w fun e w' => e = .returned (.tuple #[.pointer none, eI 30]) ∧ Below w.heap.size w w')
    (hN10 : ∀ w, Calls Try.prog 9 #[.agg #[eU f, eU l, eU r]] w fun e w' => e = .returned (.tuple #[.pointer none, eI 30]) ∧ Below w.heap.size w w') :
    Calls Try.prog 3 #[.agg #[eU f, eU l, eU r], .slice a n c, .int .i64 at'] w fun e w' => e = .returned (.bool true) ∧ Below w.heap.size w w' := by
  have BC := Box.new w 24 #[eU f, eU l, eU r]
  have T := up1 w (.cells #[eU f, eU l, eU r] 24)
  have hn' : ¬ ((25 : Int) < (n : Int)) := by omega
  obtain ⟨c0, c1, c2⟩ := BC.three
  go_enter Try.func3, Try.ntmps3
  go_wp2_with (first
    | (go_at_call 8; (with_reducible refine (hN9 _).mono ?_); rintro e w1 ⟨rfl, hb⟩; replace BC := BC.below hb; replace T := up T hb T.size; clear hb c0 c1 c2; obtain ⟨c0, c1, c2⟩ := BC.three)
    | (go_at_call 9; (with_reducible refine (hN10 _).mono ?_); rintro e w2 ⟨rfl, hb⟩; replace T := up T hb T.size; clear hb c0 c1 c2))
  go_ret
  exact ⟨rfl, T⟩
theorem Rc.new {w : World} {m m' B : Nat} {f l r : Int} (X Y : Nat → Int) (h : Cp m w B f l r [] [] (.slice none 0 0) (.slice none 0 0)) : Rc w m' B f l r X Y 0 :=
  ⟨.slice none 0 0, .slice none 0 0, ⟨h.box, ⟨rfl, .inl ⟨rfl, rfl⟩⟩, ⟨rfl, .inl ⟨rfl, rfl⟩⟩, .inl rfl⟩⟩
theorem SaggedRuns_walk (f l r : Int) (a : Option Addr) (n c : Nat) (xs : Nat → Ac) (at' : Int) (w : World) (hf : Word f) (hl : Word l) (hr : Word r) (hI : IsAcs w a n c xs) (hw : ∀ i, (xs i).word) (hcm : c ≤ maxLen) (hnn : a = none → n = 0 ∧ c = 0) (ht : -9223372036854775808 ≤ at' ∧ at' < 9223372036854775808) :
    Calls Try.prog 3 #[.agg #[eU f, eU l, eU r], .slice a n c, .int .i64 at'] w fun e w' => e = .returned (.bool true) ∧ Below w.heap.size w w' := by
  by_cases hn : n ≤ 25
  · have h9 := fun w => c_new_any f l r w hf hl hr
    by_cases hc : CvS f l r
    · refine run_ok f l r a n c xs at' w hc hw hI hn (fun w0 T => (rg_new hc (fun i => (xs i).x) (fun i => (xs i).y) w0).mono fun e w' h => ?_) (fun w0 T => (h9 w0).mono fun e w' h => ?_)
      · obtain ⟨⟨B, e1, e2, e3⟩, h2⟩ := h
        exact ⟨⟨B, e1, Nat.le_trans T.size e2, [], e3.mono T.size⟩, h2⟩
      · obtain ⟨h1, h2⟩ := h
        rcases h1 with ⟨_, B, e1, e2, e3⟩ | ⟨h1, _⟩
        · exact ⟨⟨B, e1, Nat.le_trans T.size e2, Rc.new _ _ e3⟩, h2⟩
        · exact absurd hc h1
    · refine run_not f l r a n c at' w hn (fun w => rg_new_not w hf hl hr hc) (fun w => (h9 w).mono fun e w' h => ?_)
      obtain ⟨h1, h2⟩ := h
      rcases h1 with ⟨h1, _⟩ | ⟨_, h1⟩
      · exact absurd h1 hc
      · exact ⟨h1, h2⟩
  · exact run_long f l r a n c at' w (by omega)
end Go.Proofs.Ytknpfcnjnpcboaa
