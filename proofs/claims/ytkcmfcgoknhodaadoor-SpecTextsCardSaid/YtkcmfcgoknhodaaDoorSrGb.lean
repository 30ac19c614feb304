/- The document's own Parse where the first word is leaf, and the first two numbers good. Condition: at most 1000 bytes. -/
import Derived.Test.YtkcmfcgoknhodaaDoorSrE
namespace Go.Proofs.YtkcmfcgoknhodaaDoor
open Go.RowKit Go.Lib W
set_option linter.unusedVariables false
set_option maxHeartbeats 16000000 in
set_option maxRecDepth 100000 in
theorem rParse_leaf34 (s : ByteArray) (l0 l1 l2 l3 l4 l5 l6 l7 : List UInt8) (x1 x2 x6 x7 e3 e4 e5 : Int) (y1 y2 y6 y7 b0 : Bool) (x y z : Cw) (R : Sp) (ee : Int) (w : World) (hs : s.size ≤ 1000)
    (hcut : cutd 32 s.data.toList = [l0, l1, l2, l3, l4, l5, l6, l7]) (n1 : 0 ≤ x1) (n2 : 0 ≤ x2) (n6 : 0 ≤ x6) (n7 : 0 ≤ x7)
    (ha0 : (l0 == [108, 101, 97, 102]) = true) (hb0 : (l0 == [105, 110, 110, 101, 114]) = b0)
    (h1 : ∀ w, Calls Tryd.prog 18 #[str l1] w fun e w' => e = .returned (.tuple #[.int .u64 x1, .bool y1]) ∧ Below w.heap.size w w')
    (h2 : ∀ w, Calls Tryd.prog 18 #[str l2] w fun e w' => e = .returned (.tuple #[.int .u64 x2, .bool y2]) ∧ Below w.heap.size w w')
    (h6 : ∀ w, Calls Tryd.prog 18 #[str l6] w fun e w' => e = .returned (.tuple #[.int .u64 x6, .bool y6]) ∧ Below w.heap.size w w')
    (h7 : ∀ w, Calls Tryd.prog 18 #[str l7] w fun e w' => e = .returned (.tuple #[.int .u64 x7, .bool y7]) ∧ Below w.heap.size w w')
    (h3 : ∀ w, Calls Tryd.prog 9 #[str l3] w fun e w' => e = .returned (.tuple #[.agg #[.int .u64 x.f, .int .u64 x.l, .int .u64 x.r], .int .i64 e3]) ∧ Below w.heap.size w w')
    (h4 : ∀ w, Calls Tryd.prog 9 #[str l4] w fun e w' => e = .returned (.tuple #[.agg #[.int .u64 y.f, .int .u64 y.l, .int .u64 y.r], .int .i64 e4]) ∧ Below w.heap.size w w')
    (h5 : ∀ w, Calls Tryd.prog 9 #[str l5] w fun e w' => e = .returned (.tuple #[.agg #[.int .u64 z.f, .int .u64 z.l, .int .u64 z.r], .int .i64 e5]) ∧ Below w.heap.size w w')
    (hy1 : y1 = true) (hx1 : x1 ≤ 9223372036854775807) (hy2 : y2 = true) (hx2 : x2 ≤ 9223372036854775807)
    (hno : ¬ ((true = true ∨ b0 = true) ∧ (y1 = true ∧ x1 ≤ 9223372036854775807) ∧ (y2 = true ∧ x2 ≤ 9223372036854775807) ∧ (y6 = true ∧ x6 ≤ 9223372036854775807) ∧ (y7 = true ∧ x7 ≤ 9223372036854775807) ∧ e3 = 0 ∧ e4 = 0 ∧ e5 = 0) → R = Sp.zero ∧ ee = 2)
    (hyes : ((true = true ∨ b0 = true) ∧ (y1 = true ∧ x1 ≤ 9223372036854775807) ∧ (y2 = true ∧ x2 ≤ 9223372036854775807) ∧ (y6 = true ∧ x6 ≤ 9223372036854775807) ∧ (y7 = true ∧ x7 ≤ 9223372036854775807) ∧ e3 = 0 ∧ e4 = 0 ∧ e5 = 0) → R = ⟨x1, x2, true, x, y, z, x6, x7⟩ ∧ ee = 0) :
    Calls Tryd.prog 7 #[.string s] w fun e w' => e = .returned (.tuple #[spW R, .int .i64 ee]) ∧ Below w.heap.size w w' := by
  have hW := fun w => Words_cut s w hs
  rw [hcut] at hW
  obtain ⟨i0, hi, hz0, hz1, hz2⟩ := info_parts infoI
  have B := Bl.new w TSp zsp
  have T := up1 w (.cells zsp TSp)
  clear hcut
  replace hno := Lib.hid hno
  replace hyes := Lib.hid hyes
  go_enter Tryd.func7, Tryd.ntmps7
  go_upto_region 2 with (go_at_call 17; (with_reducible refine (hW _).mono ?_); rintro e w1 ⟨⟨v, rfl, hown⟩, hb⟩; replace B := B.below hb; replace T := sps T hb T.size; clear hb; obtain ⟨g, cap, rfl, _, hlt, hcap, _, hcells⟩ := own_some hown (by simp); clear hown)
  have q0 : w1.cell? ⟨g, 0, none⟩ = some (str l0) := by have := hcells 0 (str l0) rfl; rwa [Lib.add_plain] at this
  have q1 : w1.cell? ⟨g, 1, none⟩ = some (str l1) := by have := hcells 1 (str l1) rfl; rwa [Lib.add_plain] at this
  have q2 : w1.cell? ⟨g, 2, none⟩ = some (str l2) := by have := hcells 2 (str l2) rfl; rwa [Lib.add_plain] at this
  have q3 : w1.cell? ⟨g, 3, none⟩ = some (str l3) := by have := hcells 3 (str l3) rfl; rwa [Lib.add_plain] at this
  have q4 : w1.cell? ⟨g, 4, none⟩ = some (str l4) := by have := hcells 4 (str l4) rfl; rwa [Lib.add_plain] at this
  have q5 : w1.cell? ⟨g, 5, none⟩ = some (str l5) := by have := hcells 5 (str l5) rfl; rwa [Lib.add_plain] at this
  have q6 : w1.cell? ⟨g, 6, none⟩ = some (str l6) := by have := hcells 6 (str l6) rfl; rwa [Lib.add_plain] at this
  have q7 : w1.cell? ⟨g, 7, none⟩ = some (str l7) := by have := hcells 7 (str l7) rfl; rwa [Lib.add_plain] at this
  have hBw := B.lt
  clear hcells hW
  have QQ : ∀ {v : World}, Below w1.heap.size w1 v → v.cell? ⟨g, 0, none⟩ = some (str l0) ∧ v.cell? ⟨g, 1, none⟩ = some (str l1) ∧ v.cell? ⟨g, 2, none⟩ = some (str l2) ∧ v.cell? ⟨g, 3, none⟩ = some (str l3) ∧ v.cell? ⟨g, 4, none⟩ = some (str l4) ∧ v.cell? ⟨g, 5, none⟩ = some (str l5) ∧ v.cell? ⟨g, 6, none⟩ = some (str l6) ∧ v.cell? ⟨g, 7, none⟩ = some (str l7) := fun hb => ⟨(hb.cell (p := ⟨g, 0, none⟩) hlt).trans q0, (hb.cell (p := ⟨g, 1, none⟩) hlt).trans q1, (hb.cell (p := ⟨g, 2, none⟩) hlt).trans q2, (hb.cell (p := ⟨g, 3, none⟩) hlt).trans q3, (hb.cell (p := ⟨g, 4, none⟩) hlt).trans q4, (hb.cell (p := ⟨g, 5, none⟩) hlt).trans q5, (hb.cell (p := ⟨g, 6, none⟩) hlt).trans q6, (hb.cell (p := ⟨g, 7, none⟩) hlt).trans q7⟩
  have w1' : x1 ≤ 9223372036854775807 → IntKind.i64.wrap x1 = x1 := fun h => by rw [IntKind.wrap_i64]; omega
  have w2' : x2 ≤ 9223372036854775807 → IntKind.i64.wrap x2 = x2 := fun h => by rw [IntKind.wrap_i64]; omega
  have w6' : x6 ≤ 9223372036854775807 → IntKind.i64.wrap x6 = x6 := fun h => by rw [IntKind.wrap_i64]; omega
  have w7' : x7 ≤ 9223372036854775807 → IntKind.i64.wrap x7 = x7 := fun h => by rw [IntKind.wrap_i64]; omega
  obtain ⟨L, hL⟩ : ∃ L : List Value, L = [.int .i64 x1, .int .i64 x2, .int .i64 x6, .int .i64 x7] := ⟨_, rfl⟩
  have ta0 := Lib.hid (show L.take 1 = L.take 0 ++ [.int .i64 x1] by rw [hL]; rfl)
  have ta1 := Lib.hid (show L.take 2 = L.take 1 ++ [.int .i64 x2] by rw [hL]; rfl)
  have ta2 := Lib.hid (show L.take 3 = L.take 2 ++ [.int .i64 x6] by rw [hL]; rfl)
  have ta3 := Lib.hid (show L.take 4 = L.take 3 ++ [.int .i64 x7] by rw [hL]; rfl)
  replace hL := Lib.hid hL
  have HA := Bl.new w1 3 #[.int .i64 1, .int .i64 2, .int .i64 6, .int .i64 7]
  have E1 := up1 w1 (.cells #[.int .i64 1, .int .i64 2, .int .i64 6, .int .i64 7] 3)
  all_goals
    go_upto_region 5 with (fail)
    generalize w1.alloc (.cells #[.int .i64 1, .int .i64 2, .int .i64 6, .int .i64 7] 3) = w2 at HA E1 ⊢
    replace B := B.below E1
    replace T := sps T E1 T.size
    have hs12 := E1.size
    go_wp2
    go_loopw [6, 7] (fun v j wr => ∃ k : Nat, k ≤ 4 ∧ j = .int .i64 k ∧ wr.ownsRow w2.heap.size 3 1 v k (L.take k) ∧ Below w2.heap.size w2 wr ∧ (0 < k → y1 = true ∧ x1 ≤ 9223372036854775807) ∧ (1 < k → y2 = true ∧ x2 ≤ 9223372036854775807) ∧ (2 < k → y6 = true ∧ x6 ≤ 9223372036854775807) ∧ (3 < k → y7 = true ∧ x7 ≤ 9223372036854775807)) (fun _ j _ => 4 - (Lib.intOf j).toNat)
    case atStart => exact ⟨0, by omega, rfl, World.ownsRow_nil _ _ _ _, Below.refl _ _, by omega, by omega, by omega, by omega⟩
    case round =>
      obtain ⟨k, hk, rfl, hown, hbw, g1, g2, g6, g7⟩ := hrel
      obtain ⟨p0, p1, p2, p3, p4, p5, p6, p7⟩ := QQ (sps E1 hbw E1.size)
      have z0 : wr.cell? ⟨w1.heap.size, 0, none⟩ = some (.int .i64 1) := (HA.below hbw).cell 0
      have z1 : wr.cell? ⟨w1.heap.size, 1, none⟩ = some (.int .i64 2) := (HA.below hbw).cell 1
      have z2 : wr.cell? ⟨w1.heap.size, 2, none⟩ = some (.int .i64 6) := (HA.below hbw).cell 2
      have z3 : wr.cell? ⟨w1.heap.size, 3, none⟩ = some (.int .i64 7) := (HA.below hbw).cell 3
      rcases (by omega : k = 0 ∨ k = 1 ∨ k = 2 ∨ k = 3 ∨ k = 4) with rfl | rfl | rfl | rfl | rfl
      · clear g1 g2 g6 g7
        cases y1
        · exact absurd hy1 (by simp)
        · by_cases hxx : x1 ≤ 9223372036854775807
          · have hw := w1' hxx
            have hxn : ¬ (9223372036854775807 : Int) < x1 := by omega
            go_wp2_with (first
              | (go_at_call 18; (with_reducible refine (h1 _).mono ?_); rintro e w3 ⟨rfl, hb⟩; replace hown := own_below hown hb; replace hbw := sps hbw hb hbw.size; clear hb)
              | (at_builtin; refine wpList_append_own _ rfl _ _ 49 rfl w2.heap.size 3 i0 (.int .i64 0) 1 8 Tryd.underlying49 hi hz0 hz1 hz2 rfl (by decide) _ _ _ rfl (hown.alloc _) ⟨_, 0, none⟩ 1 1 [.int .i64 x1] rfl rfl (one_news _ _ _) (one_i64 _) (by unfold maxLen; omega) (by omega) (by have := hbw.size; simp; omega) ?_; intro v' w' hown' hgrow _))
            go_wp2
            rw [← ta0.out] at hown'
            exact ⟨⟨1, by omega, rfl, hown', (hbw.alloc hbw.size _).grown hgrow (by have := hbw.size; simp; omega) (fun k e => by have := (hown.lt k e).1; omega), fun _ => ⟨by simp, hxx⟩, by omega, by omega, by omega⟩, by simp [Lib.intOf]⟩
          · exact absurd hx1 hxx
      · replace g1 := Lib.hid (g1 (by omega))
        clear g2 g6 g7
        cases y2
        · exact absurd hy2 (by simp)
        · by_cases hxx : x2 ≤ 9223372036854775807
          · have hw := w2' hxx
            have hxn : ¬ (9223372036854775807 : Int) < x2 := by omega
            go_wp2_with (first
              | (go_at_call 18; (with_reducible refine (h2 _).mono ?_); rintro e w3 ⟨rfl, hb⟩; replace hown := own_below hown hb; replace hbw := sps hbw hb hbw.size; clear hb)
              | (at_builtin; refine wpList_append_own _ rfl _ _ 49 rfl w2.heap.size 3 i0 (.int .i64 0) 1 8 Tryd.underlying49 hi hz0 hz1 hz2 rfl (by decide) _ _ _ rfl (hown.alloc _) ⟨_, 0, none⟩ 1 1 [.int .i64 x2] rfl rfl (one_news _ _ _) (one_i64 _) (by unfold maxLen; omega) (by omega) (by have := hbw.size; simp; omega) ?_; intro v' w' hown' hgrow _))
            go_wp2
            rw [← ta1.out] at hown'
            exact ⟨⟨2, by omega, rfl, hown', (hbw.alloc hbw.size _).grown hgrow (by have := hbw.size; simp; omega) (fun k e => by have := (hown.lt k e).1; omega), fun _ => g1.out, fun _ => ⟨by simp, hxx⟩, by omega, by omega⟩, by simp [Lib.intOf]⟩
          · exact absurd hx2 hxx
      · replace g1 := Lib.hid (g1 (by omega)); replace g2 := Lib.hid (g2 (by omega))
        clear g6 g7
        cases y6
        · obtain ⟨rfl, rfl⟩ := hno.out (by simp)
          go_wp2_with (go_at_call 18; (with_reducible refine (h6 _).mono ?_); rintro e w3 ⟨rfl, hb⟩; replace hown := own_below hown hb; replace hbw := sps hbw hb hbw.size; clear hb; obtain ⟨c0, c1, c2, c3, c4, c5, c6, c7, c8, c9, c10, c11, c12, c13⟩ := id (B.below hbw).at14; obtain ⟨t0, t1, t2, t3, t4, t5, t6, t7, t8, t9, t10, t11, t12, t13⟩ := id (B.below hbw).thaw14)
          exact bodyPost_ret (v := .tuple #[spW Sp.zero, .int .i64 2]) (by simp [results, Tryd.results7, go_sem, c0, c1, c2, c3, c4, c5, c6, c7, c8, c9, c10, c11, c12, c13, Sp.zero, Cw.zero]) rfl ⟨rfl, below14 (sps T hbw T.size) (Nat.le_refl _) _ _ _ _ _ _ _ _ _ _ _ _ _ _⟩
        · by_cases hxx : x6 ≤ 9223372036854775807
          · have hw := w6' hxx
            have hxn : ¬ (9223372036854775807 : Int) < x6 := by omega
            go_wp2_with (first
              | (go_at_call 18; (with_reducible refine (h6 _).mono ?_); rintro e w3 ⟨rfl, hb⟩; replace hown := own_below hown hb; replace hbw := sps hbw hb hbw.size; clear hb)
              | (at_builtin; refine wpList_append_own _ rfl _ _ 49 rfl w2.heap.size 3 i0 (.int .i64 0) 1 8 Tryd.underlying49 hi hz0 hz1 hz2 rfl (by decide) _ _ _ rfl (hown.alloc _) ⟨_, 0, none⟩ 1 1 [.int .i64 x6] rfl rfl (one_news _ _ _) (one_i64 _) (by unfold maxLen; omega) (by omega) (by have := hbw.size; simp; omega) ?_; intro v' w' hown' hgrow _))
            go_wp2
            rw [← ta2.out] at hown'
            exact ⟨⟨3, by omega, rfl, hown', (hbw.alloc hbw.size _).grown hgrow (by have := hbw.size; simp; omega) (fun k e => by have := (hown.lt k e).1; omega), fun _ => g1.out, fun _ => g2.out, fun _ => ⟨by simp, hxx⟩, by omega⟩, by simp [Lib.intOf]⟩
          · have hxn : (9223372036854775807 : Int) < x6 := by omega
            obtain ⟨rfl, rfl⟩ := hno.out (by simp; omega)
            go_wp2_with (go_at_call 18; (with_reducible refine (h6 _).mono ?_); rintro e w3 ⟨rfl, hb⟩; replace hown := own_below hown hb; replace hbw := sps hbw hb hbw.size; clear hb; obtain ⟨c0, c1, c2, c3, c4, c5, c6, c7, c8, c9, c10, c11, c12, c13⟩ := id (B.below hbw).at14; obtain ⟨t0, t1, t2, t3, t4, t5, t6, t7, t8, t9, t10, t11, t12, t13⟩ := id (B.below hbw).thaw14)
            exact bodyPost_ret (v := .tuple #[spW Sp.zero, .int .i64 2]) (by simp [results, Tryd.results7, go_sem, c0, c1, c2, c3, c4, c5, c6, c7, c8, c9, c10, c11, c12, c13, Sp.zero, Cw.zero]) rfl ⟨rfl, below14 (sps T hbw T.size) (Nat.le_refl _) _ _ _ _ _ _ _ _ _ _ _ _ _ _⟩
      · replace g1 := Lib.hid (g1 (by omega)); replace g2 := Lib.hid (g2 (by omega)); replace g6 := Lib.hid (g6 (by omega))
        clear g7
        cases y7
        · obtain ⟨rfl, rfl⟩ := hno.out (by simp)
          go_wp2_with (go_at_call 18; (with_reducible refine (h7 _).mono ?_); rintro e w3 ⟨rfl, hb⟩; replace hown := own_below hown hb; replace hbw := sps hbw hb hbw.size; clear hb; obtain ⟨c0, c1, c2, c3, c4, c5, c6, c7, c8, c9, c10, c11, c12, c13⟩ := id (B.below hbw).at14; obtain ⟨t0, t1, t2, t3, t4, t5, t6, t7, t8, t9, t10, t11, t12, t13⟩ := id (B.below hbw).thaw14)
          exact bodyPost_ret (v := .tuple #[spW Sp.zero, .int .i64 2]) (by simp [results, Tryd.results7, go_sem, c0, c1, c2, c3, c4, c5, c6, c7, c8, c9, c10, c11, c12, c13, Sp.zero, Cw.zero]) rfl ⟨rfl, below14 (sps T hbw T.size) (Nat.le_refl _) _ _ _ _ _ _ _ _ _ _ _ _ _ _⟩
        · by_cases hxx : x7 ≤ 9223372036854775807
          · have hw := w7' hxx
            have hxn : ¬ (9223372036854775807 : Int) < x7 := by omega
            go_wp2_with (first
              | (go_at_call 18; (with_reducible refine (h7 _).mono ?_); rintro e w3 ⟨rfl, hb⟩; replace hown := own_below hown hb; replace hbw := sps hbw hb hbw.size; clear hb)
              | (at_builtin; refine wpList_append_own _ rfl _ _ 49 rfl w2.heap.size 3 i0 (.int .i64 0) 1 8 Tryd.underlying49 hi hz0 hz1 hz2 rfl (by decide) _ _ _ rfl (hown.alloc _) ⟨_, 0, none⟩ 1 1 [.int .i64 x7] rfl rfl (one_news _ _ _) (one_i64 _) (by unfold maxLen; omega) (by omega) (by have := hbw.size; simp; omega) ?_; intro v' w' hown' hgrow _))
            go_wp2
            rw [← ta3.out] at hown'
            exact ⟨⟨4, by omega, rfl, hown', (hbw.alloc hbw.size _).grown hgrow (by have := hbw.size; simp; omega) (fun k e => by have := (hown.lt k e).1; omega), fun _ => g1.out, fun _ => g2.out, fun _ => g6.out, fun _ => ⟨by simp, hxx⟩⟩, by simp [Lib.intOf]⟩
          · have hxn : (9223372036854775807 : Int) < x7 := by omega
            obtain ⟨rfl, rfl⟩ := hno.out (by simp; omega)
            go_wp2_with (go_at_call 18; (with_reducible refine (h7 _).mono ?_); rintro e w3 ⟨rfl, hb⟩; replace hown := own_below hown hb; replace hbw := sps hbw hb hbw.size; clear hb; obtain ⟨c0, c1, c2, c3, c4, c5, c6, c7, c8, c9, c10, c11, c12, c13⟩ := id (B.below hbw).at14; obtain ⟨t0, t1, t2, t3, t4, t5, t6, t7, t8, t9, t10, t11, t12, t13⟩ := id (B.below hbw).thaw14)
            exact bodyPost_ret (v := .tuple #[spW Sp.zero, .int .i64 2]) (by simp [results, Tryd.results7, go_sem, c0, c1, c2, c3, c4, c5, c6, c7, c8, c9, c10, c11, c12, c13, Sp.zero, Cw.zero]) rfl ⟨rfl, below14 (sps T hbw T.size) (Nat.le_refl _) _ _ _ _ _ _ _ _ _ _ _ _ _ _⟩
      · replace g1 := Lib.hid (g1 (by omega)); replace g2 := Lib.hid (g2 (by omega)); replace g6 := Lib.hid (g6 (by omega)); replace g7 := Lib.hid (g7 (by omega))
        rw [show L.take 4 = L by rw [hL.out]; rfl, hL.out] at hown
        obtain ⟨g2', cap2, rfl, hg2, hlt2, hcap2, _, hc2⟩ := own_some hown (by omega)
        have v0 : wr.cell? ⟨g2', 0, none⟩ = some (.int .i64 x1) := by have := hc2 0 (.int .i64 x1) rfl; rwa [Lib.add_plain] at this
        have v1 : wr.cell? ⟨g2', 1, none⟩ = some (.int .i64 x2) := by have := hc2 1 (.int .i64 x2) rfl; rwa [Lib.add_plain] at this
        have v2 : wr.cell? ⟨g2', 2, none⟩ = some (.int .i64 x6) := by have := hc2 2 (.int .i64 x6) rfl; rwa [Lib.add_plain] at this
        have v3 : wr.cell? ⟨g2', 3, none⟩ = some (.int .i64 x7) := by have := hc2 3 (.int .i64 x7) rfl; rwa [Lib.add_plain] at this
        clear hown hc2 z0 z1 z2 z3
        have F := Below.refl wr.heap.size wr
        have hsw := hbw.size
        go_upto_region 16 with (first
          | (go_at_call 9; (with_reducible refine (h3 _).mono ?_); rintro e u3 ⟨rfl, hb⟩; replace F := sps F hb F.size; clear hb; have C3 := Bl.new u3 24 #[.int .u64 x.f, .int .u64 x.l, .int .u64 x.r]; replace F := F.alloc F.size (.cells #[.int .u64 x.f, .int .u64 x.l, .int .u64 x.r] 24); clear p0 p1 p2 p3 p4 p5 p6 p7; obtain ⟨p0, p1, p2, p3, p4, p5, p6, p7⟩ := QQ (sps E1 (sps hbw F hsw) E1.size))
          | (go_at_call 9; (with_reducible refine (h4 _).mono ?_); rintro e u4 ⟨rfl, hb⟩; replace C3 := C3.below hb; replace F := sps F hb F.size; clear hb; have C4 := Bl.new u4 24 #[.int .u64 y.f, .int .u64 y.l, .int .u64 y.r]; replace C3 := C3.alloc (.cells #[.int .u64 y.f, .int .u64 y.l, .int .u64 y.r] 24); replace F := F.alloc F.size (.cells #[.int .u64 y.f, .int .u64 y.l, .int .u64 y.r] 24); clear p0 p1 p2 p3 p4 p5 p6 p7; obtain ⟨p0, p1, p2, p3, p4, p5, p6, p7⟩ := QQ (sps E1 (sps hbw F hsw) E1.size))
          | (go_at_call 9; (with_reducible refine (h5 _).mono ?_); rintro e u5 ⟨rfl, hb⟩; replace C3 := C3.below hb; replace C4 := C4.below hb; replace F := sps F hb F.size; clear hb; have C5 := Bl.new u5 24 #[.int .u64 z.f, .int .u64 z.l, .int .u64 z.r]; replace C3 := C3.alloc (.cells #[.int .u64 z.f, .int .u64 z.l, .int .u64 z.r] 24); replace C4 := C4.alloc (.cells #[.int .u64 z.f, .int .u64 z.l, .int .u64 z.r] 24); replace F := F.alloc F.size (.cells #[.int .u64 z.f, .int .u64 z.l, .int .u64 z.r] 24); clear p0 p1 p2 p3 p4 p5 p6 p7; obtain ⟨p0, p1, p2, p3, p4, p5, p6, p7⟩ := QQ (sps E1 (sps hbw F hsw) E1.size)))
        have B' := B.below (sps hbw F hsw)
        have T' := sps T (sps hbw F hsw) T.size
        have o0 := (F.cell (p := ⟨g2', 0, none⟩) hlt2).trans v0
        have o1 := (F.cell (p := ⟨g2', 1, none⟩) hlt2).trans v1
        have o2 := (F.cell (p := ⟨g2', 2, none⟩) hlt2).trans v2
        have o3 := (F.cell (p := ⟨g2', 3, none⟩) hlt2).trans v3
        generalize u5.alloc (.cells #[.int .u64 z.f, .int .u64 z.l, .int .u64 z.r] 24) = U at B' T' C3 C4 C5 p0 p1 p2 p3 p4 p5 p6 p7 o0 o1 o2 o3 ⊢
        clear F v0 v1 v2 v3
        obtain ⟨c30, c31, c32, _, _, _⟩ := id C3.tri3
        obtain ⟨c40, c41, c42, _, _, _⟩ := id C4.tri3
        obtain ⟨c50, c51, c52, _, _, _⟩ := id C5.tri3
        obtain ⟨c0, c1, c2, c3, c4, c5, c6, c7, c8, c9, c10, c11, c12, c13⟩ := id B'.at14
        obtain ⟨t0, t1, t2, t3, t4, t5, t6, t7, t8, t9, t10, t11, t12, t13⟩ := id B'.thaw14
        have D := B'.drew
        have TD : Below w.heap.size w U.drew := T'.drew
        clear C3 C4 C5 B'
        by_cases h345 : e3 = 0 ∧ e4 = 0 ∧ e5 = 0
        · obtain ⟨rfl, rfl, rfl⟩ := h345
          obtain ⟨rfl, rfl⟩ := hyes.out ⟨by simp, g1.out, g2.out, g6.out, g7.out, rfl, rfl, rfl⟩
          go_upto_region 18 with (fail)
          go_still_tail 20, (by kernel_rfl)
          change wpList _ _ _ _ _ U.drew
          clear c0 c1 c2 c3 c4 c5 c6 c7 c8 c9 c10 c11 c12 c13 t0 t1 t2 t3 t4 t5 t6 t7 t8 t9 t10 t11 t12 t13 T' c30 c31 c32 c40 c41 c42 c50 c51 c52 p0 p1 p2 p3 p4 p5 p6 p7 o0 o1 o2 o3
          obtain ⟨c0, c1, c2, c3, c4, c5, c6, c7, c8, c9, c10, c11, c12, c13⟩ := id D.at14
          obtain ⟨t0, t1, t2, t3, t4, t5, t6, t7, t8, t9, t10, t11, t12, t13⟩ := id D.thaw14
          clear D
          generalize U.drew = U2 at TD c0 c1 c2 c3 c4 c5 c6 c7 c8 c9 c10 c11 c12 c13 t0 t1 t2 t3 t4 t5 t6 t7 t8 t9 t10 t11 t12 t13 ⊢
          go_wp2
          exact bodyPost_ret (v := .tuple #[spW ⟨x1, x2, true, x, y, z, x6, x7⟩, .int .i64 0]) (by simp [results, Tryd.results7, go_sem, c0, c1, c2, c3, c4, c5, c6, c7, c8, c9, c10, c11, c12, c13]) rfl ⟨rfl, below14 TD (Nat.le_refl _) _ _ _ _ _ _ _ _ _ _ _ _ _ _⟩
        · obtain ⟨rfl, rfl⟩ := hno.out (fun h => h345 ⟨h.2.2.2.2.2.1, h.2.2.2.2.2.2.1, h.2.2.2.2.2.2.2⟩)
          by_cases z3 : e3 = 0
          · by_cases z4 : e4 = 0
            · have z5 : ¬ e5 = 0 := fun h => h345 ⟨z3, z4, h⟩
              subst z3 z4
              go_wp2
              exact bodyPost_ret (v := .tuple #[spW Sp.zero, .int .i64 2]) (by simp [results, Tryd.results7, go_sem, c0, c1, c2, c3, c4, c5, c6, c7, c8, c9, c10, c11, c12, c13, Sp.zero, Cw.zero]) rfl ⟨rfl, below14 T' (Nat.le_refl _) _ _ _ _ _ _ _ _ _ _ _ _ _ _⟩
            · subst z3
              go_wp2
              exact bodyPost_ret (v := .tuple #[spW Sp.zero, .int .i64 2]) (by simp [results, Tryd.results7, go_sem, c0, c1, c2, c3, c4, c5, c6, c7, c8, c9, c10, c11, c12, c13, Sp.zero, Cw.zero]) rfl ⟨rfl, below14 T' (Nat.le_refl _) _ _ _ _ _ _ _ _ _ _ _ _ _ _⟩
          · go_wp2
            exact bodyPost_ret (v := .tuple #[spW Sp.zero, .int .i64 2]) (by simp [results, Tryd.results7, go_sem, c0, c1, c2, c3, c4, c5, c6, c7, c8, c9, c10, c11, c12, c13, Sp.zero, Cw.zero]) rfl ⟨rfl, below14 T' (Nat.le_refl _) _ _ _ _ _ _ _ _ _ _ _ _ _ _⟩
end Go.Proofs.YtkcmfcgoknhodaaDoor
