/- SpecBack's walk. Condition: the library's tables and errors are laid; the numbers are what the fields can hold. -/
import Derived.Test.YtkcmfcgoknhodaaGreatDoorSwA
namespace Go.Proofs.YtkcmfcgoknhodaaGreatDoor
open Go.RowKit Go.Lib W
set_option linter.unusedVariables false
theorem good_iff (p : Sp) : (decide (0 ≤ p.id) && decide (0 ≤ p.par) && decide (0 ≤ p.pk) && decide (0 ≤ p.bt)) = true ↔ p.good := by
  unfold Sp.good; simp [and_assoc]
theorem bs_size (l : List UInt8) : (bs l).size = l.length := by simp [ByteArray.size]
set_option maxHeartbeats 16000000 in
set_option maxRecDepth 100000 in
theorem SpecBack_walk (p : Sp) (s : ByteArray) (w : World) (hl : Lw w) (hp : p.ok) :
    Calls Tryz.prog 3 #[spW p, .string s] w fun e w' => e = .returned (.bool true) ∧ Below w.heap.size w w' := by
  have hA := awake_any
  have B := Bl.new w TSp (spA p)
  have T := up1 w (.cells (spA p) TSp)
  by_cases h400 : s.size ≤ 400
  · have h4 : ¬ (400 : Int) < (s.size : Int) := by omega
    obtain ⟨r, f, hr, hP2⟩ := Parse_any s (by omega)
    have hrok := hr.ok
    -- what comes of the text
    have hP2' : (f = 0 ∧ r.good ∧ s = bs (txt r)) ∨ (f = 2 ∧ r = Sp.zero) := by
      rcases hr with ⟨_, g, e, e0⟩ | ⟨_, e, e2⟩
      · exact .inl ⟨e0, g, by rw [← e, bs_of]⟩
      · exact .inr ⟨e2, e⟩
    by_cases g : p.good
    · have hT := fun w hl => Text_good p hp g w hl
      have hsz := txt_short p hp g
      obtain ⟨r1, f1, hr1, hP1⟩ := Parse_any (bs (txt p)) (by rw [bs_size]; omega)
      obtain ⟨rfl, rfl⟩ := IsS.of_txt hp g hr1
      obtain ⟨g1, g2, g3, g4⟩ := g
      clear hr1 hr
      generalize bs (txt r1) = D at hT hP1
      rcases hP2' with ⟨rfl, gr, hs2⟩ | ⟨rfl, rfl⟩
      · have hT2 := fun w hl => Text_good r hrok gr w hl
        rw [← hs2] at hT2
        clear hs2 gr
        as_aux_lemma =>
          go_enter Tryz.func3, Tryz.ntmps3
          go_wp2_with (first
            | (go_at_call 7; (with_reducible refine (hA _ (hl.below T)).mono ?_); rintro e w1 ⟨rfl, hb⟩; replace B := B.below hb; replace T := sps T hb T.size; clear hb; obtain ⟨a0, a1, a2, a3, a4, a5, a6, a7, a8, a9, a10, a11, a12, a13⟩ := id B.at14)
            | (go_at_call 8; (with_reducible refine (hT _ (hl.below T)).mono ?_); rintro e w2 ⟨rfl, hb⟩; replace B := B.below hb; replace T := sps T hb T.size; clear hb; obtain ⟨b0, b1, b2, b3, b4, b5, b6, b7, b8, b9, b10, b11, b12, b13⟩ := id B.at14)
            | (go_at_call 9; (with_reducible refine (hP1 _ (hl.below T)).mono ?_); rintro e w3 ⟨rfl, hb⟩; replace B := B.below hb; replace T := sps T hb T.size; clear hb; have C := Bl.new w3 TSp (spA r1); replace B := B.alloc (.cells (spA r1) TSp); replace T := T.alloc T.size (.cells (spA r1) TSp); obtain ⟨d0, d1, d2, d3, d4, d5, d6, d7, d8, d9, d10, d11, d12, d13⟩ := id B.at14; obtain ⟨j0, j1, j2, j3, j4, j5, j6, j7, j8, j9, j10, j11, j12, j13⟩ := id C.at14)
            | (go_at_call 9; (with_reducible refine (hP2 _ (hl.below T)).mono ?_); rintro e w4 ⟨rfl, hb⟩; replace T := sps T hb T.size; clear hb; have G := Bl.new w4 TSp (spA r); replace T := T.alloc T.size (.cells (spA r) TSp); obtain ⟨k0, k1, k2, k3, k4, k5, k6, k7, k8, k9, k10, k11, k12, k13⟩ := id G.at14)
            | (go_at_call 8; (with_reducible refine (hT2 _ (hl.below T)).mono ?_); rintro e w5 ⟨rfl, hb⟩; replace T := sps T hb T.size; clear hb))
          go_ret
          exact ⟨by simp, T⟩
      · as_aux_lemma =>
          go_enter Tryz.func3, Tryz.ntmps3
          go_wp2_with (first
            | (go_at_call 7; (with_reducible refine (hA _ (hl.below T)).mono ?_); rintro e w1 ⟨rfl, hb⟩; replace B := B.below hb; replace T := sps T hb T.size; clear hb; obtain ⟨a0, a1, a2, a3, a4, a5, a6, a7, a8, a9, a10, a11, a12, a13⟩ := id B.at14)
            | (go_at_call 8; (with_reducible refine (hT _ (hl.below T)).mono ?_); rintro e w2 ⟨rfl, hb⟩; replace B := B.below hb; replace T := sps T hb T.size; clear hb; obtain ⟨b0, b1, b2, b3, b4, b5, b6, b7, b8, b9, b10, b11, b12, b13⟩ := id B.at14)
            | (go_at_call 9; (with_reducible refine (hP1 _ (hl.below T)).mono ?_); rintro e w3 ⟨rfl, hb⟩; replace B := B.below hb; replace T := sps T hb T.size; clear hb; have C := Bl.new w3 TSp (spA r1); replace B := B.alloc (.cells (spA r1) TSp); replace T := T.alloc T.size (.cells (spA r1) TSp); obtain ⟨d0, d1, d2, d3, d4, d5, d6, d7, d8, d9, d10, d11, d12, d13⟩ := id B.at14; obtain ⟨j0, j1, j2, j3, j4, j5, j6, j7, j8, j9, j10, j11, j12, j13⟩ := id C.at14)
            | (go_at_call 9; (with_reducible refine (hP2 _ (hl.below T)).mono ?_); rintro e w4 ⟨rfl, hb⟩; replace T := sps T hb T.size; clear hb; have G := Bl.new w4 TSp (spA Sp.zero); replace T := T.alloc T.size (.cells (spA Sp.zero) TSp); obtain ⟨k0, k1, k2, k3, k4, k5, k6, k7, k8, k9, k10, k11, k12, k13⟩ := id G.at14))
          go_ret
          exact ⟨by simp, T⟩
    · have hT := fun w => Text_bad p g w
      have gb : p.id < 0 ∨ p.par < 0 ∨ p.pk < 0 ∨ p.bt < 0 := by
        unfold Sp.good at g; omega
      clear hr g
      rcases hP2' with ⟨rfl, gr, hs2⟩ | ⟨rfl, rfl⟩
      · have hT2 := fun w hl => Text_good r hrok gr w hl
        rw [← hs2] at hT2
        clear hs2 gr
        by_cases i1 : p.id < 0
        · as_aux_lemma =>
            go_enter Tryz.func3, Tryz.ntmps3
            go_wp2_with (first
              | (go_at_call 7; (with_reducible refine (hA _ (hl.below T)).mono ?_); rintro e w1 ⟨rfl, hb⟩; replace B := B.below hb; replace T := sps T hb T.size; clear hb; obtain ⟨a0, a1, a2, a3, a4, a5, a6, a7, a8, a9, a10, a11, a12, a13⟩ := id B.at14)
              | (go_at_call 8; (with_reducible refine (hT _).mono ?_); rintro e w2 ⟨rfl, hb⟩; replace B := B.below hb; replace T := sps T hb T.size; clear hb; obtain ⟨b0, b1, b2, b3, b4, b5, b6, b7, b8, b9, b10, b11, b12, b13⟩ := id B.at14)
              | (go_at_call 9; (with_reducible refine (hP2 _ (hl.below T)).mono ?_); rintro e w4 ⟨rfl, hb⟩; replace T := sps T hb T.size; clear hb; have G := Bl.new w4 TSp (spA r); replace T := T.alloc T.size (.cells (spA r) TSp); obtain ⟨k0, k1, k2, k3, k4, k5, k6, k7, k8, k9, k10, k11, k12, k13⟩ := id G.at14)
              | (go_at_call 8; (with_reducible refine (hT2 _ (hl.below T)).mono ?_); rintro e w5 ⟨rfl, hb⟩; replace T := sps T hb T.size; clear hb))
            go_ret
            exact ⟨by simp, T⟩
        by_cases i2 : p.par < 0
        · as_aux_lemma =>
            go_enter Tryz.func3, Tryz.ntmps3
            go_wp2_with (first
              | (go_at_call 7; (with_reducible refine (hA _ (hl.below T)).mono ?_); rintro e w1 ⟨rfl, hb⟩; replace B := B.below hb; replace T := sps T hb T.size; clear hb; obtain ⟨a0, a1, a2, a3, a4, a5, a6, a7, a8, a9, a10, a11, a12, a13⟩ := id B.at14)
              | (go_at_call 8; (with_reducible refine (hT _).mono ?_); rintro e w2 ⟨rfl, hb⟩; replace B := B.below hb; replace T := sps T hb T.size; clear hb; obtain ⟨b0, b1, b2, b3, b4, b5, b6, b7, b8, b9, b10, b11, b12, b13⟩ := id B.at14)
              | (go_at_call 9; (with_reducible refine (hP2 _ (hl.below T)).mono ?_); rintro e w4 ⟨rfl, hb⟩; replace T := sps T hb T.size; clear hb; have G := Bl.new w4 TSp (spA r); replace T := T.alloc T.size (.cells (spA r) TSp); obtain ⟨k0, k1, k2, k3, k4, k5, k6, k7, k8, k9, k10, k11, k12, k13⟩ := id G.at14)
              | (go_at_call 8; (with_reducible refine (hT2 _ (hl.below T)).mono ?_); rintro e w5 ⟨rfl, hb⟩; replace T := sps T hb T.size; clear hb))
            go_ret
            exact ⟨by simp, T⟩
        by_cases i3 : p.pk < 0
        · as_aux_lemma =>
            go_enter Tryz.func3, Tryz.ntmps3
            go_wp2_with (first
              | (go_at_call 7; (with_reducible refine (hA _ (hl.below T)).mono ?_); rintro e w1 ⟨rfl, hb⟩; replace B := B.below hb; replace T := sps T hb T.size; clear hb; obtain ⟨a0, a1, a2, a3, a4, a5, a6, a7, a8, a9, a10, a11, a12, a13⟩ := id B.at14)
              | (go_at_call 8; (with_reducible refine (hT _).mono ?_); rintro e w2 ⟨rfl, hb⟩; replace B := B.below hb; replace T := sps T hb T.size; clear hb; obtain ⟨b0, b1, b2, b3, b4, b5, b6, b7, b8, b9, b10, b11, b12, b13⟩ := id B.at14)
              | (go_at_call 9; (with_reducible refine (hP2 _ (hl.below T)).mono ?_); rintro e w4 ⟨rfl, hb⟩; replace T := sps T hb T.size; clear hb; have G := Bl.new w4 TSp (spA r); replace T := T.alloc T.size (.cells (spA r) TSp); obtain ⟨k0, k1, k2, k3, k4, k5, k6, k7, k8, k9, k10, k11, k12, k13⟩ := id G.at14)
              | (go_at_call 8; (with_reducible refine (hT2 _ (hl.below T)).mono ?_); rintro e w5 ⟨rfl, hb⟩; replace T := sps T hb T.size; clear hb))
            go_ret
            exact ⟨by simp, T⟩
        have i4 : p.bt < 0 := by omega
        as_aux_lemma =>
          go_enter Tryz.func3, Tryz.ntmps3
          go_wp2_with (first
            | (go_at_call 7; (with_reducible refine (hA _ (hl.below T)).mono ?_); rintro e w1 ⟨rfl, hb⟩; replace B := B.below hb; replace T := sps T hb T.size; clear hb; obtain ⟨a0, a1, a2, a3, a4, a5, a6, a7, a8, a9, a10, a11, a12, a13⟩ := id B.at14)
            | (go_at_call 8; (with_reducible refine (hT _).mono ?_); rintro e w2 ⟨rfl, hb⟩; replace B := B.below hb; replace T := sps T hb T.size; clear hb; obtain ⟨b0, b1, b2, b3, b4, b5, b6, b7, b8, b9, b10, b11, b12, b13⟩ := id B.at14)
            | (go_at_call 9; (with_reducible refine (hP2 _ (hl.below T)).mono ?_); rintro e w4 ⟨rfl, hb⟩; replace T := sps T hb T.size; clear hb; have G := Bl.new w4 TSp (spA r); replace T := T.alloc T.size (.cells (spA r) TSp); obtain ⟨k0, k1, k2, k3, k4, k5, k6, k7, k8, k9, k10, k11, k12, k13⟩ := id G.at14)
            | (go_at_call 8; (with_reducible refine (hT2 _ (hl.below T)).mono ?_); rintro e w5 ⟨rfl, hb⟩; replace T := sps T hb T.size; clear hb))
          go_ret
          exact ⟨by simp, T⟩
      · by_cases i1 : p.id < 0
        · as_aux_lemma =>
            go_enter Tryz.func3, Tryz.ntmps3
            go_wp2_with (first
              | (go_at_call 7; (with_reducible refine (hA _ (hl.below T)).mono ?_); rintro e w1 ⟨rfl, hb⟩; replace B := B.below hb; replace T := sps T hb T.size; clear hb; obtain ⟨a0, a1, a2, a3, a4, a5, a6, a7, a8, a9, a10, a11, a12, a13⟩ := id B.at14)
              | (go_at_call 8; (with_reducible refine (hT _).mono ?_); rintro e w2 ⟨rfl, hb⟩; replace B := B.below hb; replace T := sps T hb T.size; clear hb; obtain ⟨b0, b1, b2, b3, b4, b5, b6, b7, b8, b9, b10, b11, b12, b13⟩ := id B.at14)
              | (go_at_call 9; (with_reducible refine (hP2 _ (hl.below T)).mono ?_); rintro e w4 ⟨rfl, hb⟩; replace T := sps T hb T.size; clear hb; have G := Bl.new w4 TSp (spA Sp.zero); replace T := T.alloc T.size (.cells (spA Sp.zero) TSp); obtain ⟨k0, k1, k2, k3, k4, k5, k6, k7, k8, k9, k10, k11, k12, k13⟩ := id G.at14))
            go_ret
            exact ⟨by simp, T⟩
        by_cases i2 : p.par < 0
        · as_aux_lemma =>
            go_enter Tryz.func3, Tryz.ntmps3
            go_wp2_with (first
              | (go_at_call 7; (with_reducible refine (hA _ (hl.below T)).mono ?_); rintro e w1 ⟨rfl, hb⟩; replace B := B.below hb; replace T := sps T hb T.size; clear hb; obtain ⟨a0, a1, a2, a3, a4, a5, a6, a7, a8, a9, a10, a11, a12, a13⟩ := id B.at14)
              | (go_at_call 8; (with_reducible refine (hT _).mono ?_); rintro e w2 ⟨rfl, hb⟩; replace B := B.below hb; replace T := sps T hb T.size; clear hb; obtain ⟨b0, b1, b2, b3, b4, b5, b6, b7, b8, b9, b10, b11, b12, b13⟩ := id B.at14)
              | (go_at_call 9; (with_reducible refine (hP2 _ (hl.below T)).mono ?_); rintro e w4 ⟨rfl, hb⟩; replace T := sps T hb T.size; clear hb; have G := Bl.new w4 TSp (spA Sp.zero); replace T := T.alloc T.size (.cells (spA Sp.zero) TSp); obtain ⟨k0, k1, k2, k3, k4, k5, k6, k7, k8, k9, k10, k11, k12, k13⟩ := id G.at14))
            go_ret
            exact ⟨by simp, T⟩
        by_cases i3 : p.pk < 0
        · as_aux_lemma =>
            go_enter Tryz.func3, Tryz.ntmps3
            go_wp2_with (first
              | (go_at_call 7; (with_reducible refine (hA _ (hl.below T)).mono ?_); rintro e w1 ⟨rfl, hb⟩; replace B := B.below hb; replace T := sps T hb T.size; clear hb; obtain ⟨a0, a1, a2, a3, a4, a5, a6, a7, a8, a9, a10, a11, a12, a13⟩ := id B.at14)
              | (go_at_call 8; (with_reducible refine (hT _).mono ?_); rintro e w2 ⟨rfl, hb⟩; replace B := B.below hb; replace T := sps T hb T.size; clear hb; obtain ⟨b0, b1, b2, b3, b4, b5, b6, b7, b8, b9, b10, b11, b12, b13⟩ := id B.at14)
              | (go_at_call 9; (with_reducible refine (hP2 _ (hl.below T)).mono ?_); rintro e w4 ⟨rfl, hb⟩; replace T := sps T hb T.size; clear hb; have G := Bl.new w4 TSp (spA Sp.zero); replace T := T.alloc T.size (.cells (spA Sp.zero) TSp); obtain ⟨k0, k1, k2, k3, k4, k5, k6, k7, k8, k9, k10, k11, k12, k13⟩ := id G.at14))
            go_ret
            exact ⟨by simp, T⟩
        have i4 : p.bt < 0 := by omega
        as_aux_lemma =>
          go_enter Tryz.func3, Tryz.ntmps3
          go_wp2_with (first
            | (go_at_call 7; (with_reducible refine (hA _ (hl.below T)).mono ?_); rintro e w1 ⟨rfl, hb⟩; replace B := B.below hb; replace T := sps T hb T.size; clear hb; obtain ⟨a0, a1, a2, a3, a4, a5, a6, a7, a8, a9, a10, a11, a12, a13⟩ := id B.at14)
            | (go_at_call 8; (with_reducible refine (hT _).mono ?_); rintro e w2 ⟨rfl, hb⟩; replace B := B.below hb; replace T := sps T hb T.size; clear hb; obtain ⟨b0, b1, b2, b3, b4, b5, b6, b7, b8, b9, b10, b11, b12, b13⟩ := id B.at14)
            | (go_at_call 9; (with_reducible refine (hP2 _ (hl.below T)).mono ?_); rintro e w4 ⟨rfl, hb⟩; replace T := sps T hb T.size; clear hb; have G := Bl.new w4 TSp (spA Sp.zero); replace T := T.alloc T.size (.cells (spA Sp.zero) TSp); obtain ⟨k0, k1, k2, k3, k4, k5, k6, k7, k8, k9, k10, k11, k12, k13⟩ := id G.at14))
          go_ret
          exact ⟨by simp, T⟩
  · have h4 : (400 : Int) < (s.size : Int) := by omega
    go_enter Tryz.func3, Tryz.ntmps3
    go_wp2_with (go_at_call 7; (with_reducible refine (hA _ (hl.below T)).mono ?_); rintro e w1 ⟨rfl, hb⟩; replace T := sps T hb T.size; clear hb)
    go_ret
    exact ⟨rfl, T⟩
end Go.Proofs.YtkcmfcgoknhodaaGreatDoor
