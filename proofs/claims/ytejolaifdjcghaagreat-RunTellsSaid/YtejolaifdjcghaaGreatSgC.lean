/- When a copy has so much; what is asked of copies; a search by halves. -/
import Derived.Test.YtejolaifdjcghaaGreatSgH
namespace Go.Proofs.YtejolaifdjcghaaGreat
open Go.RowKit Go.Shelf W
set_option linter.unusedVariables false
set_option maxRecDepth 100000
namespace W
/-- From which tick on a copy has y: at v, or never below Never. -/
def IsFrom (f l r : Int) (k : Int × Int) (y v : Int) : Prop := k.1 ≤ v ∧ v ≤ 9223372036854775808 ∧ ∀ t, k.1 ≤ t → t < 9223372036854775808 → (y ≤ hv f l r k t ↔ v ≤ t)
theorem from_reach {f l r y n : Int} {k : Int × Int} (hf : 0 ≤ f) (hr : 0 ≤ r) (hl : 0 ≤ l) (k0 : 0 ≤ k.1 ∧ k.1 ≤ 9223372036854775808) (k1 : 0 ≤ k.2) (hy : y ≤ 4611686018427387904) (hn : IsReach f l r (rM y k.2) n) :
    IsFrom f l r k y (k.1 + min n (9223372036854775808 - k.1)) := by
  have rg : 0 ≤ n ∧ n ≤ 9223372036854775808 := by rcases hn with ⟨rfl, _⟩ | ⟨h1, h2, _⟩ <;> omega
  refine ⟨by omega, by omega, fun t h1 h2 => ?_⟩
  have d0 : 0 ≤ t - k.1 := by omega
  have c0 := cW_nn hf hr hl d0
  have hz : rM y k.2 ≤ cAt f l r (t - k.1) ↔ y ≤ hv f l r k t := by
    unfold cAt hv rM
    have h4 := stp_or (cW f l r (t - k.1))
    split
    · omega
    · have h3 := stp_or (y - k.2); omega
  rw [← hz]
  rcases hn with ⟨rfl, h⟩ | ⟨a0, a1, a2, a3⟩
  · have := cAt_mono (L := l) hf hr d0 (show t - k.1 ≤ 9223372036854775807 by omega)
    omega
  · constructor
    · intro h
      rcases Int.lt_or_le (t - k.1) n with hl | hl
      · rcases a3 with a3 | a3
        · omega
        · have := cAt_mono (L := l) hf hr d0 (show t - k.1 ≤ n - 1 by omega); omega
      · omega
    · intro h
      have := cAt_mono (L := l) hf hr a0 (show n ≤ t - k.1 by omega); omega
end W
set_option maxHeartbeats 1000000 in
theorem b_reach_of (x y0 f l r y m n d q v : Int) (w : World) (hd : IntKind.u64.wrap (9223372036854775808 - x) = d) (hq : min n d = q) (hv : IntKind.u64.wrap (x + q) = v)
    (hM : ∀ w, Calls Tryz.prog 38 #[eU y, eU y0] w fun e w' => e = .returned (eU m) ∧ Below w.heap.size w w')
    (hR : ∀ w, Calls Tryz.prog 85 #[.agg #[eU f, eU l, eU r], eU m] w fun e w' => e = .returned (eU n) ∧ Below w.heap.size w w') :
    Calls Tryz.prog 116 #[.agg #[eU x, eU y0], .agg #[eU f, eU l, eU r], eU y] w fun e w' => e = .returned (eU v) ∧ Below w.heap.size w w' := by
  have B1 := (Box.new w 136 #[eU x, eU y0]).alloc (.cells #[eU f, eU l, eU r] 24)
  have B2 := Box.new (w.alloc (.cells #[eU x, eU y0] 136)) 24 #[eU f, eU l, eU r]
  have T := up2 w (.cells #[eU x, eU y0] 136) (.cells #[eU f, eU l, eU r] 24)
  simp only [World.size_alloc] at B2
  go_enter Tryz.func116, Tryz.ntmps116
  go_upto_region 1 with (fail)
  obtain ⟨c0, c1⟩ := B1.two
  obtain ⟨c2, c3, c4⟩ := B2.three
  go_region_held3 (fun w' => (w'.cell? ⟨w.heap.size, 0, none⟩ = some (.int .u64 x) ∧ w'.cell? ⟨w.heap.size, 1, none⟩ = some (.int .u64 y0)) ∧ w'.cell? ⟨w.heap.size + 1, 0, none⟩ = some (.int .u64 f) ∧ w'.cell? ⟨w.heap.size + 1, 1, none⟩ = some (.int .u64 l) ∧ w'.cell? ⟨w.heap.size + 1, 2, none⟩ = some (.int .u64 r))
    (first | exact ⟨⟨c0, c1⟩, c2, c3, c4⟩ | exact ⟨(B1.below hb2).two, (B2.below hb2).three⟩ | exact ⟨(B1.below (up hb2 hb3 hb2.size)).two, (B2.below (up hb2 hb3 hb2.size)).three⟩)
    (first
      | (go_at_call 38; (with_reducible refine (hM _).mono ?_); rintro e w2 ⟨rfl, hb2⟩; (first | replace hb2 := undrew hb2 | replace hb2 := undrewN hb2 | skip))
      | (go_at_call 85; (with_reducible refine (hR _).mono ?_); rintro e w3 ⟨rfl, hb3⟩; (first | replace hb3 := undrew hb3 | replace hb3 := undrewN hb3 | skip)))
  clear c0 c1
  obtain ⟨c0, c1⟩ := (B1.below (up hb2 hb3 hb2.size)).two
  go_wp2
  go_ret
  exact ⟨rfl, up (up T hb2 T.size) hb3 (up T hb2 T.size).size⟩
theorem b_reach_any (k : Int × Int) (f l r y : Int) (w : World) (hk0 : 0 ≤ k.1 ∧ k.1 ≤ 9223372036854775808) (hk1 : Word k.2) (hf : Word f) (hl : Word l) (hr : Word r) (hm : cMay f l r) (hy : Word y) (hy2 : y ≤ 4611686018427387904) :
    Calls Tryz.prog 116 #[.agg #[eU k.1, eU k.2], .agg #[eU f, eU l, eU r], eU y] w fun e w' => (∃ v, e = .returned (eU v) ∧ IsFrom f l r k y v) ∧ Below w.heap.size w w' := by
  obtain ⟨n, hn⟩ := reach_ex f l r (rM y k.2) hf hl hr
  have rg : 0 ≤ n ∧ n ≤ 9223372036854775808 := by rcases hn with ⟨rfl, _⟩ | ⟨h1, h2, _⟩ <;> omega
  have h := from_reach hf.1 hr.1 hl.1 hk0 hk1.1 hy2 hn
  refine (b_reach_of k.1 k.2 f l r y _ n _ _ _ w (u64_id _ ⟨by omega, by omega⟩) rfl (u64_id _ ⟨by omega, by omega⟩) (fun w => rMinus'_any y k.2 w hy hk1) (fun w => Reach_is f l r _ n w hf hl hr ⟨rM_nn, by have := @rM_le y k.2; omega⟩ hm hn)).mono ?_
  rintro e w' ⟨rfl, hb⟩
  exact ⟨⟨_, rfl, h⟩, hb⟩
theorem t_least_any (x y l t : Int) (C D : Nat) (w : World) (hC : w.cell? ⟨C, 1, none⟩ = some (.int .u64 l)) (hD : w.cell? ⟨D, 0, none⟩ = some (.int .u64 t)) (hC0 : C < w.heap.size) (hD0 : D < w.heap.size) (hs : IntKind.u64.wrap (x + l) = x + l) :
    Calls Tryz.prog 113 #[.agg #[eU x, eU y], .pointer (some ⟨C, 0, none⟩), .pointer (some ⟨D, 0, none⟩)] w fun e w' => e = .returned (.bool (decide (t < x + l))) ∧ Below w.heap.size w w' := by
  go_enter Tryz.func113, Tryz.ntmps113
  go_wp2
  go_ret
  exact ⟨rfl, up1 _ _⟩
set_option maxHeartbeats 1000000 in
theorem t_latest_of (x y f l r z v : Int) (C D : Nat) (w : World) (hC : Box w C #[eU f, eU l, eU r] 24) (hD : Box w D #[eU z] 22) (hs : IntKind.u64.wrap (x + l) = x + l)
    (hH : ∀ w, Calls Tryz.prog 114 #[.agg #[eU x, eU y], .agg #[eU f, eU l, eU r], eU (x + l)] w fun e w' => e = .returned (eU v) ∧ Below w.heap.size w w') :
    Calls Tryz.prog 115 #[.agg #[eU x, eU y], .pointer (some ⟨C, 0, none⟩), .pointer (some ⟨D, 0, none⟩)] w fun e w' => e = .returned (.bool (decide (z ≤ v))) ∧ Below w.heap.size w w' := by
  have B1 := Box.new w 136 #[eU x, eU y]
  have B2 := hC.alloc (.cells #[eU x, eU y] 136)
  have B3 := hD.alloc (.cells #[eU x, eU y] 136)
  have T := up1 w (.cells #[eU x, eU y] 136)
  clear hC hD
  go_enter Tryz.func115, Tryz.ntmps115
  go_upto_region 1 with (fail)
  obtain ⟨c0, c1⟩ := B1.two
  obtain ⟨c2, c3, c4⟩ := B2.three
  have c5 : (w.alloc (.cells #[eU x, eU y] 136)).cell? ⟨D, 0, none⟩ = some (.int .u64 z) := B3.cell 0
  go_region_held3 (fun w' => ((w'.cell? ⟨w.heap.size, 0, none⟩ = some (.int .u64 x) ∧ w'.cell? ⟨w.heap.size, 1, none⟩ = some (.int .u64 y)) ∧ (w'.cell? ⟨C, 0, none⟩ = some (.int .u64 f) ∧ w'.cell? ⟨C, 1, none⟩ = some (.int .u64 l) ∧ w'.cell? ⟨C, 2, none⟩ = some (.int .u64 r))) ∧ w'.cell? ⟨D, 0, none⟩ = some (.int .u64 z))
    (first | exact ⟨⟨⟨c0, c1⟩, c2, c3, c4⟩, c5⟩ | exact ⟨⟨(B1.below hb2).two, (B2.below hb2).three⟩, (B3.below hb2).cell 0⟩)
    (first | (go_at_call 114; (with_reducible refine (hH _).mono ?_); rintro e w2 ⟨rfl, hb2⟩; (first | replace hb2 := undrew hb2 | replace hb2 := undrewN hb2 | skip)))
  all_goals go_wp2
  all_goals go_ret
  all_goals exact ⟨rfl, up T hb2 T.size⟩
set_option maxHeartbeats 1000000 in
theorem search_any (n : Nat) (b : Nat → Bool) (p q : Value) (w : World) (hn : n ≤ 1000000) (hb : ∀ i j, i ≤ j → j < n → b i = true → b j = true)
    (hP : ∀ (j : Nat) w', j < n → Below w.heap.size w w' → Calls Tryz.prog 119 #[.int .i64 j, p, q] w' fun e w'' => e = .returned (.bool (b j)) ∧ Below w'.heap.size w' w'') :
    Calls Tryz.prog 118 #[.int .i64 n, .func (.func 119) #[] #[p, q]] w fun e w' => (∃ i : Nat, e = .returned (.int .i64 i) ∧ IsTurn (fun j => b j = true) n i) ∧ Below w.heap.size w w' := by
  have hPh := Lib.hid hP
  have hbh := Lib.hid hb
  have T := Below.refl w.heap.size w
  clear hP hb
  go_enter Tryz.func118, Tryz.ntmps118
  go_wp2
  go_loopw [5, 6] (fun s5 s6 wr => ∃ lo hi : Nat, s5 = .int .i64 lo ∧ s6 = .int .i64 hi ∧ lo ≤ hi ∧ hi ≤ n ∧ (∀ j, j < lo → b j = false) ∧ (∀ j, hi ≤ j → j < n → b j = true) ∧ Below w.heap.size w wr) (fun s5 s6 _ => (intOf s6 - intOf s5).toNat)
  case atStart => exact ⟨0, n, rfl, rfl, by omega, by omega, fun j hj => by omega, fun j h1 h2 => by omega, T⟩
  case round =>
    clear T
    obtain ⟨lo, hi, rfl, rfl, h1, h2, h3, h4, T⟩ := hrel
    by_cases hlt : lo < hi
    · have i1 : (lo : Int) < (hi : Int) := by omega
      obtain ⟨md, hmd⟩ : ∃ md : Nat, md = (lo + hi) / 2 := ⟨_, rfl⟩
      have e2 : ((lo : Int) + (hi : Int)) / 2 = (md : Int) := by omega
      have m1 : lo ≤ md := by omega
      have m2 : md < hi := by omega
      have m3 : md < n := by omega
      have hPm := hPh.out md wr m3 T
      have hBm := fun i j => hbh.out i j
      cases hq : b md
      · rw [hq] at hPm
        have hBq := Lib.hid hBm
        clear hmd hBm
        go_wp2_with (go_at_call 119; (with_reducible refine hPm.mono ?_); rintro e w3 ⟨rfl, hb⟩; replace T := up T hb T.size; clear hb)
        have h3' : ∀ j, j < md + 1 → b j = false := fun j hj => by
          cases hj2 : b j
          · rfl
          · have := hBq.out j md (by omega) m3 hj2
            rw [hq] at this
            cases this
        exact ⟨⟨md + 1, hi, by go_num, rfl, by omega, h2, h3', h4, T⟩, by simp [intOf]; omega⟩
      · rw [hq] at hPm
        have hBq := Lib.hid hBm
        clear hmd hBm
        go_wp2_with (go_at_call 119; (with_reducible refine hPm.mono ?_); rintro e w3 ⟨rfl, hb⟩; replace T := up T hb T.size; clear hb)
        exact ⟨⟨lo, md, rfl, rfl, m1, by omega, h3, fun j h1 h2 => hBq.out md j h1 h2 hq, T⟩, by simp [intOf]; omega⟩
    · have i1 : ¬ (lo : Int) < (hi : Int) := by omega
      go_wp2
      go_ret
      refine ⟨⟨lo, rfl, by omega, fun j hj e => ?_, fun j hj hjn => h4 j (by omega) hjn⟩, T⟩
      have e : b j = true := e
      rw [h3 j hj] at e
      cases e
end Go.Proofs.YtejolaifdjcghaaGreat
