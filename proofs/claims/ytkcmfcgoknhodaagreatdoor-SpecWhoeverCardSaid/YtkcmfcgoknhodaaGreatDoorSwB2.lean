/- SpecWhoever's walk. Condition: the library's tables and errors are laid; the numbers are what the fields can hold. -/
import Derived.Test.YtkcmfcgoknhodaaGreatDoorSwP
namespace Go.Proofs.YtkcmfcgoknhodaaGreatDoor
open Go.RowKit Go.Lib W
set_option linter.unusedVariables false
set_option maxHeartbeats 16000000 in
set_option maxRecDepth 100000 in
theorem Whoever_B2 (p q : Sp) (i r m n k n2 k2 : Int) (gd was : Bool) (w : World) (hl : Lw w)
    (hgd : gd = idB (shifted p i r)) (hwas : was = idB p)
    (hcg : gd = true)
    (hcw : was = false)
    (hcs : ¬ (n = 0 ∧ n2 = 0 ∧ p.leaf = q.leaf))
    (hbad : gd = false → m = 130) (hgood : gd = true → was = true → m = n)
    (hM : ∀ w, Calls Tryz.prog 10 #[spW (shifted p i r)] w fun e w' => e = .returned (.int .i64 m) ∧ Below w.heap.size w w')
    (hN : ∀ w, Calls Tryz.prog 10 #[spW p] w fun e w' => e = .returned (.int .i64 n) ∧ Below w.heap.size w w')
    (hX : ∀ w, Calls Tryz.prog 11 #[spW (shifted p i r)] w fun e w' => e = .returned (.int .u8 k) ∧ Below w.heap.size w w')
    (hL : ∀ w, Calls Tryz.prog 11 #[spW p] w fun e w' => e = .returned (.int .u8 k) ∧ Below w.heap.size w w')
    (hW : ∀ w, Calls Tryz.prog 15 #[spW p, spW p] w fun e w' => e = .returned (spW p) ∧ Below w.heap.size w w')
    (hQ : ∀ w, Calls Tryz.prog 10 #[spW q] w fun e w' => e = .returned (.int .i64 n2) ∧ Below w.heap.size w w')
    (hR : ∀ w, Calls Tryz.prog 11 #[spW q] w fun e w' => e = .returned (.int .u8 k2) ∧ Below w.heap.size w w')
    (hY : ∀ w, Calls Tryz.prog 15 #[spW p, spW q] w fun e w' => e = .returned (.agg #[.int .i64 p.id, .int .i64 p.par, .bool p.leaf, .int .u64 q.re.f, .int .u64 q.re.l, .int .u64 q.re.r, .int .u64 q.sh.f, .int .u64 q.sh.l, .int .u64 q.sh.r, .int .u64 q.up.f, .int .u64 q.up.l, .int .u64 q.up.r, .int .i64 p.pk, .int .i64 p.bt]) ∧ Below w.heap.size w w')
    (hZ : n = 0 → n2 = 0 → p.leaf = q.leaf → (∀ w, Calls Tryz.prog 10 #[.agg #[.int .i64 p.id, .int .i64 p.par, .bool p.leaf, .int .u64 q.re.f, .int .u64 q.re.l, .int .u64 q.re.r, .int .u64 q.sh.f, .int .u64 q.sh.l, .int .u64 q.sh.r, .int .u64 q.up.f, .int .u64 q.up.l, .int .u64 q.up.r, .int .i64 p.pk, .int .i64 p.bt]] w fun e w' => e = .returned (.int .i64 0) ∧ Below w.heap.size w w') ∧ (∀ w, Calls Tryz.prog 11 #[.agg #[.int .i64 p.id, .int .i64 p.par, .bool p.leaf, .int .u64 q.re.f, .int .u64 q.re.l, .int .u64 q.re.r, .int .u64 q.sh.f, .int .u64 q.sh.l, .int .u64 q.sh.r, .int .u64 q.up.f, .int .u64 q.up.l, .int .u64 q.up.r, .int .i64 p.pk, .int .i64 p.bt]] w fun e w' => e = .returned (.int .u8 k2) ∧ Below w.heap.size w w')) :
    Calls Tryz.prog 5 #[spW p, spW q, .int .i64 i, .int .i64 r] w fun e w' => e = .returned (.bool true) ∧ Below w.heap.size w w' := by
  have hA := awake_any
  replace hgd := Lib.hid hgd
  replace hwas := Lib.hid hwas
  replace hcg := Lib.hid hcg
  replace hcw := Lib.hid hcw
  replace hcs := Lib.hid hcs
  replace hbad := Lib.hid hbad
  replace hgood := Lib.hid hgood
  replace hZ := Lib.hid hZ
  have B := (Bl.new w TSp (spA p)).alloc (.cells (spA q) TSp)
  have D := Bl.new (w.alloc (.cells (spA p) TSp)) TSp (spA q)
  have T := up1 w (.cells (spA p) TSp)
  replace T := T.alloc T.size (.cells (spA q) TSp)
  have nBD : w.heap.size ≠ (w.alloc (.cells (spA p) TSp)).heap.size := by simp
  obtain ⟨dq, hdq⟩ : ∃ b, (w.alloc (.cells (spA p) TSp)).heap.size = b := ⟨_, rfl⟩
  go_enter Tryz.func5, Tryz.ntmps5
  go_upto_region 5 with (go_at_call 7; (with_reducible refine (hA _ (hl.below T)).mono ?_); rintro e w1 ⟨rfl, hb⟩; replace B := B.below hb; replace D := D.below hb; replace T := sps T hb T.size; clear hb; obtain ⟨a0, a1, a2, a3, a4, a5, a6, a7, a8, a9, a10, a11, a12, a13⟩ := id B.at14)
  rw [hdq] at D nBD
  have nBM : w.heap.size ≠ w1.heap.size := by have := B.lt; omega
  refine nameW (P := fun W' => Bl W' w.heap.size (spA p) TSp ∧ Bl W' dq (spA q) TSp ∧ Bl W' w1.heap.size (spA (shifted p i r)) TSp ∧ Below w.heap.size w W') ⟨B.alloc _, D.alloc _, Bl.new _ _ _, T.alloc T.size _⟩ (fun V hV => ?_)
  clear B D T a0 a1 a2 a3 a4 a5 a6 a7 a8 a9 a10 a11 a12 a13
  obtain ⟨B, D, M, T⟩ := hV
  obtain ⟨bM, hbM⟩ : ∃ b, w1.heap.size = b := ⟨_, rfl⟩
  rw [hbM] at M nBM ⊢
  clear hbM hdq
  obtain ⟨a0, a1, a2, a3, a4, a5, a6, a7, a8, a9, a10, a11, a12, a13⟩ := id B.at14
  go_cut [10] from 20 to 39 (fun s10 wx => s10 = .bool gd ∧ V = wx)
  case first =>
    obtain ⟨a1, a2, a3, a4⟩ := idB_all (show true = idB (shifted p i r) by rw [← hcg.out]; exact hgd.out)
    go_wp2_with fail
    go_meet
    exact ⟨by rw [hgd.out, idB_sh]; simp [*] <;> omega, rfl⟩
  case rest =>
    obtain ⟨rfl, rfl⟩ := hcut
    go_upto_region 6 with (fail)
    go_cut [11] from 39 to 64 (fun s11 wx => s11 = .bool was ∧ V = wx)
    case first =>
      by_cases a1 : 1 ≤ p.id
      · by_cases a2 : p.id ≤ 65535
        · by_cases a3 : 0 ≤ p.par
          · by_cases a4 : p.par ≤ 65535
            · go_wp2_with fail
              go_meet
              exact ⟨by rw [hwas.out, idB_self]; simp [*] <;> omega, rfl⟩
            · go_wp2_with fail
              go_meet
              exact ⟨by rw [hwas.out, idB_self]; simp [*] <;> omega, rfl⟩
          · go_wp2_with fail
            go_meet
            exact ⟨by rw [hwas.out, idB_self]; simp [*] <;> omega, rfl⟩
        · go_wp2_with fail
          go_meet
          exact ⟨by rw [hwas.out, idB_self]; simp [*] <;> omega, rfl⟩
      · go_wp2_with fail
        go_meet
        exact ⟨by rw [hwas.out, idB_self]; simp [*] <;> omega, rfl⟩
    case rest =>
      obtain ⟨rfl, rfl⟩ := hcut
      go_upto_region 7 with (fail)
      go_cut [97] from 64 to 97 (fun s97 wx => s97 = .bool false ∧ Bl wx w.heap.size (spA p) TSp ∧ Bl wx dq (spA q) TSp ∧ Bl wx bM (spA (shifted p i r)) TSp ∧ Below w.heap.size w wx)
      case first =>
        clear a0 a1 a2 a3 a4 a5 a6 a7 a8 a9 a10 a11 a12 a13
        obtain rfl : gd = true := hcg.out
        obtain rfl : was = false := hcw.out
        refine wp_region_held_drew (S := fun w' => Bl w' w.heap.size (spA p) TSp ∧ Bl w' dq (spA q) TSp ∧ Bl w' bM (spA (shifted p i r)) TSp) (by kernel_rfl) ⟨B.drew, D.drew, M.drew⟩ (fun hHeld => ?_)
        replace B := B.drew
        replace D := D.drew
        replace M := M.drew
        replace T := T.drew
        generalize V.drew = V1 at B D M T hHeld ⊢
        refine wpAnyH_take (i := 0) (v := ?_) (by simp only [List.getElem?_toArray, List.getElem?_cons_zero]; rfl) (by kernel_rfl) (by kernel_rfl) (by kernel_rfl) (by exact fun _ _ _ h => h) (Or.inl ⟨by rfl, ?_⟩) (by assumption) ?_
        rotate_left
        · (intro w hSw; go_simp; (try with_reducible rfl))
        try simp only [Act.put, List.setIfInBounds_toArray, List.set_cons_zero, List.set_cons_succ]
        refine wpAnyH_take (i := 1) (v := ?_) (by simp only [List.getElem?_toArray, List.getElem?_cons_zero, List.getElem?_cons_succ]; rfl) (by kernel_rfl) (by kernel_rfl) (by kernel_rfl) (by exact fun _ _ _ h => h) (Or.inl ⟨by rfl, ?_⟩) (by assumption) ?_
        rotate_left
        · (intro w hSw; go_simp; (try with_reducible rfl))
        try simp only [Act.put, List.setIfInBounds_toArray, List.set_cons_zero, List.set_cons_succ]
        refine wpAnyH_take (i := 2) (v := ?_) (by simp only [List.getElem?_toArray, List.getElem?_cons_zero, List.getElem?_cons_succ]; rfl) (by kernel_rfl) (by kernel_rfl) (by kernel_rfl) (by exact fun _ _ _ h => h) (Or.inl ⟨by rfl, ?_⟩) (by assumption) ?_
        rotate_left
        · (intro w hSw; go_simp; (try with_reducible rfl))
        try simp only [Act.put, List.setIfInBounds_toArray, List.set_cons_zero, List.set_cons_succ]
        refine wpAnyH_take (i := 3) (v := undef) (by simp only [List.getElem?_toArray, List.getElem?_cons_zero, List.getElem?_cons_succ]; rfl) (by kernel_rfl) (by kernel_rfl) (by kernel_rfl) (by exact fun _ _ _ h => h) (Or.inr ⟨by rfl, rfl⟩) (by assumption) ?_
        try simp only [Act.put, List.setIfInBounds_toArray, List.set_cons_zero, List.set_cons_succ]
        refine wpAnyH_take (i := 4) (v := undef) (by simp only [List.getElem?_toArray, List.getElem?_cons_zero, List.getElem?_cons_succ]; rfl) (by kernel_rfl) (by kernel_rfl) (by kernel_rfl) (by exact fun _ _ _ h => h) (Or.inr ⟨by rfl, rfl⟩) (by assumption) ?_
        try simp only [Act.put, List.setIfInBounds_toArray, List.set_cons_zero, List.set_cons_succ]
        refine wpAnyH_take (i := 5) (v := undef) (by simp only [List.getElem?_toArray, List.getElem?_cons_zero, List.getElem?_cons_succ]; rfl) (by kernel_rfl) (by kernel_rfl) (by kernel_rfl) (by exact fun _ _ _ h => h) (Or.inr ⟨by rfl, rfl⟩) (by assumption) ?_
        try simp only [Act.put, List.setIfInBounds_toArray, List.set_cons_zero, List.set_cons_succ]
        refine wpAnyH_take (i := 6) (v := ?_) (by simp only [List.getElem?_toArray, List.getElem?_cons_zero, List.getElem?_cons_succ]; rfl) (by kernel_rfl) (by kernel_rfl) (by kernel_rfl) (by exact fun _ _ _ h => h) (Or.inl ⟨by rfl, ?_⟩) (by assumption) ?_
        rotate_left
        · (intro w hSw; go_simp; (try with_reducible rfl))
        try simp only [Act.put, List.setIfInBounds_toArray, List.set_cons_zero, List.set_cons_succ]
        refine wpAnyH_take (i := 7) (v := ?_) (by simp only [List.getElem?_toArray, List.getElem?_cons_zero, List.getElem?_cons_succ]; rfl) (by kernel_rfl) (by kernel_rfl) (by kernel_rfl) (by exact fun _ _ _ h => h) (Or.inl ⟨by rfl, ?_⟩) (by assumption) ?_
        rotate_left
        · (intro w hSw; go_simp; (try with_reducible rfl))
        try simp only [Act.put, List.setIfInBounds_toArray, List.set_cons_zero, List.set_cons_succ]
        refine wpAnyH_take (i := 8) (v := ?_) (by simp only [List.getElem?_toArray, List.getElem?_cons_zero, List.getElem?_cons_succ]; rfl) (by kernel_rfl) (by kernel_rfl) (by kernel_rfl) (by exact fun _ _ _ h => h) (Or.inl ⟨by rfl, ?_⟩) (by assumption) ?_
        rotate_left
        · (intro w hSw; go_simp; (try with_reducible rfl))
        try simp only [Act.put, List.setIfInBounds_toArray, List.set_cons_zero, List.set_cons_succ]
        refine wpAnyH_take (i := 9) (v := ?_) (by simp only [List.getElem?_toArray, List.getElem?_cons_zero, List.getElem?_cons_succ]; rfl) (by kernel_rfl) (by kernel_rfl) (by kernel_rfl) (by exact fun _ _ _ h => h) (Or.inl ⟨by rfl, ?_⟩) (by assumption) ?_
        rotate_left
        · (intro w hSw; go_simp; (try with_reducible rfl))
        try simp only [Act.put, List.setIfInBounds_toArray, List.set_cons_zero, List.set_cons_succ]
        refine wpAnyH_take (i := 10) (v := ?_) (by simp only [List.getElem?_toArray, List.getElem?_cons_zero, List.getElem?_cons_succ]; rfl) (by kernel_rfl) (by kernel_rfl) (by kernel_rfl) (by exact fun _ _ _ h => h) (Or.inl ⟨by rfl, ?_⟩) (by assumption) ?_
        rotate_left
        · (intro w hSw; go_simp; (try with_reducible rfl))
        try simp only [Act.put, List.setIfInBounds_toArray, List.set_cons_zero, List.set_cons_succ]
        refine wpAnyH_take (i := 11) (v := ?_) (by simp only [List.getElem?_toArray, List.getElem?_cons_zero, List.getElem?_cons_succ]; rfl) (by kernel_rfl) (by kernel_rfl) (by kernel_rfl) (by exact fun _ _ _ h => h) (Or.inl ⟨by rfl, ?_⟩) (by assumption) ?_
        rotate_left
        · (intro w hSw; go_simp; (try with_reducible rfl))
        try simp only [Act.put, List.setIfInBounds_toArray, List.set_cons_zero, List.set_cons_succ]
        refine wpAnyH_take (i := 12) (v := ?_) (by simp only [List.getElem?_toArray, List.getElem?_cons_zero, List.getElem?_cons_succ]; rfl) (by kernel_rfl) (by kernel_rfl) (by kernel_rfl) (by exact fun _ _ _ h => h) (Or.inl ⟨by rfl, ?_⟩) (by assumption) ?_
        rotate_left
        · (intro w hSw; go_simp; (try with_reducible rfl))
        try simp only [Act.put, List.setIfInBounds_toArray, List.set_cons_zero, List.set_cons_succ]
        refine wpAnyH_take (i := 13) (v := undef) (by simp only [List.getElem?_toArray, List.getElem?_cons_zero, List.getElem?_cons_succ]; rfl) (by kernel_rfl) (by kernel_rfl) (by kernel_rfl) (by exact fun _ _ _ h => h) (Or.inr ⟨by rfl, rfl⟩) (by assumption) ?_
        try simp only [Act.put, List.setIfInBounds_toArray, List.set_cons_zero, List.set_cons_succ]
        refine wpAnyH_take (i := 15) (v := undef) (by simp only [List.getElem?_toArray, List.getElem?_cons_zero, List.getElem?_cons_succ]; rfl) (by kernel_rfl) (by kernel_rfl) (by kernel_rfl) (by exact fun _ _ _ h => h) (Or.inr ⟨by rfl, rfl⟩) (by assumption) ?_
        try simp only [Act.put, List.setIfInBounds_toArray, List.set_cons_zero, List.set_cons_succ]
        refine wpAnyH_take (i := 14) (v := undef) (by simp only [List.getElem?_toArray, List.getElem?_cons_zero, List.getElem?_cons_succ]; rfl) (by kernel_rfl) (by kernel_rfl) (by kernel_rfl) (by exact fun _ _ _ h => h) (Or.inr ⟨by rfl, rfl⟩) (by assumption) ?_
        try simp only [Act.put, List.setIfInBounds_toArray, List.set_cons_zero, List.set_cons_succ]
        refine wpAnyH_take (i := 16) (v := undef) (by simp only [List.getElem?_toArray, List.getElem?_cons_zero, List.getElem?_cons_succ]; rfl) (by kernel_rfl) (by kernel_rfl) (by kernel_rfl) (by exact fun _ _ _ h => h) (Or.inr ⟨by rfl, rfl⟩) (by assumption) ?_
        try simp only [Act.put, List.setIfInBounds_toArray, List.set_cons_zero, List.set_cons_succ]
        refine wpAnyH_take (i := 17) (v := undef) (by simp only [List.getElem?_toArray, List.getElem?_cons_zero, List.getElem?_cons_succ]; rfl) (by kernel_rfl) (by kernel_rfl) (by kernel_rfl) (by exact fun _ _ _ h => h) (Or.inr ⟨by rfl, rfl⟩) (by assumption) ?_
        try simp only [Act.put, List.setIfInBounds_toArray, List.set_cons_zero, List.set_cons_succ]
        refine wpAnyH_take (i := 18) (v := ?_) (by simp only [List.getElem?_toArray, List.getElem?_cons_zero, List.getElem?_cons_succ]; rfl) (by kernel_rfl) (by kernel_rfl) (by kernel_rfl) (by exact fun _ _ _ h => h) (Or.inl ⟨by rfl, ?_⟩) (by assumption) ?_
        rotate_left
        · (intro w hSw; go_simp; (try with_reducible rfl))
        try simp only [Act.put, List.setIfInBounds_toArray, List.set_cons_zero, List.set_cons_succ]
        refine wpAnyH_take (i := 19) (v := ?_) (by simp only [List.getElem?_toArray, List.getElem?_cons_zero, List.getElem?_cons_succ]; rfl) (by kernel_rfl) (by kernel_rfl) (by kernel_rfl) (by exact fun _ _ _ h => h) (Or.inl ⟨by rfl, ?_⟩) (by assumption) ?_
        rotate_left
        · (intro w hSw; go_simp; (try with_reducible rfl))
        try simp only [Act.put, List.setIfInBounds_toArray, List.set_cons_zero, List.set_cons_succ]
        refine wpAnyH_take (i := 20) (v := ?_) (by simp only [List.getElem?_toArray, List.getElem?_cons_zero, List.getElem?_cons_succ]; rfl) (by kernel_rfl) (by kernel_rfl) (by kernel_rfl) (by exact fun _ _ _ h => h) (Or.inl ⟨by rfl, ?_⟩) (by assumption) ?_
        rotate_left
        · (intro w hSw; go_simp; (try with_reducible rfl))
        try simp only [Act.put, List.setIfInBounds_toArray, List.set_cons_zero, List.set_cons_succ]
        refine wpAnyH_take (i := 21) (v := ?_) (by simp only [List.getElem?_toArray, List.getElem?_cons_zero, List.getElem?_cons_succ]; rfl) (by kernel_rfl) (by kernel_rfl) (by kernel_rfl) (by exact fun _ _ _ h => h) (Or.inl ⟨by rfl, ?_⟩) (by assumption) ?_
        rotate_left
        · (intro w hSw; obtain ⟨h1S, h2S, h3S⟩ := hSw; obtain ⟨c0, c1, c2, c3, c4, c5, c6, c7, c8, c9, c10, c11, c12, c13⟩ := id h3S.at14; go_simp; (try with_reducible rfl))
        try simp only [Act.put, List.setIfInBounds_toArray, List.set_cons_zero, List.set_cons_succ]
        refine wpAnyH_take (i := 23) (v := ?_) (by simp only [List.getElem?_toArray, List.getElem?_cons_zero, List.getElem?_cons_succ]; rfl) (by kernel_rfl) (by kernel_rfl) (by kernel_rfl) (by exact fun _ _ _ h => h) (Or.inl ⟨by rfl, ?_⟩) (by assumption) ?_
        rotate_left
        · (intro w hSw; obtain ⟨h1S, h2S, h3S⟩ := hSw; obtain ⟨c0, c1, c2, c3, c4, c5, c6, c7, c8, c9, c10, c11, c12, c13⟩ := id h1S.at14; go_simp; (try with_reducible rfl))
        try simp only [Act.put, List.setIfInBounds_toArray, List.set_cons_zero, List.set_cons_succ]
        refine wpAnyH_ready (rs := [22]) (by kernel_rfl) (by simp) ?_
        refine AllReadyH.cons (by simp only [List.getElem?_toArray, List.getElem?_cons_zero, List.getElem?_cons_succ]; rfl) (fun K hK => ?_) AllReadyH.nil
        go_simp
        go_at_call 11
        (with_reducible refine (hX _).mono ?_)
        rintro e v22 ⟨rfl, hb⟩
        replace B := B.below hb
        replace D := D.below hb
        replace M := M.below hb
        replace T := sps T hb T.size
        clear hb
        refine hK.out _ _ ⟨B, D, M⟩ (fun hHeld => ?_)
        clear hK K
        try simp only [Act.put, List.setIfInBounds_toArray, List.set_cons_zero, List.set_cons_succ]
        refine wpAnyH_ready (rs := [24]) (by kernel_rfl) (by simp) ?_
        refine AllReadyH.cons (by simp only [List.getElem?_toArray, List.getElem?_cons_zero, List.getElem?_cons_succ]; rfl) (fun K hK => ?_) AllReadyH.nil
        go_simp
        go_at_call 11
        (with_reducible refine (hL _).mono ?_)
        rintro e v24 ⟨rfl, hb⟩
        replace B := B.below hb
        replace D := D.below hb
        replace M := M.below hb
        replace T := sps T hb T.size
        clear hb
        refine hK.out _ _ ⟨B, D, M⟩ (fun hHeld => ?_)
        clear hK K
        try simp only [Act.put, List.setIfInBounds_toArray, List.set_cons_zero, List.set_cons_succ]
        refine wpAnyH_take (i := 25) (v := ?_) (by simp only [List.getElem?_toArray, List.getElem?_cons_zero, List.getElem?_cons_succ]; rfl) (by kernel_rfl) (by kernel_rfl) (by kernel_rfl) (by exact fun _ _ _ h => h) (Or.inl ⟨by rfl, ?_⟩) (by assumption) ?_
        rotate_left
        · (intro w hSw; go_simp; (try with_reducible rfl))
        try simp only [Act.put, List.setIfInBounds_toArray, List.set_cons_zero, List.set_cons_succ]
        refine wpAnyH_take (i := 26) (v := ?_) (by simp only [List.getElem?_toArray, List.getElem?_cons_zero, List.getElem?_cons_succ]; rfl) (by kernel_rfl) (by kernel_rfl) (by kernel_rfl) (by exact fun _ _ _ h => h) (Or.inl ⟨by rfl, ?_⟩) (by assumption) ?_
        rotate_left
        · (intro w hSw; go_simp; (try with_reducible rfl))
        try simp only [Act.put, List.setIfInBounds_toArray, List.set_cons_zero, List.set_cons_succ]
        refine wpAnyH_take (i := 27) (v := ?_) (by simp only [List.getElem?_toArray, List.getElem?_cons_zero, List.getElem?_cons_succ]; rfl) (by kernel_rfl) (by kernel_rfl) (by kernel_rfl) (by exact fun _ _ _ h => h) (Or.inl ⟨by rfl, ?_⟩) (by assumption) ?_
        rotate_left
        · (intro w hSw; go_simp; (try with_reducible rfl))
        try simp only [Act.put, List.setIfInBounds_toArray, List.set_cons_zero, List.set_cons_succ]
        refine wpAnyH_take (i := 28) (v := ?_) (by simp only [List.getElem?_toArray, List.getElem?_cons_zero, List.getElem?_cons_succ]; rfl) (by kernel_rfl) (by kernel_rfl) (by kernel_rfl) (by exact fun _ _ _ h => h) (Or.inl ⟨by rfl, ?_⟩) (by assumption) ?_
        rotate_left
        · (intro w hSw; obtain ⟨h1S, h2S, h3S⟩ := hSw; obtain ⟨c0, c1, c2, c3, c4, c5, c6, c7, c8, c9, c10, c11, c12, c13⟩ := id h1S.at14; go_simp; (try with_reducible rfl))
        try simp only [Act.put, List.setIfInBounds_toArray, List.set_cons_zero, List.set_cons_succ]
        refine wpAnyH_take (i := 29) (v := ?_) (by simp only [List.getElem?_toArray, List.getElem?_cons_zero, List.getElem?_cons_succ]; rfl) (by kernel_rfl) (by kernel_rfl) (by kernel_rfl) (by exact fun _ _ _ h => h) (Or.inl ⟨by rfl, ?_⟩) (by assumption) ?_
        rotate_left
        · (intro w hSw; obtain ⟨h1S, h2S, h3S⟩ := hSw; obtain ⟨c0, c1, c2, c3, c4, c5, c6, c7, c8, c9, c10, c11, c12, c13⟩ := id h1S.at14; go_simp; (try with_reducible rfl))
        try simp only [Act.put, List.setIfInBounds_toArray, List.set_cons_zero, List.set_cons_succ]
        refine wpAnyH_take (i := 31) (v := ?_) (by simp only [List.getElem?_toArray, List.getElem?_cons_zero, List.getElem?_cons_succ]; rfl) (by kernel_rfl) (by kernel_rfl) (by kernel_rfl) (by exact fun _ _ _ h => h) (Or.inl ⟨by rfl, ?_⟩) (by assumption) ?_
        rotate_left
        · (intro w hSw; obtain ⟨h1S, h2S, h3S⟩ := hSw; obtain ⟨c0, c1, c2, c3, c4, c5, c6, c7, c8, c9, c10, c11, c12, c13⟩ := id h1S.at14; go_simp; (try with_reducible rfl))
        try simp only [Act.put, List.setIfInBounds_toArray, List.set_cons_zero, List.set_cons_succ]
        refine wpAnyH_ready (rs := [30]) (by kernel_rfl) (by simp) ?_
        refine AllReadyH.cons (by simp only [List.getElem?_toArray, List.getElem?_cons_zero, List.getElem?_cons_succ]; rfl) (fun K hK => ?_) AllReadyH.nil
        go_simp
        go_at_call 15
        (with_reducible refine (hW _).mono ?_)
        rintro e v30 ⟨rfl, hb⟩
        replace B := B.below hb
        replace D := D.below hb
        replace M := M.below hb
        replace T := sps T hb T.size
        clear hb
        refine hK.out _ _ ⟨B, D, M⟩ (fun hHeld => ?_)
        clear hK K
        try simp only [Act.put, List.setIfInBounds_toArray, List.set_cons_zero, List.set_cons_succ]
        refine wpAnyH_take (i := 32) (v := ?_) (by simp only [List.getElem?_toArray, List.getElem?_cons_zero, List.getElem?_cons_succ]; rfl) (by kernel_rfl) (by kernel_rfl) (by kernel_rfl) (by exact fun _ _ _ h => h) (Or.inl ⟨by rfl, ?_⟩) (by assumption) ?_
        rotate_left
        · (intro w hSw; go_simp; (try with_reducible rfl))
        try simp only [Act.put, List.setIfInBounds_toArray, List.set_cons_zero, List.set_cons_succ]
        refine wpAnyH_take (i := 33) (v := ?_) (by simp only [List.getElem?_toArray, List.getElem?_cons_zero, List.getElem?_cons_succ]; rfl) (by kernel_rfl) (by kernel_rfl) (by kernel_rfl) (by exact fun _ _ _ h => h) (Or.inl ⟨by rfl, ?_⟩) (by assumption) ?_
        rotate_left
        · (intro w hSw; go_simp; (try with_reducible rfl))
        try simp only [Act.put, List.setIfInBounds_toArray, List.set_cons_zero, List.set_cons_succ]
        refine wpAnyH_done (by kernel_rfl) ?_ _
        go_wp2_with fail
        go_meet
        exact ⟨by simp, B, D, M, T⟩
      case rest =>
        obtain ⟨rfl, B, D, M, T⟩ := hcut
        obtain ⟨a0, a1, a2, a3, a4, a5, a6, a7, a8, a9, a10, a11, a12, a13⟩ := id B.at14
        obtain ⟨d0, d1, d2, d3, d4, d5, d6, d7, d8, d9, d10, d11, d12, d13⟩ := id D.at14
        clear M
        by_cases e1 : n = 0
        · subst e1
          by_cases e2 : n2 = 0
          · subst e2
            by_cases e3 : p.leaf = q.leaf
            · exact absurd ⟨rfl, rfl, e3⟩ hcs.out
            · have hn1 : (p.leaf != q.leaf) = true := by simpa using e3
              have hn2 : (p.leaf == q.leaf) = false := by simpa using e3
              have hn3 : decide (p.leaf = q.leaf) = false := by simpa using e3
              replace e3 := Lib.hid e3
              go_wp2_with (first
                | (go_at_call 10; (with_reducible refine (hN _).mono ?_); rintro e y1 ⟨rfl, hb⟩; replace B := B.below hb; replace D := D.below hb; replace T := sps T hb T.size; clear hb; clear a0 a1 a2 a3 a4 a5 a6 a7 a8 a9 a10 a11 a12 a13 d0 d1 d2 d3 d4 d5 d6 d7 d8 d9 d10 d11 d12 d13; obtain ⟨a0, a1, a2, a3, a4, a5, a6, a7, a8, a9, a10, a11, a12, a13⟩ := id B.at14; obtain ⟨d0, d1, d2, d3, d4, d5, d6, d7, d8, d9, d10, d11, d12, d13⟩ := id D.at14)
                | (go_at_call 10; (with_reducible refine (hQ _).mono ?_); rintro e y2 ⟨rfl, hb⟩; replace B := B.below hb; replace D := D.below hb; replace T := sps T hb T.size; clear hb; clear a0 a1 a2 a3 a4 a5 a6 a7 a8 a9 a10 a11 a12 a13 d0 d1 d2 d3 d4 d5 d6 d7 d8 d9 d10 d11 d12 d13; obtain ⟨a0, a1, a2, a3, a4, a5, a6, a7, a8, a9, a10, a11, a12, a13⟩ := id B.at14; obtain ⟨d0, d1, d2, d3, d4, d5, d6, d7, d8, d9, d10, d11, d12, d13⟩ := id D.at14))
              go_ret
              exact ⟨rfl, T⟩
          · have e2' : (n2 == 0) = false := beq_eq_false_iff_ne.2 e2
            go_wp2_with (first
              | (go_at_call 10; (with_reducible refine (hN _).mono ?_); rintro e y1 ⟨rfl, hb⟩; replace B := B.below hb; replace D := D.below hb; replace T := sps T hb T.size; clear hb; clear a0 a1 a2 a3 a4 a5 a6 a7 a8 a9 a10 a11 a12 a13 d0 d1 d2 d3 d4 d5 d6 d7 d8 d9 d10 d11 d12 d13; obtain ⟨a0, a1, a2, a3, a4, a5, a6, a7, a8, a9, a10, a11, a12, a13⟩ := id B.at14; obtain ⟨d0, d1, d2, d3, d4, d5, d6, d7, d8, d9, d10, d11, d12, d13⟩ := id D.at14)
              | (go_at_call 10; (with_reducible refine (hQ _).mono ?_); rintro e y2 ⟨rfl, hb⟩; replace B := B.below hb; replace D := D.below hb; replace T := sps T hb T.size; clear hb; clear a0 a1 a2 a3 a4 a5 a6 a7 a8 a9 a10 a11 a12 a13 d0 d1 d2 d3 d4 d5 d6 d7 d8 d9 d10 d11 d12 d13; obtain ⟨a0, a1, a2, a3, a4, a5, a6, a7, a8, a9, a10, a11, a12, a13⟩ := id B.at14; obtain ⟨d0, d1, d2, d3, d4, d5, d6, d7, d8, d9, d10, d11, d12, d13⟩ := id D.at14))
            go_ret
            exact ⟨rfl, T⟩
        · have e1' : (n == 0) = false := beq_eq_false_iff_ne.2 e1
          go_wp2_with (first
            | (go_at_call 10; (with_reducible refine (hN _).mono ?_); rintro e y1 ⟨rfl, hb⟩; replace B := B.below hb; replace D := D.below hb; replace T := sps T hb T.size; clear hb; clear a0 a1 a2 a3 a4 a5 a6 a7 a8 a9 a10 a11 a12 a13 d0 d1 d2 d3 d4 d5 d6 d7 d8 d9 d10 d11 d12 d13; obtain ⟨a0, a1, a2, a3, a4, a5, a6, a7, a8, a9, a10, a11, a12, a13⟩ := id B.at14; obtain ⟨d0, d1, d2, d3, d4, d5, d6, d7, d8, d9, d10, d11, d12, d13⟩ := id D.at14))
          go_ret
          exact ⟨rfl, T⟩
end Go.Proofs.YtkcmfcgoknhodaaGreatDoor
