/- The document's copies: the lines' heights. -/
import Derived.Test.YtdhfblcheoahaaaCpR
namespace Go.Proofs.Ytdhfblcheoahaaa
open Go.RowKit Go.Shelf W
set_option linter.unusedVariables false
set_option maxRecDepth 100000
namespace W
/-- The least of the first k, and of 2^127. -/
def minI (G : Nat → Int) : Nat → Int
  | 0 => 170141183460469231731687303715884105728
  | k + 1 => min (minI G k) (G k)
theorem cmp_min (G : Nat → Int) (k : Nat) : (cmpW (hiW (G k)) (loW (G k)) (hiW (minI G k)) (loW (minI G k)) < 0 ∧ minI G (k + 1) = G k) ∨ (¬ cmpW (hiW (G k)) (loW (G k)) (hiW (minI G k)) (loW (minI G k)) < 0 ∧ minI G (k + 1) = minI G k) := by
  have hm : minI G (k + 1) = min (minI G k) (G k) := rfl
  rcases Int.lt_or_le (G k) (minI G k) with q | q
  · left
    rw [cmpW_lt (by rw [V_hl, V_hl]; exact q)]
    omega
  · right
    rcases Int.lt_or_eq_of_le q with q' | q'
    · rw [cmpW_gt (by rw [V_hl, V_hl]; exact q')]
      omega
    · rw [cmpW_eq (by rw [V_hl, V_hl]; exact q')]
      omega
end W
theorem Own.new3 (w : World) (o1 o2 : Obj) (x y : Int) : Own (((w.alloc o1).alloc o2).alloc (.cells #[.int .u64 x, .int .u64 y] 66)) (w.heap.size + 1 + 1) x y := by
  have h := Own.new ((w.alloc o1).alloc o2) x y
  simp only [World.size_alloc] at h
  exact h
set_option maxHeartbeats 8000000 in
theorem c_lines (B n gX cX gY cY : Nat) (f l r x d0 o1 o2 u v : Int) (xk yk dk m1 m2 s1 s2 e1 e2 GA GB : Nat → Int) (w : World) (hn : 0 < n) (hn2 : n ≤ 1000) (hcX : n ≤ cX) (hcY : n ≤ cY) (hd0 : IntKind.u64.wrap (f - r) = d0)
    (hcell : ∀ w', Below w.heap.size w w' → w'.cell? ⟨B, 0, none⟩ = some (.int .u64 f) ∧ w'.cell? ⟨B, 1, none⟩ = some (.int .u64 l) ∧ w'.cell? ⟨B, 2, none⟩ = some (.int .u64 r) ∧ w'.cell? ⟨B, 3, none⟩ = some (.slice (some ⟨gX, 0, none⟩) n cX) ∧ w'.cell? ⟨B, 4, none⟩ = some (.slice (some ⟨gY, 0, none⟩) n cY))
    (hXY : ∀ (k : Nat) w', k < n → Below w.heap.size w w' → w'.cell? ⟨gX, k, none⟩ = some (.int .u64 (xk k)) ∧ w'.cell? ⟨gY, k, none⟩ = some (.int .u64 (yk k)))
    (hL : ∀ w', Below w.heap.size w w' → Calls Try.prog 30 #[.pointer (some ⟨B, 0, none⟩)] w' fun e w'' => e = .returned (eU x) ∧ Below w'.heap.size w' w'')
    (hdk : ∀ k, k < n → IntKind.u64.wrap (x - xk k) = dk k)
    (hMo : ∀ w, Calls Try.prog 46 #[eU d0, eU l] w fun e w' => e = .returned (.agg #[eU o1, eU o2]) ∧ Below w.heap.size w w')
    (hMa : ∀ k w, k < n → Calls Try.prog 46 #[eU f, eU (dk k)] w fun e w' => e = .returned (.agg #[eU (m1 k), eU (m2 k)]) ∧ Below w.heap.size w w')
    (hMr : ∀ k w, k < n → Calls Try.prog 46 #[eU r, eU (dk k)] w fun e w' => e = .returned (.agg #[eU (s1 k), eU (s2 k)]) ∧ Below w.heap.size w w')
    (hPa : ∀ k w, k < n → Calls Try.prog 47 #[.agg #[eU 0, eU (yk k)], .agg #[eU (m1 k), eU (m2 k)]] w fun e w' => e = .returned (.tuple #[.agg #[eU (hiW (GA k)), eU (loW (GA k))], eI 0]) ∧ Below w.heap.size w w')
    (hPr : ∀ k w, k < n → Calls Try.prog 47 #[.agg #[eU 0, eU (yk k)], .agg #[eU (s1 k), eU (s2 k)]] w fun e w' => e = .returned (.tuple #[.agg #[eU (e1 k), eU (e2 k)], eI 0]) ∧ Below w.heap.size w w')
    (hPo : ∀ k w, k < n → Calls Try.prog 47 #[.agg #[eU (e1 k), eU (e2 k)], .agg #[eU o1, eU o2]] w fun e w' => e = .returned (.tuple #[.agg #[eU (hiW (GB k)), eU (loW (GB k))], eI 0]) ∧ Below w.heap.size w w')
    (hS1 : ∀ w, Calls Try.prog 49 #[.agg #[eU (hiW (minI GA n)), eU (loW (minI GA n))]] w fun e w' => e = .returned (eU u) ∧ Below w.heap.size w w')
    (hS2 : ∀ w, Calls Try.prog 49 #[.agg #[eU (hiW (minI GB n)), eU (loW (minI GB n))]] w fun e w' => e = .returned (eU v) ∧ Below w.heap.size w w') :
    Calls Try.prog 29 #[.pointer (some ⟨B, 0, none⟩)] w fun e w' => e = .returned (.tuple #[eU u, eU v]) ∧ Below w.heap.size w w' := by
  have hn0 : ((n : Int) == 0) = false := by simp only [beq_eq_false_iff_ne]; omega
  have hce := Lib.hid hcell
  have hxy := Lib.hid hXY
  have hll := Lib.hid hL
  have hdd := Lib.hid hdk
  have hma := Lib.hid hMa
  have hmr := Lib.hid hMr
  have hpa := Lib.hid hPa
  have hpr := Lib.hid hPr
  have hpo := Lib.hid hPo
  have hs1 := Lib.hid hS1
  have hs2 := Lib.hid hS2
  obtain ⟨c0, c1, c2, c3, c4⟩ := hcell w (Below.refl _ w)
  clear hcell hXY hL hdk hMa hMr hPa hPr hPo hS1 hS2
  have O4 := (Own.new w 9223372036854775808 0).alloc (.cells #[eU 9223372036854775808, eU 0] 66)
  have O5 := Own.new2 w (.cells #[eU 9223372036854775808, eU 0] 66) 9223372036854775808 0
  have T := up2 w (.cells #[eU 9223372036854775808, eU 0] 66) (.cells #[eU 9223372036854775808, eU 0] 66)
  go_enter Try.func29, Try.ntmps29
  go_upto_region 4 with fail
  go_cut [6] (fun s6 wx => ∃ Z : Nat, s6 = .pointer (some ⟨Z, 0, none⟩) ∧ (Z ≠ w.heap.size ∧ Z ≠ w.heap.size + 1) ∧ Has wx Z o1 o2 ∧ Own wx w.heap.size 9223372036854775808 0 ∧ Own wx (w.heap.size + 1) 9223372036854775808 0 ∧ Below w.heap.size w wx)
  case first =>
    clear c0 c1 c2 c3 c4
    obtain ⟨c0, c1, c2, c3, c4⟩ := hce.out _ T
    have hS3' : ∀ w', Below w.heap.size w w' → (w'.cell? ⟨B, 0, none⟩ = some (.int .u64 f) ∧ w'.cell? ⟨B, 1, none⟩ = some (.int .u64 l) ∧ w'.cell? ⟨B, 2, none⟩ = some (.int .u64 r)) := fun w' T => ⟨(hce.out _ T).1, (hce.out _ T).2.1, (hce.out _ T).2.2.1⟩
    have hS3 := Lib.hid hS3'
    clear hS3'
    go_region_held3 (fun w' => w'.cell? ⟨B, 0, none⟩ = some (.int .u64 f) ∧ w'.cell? ⟨B, 1, none⟩ = some (.int .u64 l) ∧ w'.cell? ⟨B, 2, none⟩ = some (.int .u64 r))
      (first | exact hS3.out _ T | exact hS3.out _ T.drew | exact hS3.out _ (T.alloc T.size _) | exact hS3.out _ (T.alloc T.size _).drew | exact hS3.out _ ((T.setCell (by exact hN) _).setCell (by exact hN) _) | go_keep)
      (first
        | (go_at_call 46; (with_reducible refine (hMo _).mono ?_); rintro e w1 ⟨rfl, hb⟩; (first | replace hb := undrew hb | replace hb := undrewN hb | skip); (first | (replace T := up T hb T.size; replace O4 := O4.below hb; replace O5 := O5.below hb) | (have HN := (Own.new3 _ _ _ 0 0).below hb; have hN : w.heap.size ≤ w.heap.size + 1 + 1 := (by omega); have hN2 : w.heap.size ≠ w.heap.size + 1 + 1 := (by omega); have hN3 : w.heap.size + 1 ≠ w.heap.size + 1 + 1 := (by omega); replace T := up (T.alloc T.size _) hb (T.alloc T.size _).size; replace O4 := (O4.alloc _).below hb; replace O5 := (O5.alloc _).below hb; obtain ⟨⟨xN, yN, zN⟩, fN, gN⟩ := id HN)); clear hb))
    all_goals go_wp2_with fail
    all_goals go_meet
    all_goals first
      | exact ⟨_, rfl, ⟨Nat.ne_of_gt O4.lt, Nat.ne_of_gt O5.lt⟩, Has.new _ _ _, O4.alloc _, O5.alloc _, T.alloc T.size _⟩
      | exact ⟨_, rfl, ⟨hN2.symm, hN3.symm⟩, (HN.store o1 o2).1, (O4.setNe (by exact hN2) _).setNe (by exact hN2) _, (O5.setNe (by exact hN3) _).setNe (by exact hN3) _, (T.setCell (by exact hN) _).setCell (by exact hN) _⟩
  case rest =>
    obtain ⟨Z, rfl, ⟨hZP, hZQ⟩, HZ, O4', O5', T'⟩ := hcut
    clear hMo O4 O5 T c0 c1 c2 c3 c4
    have hPQ : w.heap.size ≠ w.heap.size + 1 := by omega
    go_wp2
    go_loopw [7] (fun s7 wr => ∃ k : Nat, s7 = .int .i64 k ∧ k ≤ n ∧ Own wr w.heap.size (hiW (minI GA k)) (loW (minI GA k)) ∧ Own wr (w.heap.size + 1) (hiW (minI GB k)) (loW (minI GB k)) ∧ Has wr Z o1 o2 ∧ Below w.heap.size w wr) (fun s7 _ => n - (intOf s7).toNat)
    case atStart => exact ⟨0, rfl, by omega, O4', O5', HZ, T'⟩
    case round =>
      clear O4' O5' HZ T'
      obtain ⟨k, rfl, hk, O4, O5, HZ, T⟩ := hrel
      by_cases hlt : k < n
      · have i1 : (k : Int) < (n : Int) := by omega
        have i2 : (0 : Int) ≤ (k : Int) := by omega
        have i3 : (n : Int) ≤ (cX : Int) := by omega
        have i4 : (n : Int) ≤ (cY : Int) := by omega
        obtain ⟨c0, c1, c2, c3, c4⟩ := hce.out _ T
        obtain ⟨zX, zY⟩ := hxy.out k _ hlt T
        have hd := hdd.out k hlt
        have hMa := fun w => hma.out k w hlt
        have hMr := fun w => hmr.out k w hlt
        have hPa := fun w => hpa.out k w hlt
        have hPr := fun w => hpr.out k w hlt
        have hPo := fun w => hpo.out k w hlt
        have hY := fun w' T => (hxy.out k w' hlt T).2
        obtain ⟨x1, hx1⟩ : ∃ v, xk k = v := ⟨_, rfl⟩
        obtain ⟨y, hy⟩ : ∃ v, yk k = v := ⟨_, rfl⟩
        obtain ⟨d, hd1⟩ : ∃ v, dk k = v := ⟨_, rfl⟩
        obtain ⟨ma1, q1⟩ : ∃ v, m1 k = v := ⟨_, rfl⟩
        obtain ⟨ma2, q2⟩ : ∃ v, m2 k = v := ⟨_, rfl⟩
        obtain ⟨mr1, q3⟩ : ∃ v, s1 k = v := ⟨_, rfl⟩
        obtain ⟨mr2, q4⟩ : ∃ v, s2 k = v := ⟨_, rfl⟩
        obtain ⟨ea1, q5⟩ : ∃ v, e1 k = v := ⟨_, rfl⟩
        obtain ⟨ea2, q6⟩ : ∃ v, e2 k = v := ⟨_, rfl⟩
        obtain ⟨g1, h1⟩ : ∃ v, hiW (GA k) = v := ⟨_, rfl⟩
        obtain ⟨g2, h2⟩ : ∃ v, loW (GA k) = v := ⟨_, rfl⟩
        obtain ⟨b1, h3⟩ : ∃ v, hiW (GB k) = v := ⟨_, rfl⟩
        obtain ⟨b2, h4⟩ : ∃ v, loW (GB k) = v := ⟨_, rfl⟩
        obtain ⟨l1, h5⟩ : ∃ v, hiW (minI GA k) = v := ⟨_, rfl⟩
        obtain ⟨l2, h6⟩ : ∃ v, loW (minI GA k) = v := ⟨_, rfl⟩
        obtain ⟨j1, h7⟩ : ∃ v, hiW (minI GB k) = v := ⟨_, rfl⟩
        obtain ⟨j2, h8⟩ : ∃ v, loW (minI GB k) = v := ⟨_, rfl⟩
        have hza := cmp_min GA k
        have hzb := cmp_min GB k
        have hCa := fun w => rCmp_any (hiW (GA k)) (loW (GA k)) (hiW (minI GA k)) (loW (minI GA k)) w (loW_word _) (loW_word _)
        have hCb := fun w => rCmp_any (hiW (GB k)) (loW (GB k)) (hiW (minI GB k)) (loW (minI GB k)) w (loW_word _) (loW_word _)
        obtain ⟨za, hza1⟩ : ∃ v, cmpW (hiW (GA k)) (loW (GA k)) (hiW (minI GA k)) (loW (minI GA k)) = v := ⟨_, rfl⟩
        obtain ⟨zb, hzb1⟩ : ∃ v, cmpW (hiW (GB k)) (loW (GB k)) (hiW (minI GB k)) (loW (minI GB k)) = v := ⟨_, rfl⟩
        rw [hza1] at hza hCa
        rw [hzb1] at hzb hCb
        rw [h1, h2, h5, h6] at hCa
        rw [h3, h4, h7, h8] at hCb
        rw [hx1] at zX hd
        rw [hy] at zY hPa hPr
        rw [hd1] at hd hMa hMr
        rw [q1, q2] at hMa hPa
        rw [q3, q4] at hMr hPr
        rw [q5, q6] at hPr hPo
        rw [h1, h2] at hPa
        rw [h3, h4] at hPo
        rw [h5, h6] at O4
        rw [h7, h8] at O5
        have hEq := Lib.hid (And.intro (And.intro h1 h2) (And.intro (And.intro h3 h4) (And.intro (And.intro h5 h6) (And.intro h7 h8))))
        have hY2 : ∀ w', Below w.heap.size w w' → w'.cell? ⟨gY, k, none⟩ = some (.int .u64 y) := fun w' T => hy ▸ hY w' T
        have hYh := Lib.hid hY2
        have hX2 : ∀ w', Below w.heap.size w w' → w'.cell? ⟨gX, k, none⟩ = some (.int .u64 x1) := fun w' T => hx1 ▸ (hxy.out k w' hlt T).1
        have hXh := Lib.hid hX2
        have hzA := Lib.hid hza
        have hzB := Lib.hid hzb
        clear h1 h2 h3 h4 h5 h6 h7 h8 hx1 hy hd1 q1 q2 q3 q4 q5 q6 hza hzb hza1 hzb1 hY hY2 hX2
        go_upto_region 8 with fail
        go_region_held3 (fun w' => w'.cell? ⟨B, 3, none⟩ = some (.slice (some ⟨gX, 0, none⟩) n cX) ∧ w'.cell? ⟨gX, k, none⟩ = some (.int .u64 x1))
          (first | exact ⟨(hce.out _ T).2.2.2.1, hXh.out _ T⟩ | exact ⟨(hce.out _ T.drew).2.2.2.1, hXh.out _ T.drew⟩)
          (first
            | (go_at_call 30; (with_reducible refine (hll.out _ (by first | exact T | exact T.drew)).mono ?_); rintro e w3 ⟨rfl, hb⟩; (first | replace hb := undrew hb | replace hb := undrewN hb | skip); replace T := up T hb T.size; replace O4 := O4.below hb; replace O5 := O5.below hb; replace HZ := HZ.below hb; clear hb))
        clear zX zY c0 c1 c2 c3 c4
        obtain ⟨c0, c1, c2, c3, c4⟩ := hce.out _ T
        have zY := hYh.out _ T
        go_upto_region 10 with fail
        have HF := Has.new w3 0 y
        replace O4 := O4.alloc (.cells #[eU 0, eU y] 66)
        replace O5 := O5.alloc (.cells #[eU 0, eU y] 66)
        replace HZ := HZ.alloc (.cells #[eU 0, eU y] 66)
        replace T := T.alloc T.size (.cells #[eU 0, eU y] 66)
        obtain ⟨F9, hF9⟩ : ∃ v, w3.heap.size = v := ⟨_, rfl⟩
        rw [hF9] at HF
        rw [hF9]
        obtain ⟨W0, hW0⟩ : ∃ v, w3.alloc (.cells #[eU 0, eU y] 66) = v := ⟨_, rfl⟩
        rw [hW0] at HF O4 O5 HZ T
        rw [hW0]
        clear hW0 hF9 c0 c1 c2 c3 c4 zY
        go_cut [10, 11] (fun s10 s11 wx => ∃ Ma : Nat, s10 = .pointer (some ⟨Ma, 0, none⟩) ∧ W0.heap.size ≤ Ma ∧ Own wx Ma g1 g2 ∧ Below W0.heap.size W0 wx)
        case first =>
          have E := Below.refl W0.heap.size W0
          have hS4' : ∀ w', Below W0.heap.size W0 w' → (w'.cell? ⟨F9, 0, none⟩ = some (.int .u64 0) ∧ w'.cell? ⟨F9, 1, none⟩ = some (.int .u64 y) ∧ w'.cell? ⟨B, 0, none⟩ = some (.int .u64 f)) := fun w' E => ⟨(HF.below E).2.1, (HF.below E).2.2, (hce.out _ (up T E T.size)).1⟩
          have hS4 := Lib.hid hS4'
          clear hS4'
          obtain ⟨s40, s41, s42⟩ := hS4.out _ E
          go_region_held3 (fun w' => w'.cell? ⟨F9, 0, none⟩ = some (.int .u64 0) ∧ w'.cell? ⟨F9, 1, none⟩ = some (.int .u64 y) ∧ w'.cell? ⟨B, 0, none⟩ = some (.int .u64 f))
            (first | exact hS4.out _ E | exact hS4.out _ E.drew | exact hS4.out _ (E.alloc E.size _) | exact hS4.out _ (E.alloc E.size _).drew | exact hS4.out _ ((E.setCell (by exact hN) _).setCell (by exact hN) _) | go_keep)
            (first
              | (go_at_call 46; (with_reducible refine (hMa _).mono ?_); rintro e w4 ⟨rfl, hb⟩; (first | replace hb := undrew hb | replace hb := undrewN hb | skip); (first | (replace HN := HN.below hb; replace E := up E hb E.size) | (replace E := up E hb E.size) | (have HN := (Own.new2 _ _ 0 0).below hb; have hN : W0.heap.size ≤ W0.heap.size + 1 := Nat.le_succ _; replace E := up (E.alloc E.size _) hb (E.alloc E.size _).size) | (have HN := (Own.new _ 0 0).below hb; have hN := E.size; replace E := up (E.alloc E.size _) hb (E.alloc E.size _).size)); (try (obtain ⟨⟨xN, yN, zN⟩, fN, gN⟩ := id HN)); clear hb)
              | (go_at_call 47; (with_reducible refine (hPa _).mono ?_); rintro e w5 ⟨rfl, hb⟩; (first | replace hb := undrew hb | replace hb := undrewN hb | skip); (first | (replace HN := HN.below hb; replace E := up E hb E.size) | (replace E := up E hb E.size) | (have HN := (Own.new2 _ _ 0 0).below hb; have hN : W0.heap.size ≤ W0.heap.size + 1 := Nat.le_succ _; replace E := up (E.alloc E.size _) hb (E.alloc E.size _).size) | (have HN := (Own.new _ 0 0).below hb; have hN := E.size; replace E := up (E.alloc E.size _) hb (E.alloc E.size _).size)); (try (obtain ⟨⟨xN, yN, zN⟩, fN, gN⟩ := id HN)); clear hb))
          all_goals go_wp2_with fail
          all_goals go_meet
          all_goals first
            | exact ⟨_, rfl, E.size, Own.new _ _ _, E.alloc E.size _⟩
            | exact ⟨_, rfl, hN, HN.store _ _, (E.setCell hN _).setCell hN _⟩
        case rest =>
          obtain ⟨Ma, rfl, hMaW, HA, E⟩ := hcut
          rename World => W1
          have hA4 : w.heap.size < Ma := Nat.lt_of_lt_of_le O4.lt hMaW
          have hA5 : w.heap.size + 1 < Ma := Nat.lt_of_lt_of_le O5.lt hMaW
          have hAl := HA.lt
          replace T := up T E T.size
          replace O4 := O4.below E
          replace O5 := O5.below E
          replace HZ := HZ.below E
          replace HF := HF.below E
          clear E
          have hZl := HZ.1
          go_upto_region 11 with fail
          go_cut [12, 13] (fun s10 s11 wx => ∃ Ma : Nat, s10 = .pointer (some ⟨Ma, 0, none⟩) ∧ W1.heap.size ≤ Ma ∧ Own wx Ma ea1 ea2 ∧ Below W1.heap.size W1 wx)
          case first =>
            have E := Below.refl W1.heap.size W1
            have hS4' : ∀ w', Below W1.heap.size W1 w' → (w'.cell? ⟨F9, 0, none⟩ = some (.int .u64 0) ∧ w'.cell? ⟨F9, 1, none⟩ = some (.int .u64 y) ∧ w'.cell? ⟨B, 2, none⟩ = some (.int .u64 r)) := fun w' E => ⟨(HF.below E).2.1, (HF.below E).2.2, (hce.out _ (up T E T.size)).2.2.1⟩
            have hS4 := Lib.hid hS4'
            clear hS4'
            obtain ⟨s40, s41, s42⟩ := hS4.out _ E
            go_region_held3 (fun w' => w'.cell? ⟨F9, 0, none⟩ = some (.int .u64 0) ∧ w'.cell? ⟨F9, 1, none⟩ = some (.int .u64 y) ∧ w'.cell? ⟨B, 2, none⟩ = some (.int .u64 r))
              (first | exact hS4.out _ E | exact hS4.out _ E.drew | exact hS4.out _ (E.alloc E.size _) | exact hS4.out _ (E.alloc E.size _).drew | exact hS4.out _ ((E.setCell (by exact hN) _).setCell (by exact hN) _) | go_keep)
              (first
                | (go_at_call 46; (with_reducible refine (hMr _).mono ?_); rintro e w4 ⟨rfl, hb⟩; (first | replace hb := undrew hb | replace hb := undrewN hb | skip); (first | (replace HN := HN.below hb; replace E := up E hb E.size) | (replace E := up E hb E.size) | (have HN := (Own.new2 _ _ 0 0).below hb; have hN : W1.heap.size ≤ W1.heap.size + 1 := Nat.le_succ _; replace E := up (E.alloc E.size _) hb (E.alloc E.size _).size) | (have HN := (Own.new _ 0 0).below hb; have hN := E.size; replace E := up (E.alloc E.size _) hb (E.alloc E.size _).size)); (try (obtain ⟨⟨xN, yN, zN⟩, fN, gN⟩ := id HN)); clear hb)
                | (go_at_call 47; (with_reducible refine (hPr _).mono ?_); rintro e w5 ⟨rfl, hb⟩; (first | replace hb := undrew hb | replace hb := undrewN hb | skip); (first | (replace HN := HN.below hb; replace E := up E hb E.size) | (replace E := up E hb E.size) | (have HN := (Own.new2 _ _ 0 0).below hb; have hN : W1.heap.size ≤ W1.heap.size + 1 := Nat.le_succ _; replace E := up (E.alloc E.size _) hb (E.alloc E.size _).size) | (have HN := (Own.new _ 0 0).below hb; have hN := E.size; replace E := up (E.alloc E.size _) hb (E.alloc E.size _).size)); (try (obtain ⟨⟨xN, yN, zN⟩, fN, gN⟩ := id HN)); clear hb))
            all_goals go_wp2_with fail
            all_goals go_meet
            all_goals first
              | exact ⟨_, rfl, E.size, Own.new _ _ _, E.alloc E.size _⟩
              | exact ⟨_, rfl, hN, HN.store _ _, (E.setCell hN _).setCell hN _⟩
          case rest =>
            obtain ⟨Mb, rfl, hMbW, OB, E⟩ := hcut
            have hB4 : w.heap.size ≠ Mb := Nat.ne_of_lt (Nat.lt_of_lt_of_le O4.lt hMbW)
            have hB5 : w.heap.size + 1 ≠ Mb := Nat.ne_of_lt (Nat.lt_of_lt_of_le O5.lt hMbW)
            have hBA : Ma ≠ Mb := Nat.ne_of_lt (Nat.lt_of_lt_of_le hAl hMbW)
            have hTM : w.heap.size ≤ Mb := Nat.le_trans T.size hMbW
            have hA4' : Ma ≠ w.heap.size := Nat.ne_of_gt hA4
            have hA5' : Ma ≠ w.heap.size + 1 := Nat.ne_of_gt hA5
            replace T := up T E T.size
            replace O4 := O4.below E
            replace O5 := O5.below E
            replace HZ := HZ.below E
            replace HA := HA.below E
            obtain ⟨_, zz0, zz1⟩ := id HZ
            obtain ⟨⟨_, bb0, bb1⟩, bf0, bf1⟩ := id OB
            have hZB : Z ≠ Mb := fun e => by subst e; exact absurd (Nat.lt_of_lt_of_le hZl hMbW) (Nat.lt_irrefl _)
            clear E hMa hMr hPa hPr HF hAl hMaW hMbW
            have hA2 : (za < 0 ∧ hiW (minI GA (k + 1)) = g1 ∧ loW (minI GA (k + 1)) = g2) ∨ (¬ za < 0 ∧ hiW (minI GA (k + 1)) = l1 ∧ loW (minI GA (k + 1)) = l2) := by
              rcases hzA.out with ⟨q, e⟩ | ⟨q, e⟩
              · exact .inl ⟨q, by rw [e]; exact hEq.out.1.1, by rw [e]; exact hEq.out.1.2⟩
              · exact .inr ⟨by omega, by rw [e]; exact hEq.out.2.2.1.1, by rw [e]; exact hEq.out.2.2.1.2⟩
            have hB2 : (zb < 0 ∧ hiW (minI GB (k + 1)) = b1 ∧ loW (minI GB (k + 1)) = b2) ∨ (¬ zb < 0 ∧ hiW (minI GB (k + 1)) = j1 ∧ loW (minI GB (k + 1)) = j2) := by
              rcases hzB.out with ⟨q, e⟩ | ⟨q, e⟩
              · exact .inl ⟨q, by rw [e]; exact hEq.out.2.1.1, by rw [e]; exact hEq.out.2.1.2⟩
              · exact .inr ⟨by omega, by rw [e]; exact hEq.out.2.2.2.1, by rw [e]; exact hEq.out.2.2.2.2⟩
            clear hzA hzB hEq
            rcases hA2 with ⟨zA, eA⟩ | ⟨zA, eA⟩ <;> rcases hB2 with ⟨zB, eB⟩ | ⟨zB, eB⟩
            all_goals have qA := Lib.hid eA
            all_goals have qB := Lib.hid eB
            all_goals clear eA eB
            all_goals go_wp2_with (first
              | (go_at_call 47; (with_reducible refine (hPo _).mono ?_); rintro e w6 ⟨rfl, hb⟩; (first | replace hb := undrew hb | skip); replace T := up T hb T.size; replace O4 := O4.below hb; replace O5 := O5.below hb; replace HZ := HZ.below hb; replace HA := HA.below hb; replace OB := OB.below hb; clear hb zz0 zz1 bb0 bb1 bf0 bf1; obtain ⟨⟨_, bb0, bb1⟩, bf0, bf1⟩ := id OB; replace OB := OB.store b1 b2; replace O4 := (O4.setNe (a := ⟨Mb, 0, none⟩) hB4 (eU b1)).setNe (a := ⟨Mb, 1, none⟩) hB4 (eU b2); replace O5 := (O5.setNe (a := ⟨Mb, 0, none⟩) hB5 (eU b1)).setNe (a := ⟨Mb, 1, none⟩) hB5 (eU b2); replace HA := (HA.setNe (a := ⟨Mb, 0, none⟩) hBA (eU b1)).setNe (a := ⟨Mb, 1, none⟩) hBA (eU b2); replace HZ := (HZ.setNe (a := ⟨Mb, 0, none⟩) hZB (eU b1)).setNe (a := ⟨Mb, 1, none⟩) hZB (eU b2); replace T := (T.setCell (p := ⟨Mb, 0, none⟩) hTM (eU b1)).setCell (p := ⟨Mb, 1, none⟩) hTM (eU b2); obtain ⟨⟨_, aa0, aa1⟩, _, _⟩ := id HA; obtain ⟨⟨_, pp0, pp1⟩, _, _⟩ := id O4)
              | (go_at_call 48; (with_reducible refine (hCa _).mono ?_); rintro e w8 ⟨rfl, hb⟩; (first | replace hb := undrew hb | skip); replace T := up T hb T.size; replace O4 := O4.below hb; replace O5 := O5.below hb; replace HZ := HZ.below hb; replace HA := HA.below hb; replace OB := OB.below hb; clear hb aa0 aa1 pp0 pp1 bb0 bb1 bf0 bf1; have K5 := (O5.setNe (a := ⟨w.heap.size, 0, none⟩) hPQ.symm (eU g1)).setNe (a := ⟨w.heap.size, 1, none⟩) hPQ.symm (eU g2); have KB := (OB.setNe (a := ⟨w.heap.size, 0, none⟩) hB4.symm (eU g1)).setNe (a := ⟨w.heap.size, 1, none⟩) hB4.symm (eU g2); obtain ⟨⟨_, aa0, aa1⟩, _, _⟩ := id HA; obtain ⟨⟨_, pp0, pp1⟩, pf0, pf1⟩ := id O4; obtain ⟨⟨_, bb0, bb1⟩, _, _⟩ := id OB; obtain ⟨⟨_, kb0, kb1⟩, _, _⟩ := id KB; obtain ⟨⟨_, k50, k51⟩, _, _⟩ := id K5; obtain ⟨⟨_, qq0, qq1⟩, _, _⟩ := id O5)
              | (go_at_call 48; (with_reducible refine (hCb _).mono ?_); rintro e w9 ⟨rfl, hb⟩; (first | replace hb := undrew hb | skip); (first | (replace T := up T hb T.size; replace O4 := O4.below hb; replace O5 := O5.below hb; replace HZ := HZ.below hb; replace OB := OB.below hb) | (replace T := up ((T.setCell (p := ⟨w.heap.size, 0, none⟩) (Nat.le_refl _) (eU g1)).setCell (p := ⟨w.heap.size, 1, none⟩) (Nat.le_refl _) (eU g2)) hb (by have := T.size; simp; omega); replace O4 := (O4.store g1 g2).below hb; replace O5 := K5.below hb; replace OB := KB.below hb; replace HZ := ((HZ.setNe (a := ⟨w.heap.size, 0, none⟩) hZP (eU g1)).setNe (a := ⟨w.heap.size, 1, none⟩) hZP (eU g2)).below hb)); clear hb aa0 aa1 pp0 pp1 pf0 pf1 bb0 bb1 kb0 kb1 k50 k51 qq0 qq1 K5 KB; obtain ⟨⟨_, bb0, bb1⟩, _, _⟩ := id OB; obtain ⟨⟨_, qq0, qq1⟩, qf0, qf1⟩ := id O5))
            all_goals go_roundw
            all_goals first
              | (simp [intOf]; omega)
              | exact ⟨k + 1, rfl, by omega, by rw [qA.out.1, qA.out.2]; exact O4, by rw [qB.out.1, qB.out.2]; exact O5, HZ, T⟩
              | exact ⟨k + 1, rfl, by omega, by rw [qA.out.1, qA.out.2]; exact (O4.setNe (by exact hPQ) _).setNe (by exact hPQ) _, by rw [qB.out.1, qB.out.2]; exact O5.store b1 b2, (HZ.setNe (by exact hZQ) _).setNe (by exact hZQ) _, (T.setCell (by exact Nat.le_succ _) _).setCell (by exact Nat.le_succ _) _⟩
      · obtain rfl : k = n := by omega
        have i1 : ¬ (k : Int) < (k : Int) := by omega
        obtain ⟨c0, c1, c2, c3, c4⟩ := hce.out _ T
        have hS1 := hs1.out
        have hS2 := hs2.out
        obtain ⟨l1, h5⟩ : ∃ v, hiW (minI GA k) = v := ⟨_, rfl⟩
        obtain ⟨l2, h6⟩ : ∃ v, loW (minI GA k) = v := ⟨_, rfl⟩
        obtain ⟨j1, h7⟩ : ∃ v, hiW (minI GB k) = v := ⟨_, rfl⟩
        obtain ⟨j2, h8⟩ : ∃ v, loW (minI GB k) = v := ⟨_, rfl⟩
        rw [h5, h6] at hS1 O4
        rw [h7, h8] at hS2 O5
        clear h5 h6 h7 h8
        obtain ⟨⟨_, p0, p1⟩, _, _⟩ := id O4
        obtain ⟨⟨_, r0, r1⟩, _, _⟩ := id O5
        go_upto_region 17 with fail
        go_region_held3 (fun w' => w'.cell? ⟨w.heap.size, 0, none⟩ = some (.int .u64 l1) ∧ w'.cell? ⟨w.heap.size, 1, none⟩ = some (.int .u64 l2) ∧ w'.cell? ⟨w.heap.size + 1, 0, none⟩ = some (.int .u64 j1) ∧ w'.cell? ⟨w.heap.size + 1, 1, none⟩ = some (.int .u64 j2))
          (first | exact ⟨O4.1.2.1, O4.1.2.2, O5.1.2.1, O5.1.2.2⟩)
          (first
            | (go_at_call 49; (with_reducible refine (hS1 _).mono ?_); rintro e w4 ⟨rfl, hb⟩; (first | replace hb := undrew hb | replace hb := undrewN hb | skip); replace T := up T hb T.size; replace O4 := O4.below hb; replace O5 := O5.below hb; clear hb)
            | (go_at_call 49; (with_reducible refine (hS2 _).mono ?_); rintro e w5 ⟨rfl, hb⟩; (first | replace hb := undrew hb | replace hb := undrewN hb | skip); replace T := up T hb T.size; replace O4 := O4.below hb; replace O5 := O5.below hb; clear hb))
        all_goals go_wp2
        all_goals go_ret2
        all_goals exact ⟨rfl, T⟩
end Go.Proofs.Ytdhfblcheoahaaa
