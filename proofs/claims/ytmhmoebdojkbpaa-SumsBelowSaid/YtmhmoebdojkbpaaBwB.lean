import Derived.Test.YtmhmoebdojkbpaaBwA
import Derived.Deep.RegionHeldLaw
/- Below: the statement's walk where all three curves may be. -/
namespace Go.Proofs.Ytmhmoebdojkbpaa
open Go.RowKit Go.Shelf W
set_option linter.unusedVariables false
set_option maxRecDepth 100000
theorem oneR (X : World) (A : Cv) : IsCvs (X.alloc (.cells #[eU A.f, eU A.l, eU A.r] 31)) (some ⟨X.heap.size, 0, none⟩) 1 1 [A] := by
  refine ⟨rfl, Nat.le_refl _, .inr ⟨X.heap.size, 0, rfl, by simp, fun i hi => ?_⟩⟩
  obtain rfl : i = 0 := by simp at hi; omega
  simp
theorem IsCvs.drew {w : World} {a : Option Addr} {n c : Nat} {xs : List Cv} (h : IsCvs w a n c xs) : IsCvs w.drew a n c xs := h.below ((Below.refl _ w).drew)
theorem oneR2 (X : World) (o : Obj) (A : Cv) : IsCvs ((X.alloc o).alloc (.cells #[eU A.f, eU A.l, eU A.r] 31)) (some ⟨X.heap.size + 1, 0, none⟩) 1 1 [A] := by
  have h := oneR (X.alloc o) A
  rwa [World.size_alloc] at h
section
variable (f l r f1 l1 r1 f2 l2 r2 : Int) (a : Option Addr) (n c : Nat) (rate t : Int) (w : World)
set_option maxHeartbeats 8000000 in
theorem bw_yes (bc ac ba : Bool) (sa1 sa2 sb1 sb2 z : Int) (h1 : n ≤ 20) (h2 : t < 9223372036854775808) (hbc : bc = true → ac = true) (hba : ba = false ∨ (ba = true ∧ f1 = f ∧ l1 = l ∧ r1 = r ∧ ac = bc)) (hz : ¬ 0 < z)
    (hA : ∀ w, Calls Try.prog 23 #[] w fun e w' => e = .returned (.bool true) ∧ Below w.heap.size w w')
    (hMa : ∀ w, Calls Try.prog 25 #[.agg #[eU f, eU l, eU r]] w fun e w' => e = .returned (.bool true) ∧ Below w.heap.size w w')
    (hMb : ∀ w, Calls Try.prog 25 #[.agg #[eU f1, eU l1, eU r1]] w fun e w' => e = .returned (.bool true) ∧ Below w.heap.size w w')
    (hMc : ∀ w, Calls Try.prog 25 #[.agg #[eU f2, eU l2, eU r2]] w fun e w' => e = .returned (.bool true) ∧ Below w.heap.size w w')
    (hAA : ∀ w, Calls Try.prog 21 #[.agg #[eU f, eU l, eU r], .agg #[eU f, eU l, eU r]] w fun e w' => e = .returned (.bool true) ∧ Below w.heap.size w w')
    (hAB : ∀ w, Calls Try.prog 21 #[.agg #[eU f, eU l, eU r], .agg #[eU f1, eU l1, eU r1]] w fun e w' => e = .returned (.bool true) ∧ Below w.heap.size w w')
    (hBC : ∀ w, Calls Try.prog 21 #[.agg #[eU f1, eU l1, eU r1], .agg #[eU f2, eU l2, eU r2]] w fun e w' => e = .returned (.bool bc) ∧ Below w.heap.size w w')
    (hAC : ∀ w, Calls Try.prog 21 #[.agg #[eU f, eU l, eU r], .agg #[eU f2, eU l2, eU r2]] w fun e w' => e = .returned (.bool ac) ∧ Below w.heap.size w w')
    (hBA : ∀ w, Calls Try.prog 21 #[.agg #[eU f1, eU l1, eU r1], .agg #[eU f, eU l, eU r]] w fun e w' => e = .returned (.bool ba) ∧ Below w.heap.size w w')
    (hTA : ∀ g w', IsCvs w' (some ⟨g, 0, none⟩) 1 1 [⟨f, l, r⟩] → Calls Try.prog 10 #[.slice (some ⟨g, 0, none⟩) 1 1, eU t] w' fun e w'' => e = .returned (.agg #[eU sa1, eU sa2]) ∧ Below w'.heap.size w' w'')
    (hTB : ∀ g w', IsCvs w' (some ⟨g, 0, none⟩) 1 1 [⟨f1, l1, r1⟩] → Calls Try.prog 10 #[.slice (some ⟨g, 0, none⟩) 1 1, eU t] w' fun e w'' => e = .returned (.agg #[eU sb1, eU sb2]) ∧ Below w'.heap.size w' w'')
    (hC : ∀ w, Calls Try.prog 27 #[.agg #[eU sa1, eU sa2], .agg #[eU sb1, eU sb2]] w fun e w' => e = .returned (.int .i64 z) ∧ Below w.heap.size w w')
    (xs : List Cv) (ka kb : Bool) (hkk : kb = true → ka = true) (hI : ∀ w', Below w.heap.size w w' → IsCvs w' a n c xs)
    (hKb : ∀ g k w', IsCvs w' (some ⟨g, 0, none⟩) (n + 1) k (xs ++ [⟨f1, l1, r1⟩]) → Calls Try.prog 17 #[.slice (some ⟨g, 0, none⟩) (n + 1) k, eU rate] w' fun e w'' => e = .returned (.bool kb) ∧ Below w'.heap.size w' w'')
    (hKa : ∀ g k w', IsCvs w' (some ⟨g, 0, none⟩) (n + 1) k (xs ++ [⟨f, l, r⟩]) → Calls Try.prog 17 #[.slice (some ⟨g, 0, none⟩) (n + 1) k, eU rate] w' fun e w'' => e = .returned (.bool ka) ∧ Below w'.heap.size w' w'') :
    Calls Try.prog 8 #[.agg #[eU f, eU l, eU r], .agg #[eU f1, eU l1, eU r1], .agg #[eU f2, eU l2, eU r2], .slice a n c, eU rate, eU t] w fun e w' => e = .returned (.bool true) ∧ Below w.heap.size w w' := by
  have T := up3 w (.cells #[eU f, eU l, eU r] 31) (.cells #[eU f1, eU l1, eU r1] 31) (.cells #[eU f2, eU l2, eU r2] 31)
  have H3 := ABC.new w ⟨f, l, r⟩ ⟨f1, l1, r1⟩ ⟨f2, l2, r2⟩
  have h' : ¬ (20 : Int) < (n : Int) := by omega
  have h'' : ¬ (9223372036854775808 : Int) ≤ t := by omega
  clear h2
  have hBB : (bc = true ∧ ac = true) ∨ (bc = false) := by
    cases bc
    · exact .inr rfl
    · exact .inl ⟨rfl, hbc rfl⟩
  clear hbc
  go_enter Try.func8, Try.ntmps8
  go_upto_region 7 with (first
      | (go_at_call 23; (with_reducible refine (hA _).mono ?_); rintro e w1 ⟨rfl, hb⟩; replace T := up T hb (by have := T.size; simp at this ⊢; omega); replace H3 := H3.below hb; clear hb; obtain ⟨⟨a0, a1, a2⟩, ⟨b0, b1, b2⟩, c0, c1, c2⟩ := H3.cells; dsimp only at a0 a1 a2 b0 b1 b2 c0 c1 c2)
      | (go_at_call 25; (with_reducible refine (hMa _).mono ?_); rintro e w2 ⟨rfl, hb⟩; replace T := up T hb T.size; replace H3 := H3.below hb; clear hb a0 a1 a2 b0 b1 b2 c0 c1 c2; obtain ⟨⟨a0, a1, a2⟩, ⟨b0, b1, b2⟩, c0, c1, c2⟩ := H3.cells; dsimp only at a0 a1 a2 b0 b1 b2 c0 c1 c2)
      | (go_at_call 25; (with_reducible refine (hMb _).mono ?_); rintro e w2 ⟨rfl, hb⟩; replace T := up T hb T.size; replace H3 := H3.below hb; clear hb a0 a1 a2 b0 b1 b2 c0 c1 c2; obtain ⟨⟨a0, a1, a2⟩, ⟨b0, b1, b2⟩, c0, c1, c2⟩ := H3.cells; dsimp only at a0 a1 a2 b0 b1 b2 c0 c1 c2)
      | (go_at_call 25; (with_reducible refine (hMc _).mono ?_); rintro e w2 ⟨rfl, hb⟩; replace T := up T hb T.size; replace H3 := H3.below hb; clear hb a0 a1 a2 b0 b1 b2 c0 c1 c2; obtain ⟨⟨a0, a1, a2⟩, ⟨b0, b1, b2⟩, c0, c1, c2⟩ := H3.cells; dsimp only at a0 a1 a2 b0 b1 b2 c0 c1 c2))
  go_cut [13, 14, 15] (fun s13 s14 s15 wx => s13 = .bool true ∧ s14 = .bool bc ∧ s15 = .bool ac ∧ ABC w.heap.size ⟨f, l, r⟩ ⟨f1, l1, r1⟩ ⟨f2, l2, r2⟩ wx ∧ Below w.heap.size w wx)
  case first =>
    go_region_held3 (fun w' => (w'.cell? ⟨w.heap.size, 0, none⟩ = some (.int .u64 f) ∧ w'.cell? ⟨w.heap.size, 1, none⟩ = some (.int .u64 l) ∧ w'.cell? ⟨w.heap.size, 2, none⟩ = some (.int .u64 r)) ∧ (w'.cell? ⟨w.heap.size + 1, 0, none⟩ = some (.int .u64 f1) ∧ w'.cell? ⟨w.heap.size + 1, 1, none⟩ = some (.int .u64 l1) ∧ w'.cell? ⟨w.heap.size + 1, 2, none⟩ = some (.int .u64 r1)) ∧ (w'.cell? ⟨w.heap.size + 1 + 1, 0, none⟩ = some (.int .u64 f2) ∧ w'.cell? ⟨w.heap.size + 1 + 1, 1, none⟩ = some (.int .u64 l2) ∧ w'.cell? ⟨w.heap.size + 1 + 1, 2, none⟩ = some (.int .u64 r2)))
      (first | exact H3.cells)
      (first
        | (go_at_call 21; (with_reducible refine (hAB _).mono ?_); rintro e w3 ⟨rfl, hb⟩; (first | replace hb := undrew hb | replace hb := undrewN hb | skip); replace T := up T hb T.size; replace H3 := H3.below hb; clear hb)
        | (go_at_call 21; (with_reducible refine (hBC _).mono ?_); rintro e w4 ⟨rfl, hb⟩; (first | replace hb := undrew hb | replace hb := undrewN hb | skip); replace T := up T hb T.size; replace H3 := H3.below hb; clear hb)
        | (go_at_call 21; (with_reducible refine (hAC _).mono ?_); rintro e w5 ⟨rfl, hb⟩; (first | replace hb := undrew hb | replace hb := undrewN hb | skip); replace T := up T hb T.size; replace H3 := H3.below hb; clear hb))
    all_goals go_wp2_with fail
    all_goals go_meet
    all_goals exact ⟨rfl, rfl, rfl, H3, T⟩
  case rest =>
    clear H3 T a0 a1 a2 b0 b1 b2 c0 c1 c2 hMa hMb hMc hA
    obtain ⟨rfl, rfl, rfl, H3, T⟩ := hcut
    obtain ⟨⟨a0, a1, a2⟩, ⟨b0, b1, b2⟩, c0, c1, c2⟩ := H3.cells
    dsimp only at a0 a1 a2 b0 b1 b2 c0 c1 c2
    go_upto_region 8 with fail
    go_cut [87] (fun s87 wx => s87 = .bool false ∧ ABC w.heap.size ⟨f, l, r⟩ ⟨f1, l1, r1⟩ ⟨f2, l2, r2⟩ wx ∧ Below w.heap.size w wx)
    case first =>
      rcases hba with rfl | ⟨rfl, rfl, rfl, rfl, rfl⟩ <;> rcases hBB with ⟨rfl, hac⟩ | rfl
      all_goals first | subst hac | skip
      all_goals go_wp2_with (first
        | (go_at_call 21; (with_reducible refine (hAA _).mono ?_); rintro e w6 ⟨rfl, hb⟩; replace T := up T hb T.size; replace H3 := H3.below hb; clear hb a0 a1 a2 b0 b1 b2 c0 c1 c2; obtain ⟨⟨a0, a1, a2⟩, ⟨b0, b1, b2⟩, c0, c1, c2⟩ := H3.cells; dsimp only at a0 a1 a2 b0 b1 b2 c0 c1 c2)
        | (go_at_call 21; (with_reducible refine (hBA _).mono ?_); rintro e w7 ⟨rfl, hb⟩; replace T := up T hb T.size; replace H3 := H3.below hb; clear hb a0 a1 a2 b0 b1 b2 c0 c1 c2; obtain ⟨⟨a0, a1, a2⟩, ⟨b0, b1, b2⟩, c0, c1, c2⟩ := H3.cells; dsimp only at a0 a1 a2 b0 b1 b2 c0 c1 c2))
      all_goals go_meet
      all_goals first
        | exact ⟨rfl, H3, T⟩
    case rest =>
      clear H3 T a0 a1 a2 b0 b1 b2 c0 c1 c2 hAA hAB hBC hAC hBA hba hBB
      obtain ⟨rfl, H3, T⟩ := hcut
      go_upto_region 10 with fail
      go_cut [100] (fun s100 wx => s100 = .bool false ∧ ABC w.heap.size ⟨f, l, r⟩ ⟨f1, l1, r1⟩ ⟨f2, l2, r2⟩ wx ∧ Below w.heap.size w wx)
      case first =>
        rename World => V
        have E := Below.refl V.heap.size V
        have hS' : ∀ w', Below V.heap.size V w' → ((w'.cell? ⟨w.heap.size, 0, none⟩ = some (.int .u64 f) ∧ w'.cell? ⟨w.heap.size, 1, none⟩ = some (.int .u64 l) ∧ w'.cell? ⟨w.heap.size, 2, none⟩ = some (.int .u64 r)) ∧ (w'.cell? ⟨w.heap.size + 1, 0, none⟩ = some (.int .u64 f1) ∧ w'.cell? ⟨w.heap.size + 1, 1, none⟩ = some (.int .u64 l1) ∧ w'.cell? ⟨w.heap.size + 1, 2, none⟩ = some (.int .u64 r1))) := fun w' E => ⟨(H3.below E).cells.1, (H3.below E).cells.2.1⟩
        have hS := Lib.hid hS'
        clear hS'
        obtain ⟨⟨a0, a1, a2⟩, b0, b1, b2⟩ := hS.out _ E
        go_region_held3 (fun w' => (w'.cell? ⟨w.heap.size, 0, none⟩ = some (.int .u64 f) ∧ w'.cell? ⟨w.heap.size, 1, none⟩ = some (.int .u64 l) ∧ w'.cell? ⟨w.heap.size, 2, none⟩ = some (.int .u64 r)) ∧ (w'.cell? ⟨w.heap.size + 1, 0, none⟩ = some (.int .u64 f1) ∧ w'.cell? ⟨w.heap.size + 1, 1, none⟩ = some (.int .u64 l1) ∧ w'.cell? ⟨w.heap.size + 1, 2, none⟩ = some (.int .u64 r1)))
          (first | exact hS.out _ E | exact hS.out _ E.drew | exact hS.out _ (E.alloc E.size _) | exact hS.out _ (E.alloc E.size _).drew | exact hS.out _ ((E.alloc E.size _).alloc (E.alloc E.size _).size _) | exact hS.out _ ((E.alloc E.size _).alloc (E.alloc E.size _).size _).drew | go_keep)
          (first
            | (go_at_call 10; refine (hTA _ _ (by first | exact SA | exact oneR _ ⟨f, l, r⟩ | exact (oneR _ ⟨f, l, r⟩).below (up1 _ _) | exact oneR2 _ _ ⟨f, l, r⟩ | exact SA.below (up1 _ _) | exact (oneR _ ⟨f, l, r⟩).drew | exact ((oneR _ ⟨f, l, r⟩).below (up1 _ _)).drew | exact (oneR2 _ _ ⟨f, l, r⟩).drew)).mono ?_; rintro e u1 ⟨rfl, hb⟩; (first | replace hb := undrew hb | replace hb := undrewN hb | skip); (first | replace SB := SB.below hb | have SB := (oneR2 _ _ ⟨f1, l1, r1⟩).below hb | have SB := ((oneR _ ⟨f1, l1, r1⟩).below (up1 _ _)).below hb | skip); (first | replace E := up E hb E.size | replace E := up (E.alloc E.size _) hb (E.alloc E.size _).size | replace E := up ((E.alloc E.size _).alloc (E.alloc E.size _).size _) hb ((E.alloc E.size _).alloc (E.alloc E.size _).size _).size); clear hb)
            | (go_at_call 10; refine (hTB _ _ (by first | exact SB | exact oneR _ ⟨f1, l1, r1⟩ | exact (oneR _ ⟨f1, l1, r1⟩).below (up1 _ _) | exact oneR2 _ _ ⟨f1, l1, r1⟩ | exact SB.below (up1 _ _) | exact (oneR _ ⟨f1, l1, r1⟩).drew | exact ((oneR _ ⟨f1, l1, r1⟩).below (up1 _ _)).drew | exact (oneR2 _ _ ⟨f1, l1, r1⟩).drew)).mono ?_; rintro e u2 ⟨rfl, hb⟩; (first | replace hb := undrew hb | replace hb := undrewN hb | skip); (first | replace SA := SA.below hb | have SA := (oneR2 _ _ ⟨f, l, r⟩).below hb | have SA := ((oneR _ ⟨f, l, r⟩).below (up1 _ _)).below hb | skip); (first | replace E := up E hb E.size | replace E := up (E.alloc E.size _) hb (E.alloc E.size _).size | replace E := up ((E.alloc E.size _).alloc (E.alloc E.size _).size _) hb ((E.alloc E.size _).alloc (E.alloc E.size _).size _).size); clear hb)
            | (go_at_call 27; (with_reducible refine (hC _).mono ?_); rintro e u3 ⟨rfl, hb⟩; (first | replace hb := undrew hb | replace hb := undrewN hb | skip); (first | replace E := up E hb E.size | replace E := up (E.alloc E.size _) hb (E.alloc E.size _).size | replace E := up ((E.alloc E.size _).alloc (E.alloc E.size _).size _) hb ((E.alloc E.size _).alloc (E.alloc E.size _).size _).size); clear hb))
        all_goals go_wp2_with fail
        all_goals go_meet
        all_goals first
          | exact ⟨congrArg Value.bool (decide_eq_false (by omega)), H3.below E, up T E T.size⟩
      case rest =>
        clear H3 T
        obtain ⟨rfl, H3, T⟩ := hcut
        go_upto_region 13 with fail
        rename World => V
        have hlV := hI V T
        have hxl := hlV.1
        have hS' : ∀ w', Below V.heap.size V w' → (w'.cell? ⟨w.heap.size, 0, none⟩ = some (.int .u64 f) ∧ w'.cell? ⟨w.heap.size, 1, none⟩ = some (.int .u64 l) ∧ w'.cell? ⟨w.heap.size, 2, none⟩ = some (.int .u64 r)) ∧ (w'.cell? ⟨w.heap.size + 1, 0, none⟩ = some (.int .u64 f1) ∧ w'.cell? ⟨w.heap.size + 1, 1, none⟩ = some (.int .u64 l1) ∧ w'.cell? ⟨w.heap.size + 1, 2, none⟩ = some (.int .u64 r1)) := fun w' E => ⟨(H3.below E).cells.1, (H3.below E).cells.2.1⟩
        have hS := Lib.hid hS'
        clear hS'
        refine wp_region_held_drew (S := fun w' => (w'.cell? ⟨w.heap.size, 0, none⟩ = some (.int .u64 f) ∧ w'.cell? ⟨w.heap.size, 1, none⟩ = some (.int .u64 l) ∧ w'.cell? ⟨w.heap.size, 2, none⟩ = some (.int .u64 r)) ∧ (w'.cell? ⟨w.heap.size + 1, 0, none⟩ = some (.int .u64 f1) ∧ w'.cell? ⟨w.heap.size + 1, 1, none⟩ = some (.int .u64 l1) ∧ w'.cell? ⟨w.heap.size + 1, 2, none⟩ = some (.int .u64 r1))) (by kernel_rfl) (hS.out _ (Below.refl V.heap.size V).drew) (fun hHeld => ?_)
        have E := (Below.refl V.heap.size V).drew
        have s0 : V.heap.size ≤ V.drew.heap.size := Nat.le_refl _
        generalize V.drew = X at E hHeld s0 ⊢
        refine wpAnyH_take (i := 1) (v := ?_) (by simp only [List.getElem?_toArray, List.getElem?_cons_zero, List.getElem?_cons_succ]; rfl) (by kernel_rfl) (by kernel_rfl) (by kernel_rfl) (by exact fun _ _ _ h => h) (Or.inl ⟨by rfl, ?_⟩) (by assumption) ?_
        rotate_left
        · (intro w hSw; (try dsimp only at hSw); go_simp; (try with_reducible rfl))
        try simp only [Act.put, List.setIfInBounds_toArray, List.set_cons_zero, List.set_cons_succ]
        refine wpAnyH_take (i := 3) (v := ?_) (by simp only [List.getElem?_toArray, List.getElem?_cons_zero, List.getElem?_cons_succ]; rfl) (by kernel_rfl) (by kernel_rfl) (by kernel_rfl) (by exact fun _ _ _ h => h) (Or.inl ⟨by rfl, ?_⟩) (by assumption) ?_
        rotate_left
        · (intro w hSw; (try dsimp only at hSw); go_simp; (try with_reducible rfl))
        try simp only [Act.put, List.setIfInBounds_toArray, List.set_cons_zero, List.set_cons_succ]
        refine wpAnyH_take (i := 6) (v := ?_) (by simp only [List.getElem?_toArray, List.getElem?_cons_zero, List.getElem?_cons_succ]; rfl) (by kernel_rfl) (by kernel_rfl) (by kernel_rfl) (by exact fun _ _ _ h => h) (Or.inl ⟨by rfl, ?_⟩) (by assumption) ?_
        rotate_left
        · (intro w hSw; (try dsimp only at hSw); go_simp; (try with_reducible rfl))
        try simp only [Act.put, List.setIfInBounds_toArray, List.set_cons_zero, List.set_cons_succ]
        cases kb
        · refine wpAnyH_ready (rs := [0, 4]) (by kernel_rfl) (by simp) ?_
          refine AllReadyH.cons (by simp only [List.getElem?_toArray, List.getElem?_cons_zero]; rfl) (fun K hK => ?_) ?_
          · go_simp
            refine box_name (fun W1 hW => ?_)
            have hR : Box W1 X.heap.size #[] 31 := by rw [← hW]; exact Box.new _ _ _
            have ql1 := hR.lt
            have q1 := E.size
            replace E : Below V.heap.size V W1 := by rw [← hW]; exact E.alloc E.size _
            clear hW
            refine hK.out _ _ (hS.out _ E) (fun hHeld => ?_)
            clear hK K
            try simp only [Act.put, List.setIfInBounds_toArray, List.set_cons_zero, List.set_cons_succ]
            refine wpAnyH_ready (rs := [2, 4]) (by kernel_rfl) (by simp) ?_
            refine AllReadyH.cons (by simp only [List.getElem?_toArray, List.getElem?_cons_zero, List.getElem?_cons_succ]; rfl) (fun K hK => ?_) ?_
            · refine step_app_l (by rfl) _ _ (by rfl) V.heap.size X.heap.size (by rfl) hR (by omega) a n c xs (by rfl) (hlV.below E) h1 ?_
              intro v2 W2 hown hgrow
              replace E := E.grown hgrow E.size (fun k e => by injection e with e; omega)
              clear hgrow hR
              refine hK.out _ _ (hS.out _ E) (fun hHeld => ?_)
              clear hK K
              try simp only [Act.put, List.setIfInBounds_toArray, List.set_cons_zero, List.set_cons_succ]
              refine wpAnyH_ready (rs := [4]) (by kernel_rfl) (by simp) ?_
              refine AllReadyH.cons (by simp only [List.getElem?_toArray, List.getElem?_cons_zero, List.getElem?_cons_succ]; rfl) (fun K hK => ?_) AllReadyH.nil
              go_simp
              refine box_name (fun W3 hW => ?_)
              have HE : Box W3 W2.heap.size #[eU f1, eU l1, eU r1] 31 := by rw [← hW]; exact Box.new _ _ _
              have ql3 := HE.lt
              replace hown := hown.alloc (.cells #[eU f1, eU l1, eU r1] 31)
              rw [hW] at hown
              have q3 := E.size
              replace E : Below V.heap.size V W3 := by rw [← hW]; exact E.alloc E.size _
              clear hW
              refine hK.out _ _ (hS.out _ E) (fun hHeld => ?_)
              clear hK K
              try simp only [Act.put, List.setIfInBounds_toArray, List.set_cons_zero, List.set_cons_succ]
              refine wpAnyH_ready (rs := [5]) (by kernel_rfl) (by simp) ?_
              refine AllReadyH.cons (by simp only [List.getElem?_toArray, List.getElem?_cons_zero, List.getElem?_cons_succ]; rfl) (fun K hK => ?_) AllReadyH.nil
              refine step_app_e (by rfl) _ _ (by rfl) V.heap.size v2 n xs (by rfl) hown E.size W2.heap.size ⟨f1, l1, r1⟩ (by rfl) HE hxl h1 ?_
              intro g4 c4 W4 hIs hb
              replace E := E.trans hb
              clear hb hown HE
              refine hK.out _ _ (hS.out _ E) (fun hHeld => ?_)
              clear hK K
              try simp only [Act.put, List.setIfInBounds_toArray, List.set_cons_zero, List.set_cons_succ]
              refine wpAnyH_ready (rs := [7]) (by kernel_rfl) (by simp) ?_
              refine AllReadyH.cons (by simp only [List.getElem?_toArray, List.getElem?_cons_zero, List.getElem?_cons_succ]; rfl) (fun K hK => ?_) AllReadyH.nil
              go_simp
              (go_at_call 17; (with_reducible refine (hKb _ _ _ hIs).mono ?_); rintro e W5 ⟨rfl, hb⟩; replace E := up E hb E.size; clear hb hIs)
              refine hK.out _ _ (hS.out _ E) (fun hHeld => ?_)
              clear hK K
              try simp only [Act.put, List.setIfInBounds_toArray, List.set_cons_zero, List.set_cons_succ]
              refine wpAnyH_take (i := 8) (v := ?_) (by simp only [List.getElem?_toArray, List.getElem?_cons_zero, List.getElem?_cons_succ]; rfl) (by kernel_rfl) (by kernel_rfl) (by kernel_rfl) (by exact fun _ _ _ h => h) (Or.inl ⟨by rfl, ?_⟩) (by assumption) ?_
              rotate_left
              · (intro w hSw; (try dsimp only at hSw); go_simp; (try with_reducible rfl))
              try simp only [Act.put, List.setIfInBounds_toArray, List.set_cons_zero, List.set_cons_succ]
              refine wpAnyH_take (i := 9) (v := ?_) (by simp only [List.getElem?_toArray, List.getElem?_cons_zero, List.getElem?_cons_succ]; rfl) (by kernel_rfl) (by kernel_rfl) (by kernel_rfl) (by exact fun _ _ _ h => h) (Or.inl ⟨by rfl, ?_⟩) (by assumption) ?_
              rotate_left
              · (intro w hSw; (try dsimp only at hSw); go_simp; (try with_reducible rfl))
              try simp only [Act.put, List.setIfInBounds_toArray, List.set_cons_zero, List.set_cons_succ]
              refine wpAnyH_take (i := 10) (v := undef) (by simp only [List.getElem?_toArray, List.getElem?_cons_zero, List.getElem?_cons_succ]; rfl) (by kernel_rfl) (by kernel_rfl) (by kernel_rfl) (by exact fun _ _ _ h => h) (Or.inr ⟨by rfl, rfl⟩) (by assumption) ?_
              try simp only [Act.put, List.setIfInBounds_toArray, List.set_cons_zero, List.set_cons_succ]
              refine wpAnyH_take (i := 11) (v := undef) (by simp only [List.getElem?_toArray, List.getElem?_cons_zero, List.getElem?_cons_succ]; rfl) (by kernel_rfl) (by kernel_rfl) (by kernel_rfl) (by exact fun _ _ _ h => h) (Or.inr ⟨by rfl, rfl⟩) (by assumption) ?_
              try simp only [Act.put, List.setIfInBounds_toArray, List.set_cons_zero, List.set_cons_succ]
              refine wpAnyH_take (i := 12) (v := undef) (by simp only [List.getElem?_toArray, List.getElem?_cons_zero, List.getElem?_cons_succ]; rfl) (by kernel_rfl) (by kernel_rfl) (by kernel_rfl) (by exact fun _ _ _ h => h) (Or.inr ⟨by rfl, rfl⟩) (by assumption) ?_
              try simp only [Act.put, List.setIfInBounds_toArray, List.set_cons_zero, List.set_cons_succ]
              refine wpAnyH_take (i := 13) (v := undef) (by simp only [List.getElem?_toArray, List.getElem?_cons_zero, List.getElem?_cons_succ]; rfl) (by kernel_rfl) (by kernel_rfl) (by kernel_rfl) (by exact fun _ _ _ h => h) (Or.inr ⟨by rfl, rfl⟩) (by assumption) ?_
              try simp only [Act.put, List.setIfInBounds_toArray, List.set_cons_zero, List.set_cons_succ]
              refine wpAnyH_take (i := 14) (v := undef) (by simp only [List.getElem?_toArray, List.getElem?_cons_zero, List.getElem?_cons_succ]; rfl) (by kernel_rfl) (by kernel_rfl) (by kernel_rfl) (by exact fun _ _ _ h => h) (Or.inr ⟨by rfl, rfl⟩) (by assumption) ?_
              try simp only [Act.put, List.setIfInBounds_toArray, List.set_cons_zero, List.set_cons_succ]
              refine wpAnyH_take (i := 15) (v := undef) (by simp only [List.getElem?_toArray, List.getElem?_cons_zero, List.getElem?_cons_succ]; rfl) (by kernel_rfl) (by kernel_rfl) (by kernel_rfl) (by exact fun _ _ _ h => h) (Or.inr ⟨by rfl, rfl⟩) (by assumption) ?_
              try simp only [Act.put, List.setIfInBounds_toArray, List.set_cons_zero, List.set_cons_succ]
              refine wpAnyH_take (i := 16) (v := undef) (by simp only [List.getElem?_toArray, List.getElem?_cons_zero, List.getElem?_cons_succ]; rfl) (by kernel_rfl) (by kernel_rfl) (by kernel_rfl) (by exact fun _ _ _ h => h) (Or.inr ⟨by rfl, rfl⟩) (by assumption) ?_
              try simp only [Act.put, List.setIfInBounds_toArray, List.set_cons_zero, List.set_cons_succ]
              refine wpAnyH_take (i := 17) (v := undef) (by simp only [List.getElem?_toArray, List.getElem?_cons_zero, List.getElem?_cons_succ]; rfl) (by kernel_rfl) (by kernel_rfl) (by kernel_rfl) (by exact fun _ _ _ h => h) (Or.inr ⟨by rfl, rfl⟩) (by assumption) ?_
              try simp only [Act.put, List.setIfInBounds_toArray, List.set_cons_zero, List.set_cons_succ]
              refine wpAnyH_take (i := 18) (v := ?_) (by simp only [List.getElem?_toArray, List.getElem?_cons_zero, List.getElem?_cons_succ]; rfl) (by kernel_rfl) (by kernel_rfl) (by kernel_rfl) (by exact fun _ _ _ h => h) (Or.inl ⟨by rfl, ?_⟩) (by assumption) ?_
              rotate_left
              · (intro w hSw; (try dsimp only at hSw); go_simp; (try with_reducible rfl))
              try simp only [Act.put, List.setIfInBounds_toArray, List.set_cons_zero, List.set_cons_succ]
              refine wpAnyH_take (i := 19) (v := ?_) (by simp only [List.getElem?_toArray, List.getElem?_cons_zero, List.getElem?_cons_succ]; rfl) (by kernel_rfl) (by kernel_rfl) (by kernel_rfl) (by exact fun _ _ _ h => h) (Or.inl ⟨by rfl, ?_⟩) (by assumption) ?_
              rotate_left
              · (intro w hSw; (try dsimp only at hSw); go_simp; (try with_reducible rfl))
              try simp only [Act.put, List.setIfInBounds_toArray, List.set_cons_zero, List.set_cons_succ]
              refine wpAnyH_done (by kernel_rfl) ?_ _
              go_wp2_with fail
              go_ret
              exact ⟨rfl, up T E T.size⟩
            refine AllReadyH.cons (by simp only [List.getElem?_toArray, List.getElem?_cons_zero, List.getElem?_cons_succ]; rfl) (fun K hK => ?_) AllReadyH.nil
            · go_simp
              refine box_name (fun W6 hW => ?_)
              have HE : Box W6 W1.heap.size #[eU f1, eU l1, eU r1] 31 := by rw [← hW]; exact Box.new _ _ _
              have ql6 := HE.lt
              replace hR := hR.alloc (.cells #[eU f1, eU l1, eU r1] 31)
              rw [hW] at hR
              have q6 := E.size
              replace E : Below V.heap.size V W6 := by rw [← hW]; exact E.alloc E.size _
              clear hW
              refine hK.out _ _ (hS.out _ E) (fun hHeld => ?_)
              clear hK K
              try simp only [Act.put, List.setIfInBounds_toArray, List.set_cons_zero, List.set_cons_succ]
              refine wpAnyH_ready (rs := [2]) (by kernel_rfl) (by simp) ?_
              refine AllReadyH.cons (by simp only [List.getElem?_toArray, List.getElem?_cons_zero, List.getElem?_cons_succ]; rfl) (fun K hK => ?_) AllReadyH.nil
              refine step_app_l (by rfl) _ _ (by rfl) V.heap.size X.heap.size (by rfl) hR (by omega) a n c xs (by rfl) (hlV.below E) h1 ?_
              intro v7 W7 hown hgrow
              have hlt := hR.lt
              have hlt2 := HE.lt
              replace HE := grown_box hgrow HE (fun e => by injection e with e; omega)
              clear hlt hlt2
              replace E := E.grown hgrow E.size (fun k e => by injection e with e; omega)
              clear hgrow hR
              refine hK.out _ _ (hS.out _ E) (fun hHeld => ?_)
              clear hK K
              try simp only [Act.put, List.setIfInBounds_toArray, List.set_cons_zero, List.set_cons_succ]
              refine wpAnyH_ready (rs := [5]) (by kernel_rfl) (by simp) ?_
              refine AllReadyH.cons (by simp only [List.getElem?_toArray, List.getElem?_cons_zero, List.getElem?_cons_succ]; rfl) (fun K hK => ?_) AllReadyH.nil
              refine step_app_e (by rfl) _ _ (by rfl) V.heap.size v7 n xs (by rfl) hown E.size W1.heap.size ⟨f1, l1, r1⟩ (by rfl) HE hxl h1 ?_
              intro g8 c8 W8 hIs hb
              replace E := E.trans hb
              clear hb hown HE
              refine hK.out _ _ (hS.out _ E) (fun hHeld => ?_)
              clear hK K
              try simp only [Act.put, List.setIfInBounds_toArray, List.set_cons_zero, List.set_cons_succ]
              refine wpAnyH_ready (rs := [7]) (by kernel_rfl) (by simp) ?_
              refine AllReadyH.cons (by simp only [List.getElem?_toArray, List.getElem?_cons_zero, List.getElem?_cons_succ]; rfl) (fun K hK => ?_) AllReadyH.nil
              go_simp
              (go_at_call 17; (with_reducible refine (hKb _ _ _ hIs).mono ?_); rintro e W9 ⟨rfl, hb⟩; replace E := up E hb E.size; clear hb hIs)
              refine hK.out _ _ (hS.out _ E) (fun hHeld => ?_)
              clear hK K
              try simp only [Act.put, List.setIfInBounds_toArray, List.set_cons_zero, List.set_cons_succ]
              refine wpAnyH_take (i := 8) (v := ?_) (by simp only [List.getElem?_toArray, List.getElem?_cons_zero, List.getElem?_cons_succ]; rfl) (by kernel_rfl) (by kernel_rfl) (by kernel_rfl) (by exact fun _ _ _ h => h) (Or.inl ⟨by rfl, ?_⟩) (by assumption) ?_
              rotate_left
              · (intro w hSw; (try dsimp only at hSw); go_simp; (try with_reducible rfl))
              try simp only [Act.put, List.setIfInBounds_toArray, List.set_cons_zero, List.set_cons_succ]
              refine wpAnyH_take (i := 9) (v := ?_) (by simp only [List.getElem?_toArray, List.getElem?_cons_zero, List.getElem?_cons_succ]; rfl) (by kernel_rfl) (by kernel_rfl) (by kernel_rfl) (by exact fun _ _ _ h => h) (Or.inl ⟨by rfl, ?_⟩) (by assumption) ?_
              rotate_left
              · (intro w hSw; (try dsimp only at hSw); go_simp; (try with_reducible rfl))
              try simp only [Act.put, List.setIfInBounds_toArray, List.set_cons_zero, List.set_cons_succ]
              refine wpAnyH_take (i := 10) (v := undef) (by simp only [List.getElem?_toArray, List.getElem?_cons_zero, List.getElem?_cons_succ]; rfl) (by kernel_rfl) (by kernel_rfl) (by kernel_rfl) (by exact fun _ _ _ h => h) (Or.inr ⟨by rfl, rfl⟩) (by assumption) ?_
              try simp only [Act.put, List.setIfInBounds_toArray, List.set_cons_zero, List.set_cons_succ]
              refine wpAnyH_take (i := 11) (v := undef) (by simp only [List.getElem?_toArray, List.getElem?_cons_zero, List.getElem?_cons_succ]; rfl) (by kernel_rfl) (by kernel_rfl) (by kernel_rfl) (by exact fun _ _ _ h => h) (Or.inr ⟨by rfl, rfl⟩) (by assumption) ?_
              try simp only [Act.put, List.setIfInBounds_toArray, List.set_cons_zero, List.set_cons_succ]
              refine wpAnyH_take (i := 12) (v := undef) (by simp only [List.getElem?_toArray, List.getElem?_cons_zero, List.getElem?_cons_succ]; rfl) (by kernel_rfl) (by kernel_rfl) (by kernel_rfl) (by exact fun _ _ _ h => h) (Or.inr ⟨by rfl, rfl⟩) (by assumption) ?_
              try simp only [Act.put, List.setIfInBounds_toArray, List.set_cons_zero, List.set_cons_succ]
              refine wpAnyH_take (i := 13) (v := undef) (by simp only [List.getElem?_toArray, List.getElem?_cons_zero, List.getElem?_cons_succ]; rfl) (by kernel_rfl) (by kernel_rfl) (by kernel_rfl) (by exact fun _ _ _ h => h) (Or.inr ⟨by rfl, rfl⟩) (by assumption) ?_
              try simp only [Act.put, List.setIfInBounds_toArray, List.set_cons_zero, List.set_cons_succ]
              refine wpAnyH_take (i := 14) (v := undef) (by simp only [List.getElem?_toArray, List.getElem?_cons_zero, List.getElem?_cons_succ]; rfl) (by kernel_rfl) (by kernel_rfl) (by kernel_rfl) (by exact fun _ _ _ h => h) (Or.inr ⟨by rfl, rfl⟩) (by assumption) ?_
              try simp only [Act.put, List.setIfInBounds_toArray, List.set_cons_zero, List.set_cons_succ]
              refine wpAnyH_take (i := 15) (v := undef) (by simp only [List.getElem?_toArray, List.getElem?_cons_zero, List.getElem?_cons_succ]; rfl) (by kernel_rfl) (by kernel_rfl) (by kernel_rfl) (by exact fun _ _ _ h => h) (Or.inr ⟨by rfl, rfl⟩) (by assumption) ?_
              try simp only [Act.put, List.setIfInBounds_toArray, List.set_cons_zero, List.set_cons_succ]
              refine wpAnyH_take (i := 16) (v := undef) (by simp only [List.getElem?_toArray, List.getElem?_cons_zero, List.getElem?_cons_succ]; rfl) (by kernel_rfl) (by kernel_rfl) (by kernel_rfl) (by exact fun _ _ _ h => h) (Or.inr ⟨by rfl, rfl⟩) (by assumption) ?_
              try simp only [Act.put, List.setIfInBounds_toArray, List.set_cons_zero, List.set_cons_succ]
              refine wpAnyH_take (i := 17) (v := undef) (by simp only [List.getElem?_toArray, List.getElem?_cons_zero, List.getElem?_cons_succ]; rfl) (by kernel_rfl) (by kernel_rfl) (by kernel_rfl) (by exact fun _ _ _ h => h) (Or.inr ⟨by rfl, rfl⟩) (by assumption) ?_
              try simp only [Act.put, List.setIfInBounds_toArray, List.set_cons_zero, List.set_cons_succ]
              refine wpAnyH_take (i := 18) (v := ?_) (by simp only [List.getElem?_toArray, List.getElem?_cons_zero, List.getElem?_cons_succ]; rfl) (by kernel_rfl) (by kernel_rfl) (by kernel_rfl) (by exact fun _ _ _ h => h) (Or.inl ⟨by rfl, ?_⟩) (by assumption) ?_
              rotate_left
              · (intro w hSw; (try dsimp only at hSw); go_simp; (try with_reducible rfl))
              try simp only [Act.put, List.setIfInBounds_toArray, List.set_cons_zero, List.set_cons_succ]
              refine wpAnyH_take (i := 19) (v := ?_) (by simp only [List.getElem?_toArray, List.getElem?_cons_zero, List.getElem?_cons_succ]; rfl) (by kernel_rfl) (by kernel_rfl) (by kernel_rfl) (by exact fun _ _ _ h => h) (Or.inl ⟨by rfl, ?_⟩) (by assumption) ?_
              rotate_left
              · (intro w hSw; (try dsimp only at hSw); go_simp; (try with_reducible rfl))
              try simp only [Act.put, List.setIfInBounds_toArray, List.set_cons_zero, List.set_cons_succ]
              refine wpAnyH_done (by kernel_rfl) ?_ _
              go_wp2_with fail
              go_ret
              exact ⟨rfl, up T E T.size⟩
          refine AllReadyH.cons (by simp only [List.getElem?_toArray, List.getElem?_cons_zero, List.getElem?_cons_succ]; rfl) (fun K hK => ?_) AllReadyH.nil
          · go_simp
            refine box_name (fun W10 hW => ?_)
            have HE : Box W10 X.heap.size #[eU f1, eU l1, eU r1] 31 := by rw [← hW]; exact Box.new _ _ _
            have ql10 := HE.lt
            have q10 := E.size
            replace E : Below V.heap.size V W10 := by rw [← hW]; exact E.alloc E.size _
            clear hW
            refine hK.out _ _ (hS.out _ E) (fun hHeld => ?_)
            clear hK K
            try simp only [Act.put, List.setIfInBounds_toArray, List.set_cons_zero, List.set_cons_succ]
            refine wpAnyH_ready (rs := [0]) (by kernel_rfl) (by simp) ?_
            refine AllReadyH.cons (by simp only [List.getElem?_toArray, List.getElem?_cons_zero]; rfl) (fun K hK => ?_) AllReadyH.nil
            go_simp
            refine box_name (fun W11 hW => ?_)
            have hR : Box W11 W10.heap.size #[] 31 := by rw [← hW]; exact Box.new _ _ _
            have ql11 := hR.lt
            replace HE := HE.alloc (.cells #[] 31)
            rw [hW] at HE
            have q11 := E.size
            replace E : Below V.heap.size V W11 := by rw [← hW]; exact E.alloc E.size _
            clear hW
            refine hK.out _ _ (hS.out _ E) (fun hHeld => ?_)
            clear hK K
            try simp only [Act.put, List.setIfInBounds_toArray, List.set_cons_zero, List.set_cons_succ]
            refine wpAnyH_ready (rs := [2]) (by kernel_rfl) (by simp) ?_
            refine AllReadyH.cons (by simp only [List.getElem?_toArray, List.getElem?_cons_zero, List.getElem?_cons_succ]; rfl) (fun K hK => ?_) AllReadyH.nil
            refine step_app_l (by rfl) _ _ (by rfl) V.heap.size W10.heap.size (by rfl) hR (by omega) a n c xs (by rfl) (hlV.below E) h1 ?_
            intro v12 W12 hown hgrow
            have hlt := hR.lt
            have hlt2 := HE.lt
            replace HE := grown_box hgrow HE (fun e => by injection e with e; omega)
            clear hlt hlt2
            replace E := E.grown hgrow E.size (fun k e => by injection e with e; omega)
            clear hgrow hR
            refine hK.out _ _ (hS.out _ E) (fun hHeld => ?_)
            clear hK K
            try simp only [Act.put, List.setIfInBounds_toArray, List.set_cons_zero, List.set_cons_succ]
            refine wpAnyH_ready (rs := [5]) (by kernel_rfl) (by simp) ?_
            refine AllReadyH.cons (by simp only [List.getElem?_toArray, List.getElem?_cons_zero, List.getElem?_cons_succ]; rfl) (fun K hK => ?_) AllReadyH.nil
            refine step_app_e (by rfl) _ _ (by rfl) V.heap.size v12 n xs (by rfl) hown E.size X.heap.size ⟨f1, l1, r1⟩ (by rfl) HE hxl h1 ?_
            intro g13 c13 W13 hIs hb
            replace E := E.trans hb
            clear hb hown HE
            refine hK.out _ _ (hS.out _ E) (fun hHeld => ?_)
            clear hK K
            try simp only [Act.put, List.setIfInBounds_toArray, List.set_cons_zero, List.set_cons_succ]
            refine wpAnyH_ready (rs := [7]) (by kernel_rfl) (by simp) ?_
            refine AllReadyH.cons (by simp only [List.getElem?_toArray, List.getElem?_cons_zero, List.getElem?_cons_succ]; rfl) (fun K hK => ?_) AllReadyH.nil
            go_simp
            (go_at_call 17; (with_reducible refine (hKb _ _ _ hIs).mono ?_); rintro e W14 ⟨rfl, hb⟩; replace E := up E hb E.size; clear hb hIs)
            refine hK.out _ _ (hS.out _ E) (fun hHeld => ?_)
            clear hK K
            try simp only [Act.put, List.setIfInBounds_toArray, List.set_cons_zero, List.set_cons_succ]
            refine wpAnyH_take (i := 8) (v := ?_) (by simp only [List.getElem?_toArray, List.getElem?_cons_zero, List.getElem?_cons_succ]; rfl) (by kernel_rfl) (by kernel_rfl) (by kernel_rfl) (by exact fun _ _ _ h => h) (Or.inl ⟨by rfl, ?_⟩) (by assumption) ?_
            rotate_left
            · (intro w hSw; (try dsimp only at hSw); go_simp; (try with_reducible rfl))
            try simp only [Act.put, List.setIfInBounds_toArray, List.set_cons_zero, List.set_cons_succ]
            refine wpAnyH_take (i := 9) (v := ?_) (by simp only [List.getElem?_toArray, List.getElem?_cons_zero, List.getElem?_cons_succ]; rfl) (by kernel_rfl) (by kernel_rfl) (by kernel_rfl) (by exact fun _ _ _ h => h) (Or.inl ⟨by rfl, ?_⟩) (by assumption) ?_
            rotate_left
            · (intro w hSw; (try dsimp only at hSw); go_simp; (try with_reducible rfl))
            try simp only [Act.put, List.setIfInBounds_toArray, List.set_cons_zero, List.set_cons_succ]
            refine wpAnyH_take (i := 10) (v := undef) (by simp only [List.getElem?_toArray, List.getElem?_cons_zero, List.getElem?_cons_succ]; rfl) (by kernel_rfl) (by kernel_rfl) (by kernel_rfl) (by exact fun _ _ _ h => h) (Or.inr ⟨by rfl, rfl⟩) (by assumption) ?_
            try simp only [Act.put, List.setIfInBounds_toArray, List.set_cons_zero, List.set_cons_succ]
            refine wpAnyH_take (i := 11) (v := undef) (by simp only [List.getElem?_toArray, List.getElem?_cons_zero, List.getElem?_cons_succ]; rfl) (by kernel_rfl) (by kernel_rfl) (by kernel_rfl) (by exact fun _ _ _ h => h) (Or.inr ⟨by rfl, rfl⟩) (by assumption) ?_
            try simp only [Act.put, List.setIfInBounds_toArray, List.set_cons_zero, List.set_cons_succ]
            refine wpAnyH_take (i := 12) (v := undef) (by simp only [List.getElem?_toArray, List.getElem?_cons_zero, List.getElem?_cons_succ]; rfl) (by kernel_rfl) (by kernel_rfl) (by kernel_rfl) (by exact fun _ _ _ h => h) (Or.inr ⟨by rfl, rfl⟩) (by assumption) ?_
            try simp only [Act.put, List.setIfInBounds_toArray, List.set_cons_zero, List.set_cons_succ]
            refine wpAnyH_take (i := 13) (v := undef) (by simp only [List.getElem?_toArray, List.getElem?_cons_zero, List.getElem?_cons_succ]; rfl) (by kernel_rfl) (by kernel_rfl) (by kernel_rfl) (by exact fun _ _ _ h => h) (Or.inr ⟨by rfl, rfl⟩) (by assumption) ?_
            try simp only [Act.put, List.setIfInBounds_toArray, List.set_cons_zero, List.set_cons_succ]
            refine wpAnyH_take (i := 14) (v := undef) (by simp only [List.getElem?_toArray, List.getElem?_cons_zero, List.getElem?_cons_succ]; rfl) (by kernel_rfl) (by kernel_rfl) (by kernel_rfl) (by exact fun _ _ _ h => h) (Or.inr ⟨by rfl, rfl⟩) (by assumption) ?_
            try simp only [Act.put, List.setIfInBounds_toArray, List.set_cons_zero, List.set_cons_succ]
            refine wpAnyH_take (i := 15) (v := undef) (by simp only [List.getElem?_toArray, List.getElem?_cons_zero, List.getElem?_cons_succ]; rfl) (by kernel_rfl) (by kernel_rfl) (by kernel_rfl) (by exact fun _ _ _ h => h) (Or.inr ⟨by rfl, rfl⟩) (by assumption) ?_
            try simp only [Act.put, List.setIfInBounds_toArray, List.set_cons_zero, List.set_cons_succ]
            refine wpAnyH_take (i := 16) (v := undef) (by simp only [List.getElem?_toArray, List.getElem?_cons_zero, List.getElem?_cons_succ]; rfl) (by kernel_rfl) (by kernel_rfl) (by kernel_rfl) (by exact fun _ _ _ h => h) (Or.inr ⟨by rfl, rfl⟩) (by assumption) ?_
            try simp only [Act.put, List.setIfInBounds_toArray, List.set_cons_zero, List.set_cons_succ]
            refine wpAnyH_take (i := 17) (v := undef) (by simp only [List.getElem?_toArray, List.getElem?_cons_zero, List.getElem?_cons_succ]; rfl) (by kernel_rfl) (by kernel_rfl) (by kernel_rfl) (by exact fun _ _ _ h => h) (Or.inr ⟨by rfl, rfl⟩) (by assumption) ?_
            try simp only [Act.put, List.setIfInBounds_toArray, List.set_cons_zero, List.set_cons_succ]
            refine wpAnyH_take (i := 18) (v := ?_) (by simp only [List.getElem?_toArray, List.getElem?_cons_zero, List.getElem?_cons_succ]; rfl) (by kernel_rfl) (by kernel_rfl) (by kernel_rfl) (by exact fun _ _ _ h => h) (Or.inl ⟨by rfl, ?_⟩) (by assumption) ?_
            rotate_left
            · (intro w hSw; (try dsimp only at hSw); go_simp; (try with_reducible rfl))
            try simp only [Act.put, List.setIfInBounds_toArray, List.set_cons_zero, List.set_cons_succ]
            refine wpAnyH_take (i := 19) (v := ?_) (by simp only [List.getElem?_toArray, List.getElem?_cons_zero, List.getElem?_cons_succ]; rfl) (by kernel_rfl) (by kernel_rfl) (by kernel_rfl) (by exact fun _ _ _ h => h) (Or.inl ⟨by rfl, ?_⟩) (by assumption) ?_
            rotate_left
            · (intro w hSw; (try dsimp only at hSw); go_simp; (try with_reducible rfl))
            try simp only [Act.put, List.setIfInBounds_toArray, List.set_cons_zero, List.set_cons_succ]
            refine wpAnyH_done (by kernel_rfl) ?_ _
            go_wp2_with fail
            go_ret
            exact ⟨rfl, up T E T.size⟩
        · obtain rfl := hkk rfl
          refine wpAnyH_ready (rs := [0, 4]) (by kernel_rfl) (by simp) ?_
          refine AllReadyH.cons (by simp only [List.getElem?_toArray, List.getElem?_cons_zero]; rfl) (fun K hK => ?_) ?_
          · go_simp
            refine box_name (fun W15 hW => ?_)
            have hR : Box W15 X.heap.size #[] 31 := by rw [← hW]; exact Box.new _ _ _
            have ql15 := hR.lt
            have q15 := E.size
            replace E : Below V.heap.size V W15 := by rw [← hW]; exact E.alloc E.size _
            clear hW
            refine hK.out _ _ (hS.out _ E) (fun hHeld => ?_)
            clear hK K
            try simp only [Act.put, List.setIfInBounds_toArray, List.set_cons_zero, List.set_cons_succ]
            refine wpAnyH_ready (rs := [2, 4]) (by kernel_rfl) (by simp) ?_
            refine AllReadyH.cons (by simp only [List.getElem?_toArray, List.getElem?_cons_zero, List.getElem?_cons_succ]; rfl) (fun K hK => ?_) ?_
            · refine step_app_l (by rfl) _ _ (by rfl) V.heap.size X.heap.size (by rfl) hR (by omega) a n c xs (by rfl) (hlV.below E) h1 ?_
              intro v16 W16 hown hgrow
              replace E := E.grown hgrow E.size (fun k e => by injection e with e; omega)
              clear hgrow hR
              refine hK.out _ _ (hS.out _ E) (fun hHeld => ?_)
              clear hK K
              try simp only [Act.put, List.setIfInBounds_toArray, List.set_cons_zero, List.set_cons_succ]
              refine wpAnyH_ready (rs := [4]) (by kernel_rfl) (by simp) ?_
              refine AllReadyH.cons (by simp only [List.getElem?_toArray, List.getElem?_cons_zero, List.getElem?_cons_succ]; rfl) (fun K hK => ?_) AllReadyH.nil
              go_simp
              refine box_name (fun W17 hW => ?_)
              have HE : Box W17 W16.heap.size #[eU f1, eU l1, eU r1] 31 := by rw [← hW]; exact Box.new _ _ _
              have ql17 := HE.lt
              replace hown := hown.alloc (.cells #[eU f1, eU l1, eU r1] 31)
              rw [hW] at hown
              have q17 := E.size
              replace E : Below V.heap.size V W17 := by rw [← hW]; exact E.alloc E.size _
              clear hW
              refine hK.out _ _ (hS.out _ E) (fun hHeld => ?_)
              clear hK K
              try simp only [Act.put, List.setIfInBounds_toArray, List.set_cons_zero, List.set_cons_succ]
              refine wpAnyH_ready (rs := [5]) (by kernel_rfl) (by simp) ?_
              refine AllReadyH.cons (by simp only [List.getElem?_toArray, List.getElem?_cons_zero, List.getElem?_cons_succ]; rfl) (fun K hK => ?_) AllReadyH.nil
              refine step_app_e (by rfl) _ _ (by rfl) V.heap.size v16 n xs (by rfl) hown E.size W16.heap.size ⟨f1, l1, r1⟩ (by rfl) HE hxl h1 ?_
              intro g18 c18 W18 hIs hb
              replace E := E.trans hb
              clear hb hown HE
              refine hK.out _ _ (hS.out _ E) (fun hHeld => ?_)
              clear hK K
              try simp only [Act.put, List.setIfInBounds_toArray, List.set_cons_zero, List.set_cons_succ]
              refine wpAnyH_ready (rs := [7]) (by kernel_rfl) (by simp) ?_
              refine AllReadyH.cons (by simp only [List.getElem?_toArray, List.getElem?_cons_zero, List.getElem?_cons_succ]; rfl) (fun K hK => ?_) AllReadyH.nil
              go_simp
              (go_at_call 17; (with_reducible refine (hKb _ _ _ hIs).mono ?_); rintro e W19 ⟨rfl, hb⟩; replace E := up E hb E.size; clear hb hIs)
              refine hK.out _ _ (hS.out _ E) (fun hHeld => ?_)
              clear hK K
              try simp only [Act.put, List.setIfInBounds_toArray, List.set_cons_zero, List.set_cons_succ]
              refine wpAnyH_take (i := 8) (v := ?_) (by simp only [List.getElem?_toArray, List.getElem?_cons_zero, List.getElem?_cons_succ]; rfl) (by kernel_rfl) (by kernel_rfl) (by kernel_rfl) (by exact fun _ _ _ h => h) (Or.inl ⟨by rfl, ?_⟩) (by assumption) ?_
              rotate_left
              · (intro w hSw; (try dsimp only at hSw); go_simp; (try with_reducible rfl))
              try simp only [Act.put, List.setIfInBounds_toArray, List.set_cons_zero, List.set_cons_succ]
              refine wpAnyH_take (i := 9) (v := ?_) (by simp only [List.getElem?_toArray, List.getElem?_cons_zero, List.getElem?_cons_succ]; rfl) (by kernel_rfl) (by kernel_rfl) (by kernel_rfl) (by exact fun _ _ _ h => h) (Or.inl ⟨by rfl, ?_⟩) (by assumption) ?_
              rotate_left
              · (intro w hSw; (try dsimp only at hSw); go_simp; (try with_reducible rfl))
              try simp only [Act.put, List.setIfInBounds_toArray, List.set_cons_zero, List.set_cons_succ]
              refine wpAnyH_take (i := 11) (v := ?_) (by simp only [List.getElem?_toArray, List.getElem?_cons_zero, List.getElem?_cons_succ]; rfl) (by kernel_rfl) (by kernel_rfl) (by kernel_rfl) (by exact fun _ _ _ h => h) (Or.inl ⟨by rfl, ?_⟩) (by assumption) ?_
              rotate_left
              · (intro w hSw; (try dsimp only at hSw); go_simp; (try with_reducible rfl))
              try simp only [Act.put, List.setIfInBounds_toArray, List.set_cons_zero, List.set_cons_succ]
              refine wpAnyH_take (i := 13) (v := ?_) (by simp only [List.getElem?_toArray, List.getElem?_cons_zero, List.getElem?_cons_succ]; rfl) (by kernel_rfl) (by kernel_rfl) (by kernel_rfl) (by exact fun _ _ _ h => h) (Or.inl ⟨by rfl, ?_⟩) (by assumption) ?_
              rotate_left
              · (intro w hSw; (try dsimp only at hSw); go_simp; (try with_reducible rfl))
              try simp only [Act.put, List.setIfInBounds_toArray, List.set_cons_zero, List.set_cons_succ]
              refine wpAnyH_take (i := 16) (v := ?_) (by simp only [List.getElem?_toArray, List.getElem?_cons_zero, List.getElem?_cons_succ]; rfl) (by kernel_rfl) (by kernel_rfl) (by kernel_rfl) (by exact fun _ _ _ h => h) (Or.inl ⟨by rfl, ?_⟩) (by assumption) ?_
              rotate_left
              · (intro w hSw; (try dsimp only at hSw); go_simp; (try with_reducible rfl))
              try simp only [Act.put, List.setIfInBounds_toArray, List.set_cons_zero, List.set_cons_succ]
              refine wpAnyH_ready (rs := [10, 14]) (by kernel_rfl) (by simp) ?_
              refine AllReadyH.cons (by simp only [List.getElem?_toArray, List.getElem?_cons_zero, List.getElem?_cons_succ]; rfl) (fun K hK => ?_) ?_
              · go_simp
                refine box_name (fun W20 hW => ?_)
                have hR : Box W20 W19.heap.size #[] 31 := by rw [← hW]; exact Box.new _ _ _
                have ql20 := hR.lt
                have q20 := E.size
                replace E : Below V.heap.size V W20 := by rw [← hW]; exact E.alloc E.size _
                clear hW
                refine hK.out _ _ (hS.out _ E) (fun hHeld => ?_)
                clear hK K
                try simp only [Act.put, List.setIfInBounds_toArray, List.set_cons_zero, List.set_cons_succ]
                refine wpAnyH_ready (rs := [12, 14]) (by kernel_rfl) (by simp) ?_
                refine AllReadyH.cons (by simp only [List.getElem?_toArray, List.getElem?_cons_zero, List.getElem?_cons_succ]; rfl) (fun K hK => ?_) ?_
                · refine step_app_l (by rfl) _ _ (by rfl) V.heap.size W19.heap.size (by rfl) hR (by omega) a n c xs (by rfl) (hlV.below E) h1 ?_
                  intro v21 W21 hown hgrow
                  replace E := E.grown hgrow E.size (fun k e => by injection e with e; omega)
                  clear hgrow hR
                  refine hK.out _ _ (hS.out _ E) (fun hHeld => ?_)
                  clear hK K
                  try simp only [Act.put, List.setIfInBounds_toArray, List.set_cons_zero, List.set_cons_succ]
                  refine wpAnyH_ready (rs := [14]) (by kernel_rfl) (by simp) ?_
                  refine AllReadyH.cons (by simp only [List.getElem?_toArray, List.getElem?_cons_zero, List.getElem?_cons_succ]; rfl) (fun K hK => ?_) AllReadyH.nil
                  go_simp
                  refine box_name (fun W22 hW => ?_)
                  have HE : Box W22 W21.heap.size #[eU f, eU l, eU r] 31 := by rw [← hW]; exact Box.new _ _ _
                  have ql22 := HE.lt
                  replace hown := hown.alloc (.cells #[eU f, eU l, eU r] 31)
                  rw [hW] at hown
                  have q22 := E.size
                  replace E : Below V.heap.size V W22 := by rw [← hW]; exact E.alloc E.size _
                  clear hW
                  refine hK.out _ _ (hS.out _ E) (fun hHeld => ?_)
                  clear hK K
                  try simp only [Act.put, List.setIfInBounds_toArray, List.set_cons_zero, List.set_cons_succ]
                  refine wpAnyH_ready (rs := [15]) (by kernel_rfl) (by simp) ?_
                  refine AllReadyH.cons (by simp only [List.getElem?_toArray, List.getElem?_cons_zero, List.getElem?_cons_succ]; rfl) (fun K hK => ?_) AllReadyH.nil
                  refine step_app_e (by rfl) _ _ (by rfl) V.heap.size v21 n xs (by rfl) hown E.size W21.heap.size ⟨f, l, r⟩ (by rfl) HE hxl h1 ?_
                  intro g23 c23 W23 hIs hb
                  replace E := E.trans hb
                  clear hb hown HE
                  refine hK.out _ _ (hS.out _ E) (fun hHeld => ?_)
                  clear hK K
                  try simp only [Act.put, List.setIfInBounds_toArray, List.set_cons_zero, List.set_cons_succ]
                  refine wpAnyH_ready (rs := [17]) (by kernel_rfl) (by simp) ?_
                  refine AllReadyH.cons (by simp only [List.getElem?_toArray, List.getElem?_cons_zero, List.getElem?_cons_succ]; rfl) (fun K hK => ?_) AllReadyH.nil
                  go_simp
                  (go_at_call 17; (with_reducible refine (hKa _ _ _ hIs).mono ?_); rintro e W24 ⟨rfl, hb⟩; replace E := up E hb E.size; clear hb hIs)
                  refine hK.out _ _ (hS.out _ E) (fun hHeld => ?_)
                  clear hK K
                  try simp only [Act.put, List.setIfInBounds_toArray, List.set_cons_zero, List.set_cons_succ]
                  refine wpAnyH_take (i := 18) (v := ?_) (by simp only [List.getElem?_toArray, List.getElem?_cons_zero, List.getElem?_cons_succ]; rfl) (by kernel_rfl) (by kernel_rfl) (by kernel_rfl) (by exact fun _ _ _ h => h) (Or.inl ⟨by rfl, ?_⟩) (by assumption) ?_
                  rotate_left
                  · (intro w hSw; (try dsimp only at hSw); go_simp; (try with_reducible rfl))
                  try simp only [Act.put, List.setIfInBounds_toArray, List.set_cons_zero, List.set_cons_succ]
                  refine wpAnyH_take (i := 19) (v := ?_) (by simp only [List.getElem?_toArray, List.getElem?_cons_zero, List.getElem?_cons_succ]; rfl) (by kernel_rfl) (by kernel_rfl) (by kernel_rfl) (by exact fun _ _ _ h => h) (Or.inl ⟨by rfl, ?_⟩) (by assumption) ?_
                  rotate_left
                  · (intro w hSw; (try dsimp only at hSw); go_simp; (try with_reducible rfl))
                  try simp only [Act.put, List.setIfInBounds_toArray, List.set_cons_zero, List.set_cons_succ]
                  refine wpAnyH_done (by kernel_rfl) ?_ _
                  go_wp2_with fail
                  go_ret
                  exact ⟨rfl, up T E T.size⟩
                refine AllReadyH.cons (by simp only [List.getElem?_toArray, List.getElem?_cons_zero, List.getElem?_cons_succ]; rfl) (fun K hK => ?_) AllReadyH.nil
                · go_simp
                  refine box_name (fun W25 hW => ?_)
                  have HE : Box W25 W20.heap.size #[eU f, eU l, eU r] 31 := by rw [← hW]; exact Box.new _ _ _
                  have ql25 := HE.lt
                  replace hR := hR.alloc (.cells #[eU f, eU l, eU r] 31)
                  rw [hW] at hR
                  have q25 := E.size
                  replace E : Below V.heap.size V W25 := by rw [← hW]; exact E.alloc E.size _
                  clear hW
                  refine hK.out _ _ (hS.out _ E) (fun hHeld => ?_)
                  clear hK K
                  try simp only [Act.put, List.setIfInBounds_toArray, List.set_cons_zero, List.set_cons_succ]
                  refine wpAnyH_ready (rs := [12]) (by kernel_rfl) (by simp) ?_
                  refine AllReadyH.cons (by simp only [List.getElem?_toArray, List.getElem?_cons_zero, List.getElem?_cons_succ]; rfl) (fun K hK => ?_) AllReadyH.nil
                  refine step_app_l (by rfl) _ _ (by rfl) V.heap.size W19.heap.size (by rfl) hR (by omega) a n c xs (by rfl) (hlV.below E) h1 ?_
                  intro v26 W26 hown hgrow
                  have hlt := hR.lt
                  have hlt2 := HE.lt
                  replace HE := grown_box hgrow HE (fun e => by injection e with e; omega)
                  clear hlt hlt2
                  replace E := E.grown hgrow E.size (fun k e => by injection e with e; omega)
                  clear hgrow hR
                  refine hK.out _ _ (hS.out _ E) (fun hHeld => ?_)
                  clear hK K
                  try simp only [Act.put, List.setIfInBounds_toArray, List.set_cons_zero, List.set_cons_succ]
                  refine wpAnyH_ready (rs := [15]) (by kernel_rfl) (by simp) ?_
                  refine AllReadyH.cons (by simp only [List.getElem?_toArray, List.getElem?_cons_zero, List.getElem?_cons_succ]; rfl) (fun K hK => ?_) AllReadyH.nil
                  refine step_app_e (by rfl) _ _ (by rfl) V.heap.size v26 n xs (by rfl) hown E.size W20.heap.size ⟨f, l, r⟩ (by rfl) HE hxl h1 ?_
                  intro g27 c27 W27 hIs hb
                  replace E := E.trans hb
                  clear hb hown HE
                  refine hK.out _ _ (hS.out _ E) (fun hHeld => ?_)
                  clear hK K
                  try simp only [Act.put, List.setIfInBounds_toArray, List.set_cons_zero, List.set_cons_succ]
                  refine wpAnyH_ready (rs := [17]) (by kernel_rfl) (by simp) ?_
                  refine AllReadyH.cons (by simp only [List.getElem?_toArray, List.getElem?_cons_zero, List.getElem?_cons_succ]; rfl) (fun K hK => ?_) AllReadyH.nil
                  go_simp
                  (go_at_call 17; (with_reducible refine (hKa _ _ _ hIs).mono ?_); rintro e W28 ⟨rfl, hb⟩; replace E := up E hb E.size; clear hb hIs)
                  refine hK.out _ _ (hS.out _ E) (fun hHeld => ?_)
                  clear hK K
                  try simp only [Act.put, List.setIfInBounds_toArray, List.set_cons_zero, List.set_cons_succ]
                  refine wpAnyH_take (i := 18) (v := ?_) (by simp only [List.getElem?_toArray, List.getElem?_cons_zero, List.getElem?_cons_succ]; rfl) (by kernel_rfl) (by kernel_rfl) (by kernel_rfl) (by exact fun _ _ _ h => h) (Or.inl ⟨by rfl, ?_⟩) (by assumption) ?_
                  rotate_left
                  · (intro w hSw; (try dsimp only at hSw); go_simp; (try with_reducible rfl))
                  try simp only [Act.put, List.setIfInBounds_toArray, List.set_cons_zero, List.set_cons_succ]
                  refine wpAnyH_take (i := 19) (v := ?_) (by simp only [List.getElem?_toArray, List.getElem?_cons_zero, List.getElem?_cons_succ]; rfl) (by kernel_rfl) (by kernel_rfl) (by kernel_rfl) (by exact fun _ _ _ h => h) (Or.inl ⟨by rfl, ?_⟩) (by assumption) ?_
                  rotate_left
                  · (intro w hSw; (try dsimp only at hSw); go_simp; (try with_reducible rfl))
                  try simp only [Act.put, List.setIfInBounds_toArray, List.set_cons_zero, List.set_cons_succ]
                  refine wpAnyH_done (by kernel_rfl) ?_ _
                  go_wp2_with fail
                  go_ret
                  exact ⟨rfl, up T E T.size⟩
              refine AllReadyH.cons (by simp only [List.getElem?_toArray, List.getElem?_cons_zero, List.getElem?_cons_succ]; rfl) (fun K hK => ?_) AllReadyH.nil
              · go_simp
                refine box_name (fun W29 hW => ?_)
                have HE : Box W29 W19.heap.size #[eU f, eU l, eU r] 31 := by rw [← hW]; exact Box.new _ _ _
                have ql29 := HE.lt
                have q29 := E.size
                replace E : Below V.heap.size V W29 := by rw [← hW]; exact E.alloc E.size _
                clear hW
                refine hK.out _ _ (hS.out _ E) (fun hHeld => ?_)
                clear hK K
                try simp only [Act.put, List.setIfInBounds_toArray, List.set_cons_zero, List.set_cons_succ]
                refine wpAnyH_ready (rs := [10]) (by kernel_rfl) (by simp) ?_
                refine AllReadyH.cons (by simp only [List.getElem?_toArray, List.getElem?_cons_zero, List.getElem?_cons_succ]; rfl) (fun K hK => ?_) AllReadyH.nil
                go_simp
                refine box_name (fun W30 hW => ?_)
                have hR : Box W30 W29.heap.size #[] 31 := by rw [← hW]; exact Box.new _ _ _
                have ql30 := hR.lt
                replace HE := HE.alloc (.cells #[] 31)
                rw [hW] at HE
                have q30 := E.size
                replace E : Below V.heap.size V W30 := by rw [← hW]; exact E.alloc E.size _
                clear hW
                refine hK.out _ _ (hS.out _ E) (fun hHeld => ?_)
                clear hK K
                try simp only [Act.put, List.setIfInBounds_toArray, List.set_cons_zero, List.set_cons_succ]
                refine wpAnyH_ready (rs := [12]) (by kernel_rfl) (by simp) ?_
                refine AllReadyH.cons (by simp only [List.getElem?_toArray, List.getElem?_cons_zero, List.getElem?_cons_succ]; rfl) (fun K hK => ?_) AllReadyH.nil
                refine step_app_l (by rfl) _ _ (by rfl) V.heap.size W29.heap.size (by rfl) hR (by omega) a n c xs (by rfl) (hlV.below E) h1 ?_
                intro v31 W31 hown hgrow
                have hlt := hR.lt
                have hlt2 := HE.lt
                replace HE := grown_box hgrow HE (fun e => by injection e with e; omega)
                clear hlt hlt2
                replace E := E.grown hgrow E.size (fun k e => by injection e with e; omega)
                clear hgrow hR
                refine hK.out _ _ (hS.out _ E) (fun hHeld => ?_)
                clear hK K
                try simp only [Act.put, List.setIfInBounds_toArray, List.set_cons_zero, List.set_cons_succ]
                refine wpAnyH_ready (rs := [15]) (by kernel_rfl) (by simp) ?_
                refine AllReadyH.cons (by simp only [List.getElem?_toArray, List.getElem?_cons_zero, List.getElem?_cons_succ]; rfl) (fun K hK => ?_) AllReadyH.nil
                refine step_app_e (by rfl) _ _ (by rfl) V.heap.size v31 n xs (by rfl) hown E.size W19.heap.size ⟨f, l, r⟩ (by rfl) HE hxl h1 ?_
                intro g32 c32 W32 hIs hb
                replace E := E.trans hb
                clear hb hown HE
                refine hK.out _ _ (hS.out _ E) (fun hHeld => ?_)
                clear hK K
                try simp only [Act.put, List.setIfInBounds_toArray, List.set_cons_zero, List.set_cons_succ]
                refine wpAnyH_ready (rs := [17]) (by kernel_rfl) (by simp) ?_
                refine AllReadyH.cons (by simp only [List.getElem?_toArray, List.getElem?_cons_zero, List.getElem?_cons_succ]; rfl) (fun K hK => ?_) AllReadyH.nil
                go_simp
                (go_at_call 17; (with_reducible refine (hKa _ _ _ hIs).mono ?_); rintro e W33 ⟨rfl, hb⟩; replace E := up E hb E.size; clear hb hIs)
                refine hK.out _ _ (hS.out _ E) (fun hHeld => ?_)
                clear hK K
                try simp only [Act.put, List.setIfInBounds_toArray, List.set_cons_zero, List.set_cons_succ]
                refine wpAnyH_take (i := 18) (v := ?_) (by simp only [List.getElem?_toArray, List.getElem?_cons_zero, List.getElem?_cons_succ]; rfl) (by kernel_rfl) (by kernel_rfl) (by kernel_rfl) (by exact fun _ _ _ h => h) (Or.inl ⟨by rfl, ?_⟩) (by assumption) ?_
                rotate_left
                · (intro w hSw; (try dsimp only at hSw); go_simp; (try with_reducible rfl))
                try simp only [Act.put, List.setIfInBounds_toArray, List.set_cons_zero, List.set_cons_succ]
                refine wpAnyH_take (i := 19) (v := ?_) (by simp only [List.getElem?_toArray, List.getElem?_cons_zero, List.getElem?_cons_succ]; rfl) (by kernel_rfl) (by kernel_rfl) (by kernel_rfl) (by exact fun _ _ _ h => h) (Or.inl ⟨by rfl, ?_⟩) (by assumption) ?_
                rotate_left
                · (intro w hSw; (try dsimp only at hSw); go_simp; (try with_reducible rfl))
                try simp only [Act.put, List.setIfInBounds_toArray, List.set_cons_zero, List.set_cons_succ]
                refine wpAnyH_done (by kernel_rfl) ?_ _
                go_wp2_with fail
                go_ret
                exact ⟨rfl, up T E T.size⟩
            refine AllReadyH.cons (by simp only [List.getElem?_toArray, List.getElem?_cons_zero, List.getElem?_cons_succ]; rfl) (fun K hK => ?_) AllReadyH.nil
            · go_simp
              refine box_name (fun W34 hW => ?_)
              have HE : Box W34 W15.heap.size #[eU f1, eU l1, eU r1] 31 := by rw [← hW]; exact Box.new _ _ _
              have ql34 := HE.lt
              replace hR := hR.alloc (.cells #[eU f1, eU l1, eU r1] 31)
              rw [hW] at hR
              have q34 := E.size
              replace E : Below V.heap.size V W34 := by rw [← hW]; exact E.alloc E.size _
              clear hW
              refine hK.out _ _ (hS.out _ E) (fun hHeld => ?_)
              clear hK K
              try simp only [Act.put, List.setIfInBounds_toArray, List.set_cons_zero, List.set_cons_succ]
              refine wpAnyH_ready (rs := [2]) (by kernel_rfl) (by simp) ?_
              refine AllReadyH.cons (by simp only [List.getElem?_toArray, List.getElem?_cons_zero, List.getElem?_cons_succ]; rfl) (fun K hK => ?_) AllReadyH.nil
              refine step_app_l (by rfl) _ _ (by rfl) V.heap.size X.heap.size (by rfl) hR (by omega) a n c xs (by rfl) (hlV.below E) h1 ?_
              intro v35 W35 hown hgrow
              have hlt := hR.lt
              have hlt2 := HE.lt
              replace HE := grown_box hgrow HE (fun e => by injection e with e; omega)
              clear hlt hlt2
              replace E := E.grown hgrow E.size (fun k e => by injection e with e; omega)
              clear hgrow hR
              refine hK.out _ _ (hS.out _ E) (fun hHeld => ?_)
              clear hK K
              try simp only [Act.put, List.setIfInBounds_toArray, List.set_cons_zero, List.set_cons_succ]
              refine wpAnyH_ready (rs := [5]) (by kernel_rfl) (by simp) ?_
              refine AllReadyH.cons (by simp only [List.getElem?_toArray, List.getElem?_cons_zero, List.getElem?_cons_succ]; rfl) (fun K hK => ?_) AllReadyH.nil
              refine step_app_e (by rfl) _ _ (by rfl) V.heap.size v35 n xs (by rfl) hown E.size W15.heap.size ⟨f1, l1, r1⟩ (by rfl) HE hxl h1 ?_
              intro g36 c36 W36 hIs hb
              replace E := E.trans hb
              clear hb hown HE
              refine hK.out _ _ (hS.out _ E) (fun hHeld => ?_)
              clear hK K
              try simp only [Act.put, List.setIfInBounds_toArray, List.set_cons_zero, List.set_cons_succ]
              refine wpAnyH_ready (rs := [7]) (by kernel_rfl) (by simp) ?_
              refine AllReadyH.cons (by simp only [List.getElem?_toArray, List.getElem?_cons_zero, List.getElem?_cons_succ]; rfl) (fun K hK => ?_) AllReadyH.nil
              go_simp
              (go_at_call 17; (with_reducible refine (hKb _ _ _ hIs).mono ?_); rintro e W37 ⟨rfl, hb⟩; replace E := up E hb E.size; clear hb hIs)
              refine hK.out _ _ (hS.out _ E) (fun hHeld => ?_)
              clear hK K
              try simp only [Act.put, List.setIfInBounds_toArray, List.set_cons_zero, List.set_cons_succ]
              refine wpAnyH_take (i := 8) (v := ?_) (by simp only [List.getElem?_toArray, List.getElem?_cons_zero, List.getElem?_cons_succ]; rfl) (by kernel_rfl) (by kernel_rfl) (by kernel_rfl) (by exact fun _ _ _ h => h) (Or.inl ⟨by rfl, ?_⟩) (by assumption) ?_
              rotate_left
              · (intro w hSw; (try dsimp only at hSw); go_simp; (try with_reducible rfl))
              try simp only [Act.put, List.setIfInBounds_toArray, List.set_cons_zero, List.set_cons_succ]
              refine wpAnyH_take (i := 9) (v := ?_) (by simp only [List.getElem?_toArray, List.getElem?_cons_zero, List.getElem?_cons_succ]; rfl) (by kernel_rfl) (by kernel_rfl) (by kernel_rfl) (by exact fun _ _ _ h => h) (Or.inl ⟨by rfl, ?_⟩) (by assumption) ?_
              rotate_left
              · (intro w hSw; (try dsimp only at hSw); go_simp; (try with_reducible rfl))
              try simp only [Act.put, List.setIfInBounds_toArray, List.set_cons_zero, List.set_cons_succ]
              refine wpAnyH_take (i := 11) (v := ?_) (by simp only [List.getElem?_toArray, List.getElem?_cons_zero, List.getElem?_cons_succ]; rfl) (by kernel_rfl) (by kernel_rfl) (by kernel_rfl) (by exact fun _ _ _ h => h) (Or.inl ⟨by rfl, ?_⟩) (by assumption) ?_
              rotate_left
              · (intro w hSw; (try dsimp only at hSw); go_simp; (try with_reducible rfl))
              try simp only [Act.put, List.setIfInBounds_toArray, List.set_cons_zero, List.set_cons_succ]
              refine wpAnyH_take (i := 13) (v := ?_) (by simp only [List.getElem?_toArray, List.getElem?_cons_zero, List.getElem?_cons_succ]; rfl) (by kernel_rfl) (by kernel_rfl) (by kernel_rfl) (by exact fun _ _ _ h => h) (Or.inl ⟨by rfl, ?_⟩) (by assumption) ?_
              rotate_left
              · (intro w hSw; (try dsimp only at hSw); go_simp; (try with_reducible rfl))
              try simp only [Act.put, List.setIfInBounds_toArray, List.set_cons_zero, List.set_cons_succ]
              refine wpAnyH_take (i := 16) (v := ?_) (by simp only [List.getElem?_toArray, List.getElem?_cons_zero, List.getElem?_cons_succ]; rfl) (by kernel_rfl) (by kernel_rfl) (by kernel_rfl) (by exact fun _ _ _ h => h) (Or.inl ⟨by rfl, ?_⟩) (by assumption) ?_
              rotate_left
              · (intro w hSw; (try dsimp only at hSw); go_simp; (try with_reducible rfl))
              try simp only [Act.put, List.setIfInBounds_toArray, List.set_cons_zero, List.set_cons_succ]
              refine wpAnyH_ready (rs := [10, 14]) (by kernel_rfl) (by simp) ?_
              refine AllReadyH.cons (by simp only [List.getElem?_toArray, List.getElem?_cons_zero, List.getElem?_cons_succ]; rfl) (fun K hK => ?_) ?_
              · go_simp
                refine box_name (fun W38 hW => ?_)
                have hR : Box W38 W37.heap.size #[] 31 := by rw [← hW]; exact Box.new _ _ _
                have ql38 := hR.lt
                have q38 := E.size
                replace E : Below V.heap.size V W38 := by rw [← hW]; exact E.alloc E.size _
                clear hW
                refine hK.out _ _ (hS.out _ E) (fun hHeld => ?_)
                clear hK K
                try simp only [Act.put, List.setIfInBounds_toArray, List.set_cons_zero, List.set_cons_succ]
                refine wpAnyH_ready (rs := [12, 14]) (by kernel_rfl) (by simp) ?_
                refine AllReadyH.cons (by simp only [List.getElem?_toArray, List.getElem?_cons_zero, List.getElem?_cons_succ]; rfl) (fun K hK => ?_) ?_
                · refine step_app_l (by rfl) _ _ (by rfl) V.heap.size W37.heap.size (by rfl) hR (by omega) a n c xs (by rfl) (hlV.below E) h1 ?_
                  intro v39 W39 hown hgrow
                  replace E := E.grown hgrow E.size (fun k e => by injection e with e; omega)
                  clear hgrow hR
                  refine hK.out _ _ (hS.out _ E) (fun hHeld => ?_)
                  clear hK K
                  try simp only [Act.put, List.setIfInBounds_toArray, List.set_cons_zero, List.set_cons_succ]
                  refine wpAnyH_ready (rs := [14]) (by kernel_rfl) (by simp) ?_
                  refine AllReadyH.cons (by simp only [List.getElem?_toArray, List.getElem?_cons_zero, List.getElem?_cons_succ]; rfl) (fun K hK => ?_) AllReadyH.nil
                  go_simp
                  refine box_name (fun W40 hW => ?_)
                  have HE : Box W40 W39.heap.size #[eU f, eU l, eU r] 31 := by rw [← hW]; exact Box.new _ _ _
                  have ql40 := HE.lt
                  replace hown := hown.alloc (.cells #[eU f, eU l, eU r] 31)
                  rw [hW] at hown
                  have q40 := E.size
                  replace E : Below V.heap.size V W40 := by rw [← hW]; exact E.alloc E.size _
                  clear hW
                  refine hK.out _ _ (hS.out _ E) (fun hHeld => ?_)
                  clear hK K
                  try simp only [Act.put, List.setIfInBounds_toArray, List.set_cons_zero, List.set_cons_succ]
                  refine wpAnyH_ready (rs := [15]) (by kernel_rfl) (by simp) ?_
                  refine AllReadyH.cons (by simp only [List.getElem?_toArray, List.getElem?_cons_zero, List.getElem?_cons_succ]; rfl) (fun K hK => ?_) AllReadyH.nil
                  refine step_app_e (by rfl) _ _ (by rfl) V.heap.size v39 n xs (by rfl) hown E.size W39.heap.size ⟨f, l, r⟩ (by rfl) HE hxl h1 ?_
                  intro g41 c41 W41 hIs hb
                  replace E := E.trans hb
                  clear hb hown HE
                  refine hK.out _ _ (hS.out _ E) (fun hHeld => ?_)
                  clear hK K
                  try simp only [Act.put, List.setIfInBounds_toArray, List.set_cons_zero, List.set_cons_succ]
                  refine wpAnyH_ready (rs := [17]) (by kernel_rfl) (by simp) ?_
                  refine AllReadyH.cons (by simp only [List.getElem?_toArray, List.getElem?_cons_zero, List.getElem?_cons_succ]; rfl) (fun K hK => ?_) AllReadyH.nil
                  go_simp
                  (go_at_call 17; (with_reducible refine (hKa _ _ _ hIs).mono ?_); rintro e W42 ⟨rfl, hb⟩; replace E := up E hb E.size; clear hb hIs)
                  refine hK.out _ _ (hS.out _ E) (fun hHeld => ?_)
                  clear hK K
                  try simp only [Act.put, List.setIfInBounds_toArray, List.set_cons_zero, List.set_cons_succ]
                  refine wpAnyH_take (i := 18) (v := ?_) (by simp only [List.getElem?_toArray, List.getElem?_cons_zero, List.getElem?_cons_succ]; rfl) (by kernel_rfl) (by kernel_rfl) (by kernel_rfl) (by exact fun _ _ _ h => h) (Or.inl ⟨by rfl, ?_⟩) (by assumption) ?_
                  rotate_left
                  · (intro w hSw; (try dsimp only at hSw); go_simp; (try with_reducible rfl))
                  try simp only [Act.put, List.setIfInBounds_toArray, List.set_cons_zero, List.set_cons_succ]
                  refine wpAnyH_take (i := 19) (v := ?_) (by simp only [List.getElem?_toArray, List.getElem?_cons_zero, List.getElem?_cons_succ]; rfl) (by kernel_rfl) (by kernel_rfl) (by kernel_rfl) (by exact fun _ _ _ h => h) (Or.inl ⟨by rfl, ?_⟩) (by assumption) ?_
                  rotate_left
                  · (intro w hSw; (try dsimp only at hSw); go_simp; (try with_reducible rfl))
                  try simp only [Act.put, List.setIfInBounds_toArray, List.set_cons_zero, List.set_cons_succ]
                  refine wpAnyH_done (by kernel_rfl) ?_ _
                  go_wp2_with fail
                  go_ret
                  exact ⟨rfl, up T E T.size⟩
                refine AllReadyH.cons (by simp only [List.getElem?_toArray, List.getElem?_cons_zero, List.getElem?_cons_succ]; rfl) (fun K hK => ?_) AllReadyH.nil
                · go_simp
                  refine box_name (fun W43 hW => ?_)
                  have HE : Box W43 W38.heap.size #[eU f, eU l, eU r] 31 := by rw [← hW]; exact Box.new _ _ _
                  have ql43 := HE.lt
                  replace hR := hR.alloc (.cells #[eU f, eU l, eU r] 31)
                  rw [hW] at hR
                  have q43 := E.size
                  replace E : Below V.heap.size V W43 := by rw [← hW]; exact E.alloc E.size _
                  clear hW
                  refine hK.out _ _ (hS.out _ E) (fun hHeld => ?_)
                  clear hK K
                  try simp only [Act.put, List.setIfInBounds_toArray, List.set_cons_zero, List.set_cons_succ]
                  refine wpAnyH_ready (rs := [12]) (by kernel_rfl) (by simp) ?_
                  refine AllReadyH.cons (by simp only [List.getElem?_toArray, List.getElem?_cons_zero, List.getElem?_cons_succ]; rfl) (fun K hK => ?_) AllReadyH.nil
                  refine step_app_l (by rfl) _ _ (by rfl) V.heap.size W37.heap.size (by rfl) hR (by omega) a n c xs (by rfl) (hlV.below E) h1 ?_
                  intro v44 W44 hown hgrow
                  have hlt := hR.lt
                  have hlt2 := HE.lt
                  replace HE := grown_box hgrow HE (fun e => by injection e with e; omega)
                  clear hlt hlt2
                  replace E := E.grown hgrow E.size (fun k e => by injection e with e; omega)
                  clear hgrow hR
                  refine hK.out _ _ (hS.out _ E) (fun hHeld => ?_)
                  clear hK K
                  try simp only [Act.put, List.setIfInBounds_toArray, List.set_cons_zero, List.set_cons_succ]
                  refine wpAnyH_ready (rs := [15]) (by kernel_rfl) (by simp) ?_
                  refine AllReadyH.cons (by simp only [List.getElem?_toArray, List.getElem?_cons_zero, List.getElem?_cons_succ]; rfl) (fun K hK => ?_) AllReadyH.nil
                  refine step_app_e (by rfl) _ _ (by rfl) V.heap.size v44 n xs (by rfl) hown E.size W38.heap.size ⟨f, l, r⟩ (by rfl) HE hxl h1 ?_
                  intro g45 c45 W45 hIs hb
                  replace E := E.trans hb
                  clear hb hown HE
                  refine hK.out _ _ (hS.out _ E) (fun hHeld => ?_)
                  clear hK K
                  try simp only [Act.put, List.setIfInBounds_toArray, List.set_cons_zero, List.set_cons_succ]
                  refine wpAnyH_ready (rs := [17]) (by kernel_rfl) (by simp) ?_
                  refine AllReadyH.cons (by simp only [List.getElem?_toArray, List.getElem?_cons_zero, List.getElem?_cons_succ]; rfl) (fun K hK => ?_) AllReadyH.nil
                  go_simp
                  (go_at_call 17; (with_reducible refine (hKa _ _ _ hIs).mono ?_); rintro e W46 ⟨rfl, hb⟩; replace E := up E hb E.size; clear hb hIs)
                  refine hK.out _ _ (hS.out _ E) (fun hHeld => ?_)
                  clear hK K
                  try simp only [Act.put, List.setIfInBounds_toArray, List.set_cons_zero, List.set_cons_succ]
                  refine wpAnyH_take (i := 18) (v := ?_) (by simp only [List.getElem?_toArray, List.getElem?_cons_zero, List.getElem?_cons_succ]; rfl) (by kernel_rfl) (by kernel_rfl) (by kernel_rfl) (by exact fun _ _ _ h => h) (Or.inl ⟨by rfl, ?_⟩) (by assumption) ?_
                  rotate_left
                  · (intro w hSw; (try dsimp only at hSw); go_simp; (try with_reducible rfl))
                  try simp only [Act.put, List.setIfInBounds_toArray, List.set_cons_zero, List.set_cons_succ]
                  refine wpAnyH_take (i := 19) (v := ?_) (by simp only [List.getElem?_toArray, List.getElem?_cons_zero, List.getElem?_cons_succ]; rfl) (by kernel_rfl) (by kernel_rfl) (by kernel_rfl) (by exact fun _ _ _ h => h) (Or.inl ⟨by rfl, ?_⟩) (by assumption) ?_
                  rotate_left
                  · (intro w hSw; (try dsimp only at hSw); go_simp; (try with_reducible rfl))
                  try simp only [Act.put, List.setIfInBounds_toArray, List.set_cons_zero, List.set_cons_succ]
                  refine wpAnyH_done (by kernel_rfl) ?_ _
                  go_wp2_with fail
                  go_ret
                  exact ⟨rfl, up T E T.size⟩
              refine AllReadyH.cons (by simp only [List.getElem?_toArray, List.getElem?_cons_zero, List.getElem?_cons_succ]; rfl) (fun K hK => ?_) AllReadyH.nil
              · go_simp
                refine box_name (fun W47 hW => ?_)
                have HE : Box W47 W37.heap.size #[eU f, eU l, eU r] 31 := by rw [← hW]; exact Box.new _ _ _
                have ql47 := HE.lt
                have q47 := E.size
                replace E : Below V.heap.size V W47 := by rw [← hW]; exact E.alloc E.size _
                clear hW
                refine hK.out _ _ (hS.out _ E) (fun hHeld => ?_)
                clear hK K
                try simp only [Act.put, List.setIfInBounds_toArray, List.set_cons_zero, List.set_cons_succ]
                refine wpAnyH_ready (rs := [10]) (by kernel_rfl) (by simp) ?_
                refine AllReadyH.cons (by simp only [List.getElem?_toArray, List.getElem?_cons_zero, List.getElem?_cons_succ]; rfl) (fun K hK => ?_) AllReadyH.nil
                go_simp
                refine box_name (fun W48 hW => ?_)
                have hR : Box W48 W47.heap.size #[] 31 := by rw [← hW]; exact Box.new _ _ _
                have ql48 := hR.lt
                replace HE := HE.alloc (.cells #[] 31)
                rw [hW] at HE
                have q48 := E.size
                replace E : Below V.heap.size V W48 := by rw [← hW]; exact E.alloc E.size _
                clear hW
                refine hK.out _ _ (hS.out _ E) (fun hHeld => ?_)
                clear hK K
                try simp only [Act.put, List.setIfInBounds_toArray, List.set_cons_zero, List.set_cons_succ]
                refine wpAnyH_ready (rs := [12]) (by kernel_rfl) (by simp) ?_
                refine AllReadyH.cons (by simp only [List.getElem?_toArray, List.getElem?_cons_zero, List.getElem?_cons_succ]; rfl) (fun K hK => ?_) AllReadyH.nil
                refine step_app_l (by rfl) _ _ (by rfl) V.heap.size W47.heap.size (by rfl) hR (by omega) a n c xs (by rfl) (hlV.below E) h1 ?_
                intro v49 W49 hown hgrow
                have hlt := hR.lt
                have hlt2 := HE.lt
                replace HE := grown_box hgrow HE (fun e => by injection e with e; omega)
                clear hlt hlt2
                replace E := E.grown hgrow E.size (fun k e => by injection e with e; omega)
                clear hgrow hR
                refine hK.out _ _ (hS.out _ E) (fun hHeld => ?_)
                clear hK K
                try simp only [Act.put, List.setIfInBounds_toArray, List.set_cons_zero, List.set_cons_succ]
                refine wpAnyH_ready (rs := [15]) (by kernel_rfl) (by simp) ?_
                refine AllReadyH.cons (by simp only [List.getElem?_toArray, List.getElem?_cons_zero, List.getElem?_cons_succ]; rfl) (fun K hK => ?_) AllReadyH.nil
                refine step_app_e (by rfl) _ _ (by rfl) V.heap.size v49 n xs (by rfl) hown E.size W37.heap.size ⟨f, l, r⟩ (by rfl) HE hxl h1 ?_
                intro g50 c50 W50 hIs hb
                replace E := E.trans hb
                clear hb hown HE
                refine hK.out _ _ (hS.out _ E) (fun hHeld => ?_)
                clear hK K
                try simp only [Act.put, List.setIfInBounds_toArray, List.set_cons_zero, List.set_cons_succ]
                refine wpAnyH_ready (rs := [17]) (by kernel_rfl) (by simp) ?_
                refine AllReadyH.cons (by simp only [List.getElem?_toArray, List.getElem?_cons_zero, List.getElem?_cons_succ]; rfl) (fun K hK => ?_) AllReadyH.nil
                go_simp
                (go_at_call 17; (with_reducible refine (hKa _ _ _ hIs).mono ?_); rintro e W51 ⟨rfl, hb⟩; replace E := up E hb E.size; clear hb hIs)
                refine hK.out _ _ (hS.out _ E) (fun hHeld => ?_)
                clear hK K
                try simp only [Act.put, List.setIfInBounds_toArray, List.set_cons_zero, List.set_cons_succ]
                refine wpAnyH_take (i := 18) (v := ?_) (by simp only [List.getElem?_toArray, List.getElem?_cons_zero, List.getElem?_cons_succ]; rfl) (by kernel_rfl) (by kernel_rfl) (by kernel_rfl) (by exact fun _ _ _ h => h) (Or.inl ⟨by rfl, ?_⟩) (by assumption) ?_
                rotate_left
                · (intro w hSw; (try dsimp only at hSw); go_simp; (try with_reducible rfl))
                try simp only [Act.put, List.setIfInBounds_toArray, List.set_cons_zero, List.set_cons_succ]
                refine wpAnyH_take (i := 19) (v := ?_) (by simp only [List.getElem?_toArray, List.getElem?_cons_zero, List.getElem?_cons_succ]; rfl) (by kernel_rfl) (by kernel_rfl) (by kernel_rfl) (by exact fun _ _ _ h => h) (Or.inl ⟨by rfl, ?_⟩) (by assumption) ?_
                rotate_left
                · (intro w hSw; (try dsimp only at hSw); go_simp; (try with_reducible rfl))
                try simp only [Act.put, List.setIfInBounds_toArray, List.set_cons_zero, List.set_cons_succ]
                refine wpAnyH_done (by kernel_rfl) ?_ _
                go_wp2_with fail
                go_ret
                exact ⟨rfl, up T E T.size⟩
          refine AllReadyH.cons (by simp only [List.getElem?_toArray, List.getElem?_cons_zero, List.getElem?_cons_succ]; rfl) (fun K hK => ?_) AllReadyH.nil
          · go_simp
            refine box_name (fun W52 hW => ?_)
            have HE : Box W52 X.heap.size #[eU f1, eU l1, eU r1] 31 := by rw [← hW]; exact Box.new _ _ _
            have ql52 := HE.lt
            have q52 := E.size
            replace E : Below V.heap.size V W52 := by rw [← hW]; exact E.alloc E.size _
            clear hW
            refine hK.out _ _ (hS.out _ E) (fun hHeld => ?_)
            clear hK K
            try simp only [Act.put, List.setIfInBounds_toArray, List.set_cons_zero, List.set_cons_succ]
            refine wpAnyH_ready (rs := [0]) (by kernel_rfl) (by simp) ?_
            refine AllReadyH.cons (by simp only [List.getElem?_toArray, List.getElem?_cons_zero]; rfl) (fun K hK => ?_) AllReadyH.nil
            go_simp
            refine box_name (fun W53 hW => ?_)
            have hR : Box W53 W52.heap.size #[] 31 := by rw [← hW]; exact Box.new _ _ _
            have ql53 := hR.lt
            replace HE := HE.alloc (.cells #[] 31)
            rw [hW] at HE
            have q53 := E.size
            replace E : Below V.heap.size V W53 := by rw [← hW]; exact E.alloc E.size _
            clear hW
            refine hK.out _ _ (hS.out _ E) (fun hHeld => ?_)
            clear hK K
            try simp only [Act.put, List.setIfInBounds_toArray, List.set_cons_zero, List.set_cons_succ]
            refine wpAnyH_ready (rs := [2]) (by kernel_rfl) (by simp) ?_
            refine AllReadyH.cons (by simp only [List.getElem?_toArray, List.getElem?_cons_zero, List.getElem?_cons_succ]; rfl) (fun K hK => ?_) AllReadyH.nil
            refine step_app_l (by rfl) _ _ (by rfl) V.heap.size W52.heap.size (by rfl) hR (by omega) a n c xs (by rfl) (hlV.below E) h1 ?_
            intro v54 W54 hown hgrow
            have hlt := hR.lt
            have hlt2 := HE.lt
            replace HE := grown_box hgrow HE (fun e => by injection e with e; omega)
            clear hlt hlt2
            replace E := E.grown hgrow E.size (fun k e => by injection e with e; omega)
            clear hgrow hR
            refine hK.out _ _ (hS.out _ E) (fun hHeld => ?_)
            clear hK K
            try simp only [Act.put, List.setIfInBounds_toArray, List.set_cons_zero, List.set_cons_succ]
            refine wpAnyH_ready (rs := [5]) (by kernel_rfl) (by simp) ?_
            refine AllReadyH.cons (by simp only [List.getElem?_toArray, List.getElem?_cons_zero, List.getElem?_cons_succ]; rfl) (fun K hK => ?_) AllReadyH.nil
            refine step_app_e (by rfl) _ _ (by rfl) V.heap.size v54 n xs (by rfl) hown E.size X.heap.size ⟨f1, l1, r1⟩ (by rfl) HE hxl h1 ?_
            intro g55 c55 W55 hIs hb
            replace E := E.trans hb
            clear hb hown HE
            refine hK.out _ _ (hS.out _ E) (fun hHeld => ?_)
            clear hK K
            try simp only [Act.put, List.setIfInBounds_toArray, List.set_cons_zero, List.set_cons_succ]
            refine wpAnyH_ready (rs := [7]) (by kernel_rfl) (by simp) ?_
            refine AllReadyH.cons (by simp only [List.getElem?_toArray, List.getElem?_cons_zero, List.getElem?_cons_succ]; rfl) (fun K hK => ?_) AllReadyH.nil
            go_simp
            (go_at_call 17; (with_reducible refine (hKb _ _ _ hIs).mono ?_); rintro e W56 ⟨rfl, hb⟩; replace E := up E hb E.size; clear hb hIs)
            refine hK.out _ _ (hS.out _ E) (fun hHeld => ?_)
            clear hK K
            try simp only [Act.put, List.setIfInBounds_toArray, List.set_cons_zero, List.set_cons_succ]
            refine wpAnyH_take (i := 8) (v := ?_) (by simp only [List.getElem?_toArray, List.getElem?_cons_zero, List.getElem?_cons_succ]; rfl) (by kernel_rfl) (by kernel_rfl) (by kernel_rfl) (by exact fun _ _ _ h => h) (Or.inl ⟨by rfl, ?_⟩) (by assumption) ?_
            rotate_left
            · (intro w hSw; (try dsimp only at hSw); go_simp; (try with_reducible rfl))
            try simp only [Act.put, List.setIfInBounds_toArray, List.set_cons_zero, List.set_cons_succ]
            refine wpAnyH_take (i := 9) (v := ?_) (by simp only [List.getElem?_toArray, List.getElem?_cons_zero, List.getElem?_cons_succ]; rfl) (by kernel_rfl) (by kernel_rfl) (by kernel_rfl) (by exact fun _ _ _ h => h) (Or.inl ⟨by rfl, ?_⟩) (by assumption) ?_
            rotate_left
            · (intro w hSw; (try dsimp only at hSw); go_simp; (try with_reducible rfl))
            try simp only [Act.put, List.setIfInBounds_toArray, List.set_cons_zero, List.set_cons_succ]
            refine wpAnyH_take (i := 11) (v := ?_) (by simp only [List.getElem?_toArray, List.getElem?_cons_zero, List.getElem?_cons_succ]; rfl) (by kernel_rfl) (by kernel_rfl) (by kernel_rfl) (by exact fun _ _ _ h => h) (Or.inl ⟨by rfl, ?_⟩) (by assumption) ?_
            rotate_left
            · (intro w hSw; (try dsimp only at hSw); go_simp; (try with_reducible rfl))
            try simp only [Act.put, List.setIfInBounds_toArray, List.set_cons_zero, List.set_cons_succ]
            refine wpAnyH_take (i := 13) (v := ?_) (by simp only [List.getElem?_toArray, List.getElem?_cons_zero, List.getElem?_cons_succ]; rfl) (by kernel_rfl) (by kernel_rfl) (by kernel_rfl) (by exact fun _ _ _ h => h) (Or.inl ⟨by rfl, ?_⟩) (by assumption) ?_
            rotate_left
            · (intro w hSw; (try dsimp only at hSw); go_simp; (try with_reducible rfl))
            try simp only [Act.put, List.setIfInBounds_toArray, List.set_cons_zero, List.set_cons_succ]
            refine wpAnyH_take (i := 16) (v := ?_) (by simp only [List.getElem?_toArray, List.getElem?_cons_zero, List.getElem?_cons_succ]; rfl) (by kernel_rfl) (by kernel_rfl) (by kernel_rfl) (by exact fun _ _ _ h => h) (Or.inl ⟨by rfl, ?_⟩) (by assumption) ?_
            rotate_left
            · (intro w hSw; (try dsimp only at hSw); go_simp; (try with_reducible rfl))
            try simp only [Act.put, List.setIfInBounds_toArray, List.set_cons_zero, List.set_cons_succ]
            refine wpAnyH_ready (rs := [10, 14]) (by kernel_rfl) (by simp) ?_
            refine AllReadyH.cons (by simp only [List.getElem?_toArray, List.getElem?_cons_zero, List.getElem?_cons_succ]; rfl) (fun K hK => ?_) ?_
            · go_simp
              refine box_name (fun W57 hW => ?_)
              have hR : Box W57 W56.heap.size #[] 31 := by rw [← hW]; exact Box.new _ _ _
              have ql57 := hR.lt
              have q57 := E.size
              replace E : Below V.heap.size V W57 := by rw [← hW]; exact E.alloc E.size _
              clear hW
              refine hK.out _ _ (hS.out _ E) (fun hHeld => ?_)
              clear hK K
              try simp only [Act.put, List.setIfInBounds_toArray, List.set_cons_zero, List.set_cons_succ]
              refine wpAnyH_ready (rs := [12, 14]) (by kernel_rfl) (by simp) ?_
              refine AllReadyH.cons (by simp only [List.getElem?_toArray, List.getElem?_cons_zero, List.getElem?_cons_succ]; rfl) (fun K hK => ?_) ?_
              · refine step_app_l (by rfl) _ _ (by rfl) V.heap.size W56.heap.size (by rfl) hR (by omega) a n c xs (by rfl) (hlV.below E) h1 ?_
                intro v58 W58 hown hgrow
                replace E := E.grown hgrow E.size (fun k e => by injection e with e; omega)
                clear hgrow hR
                refine hK.out _ _ (hS.out _ E) (fun hHeld => ?_)
                clear hK K
                try simp only [Act.put, List.setIfInBounds_toArray, List.set_cons_zero, List.set_cons_succ]
                refine wpAnyH_ready (rs := [14]) (by kernel_rfl) (by simp) ?_
                refine AllReadyH.cons (by simp only [List.getElem?_toArray, List.getElem?_cons_zero, List.getElem?_cons_succ]; rfl) (fun K hK => ?_) AllReadyH.nil
                go_simp
                refine box_name (fun W59 hW => ?_)
                have HE : Box W59 W58.heap.size #[eU f, eU l, eU r] 31 := by rw [← hW]; exact Box.new _ _ _
                have ql59 := HE.lt
                replace hown := hown.alloc (.cells #[eU f, eU l, eU r] 31)
                rw [hW] at hown
                have q59 := E.size
                replace E : Below V.heap.size V W59 := by rw [← hW]; exact E.alloc E.size _
                clear hW
                refine hK.out _ _ (hS.out _ E) (fun hHeld => ?_)
                clear hK K
                try simp only [Act.put, List.setIfInBounds_toArray, List.set_cons_zero, List.set_cons_succ]
                refine wpAnyH_ready (rs := [15]) (by kernel_rfl) (by simp) ?_
                refine AllReadyH.cons (by simp only [List.getElem?_toArray, List.getElem?_cons_zero, List.getElem?_cons_succ]; rfl) (fun K hK => ?_) AllReadyH.nil
                refine step_app_e (by rfl) _ _ (by rfl) V.heap.size v58 n xs (by rfl) hown E.size W58.heap.size ⟨f, l, r⟩ (by rfl) HE hxl h1 ?_
                intro g60 c60 W60 hIs hb
                replace E := E.trans hb
                clear hb hown HE
                refine hK.out _ _ (hS.out _ E) (fun hHeld => ?_)
                clear hK K
                try simp only [Act.put, List.setIfInBounds_toArray, List.set_cons_zero, List.set_cons_succ]
                refine wpAnyH_ready (rs := [17]) (by kernel_rfl) (by simp) ?_
                refine AllReadyH.cons (by simp only [List.getElem?_toArray, List.getElem?_cons_zero, List.getElem?_cons_succ]; rfl) (fun K hK => ?_) AllReadyH.nil
                go_simp
                (go_at_call 17; (with_reducible refine (hKa _ _ _ hIs).mono ?_); rintro e W61 ⟨rfl, hb⟩; replace E := up E hb E.size; clear hb hIs)
                refine hK.out _ _ (hS.out _ E) (fun hHeld => ?_)
                clear hK K
                try simp only [Act.put, List.setIfInBounds_toArray, List.set_cons_zero, List.set_cons_succ]
                refine wpAnyH_take (i := 18) (v := ?_) (by simp only [List.getElem?_toArray, List.getElem?_cons_zero, List.getElem?_cons_succ]; rfl) (by kernel_rfl) (by kernel_rfl) (by kernel_rfl) (by exact fun _ _ _ h => h) (Or.inl ⟨by rfl, ?_⟩) (by assumption) ?_
                rotate_left
                · (intro w hSw; (try dsimp only at hSw); go_simp; (try with_reducible rfl))
                try simp only [Act.put, List.setIfInBounds_toArray, List.set_cons_zero, List.set_cons_succ]
                refine wpAnyH_take (i := 19) (v := ?_) (by simp only [List.getElem?_toArray, List.getElem?_cons_zero, List.getElem?_cons_succ]; rfl) (by kernel_rfl) (by kernel_rfl) (by kernel_rfl) (by exact fun _ _ _ h => h) (Or.inl ⟨by rfl, ?_⟩) (by assumption) ?_
                rotate_left
                · (intro w hSw; (try dsimp only at hSw); go_simp; (try with_reducible rfl))
                try simp only [Act.put, List.setIfInBounds_toArray, List.set_cons_zero, List.set_cons_succ]
                refine wpAnyH_done (by kernel_rfl) ?_ _
                go_wp2_with fail
                go_ret
                exact ⟨rfl, up T E T.size⟩
              refine AllReadyH.cons (by simp only [List.getElem?_toArray, List.getElem?_cons_zero, List.getElem?_cons_succ]; rfl) (fun K hK => ?_) AllReadyH.nil
              · go_simp
                refine box_name (fun W62 hW => ?_)
                have HE : Box W62 W57.heap.size #[eU f, eU l, eU r] 31 := by rw [← hW]; exact Box.new _ _ _
                have ql62 := HE.lt
                replace hR := hR.alloc (.cells #[eU f, eU l, eU r] 31)
                rw [hW] at hR
                have q62 := E.size
                replace E : Below V.heap.size V W62 := by rw [← hW]; exact E.alloc E.size _
                clear hW
                refine hK.out _ _ (hS.out _ E) (fun hHeld => ?_)
                clear hK K
                try simp only [Act.put, List.setIfInBounds_toArray, List.set_cons_zero, List.set_cons_succ]
                refine wpAnyH_ready (rs := [12]) (by kernel_rfl) (by simp) ?_
                refine AllReadyH.cons (by simp only [List.getElem?_toArray, List.getElem?_cons_zero, List.getElem?_cons_succ]; rfl) (fun K hK => ?_) AllReadyH.nil
                refine step_app_l (by rfl) _ _ (by rfl) V.heap.size W56.heap.size (by rfl) hR (by omega) a n c xs (by rfl) (hlV.below E) h1 ?_
                intro v63 W63 hown hgrow
                have hlt := hR.lt
                have hlt2 := HE.lt
                replace HE := grown_box hgrow HE (fun e => by injection e with e; omega)
                clear hlt hlt2
                replace E := E.grown hgrow E.size (fun k e => by injection e with e; omega)
                clear hgrow hR
                refine hK.out _ _ (hS.out _ E) (fun hHeld => ?_)
                clear hK K
                try simp only [Act.put, List.setIfInBounds_toArray, List.set_cons_zero, List.set_cons_succ]
                refine wpAnyH_ready (rs := [15]) (by kernel_rfl) (by simp) ?_
                refine AllReadyH.cons (by simp only [List.getElem?_toArray, List.getElem?_cons_zero, List.getElem?_cons_succ]; rfl) (fun K hK => ?_) AllReadyH.nil
                refine step_app_e (by rfl) _ _ (by rfl) V.heap.size v63 n xs (by rfl) hown E.size W57.heap.size ⟨f, l, r⟩ (by rfl) HE hxl h1 ?_
                intro g64 c64 W64 hIs hb
                replace E := E.trans hb
                clear hb hown HE
                refine hK.out _ _ (hS.out _ E) (fun hHeld => ?_)
                clear hK K
                try simp only [Act.put, List.setIfInBounds_toArray, List.set_cons_zero, List.set_cons_succ]
                refine wpAnyH_ready (rs := [17]) (by kernel_rfl) (by simp) ?_
                refine AllReadyH.cons (by simp only [List.getElem?_toArray, List.getElem?_cons_zero, List.getElem?_cons_succ]; rfl) (fun K hK => ?_) AllReadyH.nil
                go_simp
                (go_at_call 17; (with_reducible refine (hKa _ _ _ hIs).mono ?_); rintro e W65 ⟨rfl, hb⟩; replace E := up E hb E.size; clear hb hIs)
                refine hK.out _ _ (hS.out _ E) (fun hHeld => ?_)
                clear hK K
                try simp only [Act.put, List.setIfInBounds_toArray, List.set_cons_zero, List.set_cons_succ]
                refine wpAnyH_take (i := 18) (v := ?_) (by simp only [List.getElem?_toArray, List.getElem?_cons_zero, List.getElem?_cons_succ]; rfl) (by kernel_rfl) (by kernel_rfl) (by kernel_rfl) (by exact fun _ _ _ h => h) (Or.inl ⟨by rfl, ?_⟩) (by assumption) ?_
                rotate_left
                · (intro w hSw; (try dsimp only at hSw); go_simp; (try with_reducible rfl))
                try simp only [Act.put, List.setIfInBounds_toArray, List.set_cons_zero, List.set_cons_succ]
                refine wpAnyH_take (i := 19) (v := ?_) (by simp only [List.getElem?_toArray, List.getElem?_cons_zero, List.getElem?_cons_succ]; rfl) (by kernel_rfl) (by kernel_rfl) (by kernel_rfl) (by exact fun _ _ _ h => h) (Or.inl ⟨by rfl, ?_⟩) (by assumption) ?_
                rotate_left
                · (intro w hSw; (try dsimp only at hSw); go_simp; (try with_reducible rfl))
                try simp only [Act.put, List.setIfInBounds_toArray, List.set_cons_zero, List.set_cons_succ]
                refine wpAnyH_done (by kernel_rfl) ?_ _
                go_wp2_with fail
                go_ret
                exact ⟨rfl, up T E T.size⟩
            refine AllReadyH.cons (by simp only [List.getElem?_toArray, List.getElem?_cons_zero, List.getElem?_cons_succ]; rfl) (fun K hK => ?_) AllReadyH.nil
            · go_simp
              refine box_name (fun W66 hW => ?_)
              have HE : Box W66 W56.heap.size #[eU f, eU l, eU r] 31 := by rw [← hW]; exact Box.new _ _ _
              have ql66 := HE.lt
              have q66 := E.size
              replace E : Below V.heap.size V W66 := by rw [← hW]; exact E.alloc E.size _
              clear hW
              refine hK.out _ _ (hS.out _ E) (fun hHeld => ?_)
              clear hK K
              try simp only [Act.put, List.setIfInBounds_toArray, List.set_cons_zero, List.set_cons_succ]
              refine wpAnyH_ready (rs := [10]) (by kernel_rfl) (by simp) ?_
              refine AllReadyH.cons (by simp only [List.getElem?_toArray, List.getElem?_cons_zero, List.getElem?_cons_succ]; rfl) (fun K hK => ?_) AllReadyH.nil
              go_simp
              refine box_name (fun W67 hW => ?_)
              have hR : Box W67 W66.heap.size #[] 31 := by rw [← hW]; exact Box.new _ _ _
              have ql67 := hR.lt
              replace HE := HE.alloc (.cells #[] 31)
              rw [hW] at HE
              have q67 := E.size
              replace E : Below V.heap.size V W67 := by rw [← hW]; exact E.alloc E.size _
              clear hW
              refine hK.out _ _ (hS.out _ E) (fun hHeld => ?_)
              clear hK K
              try simp only [Act.put, List.setIfInBounds_toArray, List.set_cons_zero, List.set_cons_succ]
              refine wpAnyH_ready (rs := [12]) (by kernel_rfl) (by simp) ?_
              refine AllReadyH.cons (by simp only [List.getElem?_toArray, List.getElem?_cons_zero, List.getElem?_cons_succ]; rfl) (fun K hK => ?_) AllReadyH.nil
              refine step_app_l (by rfl) _ _ (by rfl) V.heap.size W66.heap.size (by rfl) hR (by omega) a n c xs (by rfl) (hlV.below E) h1 ?_
              intro v68 W68 hown hgrow
              have hlt := hR.lt
              have hlt2 := HE.lt
              replace HE := grown_box hgrow HE (fun e => by injection e with e; omega)
              clear hlt hlt2
              replace E := E.grown hgrow E.size (fun k e => by injection e with e; omega)
              clear hgrow hR
              refine hK.out _ _ (hS.out _ E) (fun hHeld => ?_)
              clear hK K
              try simp only [Act.put, List.setIfInBounds_toArray, List.set_cons_zero, List.set_cons_succ]
              refine wpAnyH_ready (rs := [15]) (by kernel_rfl) (by simp) ?_
              refine AllReadyH.cons (by simp only [List.getElem?_toArray, List.getElem?_cons_zero, List.getElem?_cons_succ]; rfl) (fun K hK => ?_) AllReadyH.nil
              refine step_app_e (by rfl) _ _ (by rfl) V.heap.size v68 n xs (by rfl) hown E.size W56.heap.size ⟨f, l, r⟩ (by rfl) HE hxl h1 ?_
              intro g69 c69 W69 hIs hb
              replace E := E.trans hb
              clear hb hown HE
              refine hK.out _ _ (hS.out _ E) (fun hHeld => ?_)
              clear hK K
              try simp only [Act.put, List.setIfInBounds_toArray, List.set_cons_zero, List.set_cons_succ]
              refine wpAnyH_ready (rs := [17]) (by kernel_rfl) (by simp) ?_
              refine AllReadyH.cons (by simp only [List.getElem?_toArray, List.getElem?_cons_zero, List.getElem?_cons_succ]; rfl) (fun K hK => ?_) AllReadyH.nil
              go_simp
              (go_at_call 17; (with_reducible refine (hKa _ _ _ hIs).mono ?_); rintro e W70 ⟨rfl, hb⟩; replace E := up E hb E.size; clear hb hIs)
              refine hK.out _ _ (hS.out _ E) (fun hHeld => ?_)
              clear hK K
              try simp only [Act.put, List.setIfInBounds_toArray, List.set_cons_zero, List.set_cons_succ]
              refine wpAnyH_take (i := 18) (v := ?_) (by simp only [List.getElem?_toArray, List.getElem?_cons_zero, List.getElem?_cons_succ]; rfl) (by kernel_rfl) (by kernel_rfl) (by kernel_rfl) (by exact fun _ _ _ h => h) (Or.inl ⟨by rfl, ?_⟩) (by assumption) ?_
              rotate_left
              · (intro w hSw; (try dsimp only at hSw); go_simp; (try with_reducible rfl))
              try simp only [Act.put, List.setIfInBounds_toArray, List.set_cons_zero, List.set_cons_succ]
              refine wpAnyH_take (i := 19) (v := ?_) (by simp only [List.getElem?_toArray, List.getElem?_cons_zero, List.getElem?_cons_succ]; rfl) (by kernel_rfl) (by kernel_rfl) (by kernel_rfl) (by exact fun _ _ _ h => h) (Or.inl ⟨by rfl, ?_⟩) (by assumption) ?_
              rotate_left
              · (intro w hSw; (try dsimp only at hSw); go_simp; (try with_reducible rfl))
              try simp only [Act.put, List.setIfInBounds_toArray, List.set_cons_zero, List.set_cons_succ]
              refine wpAnyH_done (by kernel_rfl) ?_ _
              go_wp2_with fail
              go_ret
              exact ⟨rfl, up T E T.size⟩
end
end Go.Proofs.Ytmhmoebdojkbpaa

/- Below: the statement's walk where all three curves may be, and a is not below b. -/
namespace Go.Proofs.Ytmhmoebdojkbpaa
open Go.RowKit Go.Shelf W
set_option linter.unusedVariables false
set_option maxRecDepth 100000
def tkB (l l1 : Int) : Nat → Int
  | 0 => l
  | 1 => l1
  | _ => 9223372036854775807
section
variable (f l r f1 l1 r1 f2 l2 r2 : Int) (a : Option Addr) (n c : Nat) (rate t : Int) (w : World)
set_option maxHeartbeats 8000000 in
theorem bw_off (bc ac : Bool) (z sa1 sa2 sb1 sb2 : Nat → Int) (h1 : n ≤ 20) (h2 : t < 9223372036854775808) (hz : ∃ i, i < 3 ∧ 0 < z i)
    (hA : ∀ w, Calls Try.prog 23 #[] w fun e w' => e = .returned (.bool true) ∧ Below w.heap.size w w')
    (hMa : ∀ w, Calls Try.prog 25 #[.agg #[eU f, eU l, eU r]] w fun e w' => e = .returned (.bool true) ∧ Below w.heap.size w w')
    (hMb : ∀ w, Calls Try.prog 25 #[.agg #[eU f1, eU l1, eU r1]] w fun e w' => e = .returned (.bool true) ∧ Below w.heap.size w w')
    (hMc : ∀ w, Calls Try.prog 25 #[.agg #[eU f2, eU l2, eU r2]] w fun e w' => e = .returned (.bool true) ∧ Below w.heap.size w w')
    (hAA : ∀ w, Calls Try.prog 21 #[.agg #[eU f, eU l, eU r], .agg #[eU f, eU l, eU r]] w fun e w' => e = .returned (.bool true) ∧ Below w.heap.size w w')
    (hAB : ∀ w, Calls Try.prog 21 #[.agg #[eU f, eU l, eU r], .agg #[eU f1, eU l1, eU r1]] w fun e w' => e = .returned (.bool false) ∧ Below w.heap.size w w')
    (hBC : ∀ w, Calls Try.prog 21 #[.agg #[eU f1, eU l1, eU r1], .agg #[eU f2, eU l2, eU r2]] w fun e w' => e = .returned (.bool bc) ∧ Below w.heap.size w w')
    (hAC : ∀ w, Calls Try.prog 21 #[.agg #[eU f, eU l, eU r], .agg #[eU f2, eU l2, eU r2]] w fun e w' => e = .returned (.bool ac) ∧ Below w.heap.size w w')
    (hTA : ∀ i, i < 3 → ∀ g w', IsCvs w' (some ⟨g, 0, none⟩) 1 1 [⟨f, l, r⟩] → Calls Try.prog 10 #[.slice (some ⟨g, 0, none⟩) 1 1, eU (tkB l l1 i)] w' fun e w'' => e = .returned (.agg #[eU (sa1 i), eU (sa2 i)]) ∧ Below w'.heap.size w' w'')
    (hTB : ∀ i, i < 3 → ∀ g w', IsCvs w' (some ⟨g, 0, none⟩) 1 1 [⟨f1, l1, r1⟩] → Calls Try.prog 10 #[.slice (some ⟨g, 0, none⟩) 1 1, eU (tkB l l1 i)] w' fun e w'' => e = .returned (.agg #[eU (sb1 i), eU (sb2 i)]) ∧ Below w'.heap.size w' w'')
    (hC : ∀ i, i < 3 → ∀ w, Calls Try.prog 27 #[.agg #[eU (sa1 i), eU (sa2 i)], .agg #[eU (sb1 i), eU (sb2 i)]] w fun e w' => e = .returned (.int .i64 (z i)) ∧ Below w.heap.size w w') :
    Calls Try.prog 8 #[.agg #[eU f, eU l, eU r], .agg #[eU f1, eU l1, eU r1], .agg #[eU f2, eU l2, eU r2], .slice a n c, eU rate, eU t] w fun e w' => e = .returned (.bool true) ∧ Below w.heap.size w w' := by
  have T := up3 w (.cells #[eU f, eU l, eU r] 31) (.cells #[eU f1, eU l1, eU r1] 31) (.cells #[eU f2, eU l2, eU r2] 31)
  have H3 := ABC.new w ⟨f, l, r⟩ ⟨f1, l1, r1⟩ ⟨f2, l2, r2⟩
  have h' : ¬ (20 : Int) < (n : Int) := by omega
  have h'' : ¬ (9223372036854775808 : Int) ≤ t := by omega
  clear h1 h2
  have hTAh := Lib.hid hTA
  have hTBh := Lib.hid hTB
  have hCh := Lib.hid hC
  have hzh := Lib.hid hz
  clear hTA hTB hC hz
  go_enter Try.func8, Try.ntmps8
  go_upto_region 7 with (first
      | (go_at_call 23; (with_reducible refine (hA _).mono ?_); rintro e w1 ⟨rfl, hb⟩; replace T := up T hb (by have := T.size; simp at this ⊢; omega); replace H3 := H3.below hb; clear hb; obtain ⟨⟨a0, a1, a2⟩, ⟨b0, b1, b2⟩, c0, c1, c2⟩ := H3.cells; dsimp only at a0 a1 a2 b0 b1 b2 c0 c1 c2)
      | (go_at_call 25; (with_reducible refine (hMa _).mono ?_); rintro e w2 ⟨rfl, hb⟩; replace T := up T hb T.size; replace H3 := H3.below hb; clear hb a0 a1 a2 b0 b1 b2 c0 c1 c2; obtain ⟨⟨a0, a1, a2⟩, ⟨b0, b1, b2⟩, c0, c1, c2⟩ := H3.cells; dsimp only at a0 a1 a2 b0 b1 b2 c0 c1 c2)
      | (go_at_call 25; (with_reducible refine (hMb _).mono ?_); rintro e w2 ⟨rfl, hb⟩; replace T := up T hb T.size; replace H3 := H3.below hb; clear hb a0 a1 a2 b0 b1 b2 c0 c1 c2; obtain ⟨⟨a0, a1, a2⟩, ⟨b0, b1, b2⟩, c0, c1, c2⟩ := H3.cells; dsimp only at a0 a1 a2 b0 b1 b2 c0 c1 c2)
      | (go_at_call 25; (with_reducible refine (hMc _).mono ?_); rintro e w2 ⟨rfl, hb⟩; replace T := up T hb T.size; replace H3 := H3.below hb; clear hb a0 a1 a2 b0 b1 b2 c0 c1 c2; obtain ⟨⟨a0, a1, a2⟩, ⟨b0, b1, b2⟩, c0, c1, c2⟩ := H3.cells; dsimp only at a0 a1 a2 b0 b1 b2 c0 c1 c2))
  go_cut [13, 14, 15] (fun s13 s14 s15 wx => s13 = .bool false ∧ s14 = .bool bc ∧ s15 = .bool ac ∧ ABC w.heap.size ⟨f, l, r⟩ ⟨f1, l1, r1⟩ ⟨f2, l2, r2⟩ wx ∧ Below w.heap.size w wx)
  case first =>
    go_region_held3 (fun w' => (w'.cell? ⟨w.heap.size, 0, none⟩ = some (.int .u64 f) ∧ w'.cell? ⟨w.heap.size, 1, none⟩ = some (.int .u64 l) ∧ w'.cell? ⟨w.heap.size, 2, none⟩ = some (.int .u64 r)) ∧ (w'.cell? ⟨w.heap.size + 1, 0, none⟩ = some (.int .u64 f1) ∧ w'.cell? ⟨w.heap.size + 1, 1, none⟩ = some (.int .u64 l1) ∧ w'.cell? ⟨w.heap.size + 1, 2, none⟩ = some (.int .u64 r1)) ∧ (w'.cell? ⟨w.heap.size + 1 + 1, 0, none⟩ = some (.int .u64 f2) ∧ w'.cell? ⟨w.heap.size + 1 + 1, 1, none⟩ = some (.int .u64 l2) ∧ w'.cell? ⟨w.heap.size + 1 + 1, 2, none⟩ = some (.int .u64 r2)))
      (first | exact H3.cells)
      (first
        | (go_at_call 21; (with_reducible refine (hAB _).mono ?_); rintro e w3 ⟨rfl, hb⟩; (first | replace hb := undrew hb | replace hb := undrewN hb | skip); replace T := up T hb T.size; replace H3 := H3.below hb; clear hb)
        | (go_at_call 21; (with_reducible refine (hBC _).mono ?_); rintro e w4 ⟨rfl, hb⟩; (first | replace hb := undrew hb | replace hb := undrewN hb | skip); replace T := up T hb T.size; replace H3 := H3.below hb; clear hb)
        | (go_at_call 21; (with_reducible refine (hAC _).mono ?_); rintro e w5 ⟨rfl, hb⟩; (first | replace hb := undrew hb | replace hb := undrewN hb | skip); replace T := up T hb T.size; replace H3 := H3.below hb; clear hb))
    all_goals go_wp2_with fail
    all_goals go_meet
    all_goals exact ⟨rfl, rfl, rfl, H3, T⟩
  case rest =>
    clear H3 T a0 a1 a2 b0 b1 b2 c0 c1 c2 hMa hMb hMc hA hAB hBC hAC
    obtain ⟨rfl, rfl, rfl, H3, T⟩ := hcut
    obtain ⟨⟨a0, a1, a2⟩, ⟨b0, b1, b2⟩, c0, c1, c2⟩ := H3.cells
    dsimp only at a0 a1 a2 b0 b1 b2 c0 c1 c2
    go_upto_region 8 with fail
    go_cut [87] (fun s87 wx => s87 = .bool false ∧ ABC w.heap.size ⟨f, l, r⟩ ⟨f1, l1, r1⟩ ⟨f2, l2, r2⟩ wx ∧ Below w.heap.size w wx)
    case first =>
      go_wp2_with (first
        | (go_at_call 21; (with_reducible refine (hAA _).mono ?_); rintro e w6 ⟨rfl, hb⟩; replace T := up T hb T.size; replace H3 := H3.below hb; clear hb a0 a1 a2 b0 b1 b2 c0 c1 c2; obtain ⟨⟨a0, a1, a2⟩, ⟨b0, b1, b2⟩, c0, c1, c2⟩ := H3.cells; dsimp only at a0 a1 a2 b0 b1 b2 c0 c1 c2))
      all_goals go_meet
      all_goals exact ⟨rfl, H3, T⟩
    case rest =>
      clear H3 T a0 a1 a2 b0 b1 b2 c0 c1 c2 hAA
      obtain ⟨rfl, H3, T⟩ := hcut
      go_upto_region 10 with fail
      go_cut [100] (fun s100 wx => s100 = .bool false ∧ ABC w.heap.size ⟨f, l, r⟩ ⟨f1, l1, r1⟩ ⟨f2, l2, r2⟩ wx ∧ Below w.heap.size w wx)
      case first =>
        rename World => V
        refine wp_region_held_drew (S := fun _ => True) (by kernel_rfl) trivial (fun hHeld => ?_)
        refine wpAnyH_take (i := 0) (v := ?_) (by simp only [List.getElem?_toArray, List.getElem?_cons_zero]; rfl) (by kernel_rfl) (by kernel_rfl) (by kernel_rfl) (by exact fun _ _ _ h => h) (Or.inl ⟨by rfl, ?_⟩) (by assumption) ?_
        rotate_left
        · (intro w hSw; (try dsimp only at hSw); go_simp; (try with_reducible rfl))
        try simp only [Act.put, List.setIfInBounds_toArray, List.set_cons_zero, List.set_cons_succ]
        refine wpAnyH_take (i := 1) (v := ?_) (by simp only [List.getElem?_toArray, List.getElem?_cons_zero, List.getElem?_cons_succ]; rfl) (by kernel_rfl) (by kernel_rfl) (by kernel_rfl) (by exact fun _ _ _ h => h) (Or.inl ⟨by rfl, ?_⟩) (by assumption) ?_
        rotate_left
        · (intro w hSw; (try dsimp only at hSw); go_simp; (try with_reducible rfl))
        try simp only [Act.put, List.setIfInBounds_toArray, List.set_cons_zero, List.set_cons_succ]
        refine wpAnyH_take (i := 2) (v := undef) (by simp only [List.getElem?_toArray, List.getElem?_cons_zero, List.getElem?_cons_succ]; rfl) (by kernel_rfl) (by kernel_rfl) (by kernel_rfl) (by exact fun _ _ _ h => h) (Or.inr ⟨by rfl, rfl⟩) (by assumption) ?_
        try simp only [Act.put, List.setIfInBounds_toArray, List.set_cons_zero, List.set_cons_succ]
        refine wpAnyH_take (i := 3) (v := undef) (by simp only [List.getElem?_toArray, List.getElem?_cons_zero, List.getElem?_cons_succ]; rfl) (by kernel_rfl) (by kernel_rfl) (by kernel_rfl) (by exact fun _ _ _ h => h) (Or.inr ⟨by rfl, rfl⟩) (by assumption) ?_
        try simp only [Act.put, List.setIfInBounds_toArray, List.set_cons_zero, List.set_cons_succ]
        refine wpAnyH_take (i := 4) (v := undef) (by simp only [List.getElem?_toArray, List.getElem?_cons_zero, List.getElem?_cons_succ]; rfl) (by kernel_rfl) (by kernel_rfl) (by kernel_rfl) (by exact fun _ _ _ h => h) (Or.inr ⟨by rfl, rfl⟩) (by assumption) ?_
        try simp only [Act.put, List.setIfInBounds_toArray, List.set_cons_zero, List.set_cons_succ]
        refine wpAnyH_take (i := 5) (v := undef) (by simp only [List.getElem?_toArray, List.getElem?_cons_zero, List.getElem?_cons_succ]; rfl) (by kernel_rfl) (by kernel_rfl) (by kernel_rfl) (by exact fun _ _ _ h => h) (Or.inr ⟨by rfl, rfl⟩) (by assumption) ?_
        try simp only [Act.put, List.setIfInBounds_toArray, List.set_cons_zero, List.set_cons_succ]
        refine wpAnyH_take (i := 6) (v := undef) (by simp only [List.getElem?_toArray, List.getElem?_cons_zero, List.getElem?_cons_succ]; rfl) (by kernel_rfl) (by kernel_rfl) (by kernel_rfl) (by exact fun _ _ _ h => h) (Or.inr ⟨by rfl, rfl⟩) (by assumption) ?_
        try simp only [Act.put, List.setIfInBounds_toArray, List.set_cons_zero, List.set_cons_succ]
        refine wpAnyH_take (i := 7) (v := undef) (by simp only [List.getElem?_toArray, List.getElem?_cons_zero, List.getElem?_cons_succ]; rfl) (by kernel_rfl) (by kernel_rfl) (by kernel_rfl) (by exact fun _ _ _ h => h) (Or.inr ⟨by rfl, rfl⟩) (by assumption) ?_
        try simp only [Act.put, List.setIfInBounds_toArray, List.set_cons_zero, List.set_cons_succ]
        refine wpAnyH_take (i := 8) (v := undef) (by simp only [List.getElem?_toArray, List.getElem?_cons_zero, List.getElem?_cons_succ]; rfl) (by kernel_rfl) (by kernel_rfl) (by kernel_rfl) (by exact fun _ _ _ h => h) (Or.inr ⟨by rfl, rfl⟩) (by assumption) ?_
        try simp only [Act.put, List.setIfInBounds_toArray, List.set_cons_zero, List.set_cons_succ]
        refine wpAnyH_take (i := 9) (v := undef) (by simp only [List.getElem?_toArray, List.getElem?_cons_zero, List.getElem?_cons_succ]; rfl) (by kernel_rfl) (by kernel_rfl) (by kernel_rfl) (by exact fun _ _ _ h => h) (Or.inr ⟨by rfl, rfl⟩) (by assumption) ?_
        try simp only [Act.put, List.setIfInBounds_toArray, List.set_cons_zero, List.set_cons_succ]
        refine wpAnyH_take (i := 10) (v := undef) (by simp only [List.getElem?_toArray, List.getElem?_cons_zero, List.getElem?_cons_succ]; rfl) (by kernel_rfl) (by kernel_rfl) (by kernel_rfl) (by exact fun _ _ _ h => h) (Or.inr ⟨by rfl, rfl⟩) (by assumption) ?_
        try simp only [Act.put, List.setIfInBounds_toArray, List.set_cons_zero, List.set_cons_succ]
        refine wpAnyH_take (i := 11) (v := undef) (by simp only [List.getElem?_toArray, List.getElem?_cons_zero, List.getElem?_cons_succ]; rfl) (by kernel_rfl) (by kernel_rfl) (by kernel_rfl) (by exact fun _ _ _ h => h) (Or.inr ⟨by rfl, rfl⟩) (by assumption) ?_
        try simp only [Act.put, List.setIfInBounds_toArray, List.set_cons_zero, List.set_cons_succ]
        refine wpAnyH_take (i := 12) (v := ?_) (by simp only [List.getElem?_toArray, List.getElem?_cons_zero, List.getElem?_cons_succ]; rfl) (by kernel_rfl) (by kernel_rfl) (by kernel_rfl) (by exact fun _ _ _ h => h) (Or.inl ⟨by rfl, ?_⟩) (by assumption) ?_
        rotate_left
        · (intro w hSw; (try dsimp only at hSw); go_simp; (try with_reducible rfl))
        try simp only [Act.put, List.setIfInBounds_toArray, List.set_cons_zero, List.set_cons_succ]
        refine wpAnyH_done (by kernel_rfl) ?_ _
        go_wp2_with fail
        all_goals go_meet
        all_goals exact ⟨rfl, H3.below (Below.refl _ _).drew, T.drew⟩
      case rest =>
        clear H3 T
        obtain ⟨rfl, H3, T⟩ := hcut
        obtain ⟨⟨a0, a1, a2⟩, ⟨b0, b1, b2⟩, c0, c1, c2⟩ := H3.cells
        dsimp only at a0 a1 a2 b0 b1 b2 c0 c1 c2
        go_upto_region 14 with fail
        go_cut [16] (fun s16 wx => ∃ G : Nat, s16 = .slice (some ⟨G, 0, none⟩) 3 3 ∧ Box wx G #[eU l, eU l1, eU 9223372036854775807] 23 ∧ ABC w.heap.size ⟨f, l, r⟩ ⟨f1, l1, r1⟩ ⟨f2, l2, r2⟩ wx ∧ Below w.heap.size w wx)
        case first =>
          go_wp2_with fail
          all_goals go_meet
          all_goals exact ⟨_, rfl, Box.new _ _ _, H3.below (up1 _ _), T.alloc T.size _⟩
        case rest =>
          clear H3 T a0 a1 a2 b0 b1 b2 c0 c1 c2
          obtain ⟨G, rfl, BM, H3, T⟩ := hcut
          go_wp2_with fail
          go_loopw [17] (fun s17 wr => ∃ j : Nat, s17 = .int .i64 j ∧ j ≤ 3 ∧ (∀ i, i < j → z i ≤ 0) ∧ Box wr G #[eU l, eU l1, eU 9223372036854775807] 23 ∧ ABC w.heap.size ⟨f, l, r⟩ ⟨f1, l1, r1⟩ ⟨f2, l2, r2⟩ wr ∧ Below w.heap.size w wr) (fun s17 _ => 3 - (intOf s17).toNat)
          case atStart => exact ⟨0, rfl, by omega, fun i hi => absurd hi (by omega), BM, H3, T⟩
          case round =>
            clear BM H3 T
            obtain ⟨j, rfl, hj, hbefore, BM, H3, T⟩ := hrel
            by_cases hlt : j < 3
            · have j1 : (j : Int) < 3 := by omega
              have j2 : (0 : Int) ≤ (j : Int) := by omega
              have tick : ∀ w', Box w' G #[eU l, eU l1, eU 9223372036854775807] 23 → w'.cell? ⟨G, j, none⟩ = some (.int .u64 (tkB l l1 j)) := fun w' hb => by
                match j, hlt with
                | 0, _ => exact hb.tri.2.1
                | 1, _ => exact hb.tri.2.2.1
                | 2, _ => exact hb.tri.2.2.2
              have hTA := hTAh.out j hlt
              have hTB := hTBh.out j hlt
              have hC := hCh.out j hlt
              have hbh := Lib.hid hbefore
              obtain ⟨tk, ht⟩ : ∃ t, tkB l l1 j = t := ⟨_, rfl⟩
              rw [ht] at hTA hTB tick
              obtain ⟨p1, hp1⟩ : ∃ z, sa1 j = z := ⟨_, rfl⟩
              obtain ⟨p2, hp2⟩ : ∃ z, sa2 j = z := ⟨_, rfl⟩
              obtain ⟨q1, hq1⟩ : ∃ z, sb1 j = z := ⟨_, rfl⟩
              obtain ⟨q2, hq2⟩ : ∃ z, sb2 j = z := ⟨_, rfl⟩
              rw [hp1, hp2] at hTA hC
              rw [hq1, hq2] at hTB hC
              obtain ⟨zj, hzj⟩ : ∃ y, z j = y := ⟨_, rfl⟩
              rw [hzj] at hC
              replace hzj := Lib.hid hzj
              obtain ⟨bz, hbz⟩ : ∃ b, decide (0 < zj) = b := ⟨_, rfl⟩
              replace hbz := Lib.hid hbz
              clear hp1 hp2 hq1 hq2 ht hbefore
              go_upto_region 18 with fail
              go_cut [147] from 126 to 147 (fun s147 wx => s147 = .bool bz ∧ Box wx G #[eU l, eU l1, eU 9223372036854775807] 23 ∧ ABC w.heap.size ⟨f, l, r⟩ ⟨f1, l1, r1⟩ ⟨f2, l2, r2⟩ wx ∧ Below w.heap.size w wx)
              case first =>
                rename World => V
                have E := Below.refl V.heap.size V
                have hS' : ∀ w', Below V.heap.size V w' → ((w'.cell? ⟨w.heap.size, 0, none⟩ = some (.int .u64 f) ∧ w'.cell? ⟨w.heap.size, 1, none⟩ = some (.int .u64 l) ∧ w'.cell? ⟨w.heap.size, 2, none⟩ = some (.int .u64 r)) ∧ (w'.cell? ⟨w.heap.size + 1, 0, none⟩ = some (.int .u64 f1) ∧ w'.cell? ⟨w.heap.size + 1, 1, none⟩ = some (.int .u64 l1) ∧ w'.cell? ⟨w.heap.size + 1, 2, none⟩ = some (.int .u64 r1)) ∧ w'.cell? ⟨G, j, none⟩ = some (.int .u64 tk)) := fun w' E => ⟨(H3.below E).cells.1, (H3.below E).cells.2.1, tick w' (BM.below E)⟩
                have hS := Lib.hid hS'
                clear hS' tick
                obtain ⟨⟨a0, a1, a2⟩, ⟨b0, b1, b2⟩, k0⟩ := hS.out _ E
                go_region_held3 (fun w' => (w'.cell? ⟨w.heap.size, 0, none⟩ = some (.int .u64 f) ∧ w'.cell? ⟨w.heap.size, 1, none⟩ = some (.int .u64 l) ∧ w'.cell? ⟨w.heap.size, 2, none⟩ = some (.int .u64 r)) ∧ (w'.cell? ⟨w.heap.size + 1, 0, none⟩ = some (.int .u64 f1) ∧ w'.cell? ⟨w.heap.size + 1, 1, none⟩ = some (.int .u64 l1) ∧ w'.cell? ⟨w.heap.size + 1, 2, none⟩ = some (.int .u64 r1)) ∧ w'.cell? ⟨G, j, none⟩ = some (.int .u64 tk))
                (first | exact hS.out _ E | exact hS.out _ E.drew | exact hS.out _ (E.alloc E.size _) | exact hS.out _ (E.alloc E.size _).drew | exact hS.out _ ((E.alloc E.size _).alloc (E.alloc E.size _).size _) | exact hS.out _ ((E.alloc E.size _).alloc (E.alloc E.size _).size _).drew | go_keep)
                (first
                  | (go_at_call 10; refine (hTA _ _ (by first | exact SA | exact oneR _ ⟨f, l, r⟩ | exact (oneR _ ⟨f, l, r⟩).below (up1 _ _) | exact oneR2 _ _ ⟨f, l, r⟩ | exact SA.below (up1 _ _) | exact (oneR _ ⟨f, l, r⟩).drew | exact ((oneR _ ⟨f, l, r⟩).below (up1 _ _)).drew | exact (oneR2 _ _ ⟨f, l, r⟩).drew)).mono ?_; rintro e u1 ⟨rfl, hb⟩; (first | replace hb := undrew hb | replace hb := undrewN hb | skip); (first | replace SB := SB.below hb | have SB := (oneR2 _ _ ⟨f1, l1, r1⟩).below hb | have SB := ((oneR _ ⟨f1, l1, r1⟩).below (up1 _ _)).below hb | skip); (first | replace E := up E hb E.size | replace E := up (E.alloc E.size _) hb (E.alloc E.size _).size | replace E := up ((E.alloc E.size _).alloc (E.alloc E.size _).size _) hb ((E.alloc E.size _).alloc (E.alloc E.size _).size _).size); clear hb)
                  | (go_at_call 10; refine (hTB _ _ (by first | exact SB | exact oneR _ ⟨f1, l1, r1⟩ | exact (oneR _ ⟨f1, l1, r1⟩).below (up1 _ _) | exact oneR2 _ _ ⟨f1, l1, r1⟩ | exact SB.below (up1 _ _) | exact (oneR _ ⟨f1, l1, r1⟩).drew | exact ((oneR _ ⟨f1, l1, r1⟩).below (up1 _ _)).drew | exact (oneR2 _ _ ⟨f1, l1, r1⟩).drew)).mono ?_; rintro e u2 ⟨rfl, hb⟩; (first | replace hb := undrew hb | replace hb := undrewN hb | skip); (first | replace SA := SA.below hb | have SA := (oneR2 _ _ ⟨f, l, r⟩).below hb | have SA := ((oneR _ ⟨f, l, r⟩).below (up1 _ _)).below hb | skip); (first | replace E := up E hb E.size | replace E := up (E.alloc E.size _) hb (E.alloc E.size _).size | replace E := up ((E.alloc E.size _).alloc (E.alloc E.size _).size _) hb ((E.alloc E.size _).alloc (E.alloc E.size _).size _).size); clear hb)
                  | (go_at_call 27; (with_reducible refine (hC _).mono ?_); rintro e u3 ⟨rfl, hb⟩; (first | replace hb := undrew hb | replace hb := undrewN hb | skip); (first | replace E := up E hb E.size | replace E := up (E.alloc E.size _) hb (E.alloc E.size _).size | replace E := up ((E.alloc E.size _).alloc (E.alloc E.size _).size _) hb ((E.alloc E.size _).alloc (E.alloc E.size _).size _).size); clear hb))
                all_goals go_wp2_with fail
                all_goals go_meet
                all_goals exact ⟨congrArg Value.bool hbz.out, BM.below E, H3.below E, up T E T.size⟩
              case rest =>
                clear T BM H3 hTA hTB hC tick
                obtain ⟨rfl, BM, H3, T⟩ := hcut
                cases bz
                · go_wp2_with fail
                  go_roundw
                  case rel => exact ⟨j + 1, by go_num, by omega, fun i hi => by
                    rcases Nat.lt_or_ge i j with h | h
                    · exact hbh.out i h
                    · obtain rfl : i = j := by omega
                      have := hbz.out
                      rw [hzj.out]
                      simpa using this, BM, H3, T⟩
                  case measure => simp [intOf]; omega
                · go_wp2_with fail
                  go_ret
                  exact ⟨rfl, T⟩
            · exfalso
              obtain ⟨i, hi, hp⟩ := hzh.out
              have := hbefore i (by omega)
              omega
end
end Go.Proofs.Ytmhmoebdojkbpaa

/- A curve is below another one just if it has at most what that has; then it can be kept wherever that can be: the walk, with the program's answers put in. -/
namespace Go.Proofs.Ytmhmoebdojkbpaa
open Go.RowKit Go.Shelf Go.Maps W
set_option linter.unusedVariables false
/-- Two amounts compared by their words. -/
theorem cmp_sum (x y : Int) : 0 < cmpW (x / 18446744073709551616) (x % 18446744073709551616) (y / 18446744073709551616) (y % 18446744073709551616) ↔ y < x := by
  rcases Int.lt_trichotomy x y with h | h | h
  · rw [cmpW_lt (by rw [V_split, V_split]; exact h)]; omega
  · rw [cmpW_eq (by rw [V_split, V_split]; exact h.symm)]; omega
  · rw [cmpW_gt (by rw [V_split, V_split]; exact h)]; omega
theorem lo_word (x : Int) : Word (x % 18446744073709551616) := by unfold Word; omega
theorem tkB_word {l l1 : Int} (hl : Word l) (hl1 : Word l1) (i : Nat) : Word (tkB l l1 i) := by
  unfold tkB
  split
  · exact hl
  · exact hl1
  · exact ⟨by omega, by omega⟩
theorem cvs_end {xs : List Cv} {A : Cv} (h : ∀ v ∈ xs, v.word) (hA : A.word) : ∀ v ∈ xs ++ [A], v.word := by
  intro v hv
  rcases List.mem_append.1 hv with q | q
  · exact h v q
  · rw [List.mem_singleton.1 q]
    exact hA
theorem cvs_one {A : Cv} (hA : A.word) : ∀ v ∈ [A], v.word := by
  intro v hv
  rw [List.mem_singleton.1 hv]
  exact hA
open Classical in
set_option maxHeartbeats 1000000 in
theorem SumsBelow_walk : ∀ (a0 b0 c0 : Int) (a1 b1 c1 : Int) (a2 b2 c2 : Int) (a3 : Option Addr) (n3 c3 : Nat) (xs3 : List Cv) (a4 : Int) (a5 : Int) (V : World), Word a0 → Word b0 → Word c0 → Word a1 → Word b1 → Word c1 → Word a2 → Word b2 → Word c2 → IsCvs V a3 n3 c3 xs3 → (∀ v ∈ xs3, v.word) → c3 ≤ maxLen → (a3 = none → n3 = 0 ∧ c3 = 0) → Word a4 → Word a5 → Calls Try.prog 8 #[.agg #[.int .u64 a0, .int .u64 b0, .int .u64 c0], .agg #[.int .u64 a1, .int .u64 b1, .int .u64 c1], .agg #[.int .u64 a2, .int .u64 b2, .int .u64 c2], .slice a3 n3 c3, .int .u64 a4, .int .u64 a5] V fun e w' => e = .returned (.bool true) ∧ Below V.heap.size V w' := by
  intro f l r f1 l1 r1 f2 l2 r2 a n c xs rate t V hf hl hr hf1 hl1 hr1 hf2 hl2 hr2 hI hw hc hnn hrt ht
  by_cases hn : n ≤ 20
  · by_cases htt : t < 9223372036854775808
    · have sU := sortU 41 (by omega)
      have hlen : xs.length = n := hI.1
      have wa : (⟨f, l, r⟩ : Cv).word := ⟨hf, hl, hr⟩
      have wb : (⟨f1, l1, r1⟩ : Cv).word := ⟨hf1, hl1, hr1⟩
      have hMa := fun w => may_any f l r w hf hl hr
      have hMb := fun w => may_any f1 l1 r1 w hf1 hl1 hr1
      have hMc := fun w => may_any f2 l2 r2 w hf2 hl2 hr2
      have hAB := fun w => belowP_any 41 sU (by omega) f l r f1 l1 r1 w hf hl hr hf1 hl1 hr1
      by_cases hm : mayB f l r = true ∧ mayB f1 l1 r1 = true ∧ mayB f2 l2 r2 = true
      · obtain ⟨ma, mb, mc⟩ := hm
        rw [ma] at hMa
        rw [mb] at hMb
        rw [mc] at hMc
        have ma' : (⟨f, l, r⟩ : Cv).may := mayB_is.1 ma
        have mb' : (⟨f1, l1, r1⟩ : Cv).may := mayB_is.1 mb
        have hAA := fun w => belowP_any 41 sU (by omega) f l r f l r w hf hl hr hf hl hr
        rw [decide_eq_true (below_self ma')] at hAA
        have hBC := fun w => belowP_any 41 sU (by omega) f1 l1 r1 f2 l2 r2 w hf1 hl1 hr1 hf2 hl2 hr2
        have hAC := fun w => belowP_any 41 sU (by omega) f l r f2 l2 r2 w hf hl hr hf2 hl2 hr2
        by_cases hab : isBelow ⟨f, l, r⟩ ⟨f1, l1, r1⟩
        · rw [decide_eq_true hab] at hAB
          have hBA := fun w => belowP_any 41 sU (by omega) f1 l1 r1 f l r w hf1 hl1 hr1 hf hl hr
          refine bw_yes f l r f1 l1 r1 f2 l2 r2 a n c rate t V _ _ _ (sW [⟨f, l, r⟩] t / 18446744073709551616) (sW [⟨f, l, r⟩] t % 18446744073709551616) (sW [⟨f1, l1, r1⟩] t / 18446744073709551616) (sW [⟨f1, l1, r1⟩] t % 18446744073709551616) _ hn htt
            (fun h => decide_eq_true (below_trans hab (of_decide_eq_true h))) ?_ (fun h => ?_) awake_any hMa hMb hMc hAA hAB hBC hAC hBA
            (fun g w' h => atSum_any [⟨f, l, r⟩] t (some ⟨g, 0, none⟩) 1 1 w' (cvs_one wa) ht (by simp) h) (fun g w' h => atSum_any [⟨f1, l1, r1⟩] t (some ⟨g, 0, none⟩) 1 1 w' (cvs_one wb) ht (by simp) h)
            (fun w => Cmp_any _ _ _ _ w (lo_word _) (lo_word _)) xs (decide (kept (xs ++ [⟨f, l, r⟩]) rate)) (decide (kept (xs ++ [⟨f1, l1, r1⟩]) rate)) (fun h => decide_eq_true (below_kept hab (of_decide_eq_true h))) (fun w' hb => hI.below hb)
            (fun g k w' h => keptP_any 41 sU _ (cvs_end hw wb) (by simp; omega) (by simp; omega) rate _ hrt _ _ _ w' h decide_eq_true_iff) (fun g k w' h => keptP_any 41 sU _ (cvs_end hw wa) (by simp; omega) (by simp; omega) rate _ hrt _ _ _ w' h decide_eq_true_iff)
          · by_cases h : isBelow ⟨f1, l1, r1⟩ ⟨f, l, r⟩
            · have e := below_one wb wa h hab
              have e' := e
              injection e' with e1 e2 e3
              refine .inr ⟨decide_eq_true h, e1, e2, e3, ?_⟩
              simp only [e]
            · exact .inl (decide_eq_false h)
          · have := (cmp_sum _ _).1 h
            have := below_sum hab ht.1 htt
            omega
        · rw [decide_eq_false hab] at hAB
          refine bw_off f l r f1 l1 r1 f2 l2 r2 a n c rate t V _ _ _ (fun i => sW [⟨f, l, r⟩] (tkB l l1 i) / 18446744073709551616) (fun i => sW [⟨f, l, r⟩] (tkB l l1 i) % 18446744073709551616) (fun i => sW [⟨f1, l1, r1⟩] (tkB l l1 i) / 18446744073709551616) (fun i => sW [⟨f1, l1, r1⟩] (tkB l l1 i) % 18446744073709551616) hn htt
            ?_ awake_any hMa hMb hMc hAA hAB hBC hAC
            (fun i hi g w' h => atSum_any [⟨f, l, r⟩] _ (some ⟨g, 0, none⟩) 1 1 w' (cvs_one wa) (tkB_word hl hl1 i) (by simp) h) (fun i hi g w' h => atSum_any [⟨f1, l1, r1⟩] _ (some ⟨g, 0, none⟩) 1 1 w' (cvs_one wb) (tkB_word hl hl1 i) (by simp) h)
            (fun i hi w => Cmp_any _ _ _ _ w (lo_word _) (lo_word _))
          rcases not_below wa wb ma' mb' hab with h | h | h
          · exact ⟨0, by omega, (cmp_sum _ _).2 h⟩
          · exact ⟨1, by omega, (cmp_sum _ _).2 h⟩
          · exact ⟨2, by omega, (cmp_sum _ _).2 h⟩
      · exact bw_no f l r f1 l1 r1 f2 l2 r2 a n c rate t V (mayB f l r) (mayB f1 l1 r1) (mayB f2 l2 r2) _ hn htt hm (fun h => ⟨mayB_is.2 (of_decide_eq_true h).1, mayB_is.2 (of_decide_eq_true h).2.1⟩) awake_any hMa hMb hMc hAB
    · exact bw_long f l r f1 l1 r1 f2 l2 r2 a n c rate t V (.inr ⟨hn, by omega⟩) awake_any
  · exact bw_long f l r f1 l1 r1 f2 l2 r2 a n c rate t V (.inl (by omega)) awake_any
end Go.Proofs.Ytmhmoebdojkbpaa
