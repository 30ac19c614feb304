/- What the tree's call without answers where the key stands right, or in a node with something at its right. No condition but that the key is there. -/
import Derived.Test.YtjfpemkdidoacaaTM
namespace Go.Proofs.Ytjfpemkdidoacaa
open Go.RowKit Go.Shelf
set_option linter.unusedVariables false
set_option maxRecDepth 100000 in
set_option maxHeartbeats 4000000 in
theorem without_rest (Bt : Nat) (tp : Pt) (tn : Int) (m : It) (r : Bool) (a b : Tr) (k : Ky) (x : It) (k' : Ky) (hk : (k = m.1 ∧ b.fst = some x ∧ k' = x.1) ∨ (k ≠ m.1 ∧ b.isNil = false ∧ x = m ∧ k' = k)) (hlt : ¬ kLt k m.1) (hI : WotAt Bt tp tn b) (hm : b.may k') (p : Pt) (w : World) (ht : Box w Bt (tree tp tn) 57) (hp : Tre w p (.nd m r a b))
    (R : Tr × Bool) (hR : R = if (b.rem k').2 then Tr.shr x r (b.rem k').1 a else (.nd x r a (b.rem k').1, false)) :
    Calls Try.prog 43 #[.pointer (some ⟨Bt, 0, none⟩), .pointer p, ky k] w fun e w' => ∃ p' : Pt, e = .returned (.tuple #[.pointer p', .bool R.2]) ∧ Tre w' p' R.1 ∧ Below w.heap.size w w' := by
  have hq := hp.nod
  obtain ⟨B, pl, pr, rfl, hB, hw, ha, hb⟩ := hp.open
  have hbn : b.isNil = false := by
    rcases hk with ⟨_, h, _⟩ | ⟨_, h, _⟩
    · cases b with
      | nil => cases h
      | nd _ _ _ _ => rfl
    · exact h
  have hprn := isNil_at hb
  rw [hbn] at hprn
  have h1 := fun w1 (h : Below w.heap.size w w1) => hI pr k' w1 hm (ht.below h) (hb.below h)
  generalize b.rem k' = A at *
  obtain ⟨A, s⟩ := A
  dsimp only at h1 hR
  replace hR := Lib.hid hR
  obtain ⟨C, rfl⟩ : ∃ C : Nat, pr = some ⟨C, 0, none⟩ := by
    cases b with
    | nil => cases hbn
    | nd _ _ _ _ => obtain ⟨C, _, _, h, _⟩ := hb.open; exact ⟨C, h⟩
  clear hprn
  have T0 := up1 w (.cells #[eU k.1, eI k.2] 32)
  have hK := Box.new w 32 #[eU k.1, eI k.2]
  obtain ⟨W0, hW0⟩ : ∃ v, w.alloc (.cells #[eU k.1, eI k.2] 32) = v := ⟨_, rfl⟩
  rw [hW0] at T0 hK
  have hL := less_any k m.1
  rw [show decide (kLt k m.1) = false by simpa using hlt] at hL
  go_enter Try.func43, Try.ntmps43
  go_upto_region 1 with (fail)
  clear hW0
  have hS : ∀ w', Below W0.heap.size W0 w' → (w'.cell? ⟨w.heap.size, 0, none⟩ = some (.int .u64 k.1) ∧ w'.cell? ⟨w.heap.size, 1, none⟩ = some (.int .i64 k.2)) ∧ w'.cell? ⟨B, 0, none⟩ = some (.int .u64 m.1.1) ∧ w'.cell? ⟨B, 1, none⟩ = some (.int .i64 m.1.2) := fun w' h =>
    ⟨kyC (hK.below h), (nodC (hB.below (upp T0 h))).1, (nodC (hB.below (upp T0 h))).2.1⟩
  have hS0 := hS W0 (Below.refl _ _)
  obtain ⟨⟨k0, k1⟩, c0, c1⟩ := id hS0
  go_region_held3 (fun w' => (w'.cell? ⟨w.heap.size, 0, none⟩ = some (.int .u64 k.1) ∧ w'.cell? ⟨w.heap.size, 1, none⟩ = some (.int .i64 k.2)) ∧ w'.cell? ⟨B, 0, none⟩ = some (.int .u64 m.1.1) ∧ w'.cell? ⟨B, 1, none⟩ = some (.int .i64 m.1.2))
    (first | exact hS0 | exact hS _ hb1)
    (first
      | (go_at_call 36; (with_reducible refine (hL _).mono ?_); rintro e w1 ⟨rfl, hb1⟩; (first | replace hb1 := undrew hb1 | replace hb1 := undrewN hb1 | skip)))
  clear hS hS0 k0 k1 c0 c1
  have T1 := upp T0 hb1
  have hK1 := hK.below hb1
  clear T0 hK hb1 hL
  obtain ⟨k0, k1⟩ := kyC hK1
  obtain ⟨c0, c1, c2, c3, c4, c5, c6⟩ := nodC (hB.below T1)
  go_upto_region 6 with (fail)
  go_cut [60] (fun s60 wx => s60 = .bool false ∧ Below w1.heap.size w1 wx)
  case first =>
    rcases hk with ⟨rfl, _, _⟩ | ⟨hk, _, _⟩
    · go_quiet (fail)
      go_wp2_with fail
      go_meet
      exact ⟨rfl, below_drewN (Below.refl _ _) _⟩
    · rcases Decidable.em (k.1 = m.1.1) with h | h
      · have hk1 : (k.1 == m.1.1) = true := by simpa using h
        have hk2 : (k.2 == m.1.2) = false := by simpa using fun h2 => hk (Prod.ext h h2)
        clear h
        go_quiet (fail)
        go_wp2_with fail
        go_meet
        exact ⟨rfl, below_drewN (Below.refl _ _) _⟩
      · have hk1 : (k.1 == m.1.1) = false := by simpa using h
        clear h
        go_quiet (fail)
        go_wp2_with fail
        go_meet
        exact ⟨rfl, below_drewN (Below.refl _ _) _⟩
  case rest =>
    obtain ⟨rfl, hb2⟩ := hcut
    rename World => W2
    have T2 := upp T1 hb2
    have hK2 := hK1.below hb2
    clear T1 hK1 hb2 k0 k1 c0 c1 c2 c3 c4 c5 c6
    obtain ⟨k0, k1⟩ := kyC hK2
    obtain ⟨c0, c1, c2, c3, c4, c5, c6⟩ := nodC (hB.below T2)
    go_upto_region 8 with (fail)
    go_cut [83] (fun s83 wx => s83 = .bool (decide (k = m.1)) ∧ Below W2.heap.size W2 wx)
    case first =>
      rcases hk with ⟨rfl, _, _⟩ | ⟨hk, _, _⟩
      · go_quiet (fail)
        go_wp2_with fail
        go_meet
        exact ⟨by simp, below_drewN (Below.refl _ _) _⟩
      · rcases Decidable.em (k.1 = m.1.1) with h | h
        · have hk1 : (k.1 == m.1.1) = true := by simpa using h
          have hk2 : (k.2 == m.1.2) = false := by simpa using fun h2 => hk (Prod.ext h h2)
          clear h
          go_quiet (fail)
          go_wp2_with fail
          go_meet
          exact ⟨by simp [hk], below_drewN (Below.refl _ _) _⟩
        · have hk1 : (k.1 == m.1.1) = false := by simpa using h
          clear h
          go_quiet (fail)
          go_wp2_with fail
          go_meet
          exact ⟨by simp [hk], below_drewN (Below.refl _ _) _⟩
    case rest =>
      obtain ⟨rfl, hb3⟩ := hcut
      rename World => W3
      have T3 := upp T2 hb3
      have hK3 := hK2.below hb3
      clear T2 hK2 hb3 k0 k1 c0 c1 c2 c3 c4 c5 c6
      go_upto_if 83 with (fail)
      go_cut [1] (fun s1 wx => ∃ (B1 : Nat) (z : Int), s1 = .pointer (some ⟨B1, 0, none⟩) ∧ Box wx B1 (node x r pl (some ⟨C, 0, none⟩) z) 80 ∧ Box wx w.heap.size #[eU k'.1, eI k'.2] 32 ∧ (Word x.1.1 ∧ Inte x.1.2 ∧ Word x.2) ∧ Below w.heap.size w wx)
      case first =>
        rcases hk with ⟨rfl, hx, rfl⟩ | ⟨hk, _, rfl, rfl⟩
        · rw [show decide (m.1 = m.1) = true by simp]
          have hF : Calls Try.prog 51 #[.pointer (some ⟨C, 0, none⟩)] W3 fun e w' => ∃ (Bx : Nat) (rx : Bool) (pxl pxr : Pt) (sx : Int), e = .returned (.pointer (some ⟨Bx, 0, none⟩)) ∧ Box w' Bx (node x rx pxl pxr sx) 80 ∧ (Word x.1.1 ∧ Inte x.1.2 ∧ Word x.2) ∧ Below W3.heap.size W3 w' :=
            (first_any _ b W3 (hb.below T3)).mono fun e w' ⟨v, e1, e2, e3⟩ => by
              rw [hx] at e2
              obtain ⟨q, rx, e4, Bx, p1, p2, sx, e5, e6, e7⟩ := e2
              exact ⟨Bx, rx, p1, p2, sx, by rw [e1, e4, e5], e6, e7, e3⟩
          have c5 := (nodC (hB.below T3)).2.2.2.2.2.1
          go_upto_region 10 with (go_at_call 51; (with_reducible refine hF.mono ?_); rintro e w4 ⟨Bx, rx, pxl, pxr, sx, rfl, hX, hwx, hb4⟩)
          have T4 := upp T3 hb4
          have hB4 := hB.below T4
          have hK4 := hK3.below hb4
          have hne1 : Bx ≠ w.heap.size := fun h => by
            subst h
            have h1 : w4.heap[w.heap.size]? = some (.cells (node x rx pxl pxr sx) 80 (0, 0)) := hX
            have h2 : w4.heap[w.heap.size]? = some (.cells #[eU m.1.1, eI m.1.2] 32 (0, 0)) := hK4
            rw [h1] at h2
            injection h2 with h3
            injection h3 with _ h4 _
            exact absurd h4 (by decide)
          have hne2 : B ≠ w.heap.size := Nat.ne_of_lt hB.lt
          have hS : ∀ w', Box w' Bx (node x rx pxl pxr sx) 80 → Box w' B (node m r pl (some ⟨C, 0, none⟩) (Tr.nd m r a b).sum) 80 → (w'.cell? ⟨Bx, 0, none⟩ = some (.int .u64 x.1.1) ∧ w'.cell? ⟨Bx, 1, none⟩ = some (.int .i64 x.1.2) ∧ w'.cell? ⟨Bx, 2, none⟩ = some (.int .u64 x.2) ∧ w'.cell? ⟨B, 3, none⟩ = some (.bool r) ∧ w'.cell? ⟨B, 4, none⟩ = some (.pointer pl) ∧ w'.cell? ⟨B, 5, none⟩ = some (.pointer (some ⟨C, 0, none⟩))) := fun w' h1 h2 => ⟨(nodC h1).1, (nodC h1).2.1, (nodC h1).2.2.1, (nodC h2).2.2.2.1, (nodC h2).2.2.2.2.1, (nodC h2).2.2.2.2.2.1⟩
          have hS0 := hS w4 hX hB4
          clear c5
          obtain ⟨x0, x1, x2, c3, c4, c5⟩ := id hS0
          have f0 := hK4.thaw 0
          have f1 := hK4.thaw 1
          obtain ⟨k0, k1⟩ := kyC hK4
          have l1 := hK4.lt
          have l2 := hB4.lt
          have l3 := hX.lt
          go_region_held3 (fun w' => w'.cell? ⟨Bx, 0, none⟩ = some (.int .u64 x.1.1) ∧ w'.cell? ⟨Bx, 1, none⟩ = some (.int .i64 x.1.2) ∧ w'.cell? ⟨Bx, 2, none⟩ = some (.int .u64 x.2) ∧ w'.cell? ⟨B, 3, none⟩ = some (.bool r) ∧ w'.cell? ⟨B, 4, none⟩ = some (.pointer pl) ∧ w'.cell? ⟨B, 5, none⟩ = some (.pointer (some ⟨C, 0, none⟩)))
            (first | exact hS0 | exact hS _ (hX.alloc _) (hB4.alloc _) | exact hS _ ((hX.setNe hne1 _).setNe hne1 _) ((hB4.setNe hne2 _).setNe hne2 _) | exact hS _ (((hX.alloc _).setNe hne1 _).setNe hne1 _) (((hB4.alloc _).setNe hne2 _).setNe hne2 _) | exact hS _ (((hX.setNe hne1 _).setNe hne1 _).alloc _) (((hB4.setNe hne2 _).setNe hne2 _).alloc _))
            (fail)
          all_goals
            go_wp2_with fail
            go_meet
            refine ⟨w4.heap.size, 0, rfl, ?_, ?_, hwx, ?_⟩
            · have h := Box.new ((w4.setCell ⟨w.heap.size, 0, none⟩ (eU x.1.1)).setCell ⟨w.heap.size, 1, none⟩ (eI x.1.2)) 80 (node x r pl (some ⟨C, 0, none⟩) 0)
              have e : ((w4.setCell ⟨w.heap.size, 0, none⟩ (eU x.1.1)).setCell ⟨w.heap.size, 1, none⟩ (eI x.1.2)).heap.size = w4.heap.size := by simp
              rw [e] at h
              exact h
            · exact ((hK4.set 0 (eU x.1.1)).set 1 (eI x.1.2)).alloc _
            · exact (((T4.setCell (p := ⟨w.heap.size, 0, none⟩) (Nat.le_refl _) _).setCell (p := ⟨w.heap.size, 1, none⟩) (Nat.le_refl _) _).alloc (by have := T4.size; simpa using this) _).drew
        · rw [show decide (k' = x.1) = false by simpa using hk]
          go_wp2
          go_meet
          exact ⟨B, _, rfl, hB.below T3, hK3, hw, T3⟩
      case rest =>
        obtain ⟨B1, z, rfl, hB1, hK4, hwx, T4⟩ := hcut
        rename World => W4
        have hq4 : Nod W4 (some ⟨B1, 0, none⟩) x r := ⟨B1, _, _, _, rfl, hB1, hwx⟩
        clear hK3 T3 hk hlt hm hI
        have hS : ∀ w', Below W4.heap.size W4 w' → (w'.cell? ⟨w.heap.size, 0, none⟩ = some (.int .u64 k'.1) ∧ w'.cell? ⟨w.heap.size, 1, none⟩ = some (.int .i64 k'.2)) ∧ w'.cell? ⟨B1, 5, none⟩ = some (.pointer (some ⟨C, 0, none⟩)) := fun w' h =>
          ⟨kyC (hK4.below h), (nodC (hB1.below h)).2.2.2.2.2.1⟩
        have hS0 := hS W4 (Below.refl _ _)
        obtain ⟨⟨k0, k1⟩, c5⟩ := id hS0
        go_upto_region 11 with (fail)
        go_region_held3 (fun w' => (w'.cell? ⟨w.heap.size, 0, none⟩ = some (.int .u64 k'.1) ∧ w'.cell? ⟨w.heap.size, 1, none⟩ = some (.int .i64 k'.2)) ∧ w'.cell? ⟨B1, 5, none⟩ = some (.pointer (some ⟨C, 0, none⟩)))
          (first | exact hS0 | exact hS _ hb5)
          (first
            | (go_at_call 43; (with_reducible refine (h1 _ (by first | exact T4 | exact T4.drew | exact below_drewN T4 _)).mono ?_); rintro e w5 ⟨p2, rfl, hT2, hb5⟩; (first | replace hb5 := undrew hb5 | replace hb5 := undrewN hb5 | skip)))
        clear hS hS0 k0 k1 c5
        have T5 := upp T4 hb5
        have hB5 := hB1.below hb5
        have hq5 := hq4.below hb5
        have c3 := (nodC hB5).2.2.2.1
        have c4 := (nodC hB5).2.2.2.2.1
        cases s with
        | true =>
          replace hR : R = Tr.shr x r A a := hR.out
          have h2 := shortRight_any Bt tp tn a (some ⟨B1, 0, none⟩) x r w5 pl p2 A (ht.below T5) hq5 (ha.below T5) hT2
          rw [← hR] at h2
          clear hR
          go_wp2_with (go_at_call 64; (with_reducible refine h2.mono ?_); rintro e w6 ⟨p3, rfl, hT3, hb6⟩)
          go_ret2
          exact ⟨p3, rfl, hT3, upp T5 hb6⟩
        | false =>
          replace hR : R = (.nd x r a A, false) := hR.out
          have h2 := fun w6 (h : Below w5.heap.size w5 w6) => over_any Bt tp tn (some ⟨B1, 0, none⟩) x r r w6 pl p2 a A (ht.below (upp T5 h)) (hq5.below h) (ha.below (upp T5 h)) (hT2.below h)
          go_upto_region 14 with (fail)
          go_region_held3 (fun w' => w'.cell? ⟨B1, 3, none⟩ = some (.bool r) ∧ w'.cell? ⟨B1, 4, none⟩ = some (.pointer pl))
            (first | exact ⟨c3, c4⟩ | exact ⟨(nodC (hB5.below hb6)).2.2.2.1, (nodC (hB5.below hb6)).2.2.2.2.1⟩)
            (first
              | (go_at_call 61; (with_reducible refine (h2 _ (by first | exact Below.refl _ _ | exact (Below.refl _ _).drew | exact below_drewN (Below.refl _ _) _)).mono ?_); rintro e w6 ⟨p3, rfl, hT3, hb6⟩; (first | replace hb6 := undrew hb6 | replace hb6 := undrewN hb6 | skip)))
          all_goals go_wp2
          all_goals go_ret2
          all_goals exact ⟨p3, by rw [hR]; rfl, by rw [hR]; exact hT3, upp T5 hb6⟩
end Go.Proofs.Ytjfpemkdidoacaa
