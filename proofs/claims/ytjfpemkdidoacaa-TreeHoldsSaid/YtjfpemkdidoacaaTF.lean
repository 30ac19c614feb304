/- What the tree's call mended answers: a node over two parts that lean. No condition. -/
import Derived.Test.YtjfpemkdidoacaaTE
namespace Go.Proofs.Ytjfpemkdidoacaa
open Go.RowKit Go.Shelf
set_option linter.unusedVariables false
theorem isRed_tre (p : Pt) (t : Tr) (w : World) (h : Tre w p t) : Calls Try.prog 57 #[.pointer p] w fun e w' => e = .returned (.bool t.isRed) ∧ w = w' := by
  cases t with
  | nil =>
    obtain rfl : p = none := h
    exact isRed_nil w
  | nd m r a b =>
    obtain ⟨B, pl, pr, rfl, hB, hw, hl, hr⟩ := h.open
    exact isRed_at B r w (hB.cell 3)
namespace Tr
def lft : Tr → Tr
  | nil => nil
  | nd _ _ a _ => a
theorem mend_no {m : It} {c : Bool} {a b : Tr} (h : (b.isRed && !a.isRed) = false) : mend m c a b = m2 m c a b := by
  cases b with
  | nil => rfl
  | nd mb rb x y =>
    cases rb with
    | false => rfl
    | true =>
      have ha : a.isRed = true := by simpa [isRed] using h
      show (if a.isRed then _ else _) = _
      rw [if_pos ha]
theorem mend_yes {a b : Tr} (h : (b.isRed && !a.isRed) = true) : ∃ mb x y, b = nd mb true x y ∧ a.isRed = false := by
  cases b with
  | nil => simp [isRed] at h
  | nd mb rb x y =>
    cases rb with
    | false => simp [isRed] at h
    | true => exact ⟨mb, x, y, rfl, by simpa [isRed] using h⟩
theorem mend_red {m mb : It} {c : Bool} {a x y : Tr} (h : a.isRed = false) : mend m c a (nd mb true x y) = m2 mb c (mend m true a x) y := by
  show (if a.isRed then _ else _) = _
  rw [if_neg (by simp [h])]
theorem m2_no {m : It} {c : Bool} {a b : Tr} (h : (a.isRed && a.lft.isRed) = false) : m2 m c a b = m3 m c a b := by
  cases a with
  | nil => rfl
  | nd ma ra x z =>
    cases ra with
    | false => rfl
    | true =>
      cases x with
      | nil => rfl
      | nd mb rb x y =>
        cases rb with
        | false => rfl
        | true => simp [isRed, lft] at h
theorem m2_yes {a : Tr} (h : (a.isRed && a.lft.isRed) = true) : ∃ ma mb x y z, a = nd ma true (nd mb true x y) z := by
  cases a with
  | nil => simp [isRed] at h
  | nd ma ra x z =>
    cases ra with
    | false => simp [isRed] at h
    | true =>
      cases x with
      | nil => simp [isRed, lft] at h
      | nd mb rb x y =>
        cases rb with
        | false => simp [isRed, lft] at h
        | true => exact ⟨ma, mb, x, y, z, rfl⟩
theorem m3_yes {m : It} {c : Bool} {a b : Tr} (h : (a.isRed && b.isRed) = true) : m3 m c a b = nd m true (a.tint false) (b.tint false) := by unfold m3; rw [if_pos h]
theorem m3_no {m : It} {c : Bool} {a b : Tr} (h : (a.isRed && b.isRed) = false) : m3 m c a b = nd m c a b := by unfold m3; rw [if_neg (by simp [h])]
end Tr
/-- What the call mended answers at a part b, whatever else. -/
def MendAt (Bt : Nat) (tp : Pt) (tn : Int) (b : Tr) : Prop :=
  ∀ (q : Pt) (m : It) (rq c : Bool) (w : World) (pl pr : Pt) (a : Tr), Box w Bt (tree tp tn) 57 → Nod w q m rq → Tre w pl a → Tre w pr b →
    Calls Try.prog 62 #[.pointer (some ⟨Bt, 0, none⟩), .pointer q, .bool c, .pointer pl, .pointer pr] w fun e w' => ∃ p' : Pt, e = .returned (.pointer p') ∧ Tre w' p' (Tr.mend m c a b) ∧ Below w.heap.size w w'
set_option maxRecDepth 100000 in
set_option maxHeartbeats 2000000 in
theorem mended_of (Bt : Nat) (tp : Pt) (tn : Int) (b : Tr) (hI : ∀ m r x y, b = .nd m r x y → MendAt Bt tp tn x) : MendAt Bt tp tn b := by
  intro q m rq c w pl pr a ht hq hl hr
  have hRb := isRed_tre pr b w hr
  have hRa := isRed_tre pl a w hl
  obtain ⟨Z, hZ⟩ : ∃ Z, Tr.mend m c a b = Z := ⟨_, rfl⟩
  rw [hZ]
  replace hZ := Lib.hid hZ
  go_enter Try.func62, Try.ntmps62
  go_upto_region 1 with (fail)
  go_cut [17] (fun s17 wx => s17 = .bool (b.isRed && !a.isRed) ∧ w = wx)
  case first =>
    cases hb : b.isRed with
    | false =>
      rw [hb] at hRb
      go_wp2_with (go_at_call 57; (with_reducible refine hRb.mono ?_); rintro e w1 ⟨rfl, rfl⟩)
      go_meet
      case rel => exact ⟨by rw [hb]; rfl, rfl⟩
    | true =>
      rw [hb] at hRb
      cases ha : a.isRed with
      | false =>
        rw [ha] at hRa
        go_wp2_with (first
          | (go_at_call 57; (with_reducible refine hRb.mono ?_); clear hRb; rintro e w1 ⟨rfl, rfl⟩)
          | (go_at_call 57; (with_reducible refine hRa.mono ?_); rintro e w1 ⟨rfl, rfl⟩))
        go_meet
        case rel => exact ⟨by rw [hb, ha]; rfl, rfl⟩
      | true =>
        rw [ha] at hRa
        go_wp2_with (first
          | (go_at_call 57; (with_reducible refine hRb.mono ?_); clear hRb; rintro e w1 ⟨rfl, rfl⟩)
          | (go_at_call 57; (with_reducible refine hRa.mono ?_); rintro e w1 ⟨rfl, rfl⟩))
        go_meet
        case rel => exact ⟨by rw [hb, ha]; rfl, rfl⟩
  case rest =>
    obtain ⟨rfl, rfl⟩ := hcut
    clear hRb hRa
    go_upto_if 17 with (fail)
    go_cut [1, 3, 4] (fun s1 s3 s4 wx => ∃ (q1 p1 p2 : Pt) (m1 : It) (r1 : Bool) (A B : Tr), s1 = .pointer q1 ∧ s3 = .pointer p1 ∧ s4 = .pointer p2 ∧ Nod wx q1 m1 r1 ∧ Tre wx p1 A ∧ Tre wx p2 B ∧ Hid (Tr.m2 m1 c A B = Z) ∧ Below w.heap.size w wx)
    case first =>
      cases hc : (b.isRed && !a.isRed) with
      | false =>
        go_wp2
        go_meet
        case rel => exact ⟨q, pl, pr, m, rq, a, b, rfl, rfl, rfl, hq, hl, hr, (Tr.mend_no hc).symm.trans hZ.out, Below.refl _ _⟩
      | true =>
        obtain ⟨mb, x, y, rfl, ha⟩ := Tr.mend_yes hc
        obtain ⟨Br, px, py, rfl, hB, hw, hx, hy⟩ := hr.open
        have hM := fun w1 (h : Below w.heap.size w w1) => hI mb true x y rfl q m rq true w1 pl px a (ht.below h) (hq.below h) (hl.below h) (hx.below h)
        go_upto_region 2 with (fail)
        obtain ⟨c0, c1, c2, c3, c4, c5, c6⟩ := nodC hB
        go_region_held3 (fun w' => w'.cell? ⟨Br, 4, none⟩ = some (.pointer px) ∧ w'.cell? ⟨Br, 5, none⟩ = some (.pointer py))
          (first | exact ⟨c4, c5⟩ | exact ⟨(nodC (hB.below hb1)).2.2.2.2.1, (nodC (hB.below hb1)).2.2.2.2.2.1⟩)
          (first
            | (go_at_call 62; (with_reducible refine (hM _ (by first | exact Below.refl _ _ | exact (Below.refl _ _).drew | exact below_drewN (Below.refl _ _) _)).mono ?_); rintro e w1 ⟨p1, rfl, hT, hb1⟩; (first | replace hb1 := undrew hb1 | replace hb1 := undrewN hb1 | skip)))
        all_goals
          go_wp2_with fail
          go_meet
          exact ⟨_, p1, py, mb, true, Tr.mend m true a x, y, rfl, rfl, rfl, ⟨Br, px, py, _, rfl, hB.below hb1, hw⟩, hT, hy.below hb1, (Tr.mend_red ha).symm.trans hZ.out, hb1⟩
    case rest =>
      obtain ⟨q1, p1, p2, m1, r1, A, B, rfl, rfl, rfl, hq1, hA, hB, he, hb1⟩ := hcut
      rename World => W1
      have ht1 := ht.below hb1
      clear hZ hq hl hr hI
      have hR := isRed_tre p1 A W1 hA
      go_upto_region 3 with (fail)
      go_cut [39] (fun s39 wx => s39 = .bool (A.isRed && A.lft.isRed) ∧ W1 = wx)
      case first =>
        cases A with
        | nil =>
          obtain rfl : p1 = none := hA
          go_wp2_with (go_at_call 57; (with_reducible refine hR.mono ?_); rintro e w1 ⟨rfl, rfl⟩)
          go_meet
          exact ⟨rfl, rfl⟩
        | nd ma ra x z =>
          obtain ⟨Ba, px, pz, rfl, hBa, hw, hx, hz⟩ := hA.open
          have c4 := (nodC hBa).2.2.2.2.1
          have hRx := isRed_tre px x W1 hx
          cases ra with
          | false =>
            go_wp2_with (go_at_call 57; (with_reducible refine hR.mono ?_); rintro e w1 ⟨rfl, rfl⟩)
            go_meet
            exact ⟨rfl, rfl⟩
          | true =>
            go_wp2_with (first
              | (go_at_call 57; (with_reducible refine hR.mono ?_); clear hR; rintro e w1 ⟨rfl, rfl⟩)
              | (go_at_call 57; (with_reducible refine hRx.mono ?_); rintro e w1 ⟨rfl, rfl⟩))
            go_meet
            exact ⟨rfl, rfl⟩
      case rest =>
        obtain ⟨rfl, rfl⟩ := hcut
        clear hR
        go_upto_if 39 with (fail)
        go_cut [1, 3, 4] (fun s1 s3 s4 wx => ∃ (q3 p3 p4 : Pt) (m2 : It) (r2 : Bool) (A2 B2 : Tr), s1 = .pointer q3 ∧ s3 = .pointer p3 ∧ s4 = .pointer p4 ∧ Nod wx q3 m2 r2 ∧ Tre wx p3 A2 ∧ Tre wx p4 B2 ∧ Hid (Tr.m3 m2 c A2 B2 = Z) ∧ Below w.heap.size w wx)
        case first =>
          cases hc : (A.isRed && A.lft.isRed) with
          | false =>
            go_wp2
            go_meet
            exact ⟨q1, p1, p2, m1, r1, A, B, rfl, rfl, rfl, hq1, hA, hB, (Tr.m2_no hc).symm.trans he.out, hb1⟩
          | true =>
            obtain ⟨ma, mb, x, y, z, rfl⟩ := Tr.m2_yes hc
            obtain ⟨Ba, px, pz, rfl, hBa, hw, hx, hz⟩ := hA.open
            have hO := fun w1 (h : Below W1.heap.size W1 w1) => over_any Bt tp tn q1 m1 r1 true w1 pz p2 z B (ht1.below h) (hq1.below h) (hz.below h) (hB.below h)
            go_upto_region 4 with (fail)
            obtain ⟨c0, c1, c2, c3, c4, c5, c6⟩ := nodC hBa
            go_region_held3 (fun w' => w'.cell? ⟨Ba, 4, none⟩ = some (.pointer px) ∧ w'.cell? ⟨Ba, 5, none⟩ = some (.pointer pz))
              (first | exact ⟨c4, c5⟩ | exact ⟨(nodC (hBa.below hb2)).2.2.2.2.1, (nodC (hBa.below hb2)).2.2.2.2.2.1⟩)
              (first
                | (go_at_call 61; (with_reducible refine (hO _ (by first | exact Below.refl _ _ | exact (Below.refl _ _).drew | exact below_drewN (Below.refl _ _) _)).mono ?_); rintro e w2 ⟨p3, rfl, hT, hb2⟩; (first | replace hb2 := undrew hb2 | replace hb2 := undrewN hb2 | skip)))
            all_goals
              go_wp2_with fail
              go_meet
              exact ⟨_, px, p3, ma, true, Tr.nd mb true x y, Tr.nd m1 true z B, rfl, rfl, rfl, ⟨Ba, px, pz, _, rfl, hBa.below hb2, hw⟩, hx.below hb2, hT, he.out, upp hb1 hb2⟩
        case rest =>
          obtain ⟨q3, p3, p4, m2, r2, A2, B2, rfl, rfl, rfl, hq2, hA2, hB2, he2, hb2⟩ := hcut
          rename World => W2
          clear he hq1 hA hB hb1 ht1
          have ht2 := ht.below hb2
          have hRa := isRed_tre p3 A2 W2 hA2
          have hRb := isRed_tre p4 B2 W2 hB2
          go_upto_region 5 with (fail)
          go_cut [58] (fun s58 wx => s58 = .bool (A2.isRed && B2.isRed) ∧ W2 = wx)
          case first =>
            cases ha : A2.isRed with
            | false =>
              rw [ha] at hRa
              go_wp2_with (go_at_call 57; (with_reducible refine hRa.mono ?_); rintro e w1 ⟨rfl, rfl⟩)
              go_meet
              exact ⟨by rw [ha]; rfl, rfl⟩
            | true =>
              rw [ha] at hRa
              go_wp2_with (first
                | (go_at_call 57; (with_reducible refine hRa.mono ?_); clear hRa; rintro e w1 ⟨rfl, rfl⟩)
                | (go_at_call 57; (with_reducible refine hRb.mono ?_); rintro e w1 ⟨rfl, rfl⟩))
              go_meet
              exact ⟨by rw [ha]; rfl, rfl⟩
          case rest =>
            obtain ⟨rfl, rfl⟩ := hcut
            clear hRa hRb
            go_upto_if 58 with (fail)
            go_cut [2, 3, 4] (fun s2 s3 s4 wx => ∃ (c3 : Bool) (p5 p6 : Pt) (A3 B3 : Tr), s2 = .bool c3 ∧ s3 = .pointer p5 ∧ s4 = .pointer p6 ∧ Tre wx p5 A3 ∧ Tre wx p6 B3 ∧ Hid (Tr.nd m2 c3 A3 B3 = Z) ∧ Below W2.heap.size W2 wx)
            case first =>
              cases hc : (A2.isRed && B2.isRed) with
              | false =>
                go_wp2
                go_meet
                exact ⟨c, p3, p4, A2, B2, rfl, rfl, rfl, hA2, hB2, (Tr.m3_no hc).symm.trans he2.out, Below.refl _ _⟩
              | true =>
                have hTa := tinted_tre p3 A2 false W2 hA2
                have hTb := fun w1 (h : Below W2.heap.size W2 w1) => tinted_tre p4 B2 false w1 (hB2.below h)
                go_wp2_with (first
                  | (go_at_call 60; (with_reducible refine hTa.mono ?_); clear hTa; rintro e w3 ⟨p5, rfl, hT5, hb3⟩)
                  | (go_at_call 60; (with_reducible refine (hTb _ hb3).mono ?_); rintro e w4 ⟨p6, rfl, hT6, hb4⟩))
                go_meet
                exact ⟨true, p5, p6, A2.tint false, B2.tint false, rfl, rfl, rfl, hT5.below hb4, hT6, (Tr.m3_yes hc).symm.trans he2.out, upp hb3 hb4⟩
            case rest =>
              obtain ⟨c3, p5, p6, A3, B3, rfl, rfl, rfl, hA3, hB3, he3, hb3⟩ := hcut
              rename World => W3
              obtain rfl := he3.out
              have hO := over_any Bt tp tn q3 m2 r2 c3 W3 p5 p6 A3 B3 (ht2.below hb3) (hq2.below hb3) hA3 hB3
              go_wp2_with (go_at_call 61; (with_reducible refine hO.mono ?_); rintro e w4 ⟨p7, rfl, hT, hb4⟩)
              go_ret
              exact ⟨p7, rfl, hT, upp (upp hb2 hb3) hb4⟩
theorem mended_any (Bt : Nat) (tp : Pt) (tn : Int) : ∀ b : Tr, MendAt Bt tp tn b
  | .nil => mended_of Bt tp tn _ fun _ _ _ _ e => by cases e
  | .nd m r x y => mended_of Bt tp tn _ fun _ _ _ _ e => by cases e; exact mended_any Bt tp tn x
end Go.Proofs.Ytjfpemkdidoacaa
