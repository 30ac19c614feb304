/- What the tree's calls Height, Upto and Find answer. No condition but that the tree is no higher than there is room. -/
import Derived.Test.YtjfpemkdidoacaaTU
namespace Go.Proofs.Ytjfpemkdidoacaa
open Go.RowKit Go.Shelf
set_option linter.unusedVariables false
theorem wrap_id {x : Int} (h0 : -9223372036854775808 ≤ x) (h1 : x < 9223372036854775808) : IntKind.i64.wrap x = x := by
  simp only [IntKind.wrap, IntKind.bits, IntKind.signed]
  simp
  omega
set_option maxRecDepth 100000 in
set_option maxHeartbeats 2000000 in
theorem height_any (t : Tr) : ∀ (p : Pt) (w : World), t.hgt < 4611686018427387904 → Tre w p t →
    Calls Try.prog 54 #[.pointer p] w fun e w' => e = .returned (eI t.hgt) ∧ Below w.heap.size w w' := by
  induction t with
  | nil =>
    intro p w _ hp
    obtain rfl : p = none := hp
    go_enter Try.func54, Try.ntmps54
    go_wp2
    go_ret
    exact ⟨rfl, Below.refl _ _⟩
  | nd m r a b iha ihb =>
    intro p w hh hp
    obtain ⟨B, pl, pr, rfl, hB, hw, ha, hb⟩ := hp.open
    have hh' : 1 + max a.hgt b.hgt < 4611686018427387904 := hh
    have h1 := fun w1 (h : Below w.heap.size w w1) => iha pl w1 (by omega) (ha.below h)
    have h2 := fun w1 (h : Below w.heap.size w w1) => ihb pr w1 (by omega) (hb.below h)
    show Calls _ _ _ _ fun e w' => e = .returned (eI ((1 + max a.hgt b.hgt : Nat) : Int)) ∧ Below w.heap.size w w'
    have eM : ((1 + max a.hgt b.hgt : Nat) : Int) = 1 + max (a.hgt : Int) (b.hgt : Int) := by omega
    rw [eM]
    obtain ⟨x, hx⟩ : ∃ x : Int, (a.hgt : Int) = x := ⟨_, rfl⟩
    obtain ⟨y, hy⟩ : ∃ y : Int, (b.hgt : Int) = y := ⟨_, rfl⟩
    have hb1 : 0 ≤ x ∧ x < 4611686018427387904 := by omega
    have hb2 : 0 ≤ y ∧ y < 4611686018427387904 := by omega
    rw [hx] at h1 ⊢
    rw [hy] at h2 ⊢
    clear hx hy eM hh hh' iha ihb
    have c4 := (nodC hB).2.2.2.2.1
    have c5 := (nodC hB).2.2.2.2.2.1
    have wx : IntKind.i64.wrap (1 + x) = 1 + x := wrap_id (by omega) (by omega)
    have wy : IntKind.i64.wrap (1 + y) = 1 + y := wrap_id (by omega) (by omega)
    clear hb1 hb2
    rcases Int.lt_trichotomy x y with h | h | h
    · rw [show max x y = y by omega]
      go_enter Try.func54, Try.ntmps54
      go_upto_region 3 with (fail)
      go_region_held3 (fun w' => w'.cell? ⟨B, 4, none⟩ = some (.pointer pl) ∧ w'.cell? ⟨B, 5, none⟩ = some (.pointer pr))
        (first | exact ⟨c4, c5⟩ | exact ⟨(nodC (hB.below hb1)).2.2.2.2.1, (nodC (hB.below hb1)).2.2.2.2.2.1⟩ | exact ⟨(nodC (hB.below hb2)).2.2.2.2.1, (nodC (hB.below hb2)).2.2.2.2.2.1⟩ | exact ⟨(nodC (hB.below (upp hb1 hb2))).2.2.2.2.1, (nodC (hB.below (upp hb1 hb2))).2.2.2.2.2.1⟩ | exact ⟨(nodC (hB.below (upp hb2 hb1))).2.2.2.2.1, (nodC (hB.below (upp hb2 hb1))).2.2.2.2.2.1⟩)
        (first
          | (go_at_call 54; (with_reducible refine (h1 _ (by first | exact Below.refl _ _ | exact (Below.refl _ _).drew | exact below_drewN (Below.refl _ _) _ | exact hb2 | exact hb2.drew | exact below_drewN hb2 _)).mono ?_); rintro e w1 ⟨rfl, hb1⟩; (first | replace hb1 := undrew hb1 | replace hb1 := undrewN hb1 | skip))
          | (go_at_call 54; (with_reducible refine (h2 _ (by first | exact Below.refl _ _ | exact (Below.refl _ _).drew | exact below_drewN (Below.refl _ _) _ | exact hb1 | exact hb1.drew | exact below_drewN hb1 _)).mono ?_); rintro e w2 ⟨rfl, hb2⟩; (first | replace hb2 := undrew hb2 | replace hb2 := undrewN hb2 | skip)))
      all_goals go_wp2
      all_goals go_ret
      all_goals first | exact ⟨rfl, upp hb1 hb2⟩ | exact ⟨rfl, upp hb2 hb1⟩
    · subst h
      rw [show max x x = x by omega]
      go_enter Try.func54, Try.ntmps54
      go_upto_region 3 with (fail)
      go_region_held3 (fun w' => w'.cell? ⟨B, 4, none⟩ = some (.pointer pl) ∧ w'.cell? ⟨B, 5, none⟩ = some (.pointer pr))
        (first | exact ⟨c4, c5⟩ | exact ⟨(nodC (hB.below hb1)).2.2.2.2.1, (nodC (hB.below hb1)).2.2.2.2.2.1⟩ | exact ⟨(nodC (hB.below hb2)).2.2.2.2.1, (nodC (hB.below hb2)).2.2.2.2.2.1⟩ | exact ⟨(nodC (hB.below (upp hb1 hb2))).2.2.2.2.1, (nodC (hB.below (upp hb1 hb2))).2.2.2.2.2.1⟩ | exact ⟨(nodC (hB.below (upp hb2 hb1))).2.2.2.2.1, (nodC (hB.below (upp hb2 hb1))).2.2.2.2.2.1⟩)
        (first
          | (go_at_call 54; (with_reducible refine (h1 _ (by first | exact Below.refl _ _ | exact (Below.refl _ _).drew | exact below_drewN (Below.refl _ _) _ | exact hb2 | exact hb2.drew | exact below_drewN hb2 _)).mono ?_); rintro e w1 ⟨rfl, hb1⟩; (first | replace hb1 := undrew hb1 | replace hb1 := undrewN hb1 | skip))
          | (go_at_call 54; (with_reducible refine (h2 _ (by first | exact Below.refl _ _ | exact (Below.refl _ _).drew | exact below_drewN (Below.refl _ _) _ | exact hb1 | exact hb1.drew | exact below_drewN hb1 _)).mono ?_); rintro e w2 ⟨rfl, hb2⟩; (first | replace hb2 := undrew hb2 | replace hb2 := undrewN hb2 | skip)))
      all_goals go_wp2
      all_goals go_ret
      all_goals first | exact ⟨rfl, upp hb1 hb2⟩ | exact ⟨rfl, upp hb2 hb1⟩
    · rw [show max x y = x by omega]
      go_enter Try.func54, Try.ntmps54
      go_upto_region 3 with (fail)
      go_region_held3 (fun w' => w'.cell? ⟨B, 4, none⟩ = some (.pointer pl) ∧ w'.cell? ⟨B, 5, none⟩ = some (.pointer pr))
        (first | exact ⟨c4, c5⟩ | exact ⟨(nodC (hB.below hb1)).2.2.2.2.1, (nodC (hB.below hb1)).2.2.2.2.2.1⟩ | exact ⟨(nodC (hB.below hb2)).2.2.2.2.1, (nodC (hB.below hb2)).2.2.2.2.2.1⟩ | exact ⟨(nodC (hB.below (upp hb1 hb2))).2.2.2.2.1, (nodC (hB.below (upp hb1 hb2))).2.2.2.2.2.1⟩ | exact ⟨(nodC (hB.below (upp hb2 hb1))).2.2.2.2.1, (nodC (hB.below (upp hb2 hb1))).2.2.2.2.2.1⟩)
        (first
          | (go_at_call 54; (with_reducible refine (h1 _ (by first | exact Below.refl _ _ | exact (Below.refl _ _).drew | exact below_drewN (Below.refl _ _) _ | exact hb2 | exact hb2.drew | exact below_drewN hb2 _)).mono ?_); rintro e w1 ⟨rfl, hb1⟩; (first | replace hb1 := undrew hb1 | replace hb1 := undrewN hb1 | skip))
          | (go_at_call 54; (with_reducible refine (h2 _ (by first | exact Below.refl _ _ | exact (Below.refl _ _).drew | exact below_drewN (Below.refl _ _) _ | exact hb1 | exact hb1.drew | exact below_drewN hb1 _)).mono ?_); rintro e w2 ⟨rfl, hb2⟩; (first | replace hb2 := undrew hb2 | replace hb2 := undrewN hb2 | skip)))
      all_goals go_wp2
      all_goals go_ret
      all_goals first | exact ⟨rfl, upp hb1 hb2⟩ | exact ⟨rfl, upp hb2 hb1⟩
end Go.Proofs.Ytjfpemkdidoacaa
