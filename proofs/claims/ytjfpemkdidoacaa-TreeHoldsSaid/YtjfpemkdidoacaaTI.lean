/- What the tree's call with answers: the part, and an item in it. No condition. -/
import Derived.Test.YtjfpemkdidoacaaTH
namespace Go.Proofs.Ytjfpemkdidoacaa
open Go.RowKit Go.Shelf
set_option linter.unusedVariables false
theorem kyC {w : World} {B : Nat} {k : Ky} {t : TypeId} (h : Box w B #[eU k.1, eI k.2] t) : w.cell? ⟨B, 0, none⟩ = some (.int .u64 k.1) ∧ w.cell? ⟨B, 1, none⟩ = some (.int .i64 k.2) := ⟨h.cell 0, h.cell 1⟩
def WithAt (Bt : Nat) (tp : Pt) (tn : Int) (x : It) (t : Tr) : Prop :=
  ∀ (p : Pt) (w : World), Box w Bt (tree tp tn) 57 → Tre w p t →
    Calls Try.prog 41 #[.pointer (some ⟨Bt, 0, none⟩), .pointer p, ky x.1, eU x.2] w fun e w' => ∃ p' : Pt, e = .returned (.pointer p') ∧ Tre w' p' (t.put x) ∧ Below w.heap.size w w'
set_option maxRecDepth 100000 in
set_option maxHeartbeats 2000000 in
theorem with_any (Bt : Nat) (tp : Pt) (tn : Int) (x : It) (hx : Word x.1.1 ∧ Inte x.1.2 ∧ Word x.2) (t : Tr) : WithAt Bt tp tn x t := by
  induction t with
  | nil =>
    intro p w ht hp
    obtain rfl : p = none := hp
    have hO := fun w1 (h : Below w.heap.size w w1) q (hq : Nod w1 q x false) => over_any Bt tp tn q x false true w1 none none .nil .nil (ht.below h) hq rfl rfl
    have hN : Nod ((w.alloc (.cells #[eU x.1.1, eI x.1.2] 32)).alloc (.cells (node x false none none 0) 80)) (some ⟨w.heap.size + 1, 0, none⟩) x false :=
      ⟨w.heap.size + 1, none, none, 0, rfl, by have := Box.new (w.alloc (.cells #[eU x.1.1, eI x.1.2] 32)) 80 (node x false none none 0); simpa using this, hx⟩
    have hO := hO _ (up2 _ _ _) _ hN
    go_enter Try.func41, Try.ntmps41
    go_wp2_with (go_at_call 61; (with_reducible refine hO.mono ?_); rintro e w1 ⟨p1, rfl, hT1, hb1⟩)
    go_ret
    exact ⟨p1, rfl, hT1, upp (up2 _ _ _) hb1⟩
  | nd m r a b iha ihb =>
    intro p w ht hp
    have hq := hp.nod
    obtain ⟨B, pl, pr, rfl, hB, hw, ha, hb⟩ := hp.open
    obtain ⟨Z, hZ⟩ : ∃ Z, Tr.put x (.nd m r a b) = Z := ⟨_, rfl⟩
    rw [hZ]
    replace hZ := Lib.hid hZ
    have T0 := up1 w (.cells #[eU x.1.1, eI x.1.2] 32)
    have hK := Box.new w 32 #[eU x.1.1, eI x.1.2]
    obtain ⟨W0, hW0⟩ : ∃ v, w.alloc (.cells #[eU x.1.1, eI x.1.2] 32) = v := ⟨_, rfl⟩
    rw [hW0] at T0 hK
    go_enter Try.func41, Try.ntmps41
    go_upto_region 3 with (fail)
    clear hW0
    have hL := less_any x.1 m.1
    have hS : ∀ w', Below W0.heap.size W0 w' → (w'.cell? ⟨w.heap.size, 0, none⟩ = some (.int .u64 x.1.1) ∧ w'.cell? ⟨w.heap.size, 1, none⟩ = some (.int .i64 x.1.2)) ∧ w'.cell? ⟨B, 0, none⟩ = some (.int .u64 m.1.1) ∧ w'.cell? ⟨B, 1, none⟩ = some (.int .i64 m.1.2) := fun w' h =>
      ⟨kyC (hK.below h), (nodC (hB.below (upp T0 h))).1, (nodC (hB.below (upp T0 h))).2.1⟩
    have hS0 := hS W0 (Below.refl _ _)
    obtain ⟨⟨k0, k1⟩, c0, c1⟩ := id hS0
    go_region_held3 (fun w' => (w'.cell? ⟨w.heap.size, 0, none⟩ = some (.int .u64 x.1.1) ∧ w'.cell? ⟨w.heap.size, 1, none⟩ = some (.int .i64 x.1.2)) ∧ w'.cell? ⟨B, 0, none⟩ = some (.int .u64 m.1.1) ∧ w'.cell? ⟨B, 1, none⟩ = some (.int .i64 m.1.2))
      (first | exact hS0 | exact hS _ hb1)
      (first
        | (go_at_call 36; (with_reducible refine (hL _).mono ?_); rintro e w1 ⟨rfl, hb1⟩; (first | replace hb1 := undrew hb1 | replace hb1 := undrewN hb1 | skip)))
    clear hS hS0 k0 k1 c0 c1
    have T1 := upp T0 hb1
    have hK1 := hK.below hb1
    by_cases h : kLt x.1 m.1
    · have eP : Tr.put x (.nd m r a b) = Tr.mend m r (Tr.put x a) b := if_pos h
      rw [hZ.out] at eP
      replace eP := Lib.hid eP
      rw [show decide (kLt x.1 m.1) = true from by simpa using h]
      have h1 := fun w2 (g : Below w1.heap.size w1 w2) => iha pl w2 (ht.below (upp T1 g)) (ha.below (upp T1 g))
      have h2 := fun w2 p2 (g : Below w1.heap.size w1 w2) (g2 : Tre w2 p2 (Tr.put x a)) => mended_any Bt tp tn b (some ⟨B, 0, none⟩) m r r w2 p2 pr (Tr.put x a) (ht.below (upp T1 g)) (hq.below (upp T1 g)) g2 (hb.below (upp T1 g))
      go_upto_region 4 with (fail)
      have hS : ∀ w', Below w1.heap.size w1 w' → (w'.cell? ⟨w.heap.size, 0, none⟩ = some (.int .u64 x.1.1) ∧ w'.cell? ⟨w.heap.size, 1, none⟩ = some (.int .i64 x.1.2)) ∧ w'.cell? ⟨B, 3, none⟩ = some (.bool r) ∧ w'.cell? ⟨B, 4, none⟩ = some (.pointer pl) ∧ w'.cell? ⟨B, 5, none⟩ = some (.pointer pr) := fun w' h =>
        ⟨kyC (hK1.below h), (nodC (hB.below (upp T1 h))).2.2.2.1, (nodC (hB.below (upp T1 h))).2.2.2.2.1, (nodC (hB.below (upp T1 h))).2.2.2.2.2.1⟩
      have hS0 := hS w1 (Below.refl _ _)
      obtain ⟨⟨k0, k1⟩, c3, c4, c5⟩ := id hS0
      go_region_held3 (fun w' => (w'.cell? ⟨w.heap.size, 0, none⟩ = some (.int .u64 x.1.1) ∧ w'.cell? ⟨w.heap.size, 1, none⟩ = some (.int .i64 x.1.2)) ∧ w'.cell? ⟨B, 3, none⟩ = some (.bool r) ∧ w'.cell? ⟨B, 4, none⟩ = some (.pointer pl) ∧ w'.cell? ⟨B, 5, none⟩ = some (.pointer pr))
        (first | exact hS0 | exact hS _ hb2 | exact hS _ (upp hb2 hb3))
        (first
          | (go_at_call 41; (with_reducible refine (h1 _ (by first | exact Below.refl _ _ | exact (Below.refl _ _).drew | exact below_drewN (Below.refl _ _) _)).mono ?_); rintro e w2 ⟨p2, rfl, hT2, hb2⟩; (first | replace hb2 := undrew hb2 | replace hb2 := undrewN hb2 | skip))
          | (go_at_call 62; (with_reducible refine (h2 _ p2 (by first | exact hb2 | exact hb2.drew | exact below_drewN hb2 _) (by first | exact hT2 | exact hT2.below (Below.refl _ _).drew | exact hT2.below (below_drewN (Below.refl _ _) _))).mono ?_); rintro e w3 ⟨p3, rfl, hT3, hb3⟩; (first | replace hb3 := undrew hb3 | replace hb3 := undrewN hb3 | skip)))
      all_goals go_wp2
      all_goals go_ret
      all_goals exact ⟨p3, rfl, eP.out ▸ hT3, upp T1 (upp hb2 hb3)⟩
    · have eP : Tr.put x (.nd m r a b) = Tr.mend m r a (Tr.put x b) := if_neg h
      rw [hZ.out] at eP
      replace eP := Lib.hid eP
      rw [show decide (kLt x.1 m.1) = false from by simpa using h]
      have h1 := fun w2 (g : Below w1.heap.size w1 w2) => ihb pr w2 (ht.below (upp T1 g)) (hb.below (upp T1 g))
      have h2 := fun w2 p2 (g : Below w1.heap.size w1 w2) (g2 : Tre w2 p2 (Tr.put x b)) => mended_any Bt tp tn (Tr.put x b) (some ⟨B, 0, none⟩) m r r w2 pl p2 a (ht.below (upp T1 g)) (hq.below (upp T1 g)) (ha.below (upp T1 g)) g2
      go_upto_region 5 with (fail)
      have hS : ∀ w', Below w1.heap.size w1 w' → (w'.cell? ⟨w.heap.size, 0, none⟩ = some (.int .u64 x.1.1) ∧ w'.cell? ⟨w.heap.size, 1, none⟩ = some (.int .i64 x.1.2)) ∧ w'.cell? ⟨B, 3, none⟩ = some (.bool r) ∧ w'.cell? ⟨B, 4, none⟩ = some (.pointer pl) ∧ w'.cell? ⟨B, 5, none⟩ = some (.pointer pr) := fun w' h =>
        ⟨kyC (hK1.below h), (nodC (hB.below (upp T1 h))).2.2.2.1, (nodC (hB.below (upp T1 h))).2.2.2.2.1, (nodC (hB.below (upp T1 h))).2.2.2.2.2.1⟩
      have hS0 := hS w1 (Below.refl _ _)
      obtain ⟨⟨k0, k1⟩, c3, c4, c5⟩ := id hS0
      go_region_held3 (fun w' => (w'.cell? ⟨w.heap.size, 0, none⟩ = some (.int .u64 x.1.1) ∧ w'.cell? ⟨w.heap.size, 1, none⟩ = some (.int .i64 x.1.2)) ∧ w'.cell? ⟨B, 3, none⟩ = some (.bool r) ∧ w'.cell? ⟨B, 4, none⟩ = some (.pointer pl) ∧ w'.cell? ⟨B, 5, none⟩ = some (.pointer pr))
        (first | exact hS0 | exact hS _ hb2 | exact hS _ (upp hb2 hb3))
        (first
          | (go_at_call 41; (with_reducible refine (h1 _ (by first | exact Below.refl _ _ | exact (Below.refl _ _).drew | exact below_drewN (Below.refl _ _) _)).mono ?_); rintro e w2 ⟨p2, rfl, hT2, hb2⟩; (first | replace hb2 := undrew hb2 | replace hb2 := undrewN hb2 | skip))
          | (go_at_call 62; (with_reducible refine (h2 _ p2 (by first | exact hb2 | exact hb2.drew | exact below_drewN hb2 _) (by first | exact hT2 | exact hT2.below (Below.refl _ _).drew | exact hT2.below (below_drewN (Below.refl _ _) _))).mono ?_); rintro e w3 ⟨p3, rfl, hT3, hb3⟩; (first | replace hb3 := undrew hb3 | replace hb3 := undrewN hb3 | skip)))
      all_goals go_wp2
      all_goals go_ret
      all_goals exact ⟨p3, rfl, eP.out ▸ hT3, upp T1 (upp hb2 hb3)⟩
end Go.Proofs.Ytjfpemkdidoacaa
