/- What the tree's calls evened, shortLeft, shortRight, with answer. No condition but that what is asked for can be done. -/
import Derived.Test.YtjfpemkdidoacaaTF
namespace Go.Proofs.Ytjfpemkdidoacaa
open Go.RowKit Go.Shelf
set_option linter.unusedVariables false
namespace Tr
theorem m3_nd (m : It) (c : Bool) (a b : Tr) : (m3 m c a b).isNil = false := by unfold m3; split <;> rfl
theorem m2_nd (m : It) (c : Bool) (a b : Tr) : (m2 m c a b).isNil = false := by unfold m2; split <;> exact m3_nd ..
theorem mend_nd (m : It) (c : Bool) (a b : Tr) : (mend m c a b).isNil = false := by
  unfold mend
  split
  · split <;> exact m2_nd ..
  · exact m2_nd ..
end Tr
theorem tinted_nod (q : Pt) (m : It) (r c : Bool) (w : World) (h : Nod w q m r) : Calls Try.prog 60 #[.pointer q, .bool c] w fun e w' => ∃ q' : Pt, e = .returned (.pointer q') ∧ Nod w' q' m c ∧ Below w.heap.size w w' := by
  obtain ⟨B, pl, pr, s, rfl, hB, hw⟩ := h
  exact (tinted_box B m r pl pr s c w hB).mono fun e w' ⟨B', h1, h2, h3⟩ => ⟨_, h1, ⟨B', pl, pr, s, rfl, h2, hw⟩, h3⟩
theorem evened_any (q : Pt) (m : It) (r : Bool) (p : Pt) (t : Tr) (w : World) (hq : Nod w q m r) (hp : Tre w p t) (hn : t.isNil = false) :
    Calls Try.prog 69 #[.pointer q, .pointer p] w fun e w' => ∃ p' : Pt, e = .returned (.tuple #[.pointer p', .bool (Tr.evn r t).2]) ∧ Tre w' p' (Tr.evn r t).1 ∧ Below w.heap.size w w' := by
  obtain ⟨B, pl, pr, s, rfl, hB, hw⟩ := hq
  have n3 := (nodC hB).2.2.2.1
  cases r with
  | true =>
    go_enter Try.func69, Try.ntmps69
    go_wp2
    go_ret2
    exact ⟨p, rfl, hp, Below.refl _ _⟩
  | false =>
    cases t with
    | nil => cases hn
    | nd mt rt x y =>
      have hT := fun w1 (h : Below w.heap.size w w1) => tinted_tre p (.nd mt rt x y) false w1 (hp.below h)
      obtain ⟨C, px, py, rfl, hC, hwC, _, _⟩ := hp.open
      go_enter Try.func69, Try.ntmps69
      go_upto_region 3 with (fail)
      have c3 := (nodC hC).2.2.2.1
      go_region_held3 (fun w' => w'.cell? ⟨C, 3, none⟩ = some (.bool rt))
        (first | exact c3 | exact (nodC (hC.below hb1)).2.2.2.1)
        (first
          | (go_at_call 60; (with_reducible refine (hT _ (by first | exact Below.refl _ _ | exact (Below.refl _ _).drew | exact below_drewN (Below.refl _ _) _)).mono ?_); rintro e w1 ⟨p1, rfl, hT1, hb1⟩; (first | replace hb1 := undrew hb1 | replace hb1 := undrewN hb1 | skip)))
      all_goals go_wp2
      all_goals go_ret2
      all_goals exact ⟨p1, rfl, hT1, hb1⟩
set_option maxHeartbeats 1000000 in
theorem shortLeft_any (Bt : Nat) (tp : Pt) (tn : Int) (p pl : Pt) (m : It) (r : Bool) (a b A : Tr) (w : World) (ht : Box w Bt (tree tp tn) 57) (hp : Tre w p (.nd m r a b)) (hl : Tre w pl A) :
    Calls Try.prog 63 #[.pointer (some ⟨Bt, 0, none⟩), .pointer p, .pointer pl] w fun e w' => ∃ p' : Pt, e = .returned (.tuple #[.pointer p', .bool (Tr.shl m r A b).2]) ∧ Tre w' p' (Tr.shl m r A b).1 ∧ Below w.heap.size w w' := by
  have hq := hp.nod
  obtain ⟨B, qa, qb, rfl, hB, hw, ha, hb⟩ := hp.open
  have c5 := (nodC hB).2.2.2.2.2.1
  have h1 := tinted_tre qb b true w hb
  have h2 := fun w1 p1 (h : Below w.heap.size w w1) (h1 : Tre w1 p1 (b.tint true)) => mended_any Bt tp tn (b.tint true) (some ⟨B, 0, none⟩) m r false w1 pl p1 A (ht.below h) (hq.below h) (hl.below h) h1
  have h3 := fun w1 p1 (h : Below w.heap.size w w1) (h1 : Tre w1 p1 (Tr.mend m false A (b.tint true))) => evened_any (some ⟨B, 0, none⟩) m r p1 _ w1 (hq.below h) h1 (Tr.mend_nd ..)
  unfold Tr.shl
  generalize hM : Tr.mend m false A (b.tint true) = M at *
  go_enter Try.func63, Try.ntmps63
  go_wp2_with (first
    | (go_at_call 60; (with_reducible refine h1.mono ?_); rintro e w1 ⟨p1, rfl, hT1, hb1⟩)
    | (go_at_call 62; (with_reducible refine (h2 _ _ hb1 hT1).mono ?_); rintro e w2 ⟨p2, rfl, hT2, hb2⟩)
    | (go_at_call 69; (with_reducible refine (h3 _ _ (upp hb1 hb2) hT2).mono ?_); rintro e w3 ⟨p3, rfl, hT3, hb3⟩))
  go_ret2
  exact ⟨p3, rfl, hT3, upp (upp hb1 hb2) hb3⟩
end Go.Proofs.Ytjfpemkdidoacaa
