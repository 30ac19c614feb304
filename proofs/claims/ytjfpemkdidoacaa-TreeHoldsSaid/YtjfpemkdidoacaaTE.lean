/- What the tree's call over answers: a node over two parts, with its summary. No condition. -/
import Derived.Test.YtjfpemkdidoacaaTD
namespace Go.Proofs.Ytjfpemkdidoacaa
open Go.RowKit Go.Shelf
set_option linter.unusedVariables false
theorem over_any (Bt : Nat) (tp : Pt) (tn : Int) (q : Pt) (m : It) (r c : Bool) (w : World) (pl pr : Pt) (a b : Tr) (ht : Box w Bt (tree tp tn) 57) (hq : Nod w q m r) (hl : Tre w pl a) (hr : Tre w pr b) :
    Calls Try.prog 61 #[.pointer (some ⟨Bt, 0, none⟩), .pointer q, .bool c, .pointer pl, .pointer pr] w fun e w' => ∃ p' : Pt, e = .returned (.pointer p') ∧ Tre w' p' (.nd m c a b) ∧ Below w.heap.size w w' := by
  have hS := fun w1 (h : Below w.heap.size w w1) => total_any Bt tp tn q m r w1 pl pr a b (ht.below h) (hq.below h) (hl.below h) (hr.below h)
  obtain ⟨B, p1, p2, s, rfl, hB, hw⟩ := hq
  go_enter Try.func61, Try.ntmps61
  go_upto_region 1 with (fail)
  obtain ⟨c0, c1, c2, c3, c4, c5, c6⟩ := nodC hB
  go_region_held3 (fun w' => w'.cell? ⟨B, 0, none⟩ = some (.int .u64 m.1.1) ∧ w'.cell? ⟨B, 1, none⟩ = some (.int .i64 m.1.2) ∧ w'.cell? ⟨B, 2, none⟩ = some (.int .u64 m.2))
    (first | exact ⟨c0, c1, c2⟩ | exact ⟨(nodC (hB.below hb1)).1, (nodC (hB.below hb1)).2.1, (nodC (hB.below hb1)).2.2.1⟩ | exact ⟨(nodC ((hB.below hb1).alloc _)).1, (nodC ((hB.below hb1).alloc _)).2.1, (nodC ((hB.below hb1).alloc _)).2.2.1⟩)
    (first
      | (go_at_call 66; (with_reducible refine (hS _ (by first | exact Below.refl _ _ | exact (Below.refl _ _).drew | exact below_drewN (Below.refl _ _) _)).mono ?_); rintro e w1 ⟨rfl, hb1⟩; (first | replace hb1 := undrew hb1 | replace hb1 := undrewN hb1 | skip)))
  all_goals go_wp2
  all_goals go_ret
  all_goals exact ⟨_, rfl, Tre.nd (m := m) (r := c) (a := a) (b := b) (Box.new _ _ _) hw ((hl.below hb1).below (up1 _ _)) ((hr.below hb1).below (up1 _ _)), upp hb1 (up1 _ _)⟩
end Go.Proofs.Ytjfpemkdidoacaa
