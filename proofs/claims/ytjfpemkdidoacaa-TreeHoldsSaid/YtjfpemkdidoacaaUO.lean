/- A tree's summaries are its items' least values, in plain words. No condition but that keys rise. -/
import Derived.Test.YtjfpemkdidoacaaUN
namespace Go.Proofs.Ytjfpemkdidoacaa
open Go.RowKit Go.Shelf
set_option linter.unusedVariables false
namespace Tr
theorem nd_items_ne (m : It) (r : Bool) (a b : Tr) : (nd m r a b).items ≠ [] := by simp [items]
theorem sum_low : ∀ t : Tr, t.sum = low t.items
  | nil => rfl
  | nd m r nil nil => rfl
  | nd m r (nd ma ra x y) nil => by
    have h := sum_low (nd ma ra x y)
    show min (nd ma ra x y).sum m.2 = low ((nd ma ra x y).items ++ [m])
    rw [low_app (nd_items_ne _ _ _ _) (by simp), h]; rfl
  | nd m r nil (nd mb rb x y) => by
    have h := sum_low (nd mb rb x y)
    show min m.2 (nd mb rb x y).sum = low (m :: (nd mb rb x y).items)
    rw [low_cons (nd_items_ne _ _ _ _), h]
  | nd m r (nd ma ra x y) (nd mb rb u v) => by
    have h1 := sum_low (nd ma ra x y)
    have h2 := sum_low (nd mb rb u v)
    show min (nd ma ra x y).sum (min m.2 (nd mb rb u v).sum) = low ((nd ma ra x y).items ++ m :: (nd mb rb u v).items)
    rw [low_app (nd_items_ne _ _ _ _) (by simp), low_cons (nd_items_ne _ _ _ _), h1, h2]
theorem upt_spec (q : Int) : ∀ {t : Tr}, Rise t.items → t.upt q = (low (upto q t.items), decide (upto q t.items ≠ []))
  | nil, _ => rfl
  | nd m r a b, h => by
    obtain ⟨ha, hb, hl, hh⟩ := rise_node.1 h
    have e := upto_node (q := q) hl hh
    show _ = (low (upto q (a.items ++ m :: b.items)), decide (upto q (a.items ++ m :: b.items) ≠ []))
    by_cases hq : q < m.1.1
    · rw [e, if_neg (by omega)]
      have e2 : (nd m r a b).upt q = a.upt q := if_pos hq
      rw [e2]
      exact upt_spec q ha
    · rw [e, if_pos (by omega)]
      have e2 : (nd m r a b).upt q = if (b.upt q).2 then (min (nd m r a nil).sum (b.upt q).1, true) else ((nd m r a nil).sum, true) := if_neg hq
      have es : (nd m r a nil).sum = low (a.items ++ [m]) := sum_low (nd m r a nil)
      rw [e2, upt_spec q hb, es]
      dsimp only
      generalize upto q b.items = U
      cases U with
      | nil => simp
      | cons u U =>
        have : low (a.items ++ m :: u :: U) = min (low (a.items ++ [m])) (low (u :: U)) := by
          rw [← low_app (by simp) (by simp)]; simp
        rw [this]
        simp
theorem fndT_spec (y : Int) : ∀ t : Tr, t.fndT y = fnd y t.items
  | nil => rfl
  | nd m r a b => by
    have hs : (nd m r a b).sum ≤ y ↔ ∃ z ∈ (nd m r a b).items, z.2 ≤ y := by rw [sum_low]; exact low_ok (nd_items_ne _ _ _ _)
    have hA := fndT_spec y a
    have hB := fndT_spec y b
    show (if _ then _ else _) = fnd y (a.items ++ m :: b.items)
    by_cases h : (nd m r a b).sum ≤ y
    · rw [if_pos h, hA]
      by_cases hx : ∃ z ∈ a.items, z.2 ≤ y
      · rw [fnd_left hx]
        obtain ⟨z, hz, hzy⟩ := hx
        cases hf : fnd y a.items with
        | some x => rfl
        | none =>
          have := List.find?_eq_none.1 hf z hz
          simp at this
          omega
      · rw [fnd_right hx]
        have hf : fnd y a.items = none := List.find?_eq_none.2 fun z hz => by simp; exact Int.not_le.1 fun g => hx ⟨z, hz, g⟩
        rw [hf]
        dsimp only
        by_cases hm : m.2 ≤ y
        · rw [if_pos hm]; unfold fnd; rw [List.find?_cons]; simp [hm]
        · rw [if_neg hm, hB]; unfold fnd; rw [List.find?_cons]; simp [hm]
    · rw [if_neg h]
      refine (List.find?_eq_none.2 fun z hz => ?_).symm
      simp
      exact Int.not_le.1 fun g => h (hs.2 ⟨z, hz, g⟩)
theorem isNil_items (t : Tr) : (!t.isNil) = decide (t.items ≠ []) := by
  cases t with
  | nil => rfl
  | nd m r a b => simp [isNil, nd_items_ne]
end Tr
end Go.Proofs.Ytjfpemkdidoacaa
