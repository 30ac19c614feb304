/- What the tree's call without answers. No condition but that the key is there. -/
import Derived.Test.YtjfpemkdidoacaaTN
namespace Go.Proofs.Ytjfpemkdidoacaa
open Go.RowKit Go.Shelf
set_option linter.unusedVariables false
theorem Tr.fst_none {t : Tr} (h : t.fst = none) : t = .nil := by
  have := Tr.fst_items t
  rw [h] at this
  cases t with
  | nil => rfl
  | nd m r a b => cases ha : a.items <;> simp [Tr.items, ha] at this
theorem without_any (Bt : Nat) (tp : Pt) (tn : Int) (t : Tr) : WotAt Bt tp tn t := by
  induction t with
  | nil => exact fun p k w h => h.elim
  | nd m r a b iha ihb =>
    intro p k w hm ht hp
    by_cases hlt : kLt k m.1
    · have hma : a.may k := by
        have e : (Tr.nd m r a b).may k = a.may k := if_pos hlt
        rw [e] at hm; exact hm
      exact without_left Bt tp tn m r a b k hlt iha hma p w ht hp
    · by_cases hk : k = m.1
      · cases hf : b.fst with
        | none =>
          have e : (Tr.nd m r a b).may k = (r = true → a.isRed = false) := by simp only [Tr.may, if_neg hlt, if_pos hk, hf]
          have e2 : (Tr.nd m r a b).rem k = (a.tint false, !r && a.isNil) := by simp only [Tr.rem, if_neg hlt, if_pos hk, hf]
          rw [e] at hm
          rw [e2]
          obtain rfl := Tr.fst_none hf
          subst hk
          exact without_leaf Bt tp tn m r a hm p w ht hp
        | some x =>
          have e : (Tr.nd m r a b).may k = b.may x.1 := by simp only [Tr.may, if_neg hlt, if_pos hk, hf]
          have e2 : (Tr.nd m r a b).rem k = (if (b.rem x.1).2 then Tr.shr x r (b.rem x.1).1 a else (.nd x r a (b.rem x.1).1, false)) := by simp only [Tr.rem, if_neg hlt, if_pos hk, hf]
          rw [e] at hm
          rw [e2]
          exact without_rest Bt tp tn m r a b k x x.1 (.inl ⟨hk, hf, rfl⟩) hlt ihb hm p w ht hp _ rfl
      · have e : (Tr.nd m r a b).may k = b.may k := by
          show (if _ then _ else _) = _
          rw [if_neg hlt, if_neg hk]
        rw [e] at hm
        have e2 : (Tr.nd m r a b).rem k = (if (b.rem k).2 then Tr.shr m r (b.rem k).1 a else (.nd m r a (b.rem k).1, false)) := by
          show (if _ then _ else _) = _
          rw [if_neg hlt, if_neg hk]
        rw [e2]
        have hb : b.isNil = false := by
          cases b with
          | nil => exact hm.elim
          | nd _ _ _ _ => rfl
        exact without_rest Bt tp tn m r a b k m k (.inr ⟨hk, hb, rfl, rfl⟩) hlt ihb hm p w ht hp _ rfl
end Go.Proofs.Ytjfpemkdidoacaa
