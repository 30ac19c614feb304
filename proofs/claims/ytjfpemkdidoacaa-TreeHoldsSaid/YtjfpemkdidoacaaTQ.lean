/- What the tree's calls upto, find, height answer, and what a tree is that somebody made. No condition. -/
import Derived.Test.YtjfpemkdidoacaaTP
namespace Go.Proofs.Ytjfpemkdidoacaa
open Go.RowKit Go.Shelf
set_option linter.unusedVariables false
theorem made_any (B : Nat) (p : Pt) (n : Int) (w : World) (h : Box w B (tree p n) 57) : Calls Try.prog 37 #[.pointer (some ⟨B, 0, none⟩)] w fun e w' => e = .returned (.bool true) ∧ w = w' := by
  obtain ⟨t0, t1, t2, t3⟩ := trC h
  have hn : ∀ w : World, (binOp BinOp.neq 53 (.func (.func 33) #[] #[]) .nilFunc).run Try.prog w = .ok (.bool true) w := fun _ => by kernel_rfl
  go_enter Try.func37, Try.ntmps37
  go_wp2
  go_ret
  exact ⟨rfl, rfl⟩
theorem top_any (B : Nat) (p : Pt) (n : Int) (w : World) (h : Box w B (tree p n) 57) : Calls Try.prog 45 #[.pointer (some ⟨B, 0, none⟩)] w fun e w' => e = .returned (.pointer p) ∧ w = w' := by
  obtain ⟨t0, t1, t2, t3⟩ := trC h
  go_enter Try.func45, Try.ntmps45
  go_wp2
  go_ret
  exact ⟨rfl, rfl⟩
theorem len_any (B : Nat) (p : Pt) (n : Int) (w : World) (h : Box w B (tree p n) 57) : Calls Try.prog 27 #[.pointer (some ⟨B, 0, none⟩)] w fun e w' => e = .returned (eI n) ∧ w = w' := by
  obtain ⟨t0, t1, t2, t3⟩ := trC h
  go_enter Try.func27, Try.ntmps27
  go_wp2
  go_ret
  exact ⟨rfl, rfl⟩
theorem new_any (w : World) : Calls Try.prog 31 #[.func (.func 33) #[] #[], .func (.func 32) #[] #[]] w fun e w' => e = .returned (.pointer (some ⟨w.heap.size, 0, none⟩)) ∧ w' = w.alloc (.cells (tree none 0) 57) := by
  have hn : ∀ w : World, (binOp BinOp.eql 53 (.func (.func 33) #[] #[]) .nilFunc).run Try.prog w = .ok (.bool false) w := fun _ => by kernel_rfl
  have hm : ∀ w : World, (binOp BinOp.eql 54 (.func (.func 32) #[] #[]) .nilFunc).run Try.prog w = .ok (.bool false) w := fun _ => by kernel_rfl
  go_enter Try.func31, Try.ntmps31
  go_wp2
  go_ret
  exact ⟨rfl, rfl⟩
theorem numbers_any (w : World) : Calls Try.prog 10 #[] w fun e w' => ∃ B : Nat, e = .returned (.pointer (some ⟨B, 0, none⟩)) ∧ w.heap.size ≤ B ∧ Box w' B (tree none 0) 57 ∧ Below w.heap.size w w' := by
  go_enter Try.func10, Try.ntmps10
  go_wp2_with (go_at_call 31; (with_reducible refine (new_any _).mono ?_); rintro e w1 ⟨rfl, rfl⟩)
  go_ret
  exact ⟨_, rfl, Nat.le_refl _, Box.new _ _ _, up1 _ _⟩
theorem all_some (tp : Value) (p : Pt) (t : Tr) (w : World) (hT : Calls Try.prog 45 #[tp] w fun e w' => e = .returned (.pointer p) ∧ w = w') (h : Tre w p t) :
    Calls Try.prog 21 #[tp] w fun e w' => e = .returned (.tuple #[eU t.sum, .bool (!t.isNil)]) ∧ w = w' := by
  cases t with
  | nil =>
    obtain rfl : p = none := h
    go_enter Try.func21, Try.ntmps21
    go_wp2_with (go_at_call 45; (with_reducible refine hT.mono ?_); rintro e w1 ⟨rfl, rfl⟩)
    go_ret2
    exact ⟨rfl, rfl⟩
  | nd m r a b =>
    obtain ⟨B, pl, pr, rfl, hB, hw, _, _⟩ := h.open
    have c6 := (nodC hB).2.2.2.2.2.2
    generalize (Tr.nd m r a b).sum = s at *
    go_enter Try.func21, Try.ntmps21
    go_wp2_with (go_at_call 45; (with_reducible refine hT.mono ?_); rintro e w1 ⟨rfl, rfl⟩)
    go_ret2
    exact ⟨rfl, rfl⟩
namespace Tr
def upt (q : Int) : Tr → Int × Bool
  | nil => (0, false)
  | nd m r a b => if q < m.1.1 then upt q a else if (upt q b).2 then (min (nd m r a nil).sum (upt q b).1, true) else ((nd m r a nil).sum, true)
end Tr
set_option maxRecDepth 100000 in
set_option maxHeartbeats 1000000 in
theorem upto_any (Bt : Nat) (tp : Pt) (tn : Int) (q : Int) (t : Tr) : ∀ (p : Pt) (w : World), Box w Bt (tree tp tn) 57 → Tre w p t →
    Calls Try.prog 48 #[.pointer (some ⟨Bt, 0, none⟩), .pointer p, eU q] w fun e w' => e = .returned (.tuple #[eU (t.upt q).1, .bool (t.upt q).2]) ∧ Below w.heap.size w w' := by
  induction t with
  | nil =>
    intro p w ht hp
    obtain rfl : p = none := hp
    go_enter Try.func48, Try.ntmps48
    go_wp2
    go_ret2
    exact ⟨rfl, Below.refl _ _⟩
  | nd m r a b iha ihb =>
    intro p w ht hp
    have hq := hp.nod
    obtain ⟨B, pl, pr, rfl, hB, hw, ha, hb⟩ := hp.open
    obtain ⟨c0, c1, c2, c3, c4, c5, c6⟩ := nodC hB
    by_cases hlt : q < m.1.1
    · have e : (Tr.nd m r a b).upt q = a.upt q := if_pos hlt
      rw [e]
      have h1 := iha pl w ht ha
      clear e
      go_enter Try.func48, Try.ntmps48
      go_wp2_with (go_at_call 48; (with_reducible refine h1.mono ?_); rintro e w1 ⟨rfl, hb1⟩)
      go_ret2
      exact ⟨rfl, hb1⟩
    · have e : (Tr.nd m r a b).upt q = if (b.upt q).2 then (min (Tr.nd m r a .nil).sum (b.upt q).1, true) else ((Tr.nd m r a .nil).sum, true) := if_neg hlt
      rw [e]
      clear e
      have h1 := total_any Bt tp tn (some ⟨B, 0, none⟩) m r w pl none a .nil ht hq ha rfl
      have h2 := fun w1 (h : Below w.heap.size w w1) => ihb pr w1 (ht.below h) (hb.below h)
      clear iha ihb
      generalize b.upt q = E at *
      obtain ⟨u, s⟩ := E
      dsimp only at h2 ⊢
      generalize (Tr.nd m r a .nil).sum = v at *
      cases s with
      | false =>
        go_enter Try.func48, Try.ntmps48
        go_wp2_with (first
          | (go_at_call 66; (with_reducible refine h1.mono ?_); rintro e w1 ⟨rfl, hb1⟩; have c5' := (nodC (hB.below hb1)).2.2.2.2.2.1)
          | (go_at_call 48; (with_reducible refine (h2 _ hb1).mono ?_); rintro e w2 ⟨rfl, hb2⟩))
        go_ret2
        exact ⟨rfl, upp hb1 hb2⟩
      | true =>
        go_enter Try.func48, Try.ntmps48
        go_wp2_with (first
          | (go_at_call 66; (with_reducible refine h1.mono ?_); rintro e w1 ⟨rfl, hb1⟩; have c5' := (nodC (hB.below hb1)).2.2.2.2.2.1)
          | (go_at_call 48; (with_reducible refine (h2 _ hb1).mono ?_); rintro e w2 ⟨rfl, hb2⟩; have t1 := (trC (ht.below (upp hb1 hb2))).2.1)
          | (go_at_call 32; (with_reducible refine (least_any v u _).mono ?_); rintro e w3 ⟨rfl, hb3⟩))
        go_ret2
        exact ⟨rfl, upp (upp hb1 hb2) hb3⟩
end Go.Proofs.Ytjfpemkdidoacaa
