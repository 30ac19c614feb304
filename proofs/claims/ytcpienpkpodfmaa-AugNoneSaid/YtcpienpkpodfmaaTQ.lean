/- What the tree's calls upto, find, height answer, and what a tree is that somebody made. No condition. -/
import Derived.Test.YtcpienpkpodfmaaTP
import Derived.StillTailTactics
namespace Go.Proofs.Ytcpienpkpodfmaa
open Go.RowKit Go.Shelf
set_option linter.unusedVariables false
theorem made_any (B : Nat) (p : Pt) (n : Int) (w : World) (h : Box w B (tree p n) 87) : Calls Try.prog 51 #[.pointer (some ⟨B, 0, none⟩)] w fun e w' => e = .returned (.bool true) ∧ w = w' := by
  obtain ⟨t0, t1, t2, t3⟩ := trC h
  have hn : ∀ w : World, (binOp BinOp.neq 62 (.func (.func 26) #[] #[]) .nilFunc).run Try.prog w = .ok (.bool true) w := fun _ => by kernel_rfl
  go_enter Try.func51, Try.ntmps51
  go_wp2
  go_ret
  exact ⟨rfl, rfl⟩
theorem top_any (B : Nat) (p : Pt) (n : Int) (w : World) (h : Box w B (tree p n) 87) : Calls Try.prog 53 #[.pointer (some ⟨B, 0, none⟩)] w fun e w' => e = .returned (.pointer p) ∧ w = w' := by
  obtain ⟨t0, t1, t2, t3⟩ := trC h
  go_enter Try.func53, Try.ntmps53
  go_wp2
  go_ret
  exact ⟨rfl, rfl⟩
theorem len_any (B : Nat) (p : Pt) (n : Int) (w : World) (h : Box w B (tree p n) 87) : Calls Try.prog 48 #[.pointer (some ⟨B, 0, none⟩)] w fun e w' => e = .returned (eI n) ∧ w = w' := by
  obtain ⟨t0, t1, t2, t3⟩ := trC h
  go_enter Try.func48, Try.ntmps48
  go_wp2
  go_ret
  exact ⟨rfl, rfl⟩
theorem new_any (w : World) : Calls Try.prog 27 #[.func (.func 26) #[] #[], .func (.func 28) #[] #[]] w fun e w' => e = .returned (.pointer (some ⟨w.heap.size, 0, none⟩)) ∧ w' = w.alloc (.cells (tree none 0) 87) := by
  have hn : ∀ w : World, (binOp BinOp.eql 62 (.func (.func 26) #[] #[]) .nilFunc).run Try.prog w = .ok (.bool false) w := fun _ => by kernel_rfl
  have hm : ∀ w : World, (binOp BinOp.eql 64 (.func (.func 28) #[] #[]) .nilFunc).run Try.prog w = .ok (.bool false) w := fun _ => by kernel_rfl
  go_enter Try.func27, Try.ntmps27
  go_wp2
  go_ret
  exact ⟨rfl, rfl⟩
theorem all_some (tp : Value) (p : Pt) (t : Tr) (w : World) (hT : ∀ w1, Below w.heap.size w w1 → Calls Try.prog 53 #[tp] w1 fun e w' => e = .returned (.pointer p) ∧ w1 = w') (h : Tre w p t) :
    Calls Try.prog 49 #[tp] w fun e w' => e = .returned (.tuple #[mV t.sum, .bool (!t.isNil)]) ∧ Below w.heap.size w w' := by
  have T0 := up1 w (.cells #[eU 0, eI 0] 61)
  have bR := Box.new w 61 #[eU 0, eI 0]
  have hT := hT _ T0
  have h := h.below T0
  obtain ⟨W0, hW0⟩ : ∃ v, w.alloc (.cells #[eU 0, eI 0] 61) = v := ⟨_, rfl⟩
  rw [hW0] at T0 bR hT h
  cases t with
  | nil =>
    obtain rfl : p = none := h
    have bR1 := bR.alloc (.cells #[eU 0, eI 0] 61)
    have T1 := T0.alloc T0.size (.cells #[eU 0, eI 0] 61)
    obtain ⟨c0, c1⟩ := mkC (s := (0, 0)) bR
    have f0 := bR.thaw 0
    have f1 := bR.thaw 1
    have l0 := bR.lt
    go_enter Try.func49, Try.ntmps49
    go_wp2_with (go_at_call 53; (with_reducible refine hT.mono ?_); rintro e w1 ⟨rfl, rfl⟩)
    obtain ⟨e0, e1⟩ := mkC ((setMk (s := (0, 0)) bR (0, 0)).alloc (.cells #[eU 0, eI 0] 61))
    have T2 := below_mk (s := (0, 0)) T0 (Nat.le_refl _)
    exact bodyPost_ret (v := .tuple #[mV (0, 0), .bool false]) (by simp [results, Try.results49, go_sem, e0, e1]) rfl ⟨rfl, T2.alloc T2.size _⟩
  | nd m r a b =>
    obtain ⟨B, pl, pr, rfl, hB, hw, _, _⟩ := h.open
    obtain ⟨c6, cq6⟩ := (nodC hB).2.2.2.2.2.2
    generalize (Tr.nd m r a b).sum = s at *
    obtain ⟨c0, c1⟩ := mkC (s := (0, 0)) bR
    have f0 := bR.thaw 0
    have f1 := bR.thaw 1
    have l0 := bR.lt
    go_enter Try.func49, Try.ntmps49
    go_wp2_with (go_at_call 53; (with_reducible refine hT.mono ?_); rintro e w1 ⟨rfl, rfl⟩)
    obtain ⟨e0, e1⟩ := mkC (setMk (s := (0, 0)) bR s)
    exact bodyPost_ret (v := .tuple #[mV s, .bool true]) (by simp [results, Try.results49, go_sem, e0, e1]) rfl ⟨rfl, below_mk T0 (Nat.le_refl _)⟩
namespace Tr
def upt (q : Int) : Tr → Mk × Bool
  | nil => ((0, 0), false)
  | nd m r a b => if q < m.1.1 then upt q a else if (upt q b).2 then (mn (nd m r a nil).sum (upt q b).1, true) else ((nd m r a nil).sum, true)
end Tr
set_option maxRecDepth 100000 in
set_option maxHeartbeats 2000000 in
theorem upto_any (Bt : Nat) (tp : Pt) (tn : Int) (q : Int) (t : Tr) : ∀ (p : Pt) (w : World), Box w Bt (tree tp tn) 87 → Tre w p t →
    Calls Try.prog 62 #[.pointer (some ⟨Bt, 0, none⟩), .pointer p, eU q] w fun e w' => e = .returned (.tuple #[mV (t.upt q).1, .bool (t.upt q).2]) ∧ Below w.heap.size w w' := by
  induction t with
  | nil =>
    intro p w ht hp
    obtain rfl : p = none := hp
    have T0 := up1 w (.cells #[eU 0, eI 0] 61)
    have bR := Box.new w 61 #[eU 0, eI 0]
    obtain ⟨W0, hW0⟩ : ∃ v, w.alloc (.cells #[eU 0, eI 0] 61) = v := ⟨_, rfl⟩
    rw [hW0] at T0 bR
    have bR1 := bR.alloc (.cells #[eU 0, eI 0] 61)
    have T1 := T0.alloc T0.size (.cells #[eU 0, eI 0] 61)
    obtain ⟨c0, c1⟩ := mkC (s := (0, 0)) bR
    have f0 := bR.thaw 0
    have f1 := bR.thaw 1
    have l0 := bR.lt
    go_enter Try.func62, Try.ntmps62
    go_wp2
    obtain ⟨e0, e1⟩ := mkC ((setMk (s := (0, 0)) bR (0, 0)).alloc (.cells #[eU 0, eI 0] 61))
    have T2 := below_mk (s := (0, 0)) T0 (Nat.le_refl _)
    exact bodyPost_ret (v := .tuple #[mV (0, 0), .bool false]) (by simp [results, Try.results62, go_sem, e0, e1]) rfl ⟨rfl, T2.alloc T2.size _⟩
  | nd m r a b iha ihb =>
    intro p w ht hp
    have T0 := up1 w (.cells #[eU 0, eI 0] 61)
    have bR := Box.new w 61 #[eU 0, eI 0]
    replace ht := ht.below T0
    replace hp := hp.below T0
    obtain ⟨W0, hW0⟩ : ∃ v, w.alloc (.cells #[eU 0, eI 0] 61) = v := ⟨_, rfl⟩
    rw [hW0] at T0 bR ht hp
    have hq := hp.nod
    obtain ⟨B, pl, pr, rfl, hB, hw, ha, hb⟩ := hp.open
    obtain ⟨c0, c1, ⟨c2, cq2⟩, c3, c4, c5, ⟨c6, cq6⟩⟩ := nodC hB
    by_cases hlt : q < m.1.1
    · have e : (Tr.nd m r a b).upt q = a.upt q := if_pos hlt
      rw [e]
      have h1 := iha pl W0 ht ha
      clear e iha ihb
      generalize a.upt q = E at *
      obtain ⟨u, s⟩ := E
      dsimp only at h1 ⊢
      go_enter Try.func62, Try.ntmps62
      go_wp2_with (go_at_call 62; (with_reducible refine h1.mono ?_); rintro e w1 ⟨rfl, hb1⟩; have bR1 := bR.below hb1; obtain ⟨d0, d1⟩ := mkC (s := (0, 0)) bR1; have f0 := bR1.thaw 0; have f1 := bR1.thaw 1; have l0 := bR1.lt)
      obtain ⟨e0, e1⟩ := mkC (setMk (s := (0, 0)) bR1 u)
      exact bodyPost_ret (v := .tuple #[mV u, .bool s]) (by simp [results, Try.results62, go_sem, e0, e1]) rfl ⟨rfl, below_mk (upp T0 hb1) (Nat.le_refl _)⟩
    · have e : (Tr.nd m r a b).upt q = if (b.upt q).2 then (mn (Tr.nd m r a .nil).sum (b.upt q).1, true) else ((Tr.nd m r a .nil).sum, true) := if_neg hlt
      rw [e]
      clear e
      have h1 := total_any Bt tp tn (some ⟨B, 0, none⟩) m r W0 pl none a .nil ht hq ha rfl
      have h2 := fun w1 (h : Below W0.heap.size W0 w1) => ihb pr w1 (ht.below h) (hb.below h)
      clear iha ihb
      generalize b.upt q = E at *
      obtain ⟨u, s⟩ := E
      dsimp only at h2 ⊢
      generalize (Tr.nd m r a .nil).sum = v at *
      cases s with
      | false =>
        simp only [Bool.false_eq_true, if_false]
        go_enter Try.func62, Try.ntmps62
        go_wp2_with (first
          | (go_at_call 75; (with_reducible refine h1.mono ?_); rintro e w1 ⟨rfl, hb1⟩; have T1 := hb1.alloc hb1.size (.cells #[eU v.1, eI v.2] 61); have bS := Box.new w1 61 #[eU v.1, eI v.2]; have bR1 := bR.below T1; have c5' := (nodC (hB.below T1)).2.2.2.2.2.1)
          | (go_at_call 62; (with_reducible refine (h2 _ T1).mono ?_); rintro e w3 ⟨rfl, hb3⟩; have T3 := (upp T1 hb3).alloc (upp T1 hb3).size (.cells #[eU u.1, eI u.2] 61); have bS3 := (bS.below hb3).alloc (.cells #[eU u.1, eI u.2] 61); have bR3 := (bR1.below hb3).alloc (.cells #[eU u.1, eI u.2] 61); obtain ⟨x0, x1⟩ := mkC bS3; obtain ⟨d0, d1⟩ := mkC (s := (0, 0)) bR3; have f0 := bR3.thaw 0; have f1 := bR3.thaw 1; have l0 := bR3.lt; have l1 := bS3.lt))
        obtain ⟨e0, e1⟩ := mkC (setMk (s := (0, 0)) bR3 v)
        exact bodyPost_ret (v := .tuple #[mV v, .bool true]) (by simp [results, Try.results62, go_sem, e0, e1]) rfl ⟨rfl, below_mk (upp T0 T3) (Nat.le_refl _)⟩
      | true =>
        simp only [if_true]
        have hne : w.heap.size < W0.heap.size := bR.lt
        go_enter Try.func62, Try.ntmps62
        go_upto_region 9 with (first
          | (go_at_call 75; (with_reducible refine h1.mono ?_); rintro e w1 ⟨rfl, hb1⟩; have T1 := hb1.alloc hb1.size (.cells #[eU v.1, eI v.2] 61); have bS := Box.new w1 61 #[eU v.1, eI v.2]; have bR1 := bR.below T1; have c5' := (nodC (hB.below T1)).2.2.2.2.2.1)
          | (go_at_call 62; (with_reducible refine (h2 _ T1).mono ?_); rintro e w3 ⟨rfl, hb3⟩; have T3 := (upp T1 hb3).alloc (upp T1 hb3).size (.cells #[eU u.1, eI u.2] 61); have bS3 := (bS.below hb3).alloc (.cells #[eU u.1, eI u.2] 61); have bR3 := (bR1.below hb3).alloc (.cells #[eU u.1, eI u.2] 61); have bM := Box.new w3 61 #[eU u.1, eI u.2]))
        have hS := hb1.size
        have hbs := bS.lt
        obtain ⟨W4, hW4⟩ : ∃ z, w3.alloc (.cells #[eU u.1, eI u.2] 61) = z := ⟨_, rfl⟩
        rw [hW4] at T3 bS3 bR3 bM ⊢
        clear hW4
        have ht4 := ht.below T3
        go_cut [] (fun wx => Box wx w1.heap.size #[eU (mn v u).1, eI (mn v u).2] 61 ∧ Box wx w.heap.size #[eU 0, eI 0] 61 ∧ Below w.heap.size w wx)
        case first =>
          have t1 := (trC ht4).2.1
          obtain ⟨x0, x1⟩ := mkC bS3
          obtain ⟨m0, m1⟩ := mkC bM
          go_still_tail 6, (by kernel_rfl)
          change wpList _ _ _ _ _ W4.drew
          have bS4 : Box W4.drew w1.heap.size #[eU v.1, eI v.2] 61 := bS3
          have bR4 : Box W4.drew w.heap.size #[eU 0, eI 0] 61 := bR3
          have T4 := (upp T0 T3).drew
          generalize W4.drew = W5 at *
          go_wp2_with (go_at_call 28; (with_reducible refine (lesser_any v u _).mono ?_); rintro e w6 ⟨rfl, hb6⟩; have hS6 := bS4.below hb6; have bR6 := bR4.below hb6; obtain ⟨xN, yN⟩ := mkC hS6; have fN := hS6.thaw 0; have gN := hS6.thaw 1; have lN := hS6.lt)
          go_meet
          have T6 := up T4 hb6 T4.size
          exact ⟨setMk hS6 _, setNeMk bR6 (by omega) _, below_mk T6 (by omega)⟩
        case rest =>
          obtain ⟨bS7, bR7, T7⟩ := hcut
          rename World => W7
          obtain ⟨x0, x1⟩ := mkC bS7
          obtain ⟨d0, d1⟩ := mkC (s := (0, 0)) bR7
          have f0 := bR7.thaw 0
          have f1 := bR7.thaw 1
          have l0 := bR7.lt
          clear hb1 hb3 T3 bS3 bR3 bM bS ht4 hB
          go_wp2
          obtain ⟨e0, e1⟩ := mkC (setMk (s := (0, 0)) bR7 (mn v u))
          exact bodyPost_ret (v := .tuple #[mV (mn v u), .bool true]) (by simp [results, Try.results62, go_sem, e0, e1]) rfl ⟨rfl, below_mk T7 (Nat.le_refl _)⟩
end Go.Proofs.Ytcpienpkpodfmaa
