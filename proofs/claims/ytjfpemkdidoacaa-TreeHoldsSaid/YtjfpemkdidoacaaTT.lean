/- What the tree's calls Put and Drop do. No condition but words, and that the number of items has room. -/
import Derived.Test.YtjfpemkdidoacaaTS
import Derived.StillTailTactics
namespace Go.Proofs.Ytjfpemkdidoacaa
open Go.RowKit Go.Shelf
set_option linter.unusedVariables false
theorem But.after {B : Nat} {a b c : World} (h : Below a.heap.size a b) (k : But B b c) (hB : B < a.heap.size) : But B a c :=
  (But.mk_below h).trans k
theorem getw_any (Bt : Nat) (tp : Pt) (tn : Int) (t : Tr) (k : Ky) (w : World) (ht : Box w Bt (tree tp tn) 57) (hp : Tre w tp t) :
    Calls Try.prog 17 #[.pointer (some ⟨Bt, 0, none⟩), ky k] w fun e w' => e = .returned (.tuple #[eU ((t.get k).getD 0), .bool (t.get k).isSome]) ∧ Below w.heap.size w w' :=
  get_any _ tp t k w (fun w1 h => top_any Bt tp tn w1 (ht.below h)) hp
set_option maxRecDepth 100000 in
set_option maxHeartbeats 1000000 in
theorem put_twice (Bt : Nat) (tp : Pt) (tn : Int) (t : Tr) (x : It) (w : World) (ht : Box w Bt (tree tp tn) 57) (hp : Tre w tp t) (hg : (t.get x.1).isSome = true) :
    Calls Try.prog 13 #[.pointer (some ⟨Bt, 0, none⟩), ky x.1, eU x.2] w fun e w' => e = .returned (eI 80) ∧ Below w.heap.size w w' := by
  have T0 := up3 w (.cells #[.pointer (some ⟨Bt, 0, none⟩)] 23) (.cells #[eU x.1.1, eI x.1.2] 32) (.cells #[eU x.2] 30)
  have b1 := ((Box.new w 23 #[.pointer (some ⟨Bt, 0, none⟩)]).alloc (.cells #[eU x.1.1, eI x.1.2] 32)).alloc (.cells #[eU x.2] 30)
  have b2 := (Box.new (w.alloc (.cells #[.pointer (some ⟨Bt, 0, none⟩)] 23)) 32 #[eU x.1.1, eI x.1.2]).alloc (.cells #[eU x.2] 30)
  simp only [World.size_alloc] at b2
  obtain ⟨W0, hW0⟩ : ∃ v, ((w.alloc (.cells #[.pointer (some ⟨Bt, 0, none⟩)] 23)).alloc (.cells #[eU x.1.1, eI x.1.2] 32)).alloc (.cells #[eU x.2] 30) = v := ⟨_, rfl⟩
  rw [hW0] at T0 b1 b2
  have hM := made_any Bt tp tn W0 (ht.below T0)
  have hG := getw_any Bt tp tn t x.1 W0 (ht.below T0) (hp.below T0)
  rw [hg] at hG
  have c0 := b1.cell 0
  obtain ⟨k0, k1⟩ := kyC b2
  go_enter Try.func13, Try.ntmps13
  go_wp2_with (first
    | (go_at_call 37; (with_reducible refine hM.mono ?_); rintro e w1 ⟨rfl, rfl⟩)
    | (go_at_call 17; (with_reducible refine hG.mono ?_); rintro e w2 ⟨rfl, hb2⟩))
  go_ret
  exact ⟨rfl, upp T0 hb2⟩
set_option maxRecDepth 100000 in
set_option maxHeartbeats 1000000 in
theorem put_new (Bt : Nat) (tp : Pt) (tn : Int) (t : Tr) (x : It) (hx : Word x.1.1 ∧ Inte x.1.2 ∧ Word x.2) (w : World) (ht : Box w Bt (tree tp tn) 57) (hp : Tre w tp t) (hg : (t.get x.1).isSome = false) (hn : IntKind.i64.wrap (tn + 1) = tn + 1) :
    Calls Try.prog 13 #[.pointer (some ⟨Bt, 0, none⟩), ky x.1, eU x.2] w fun e w' => e = .returned (eI 0) ∧ ∃ p' : Pt, Box w' Bt (tree p' (tn + 1)) 57 ∧ Tre w' p' ((t.put x).tint false) ∧ But Bt w w' := by
  have hmf : ∀ (fn : Fn) (first cap : Array Value) (w : World), (Instr.makeFunc fn first cap).run Try.prog w = .ok (.func fn first cap) w := fun _ _ _ _ => rfl
  have T0 := up3 w (.cells #[.pointer (some ⟨Bt, 0, none⟩)] 23) (.cells #[eU x.1.1, eI x.1.2] 32) (.cells #[eU x.2] 30)
  have b1 := ((Box.new w 23 #[.pointer (some ⟨Bt, 0, none⟩)]).alloc (.cells #[eU x.1.1, eI x.1.2] 32)).alloc (.cells #[eU x.2] 30)
  have b2 := (Box.new (w.alloc (.cells #[.pointer (some ⟨Bt, 0, none⟩)] 23)) 32 #[eU x.1.1, eI x.1.2]).alloc (.cells #[eU x.2] 30)
  have b3 := Box.new ((w.alloc (.cells #[.pointer (some ⟨Bt, 0, none⟩)] 23)).alloc (.cells #[eU x.1.1, eI x.1.2] 32)) 30 #[eU x.2]
  simp only [World.size_alloc] at b2 b3
  obtain ⟨W0, hW0⟩ : ∃ v, ((w.alloc (.cells #[.pointer (some ⟨Bt, 0, none⟩)] 23)).alloc (.cells #[eU x.1.1, eI x.1.2] 32)).alloc (.cells #[eU x.2] 30) = v := ⟨_, rfl⟩
  rw [hW0] at T0 b1 b2 b3
  have hM := made_any Bt tp tn W0 (ht.below T0)
  have hG := getw_any Bt tp tn t x.1 W0 (ht.below T0) (hp.below T0)
  rw [hg] at hG
  have c0 := b1.cell 0
  obtain ⟨k0, k1⟩ := kyC b2
  go_enter Try.func13, Try.ntmps13
  go_upto_region 6 with (first
    | (go_at_call 37; (with_reducible refine hM.mono ?_); rintro e w1 ⟨rfl, rfl⟩)
    | (go_at_call 17; (with_reducible refine hG.mono ?_); rintro e w2 ⟨rfl, hb2⟩))
  clear hW0 hM hG
  have T2 := upp T0 hb2
  have c1 := b1.below hb2
  have c2 := b2.below hb2
  have c3 := b3.below hb2
  have hB := fun w1 (h : Below w2.heap.size w2 w1) => become_40 Bt tp tn (tn + 1) #[.pointer (some ⟨w.heap.size, 0, none⟩), .pointer (some ⟨w.heap.size + 1, 0, none⟩), .pointer (some ⟨w.heap.size + 1 + 1, 0, none⟩)] (t.put x) w1 (ht.below (upp T2 h))
    (fun w3 h3 => clo_put Bt w.heap.size (w.heap.size + 1) (w.heap.size + 1 + 1) tp tn t x hx w3 (ht.below (upp (upp T2 h) h3)) (hp.below (upp (upp T2 h) h3)) (c1.below (upp h h3)) (c2.below (upp h h3)) (c3.below (upp h h3)))
  clear k0 k1 c0 b1 b2 b3
  have c0 := c1.cell 0
  have t3 := (trC (ht.below T2)).2.2.2
  have hne : w.heap.size ≠ Bt := Nat.ne_of_gt ht.lt
  go_cut [6] (fun s6 wx => s6 = eI 0 ∧ (∃ p' : Pt, Box wx Bt (tree p' (tn + 1)) 57 ∧ Tre wx p' ((t.put x).tint false)) ∧ But Bt w wx)
  case first =>
    go_still_tail 7, (by kernel_rfl)
    change wpList _ _ _ _ _ w2.drew
    have hb4 := (Below.refl w2.heap.size w2).drew
    have hB := hB _ hb4
    have T3 := upp T2 hb4
    generalize w2.drew = w5 at *
    go_wp2_with (go_at_call 39; (with_reducible refine hB.mono ?_); rintro e w3 ⟨rfl, p3, hB3, hT3, hb3⟩)
    go_meet
    exact ⟨rfl, ⟨p3, hB3, hT3⟩, But.after T3 hb3 ht.lt⟩
  case rest =>
    obtain ⟨rfl, ⟨p3, hB3, hT3⟩, hb3⟩ := hcut
    go_wp2
    go_ret
    exact ⟨rfl, p3, hB3, hT3, hb3⟩
end Go.Proofs.Ytjfpemkdidoacaa
