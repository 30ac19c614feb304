/- What the tree's call Drop does; First, Len, Height, Upto, Find. No condition but words, and that the number of items has room. -/
import Derived.Test.YtjfpemkdidoacaaTT
namespace Go.Proofs.Ytjfpemkdidoacaa
open Go.RowKit Go.Shelf
set_option linter.unusedVariables false
set_option maxRecDepth 100000 in
set_option maxHeartbeats 1000000 in
theorem drop_absent (Bt : Nat) (tp : Pt) (tn : Int) (t : Tr) (k : Ky) (w : World) (ht : Box w Bt (tree tp tn) 57) (hp : Tre w tp t) (hg : (t.get k).isSome = false) :
    Calls Try.prog 14 #[.pointer (some ⟨Bt, 0, none⟩), ky k] w fun e w' => e = .returned (eI 81) ∧ Below w.heap.size w w' := by
  have T0 := up2 w (.cells #[.pointer (some ⟨Bt, 0, none⟩)] 23) (.cells #[eU k.1, eI k.2] 32)
  have b1 := (Box.new w 23 #[.pointer (some ⟨Bt, 0, none⟩)]).alloc (.cells #[eU k.1, eI k.2] 32)
  have b2 := Box.new (w.alloc (.cells #[.pointer (some ⟨Bt, 0, none⟩)] 23)) 32 #[eU k.1, eI k.2]
  simp only [World.size_alloc] at b2
  obtain ⟨W0, hW0⟩ : ∃ v, (w.alloc (.cells #[.pointer (some ⟨Bt, 0, none⟩)] 23)).alloc (.cells #[eU k.1, eI k.2] 32) = v := ⟨_, rfl⟩
  rw [hW0] at T0 b1 b2
  have hM := made_any Bt tp tn W0 (ht.below T0)
  have hG := getw_any Bt tp tn t k W0 (ht.below T0) (hp.below T0)
  rw [hg] at hG
  have c0 := b1.cell 0
  obtain ⟨k0, k1⟩ := kyC b2
  go_enter Try.func14, Try.ntmps14
  go_wp2_with (first
    | (go_at_call 37; (with_reducible refine hM.mono ?_); rintro e w1 ⟨rfl, rfl⟩)
    | (go_at_call 17; (with_reducible refine hG.mono ?_); rintro e w2 ⟨rfl, hb2⟩))
  go_ret
  exact ⟨rfl, upp T0 hb2⟩
set_option maxRecDepth 100000 in
set_option maxHeartbeats 1000000 in
theorem drop_here (Bt : Nat) (tp : Pt) (tn : Int) (t : Tr) (k : Ky) (hm : t.may k) (w : World) (ht : Box w Bt (tree tp tn) 57) (hp : Tre w tp t) (hg : (t.get k).isSome = true) (hn : IntKind.i64.wrap (tn - 1) = tn - 1) :
    Calls Try.prog 14 #[.pointer (some ⟨Bt, 0, none⟩), ky k] w fun e w' => e = .returned (eI 0) ∧ ∃ p' : Pt, Box w' Bt (tree p' (tn - 1)) 57 ∧ Tre w' p' ((t.rem k).1.tint false) ∧ But Bt w w' := by
  have hmf : ∀ (fn : Fn) (first cap : Array Value) (w : World), (Instr.makeFunc fn first cap).run Try.prog w = .ok (.func fn first cap) w := fun _ _ _ _ => rfl
  have T0 := up2 w (.cells #[.pointer (some ⟨Bt, 0, none⟩)] 23) (.cells #[eU k.1, eI k.2] 32)
  have b1 := (Box.new w 23 #[.pointer (some ⟨Bt, 0, none⟩)]).alloc (.cells #[eU k.1, eI k.2] 32)
  have b2 := Box.new (w.alloc (.cells #[.pointer (some ⟨Bt, 0, none⟩)] 23)) 32 #[eU k.1, eI k.2]
  simp only [World.size_alloc] at b2
  obtain ⟨W0, hW0⟩ : ∃ v, (w.alloc (.cells #[.pointer (some ⟨Bt, 0, none⟩)] 23)).alloc (.cells #[eU k.1, eI k.2] 32) = v := ⟨_, rfl⟩
  rw [hW0] at T0 b1 b2
  have hM := made_any Bt tp tn W0 (ht.below T0)
  have hG := getw_any Bt tp tn t k W0 (ht.below T0) (hp.below T0)
  rw [hg] at hG
  have c0 := b1.cell 0
  obtain ⟨k0, k1⟩ := kyC b2
  go_enter Try.func14, Try.ntmps14
  go_upto_region 6 with (first
    | (go_at_call 37; (with_reducible refine hM.mono ?_); rintro e w1 ⟨rfl, rfl⟩)
    | (go_at_call 17; (with_reducible refine hG.mono ?_); rintro e w2 ⟨rfl, hb2⟩))
  clear hW0 hM hG
  have T2 := upp T0 hb2
  have c1 := b1.below hb2
  have c2 := b2.below hb2
  have hB := fun w1 (h : Below w2.heap.size w2 w1) => become_42 Bt tp tn (tn - 1) #[.pointer (some ⟨w.heap.size, 0, none⟩), .pointer (some ⟨w.heap.size + 1, 0, none⟩)] (t.rem k).1 w1 (ht.below (upp T2 h))
    (fun w3 h3 => clo_drop Bt w.heap.size (w.heap.size + 1) tp tn t k hm w3 (ht.below (upp (upp T2 h) h3)) (hp.below (upp (upp T2 h) h3)) (c1.below (upp h h3)) (c2.below (upp h h3)))
  clear k0 k1 c0 b1 b2
  have c0 := c1.cell 0
  have t3 := (trC (ht.below T2)).2.2.2
  go_cut [4] (fun s6 wx => s6 = eI 0 ∧ (∃ p' : Pt, Box wx Bt (tree p' (tn - 1)) 57 ∧ Tre wx p' ((t.rem k).1.tint false)) ∧ But Bt w wx)
  case first =>
    go_still_tail 7, (by kernel_rfl)
    change wpList _ _ _ _ _ w2.drew
    have hb4 := (Below.refl w2.heap.size w2).drew
    have hB := hB _ hb4
    have T3 := upp T2 hb4
    generalize w2.drew = w5 at *
    go_wp2_with (go_at_call 39; (with_reducible refine hB.mono ?_); rintro e w3 ⟨rfl, p3, hB3, hT3, hb3⟩)
    go_meet
    exact ⟨rfl, ⟨p3, hB3, hT3⟩, But.after T3 hb3 ht.lt⟩
  case rest =>
    obtain ⟨rfl, ⟨p3, hB3, hT3⟩, hb3⟩ := hcut
    go_wp2
    go_ret
    exact ⟨rfl, p3, hB3, hT3, hb3⟩
/-- The first key, and whether there is one. -/
def fstV (o : Option It) : Value := .tuple #[(match o with | none => ky (0, 0) | some m => ky m.1), .bool o.isSome]
theorem firstT_any (tp : Value) (p : Pt) (t : Tr) (w : World) (hT : ∀ w1, Below w.heap.size w w1 → Calls Try.prog 45 #[tp] w1 fun e w' => e = .returned (.pointer p) ∧ w1 = w') (h : Tre w p t) :
    Calls Try.prog 25 #[tp] w fun e w' => e = .returned (fstV t.fst) ∧ Below w.heap.size w w' := by
  have T0 := up1 w (.cells #[eU 0, eI 0] 32)
  have b1 := Box.new w 32 #[eU 0, eI 0]
  have hT := hT _ T0
  have hF := first_any p t _ (h.below T0)
  cases hf : t.fst with
  | none =>
    rw [hf] at hF
    replace hF := hF.mono (R' := fun e w' => e = .returned (.pointer none) ∧ Below (w.alloc (.cells #[eU 0, eI 0] 32)).heap.size (w.alloc (.cells #[eU 0, eI 0] 32)) w') fun e w' ⟨v, e1, e2, e3⟩ => ⟨by rw [e1, show v = _ from e2], e3⟩
    clear hf
    show Calls _ _ _ _ fun e w' => e = .returned (.tuple #[.agg #[eU 0, eI 0], .bool false]) ∧ Below w.heap.size w w'
    go_enter Try.func25, Try.ntmps25
    go_wp2_with (first
      | (go_at_call 45; (with_reducible refine hT.mono ?_); rintro e w1 ⟨rfl, rfl⟩)
      | (go_at_call 51; (with_reducible refine hF.mono ?_); rintro e w2 ⟨rfl, hb2⟩; have b2 := b1.below hb2; have f0 := b2.thaw 0; have f1 := b2.thaw 1; obtain ⟨c0, c1⟩ := kyC (k := (0, 0)) b2; have l2 := b2.lt; have T2 := upp T0 hb2))
    have b3 : Box ((w2.setCell ⟨w.heap.size, 0, none⟩ (eU 0)).setCell ⟨w.heap.size, 1, none⟩ (eI 0)) w.heap.size #[eU 0, eI 0] 32 := (b2.set 0 (eU 0)).set 1 (eI 0)
    obtain ⟨d0, d1⟩ := kyC (k := (0, 0)) b3
    refine bodyPost_ret (v := .tuple #[.agg #[eU 0, eI 0], .bool false]) (by simp [results, Try.results25, go_sem, d0, d1]) rfl ⟨rfl, ?_⟩
    exact (T2.setCell (p := ⟨w.heap.size, 0, none⟩) (Nat.le_refl _) _).setCell (p := ⟨w.heap.size, 1, none⟩) (Nat.le_refl _) _
  | some m =>
    rw [hf] at hF
    replace hF := hF.mono (R' := fun e w' => ∃ (B : Nat) (r : Bool) (pl pr : Pt) (s : Int), e = .returned (.pointer (some ⟨B, 0, none⟩)) ∧ Box w' B (node m r pl pr s) 80 ∧ Below (w.alloc (.cells #[eU 0, eI 0] 32)).heap.size (w.alloc (.cells #[eU 0, eI 0] 32)) w') fun e w' ⟨v, e1, e2, e3⟩ => by
      obtain ⟨q, r, e4, B, pl, pr, s, e5, e6, e7⟩ := e2
      exact ⟨B, r, pl, pr, s, by rw [e1, e4, e5], e6, e3⟩
    clear hf
    show Calls _ _ _ _ fun e w' => e = .returned (.tuple #[.agg #[eU m.1.1, eI m.1.2], .bool true]) ∧ Below w.heap.size w w'
    go_enter Try.func25, Try.ntmps25
    go_wp2_with (first
      | (go_at_call 45; (with_reducible refine hT.mono ?_); rintro e w1 ⟨rfl, rfl⟩)
      | (go_at_call 51; (with_reducible refine hF.mono ?_); rintro e w2 ⟨B, r, pl, pr, s, rfl, hB, hb2⟩; have b2 := b1.below hb2; have f0 := b2.thaw 0; have f1 := b2.thaw 1; obtain ⟨c0, c1⟩ := kyC (k := (0, 0)) b2; have l2 := b2.lt; have T2 := upp T0 hb2; obtain ⟨n0, n1, n2, n3, n4, n5, n6⟩ := nodC hB))
    have b3 : Box ((w2.setCell ⟨w.heap.size, 0, none⟩ (eU m.1.1)).setCell ⟨w.heap.size, 1, none⟩ (eI m.1.2)) w.heap.size #[eU m.1.1, eI m.1.2] 32 := (b2.set 0 (eU m.1.1)).set 1 (eI m.1.2)
    obtain ⟨d0, d1⟩ := kyC b3
    refine bodyPost_ret (v := .tuple #[.agg #[eU m.1.1, eI m.1.2], .bool true]) (by simp [results, Try.results25, go_sem, d0, d1]) rfl ⟨rfl, ?_⟩
    exact (T2.setCell (p := ⟨w.heap.size, 0, none⟩) (Nat.le_refl _) _).setCell (p := ⟨w.heap.size, 1, none⟩) (Nat.le_refl _) _
end Go.Proofs.Ytjfpemkdidoacaa
