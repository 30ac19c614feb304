/- What the tree's call become does, for whatever makes the new beginning. No condition but that this answers a tree. -/
import Derived.Test.YtjfpemkdidoacaaTR
namespace Go.Proofs.Ytjfpemkdidoacaa
open Go.RowKit Go.Shelf
set_option linter.unusedVariables false
theorem IsTr.but {n B : Nat} {W W' : World} (hb : But B W W') {vs : Array Value} {ty : TypeId} (hB : Box W B vs ty) (hty : ty ≠ 80) : ∀ {p : Pt} {t : Tr}, IsTr n W p t → IsTr n W' p t
  | _, .nil, h => h
  | _, .nd m r a b, ⟨C, pl, pr, e, hC, hx, hw, hl, hr⟩ => by
    refine ⟨C, pl, pr, e, hC, hb.box hx (fun h => ?_), hw, IsTr.but hb hB hty hl, IsTr.but hb hB hty hr⟩
    subst h
    have h1 : W.heap[C]? = some (.cells _ 80 (0, 0)) := hx
    rw [show W.heap[C]? = some (.cells vs ty (0, 0)) from hB] at h1
    injection h1 with h3
    injection h3 with _ h4 _
    exact hty h4
theorem Tre.but {B : Nat} {W W' : World} {p : Pt} {t : Tr} (h : Tre W p t) (hb : But B W W') {vs : Array Value} {ty : TypeId} (hB : Box W B vs ty) (hty : ty ≠ 80) : Tre W' p t := (IsTr.but hb hB hty h).mono hb.size
theorem But.mk_below {B : Nat} {w w' : World} (h : Below w.heap.size w w') : But B w w' := ⟨h.os, h.tape, h.output, h.size, fun k hk _ => h.block k hk⟩
theorem become1_40 (Rb Nb : Nat) (caps : Array Value) (X : Tr) (w : World) (hR : Box w Rb #[.func (.func 40) #[] caps] 73) (hN : Box w Nb #[.pointer none] 55)
    (h : Calls Try.prog 40 caps w fun e w' => ∃ p' : Pt, e = .returned (.pointer p') ∧ Tre w' p' X ∧ Below w.heap.size w w') :
    Calls Try.prog 59 #[.pointer (some ⟨Rb, 0, none⟩), .pointer (some ⟨Nb, 0, none⟩)] w fun e w' => e = .returned (.tuple #[]) ∧ ∃ p' : Pt, Box w' Nb #[.pointer p'] 55 ∧ Tre w' p' (X.tint false) ∧ But Nb w w' := by
  have c0 := hR.cell 0
  have hT := fun w1 p1 (h1 : Tre w1 p1 X) => tinted_tre p1 X false w1 h1
  go_enter Try.func59, Try.ntmps59
  go_wp2_with (first
    | (go_at_call 40; (with_reducible refine h.mono ?_); rintro e w1 ⟨p1, rfl, hT1, hb1⟩)
    | (go_at_call 60; (with_reducible refine (hT _ _ hT1).mono ?_); rintro e w2 ⟨p2, rfl, hT2, hb2⟩; have hN2 := hN.below (upp hb1 hb2); have n0 := hN2.cell 0; have f0 := hN2.thaw 0))
  go_end0
  have hbu := But.set Nb w2 0 (.pointer p2)
  exact ⟨rfl, p2, hN2.set 0 _, hT2.but hbu hN2 (by decide), (But.mk_below (upp hb1 hb2)).trans hbu⟩
theorem become_40 (Bt : Nat) (tp : Pt) (tn many : Int) (caps : Array Value) (X : Tr) (w : World) (ht : Box w Bt (tree tp tn) 57)
    (h : ∀ w1, Below w.heap.size w w1 → Calls Try.prog 40 caps w1 fun e w' => ∃ p' : Pt, e = .returned (.pointer p') ∧ Tre w' p' X ∧ Below w1.heap.size w1 w') :
    Calls Try.prog 39 #[.pointer (some ⟨Bt, 0, none⟩), eI many, .func (.func 40) #[] caps] w fun e w' => e = .returned (eI 0) ∧ ∃ p' : Pt, Box w' Bt (tree p' many) 57 ∧ Tre w' p' (X.tint false) ∧ But Bt w w' := by
  have hT := up3 w (.cells #[.func (.func 40) #[] caps] 73) (.cells #[.pointer none] 55) (.cells #[.bool false] 4)
  have b1 := ((Box.new w 73 #[.func (.func 40) #[] caps]).alloc (.cells #[.pointer none] 55)).alloc (.cells #[.bool false] 4)
  have b2 := (Box.new (w.alloc (.cells #[.func (.func 40) #[] caps] 73)) 55 #[.pointer none]).alloc (.cells #[.bool false] 4)
  have b3 := Box.new ((w.alloc (.cells #[.func (.func 40) #[] caps] 73)).alloc (.cells #[.pointer none] 55)) 4 #[.bool false]
  simp only [World.size_alloc] at b2 b3
  have h0 := become1_40 w.heap.size (w.heap.size + 1) caps X _ b1 b2 (h _ hT)
  have hC := calm_59 #[.pointer (some ⟨w.heap.size, 0, none⟩), .pointer (some ⟨w.heap.size + 1, 0, none⟩)]
    (fun w' => ∃ p' : Pt, Box w' (w.heap.size + 1) #[.pointer p'] 55 ∧ Tre w' p' (X.tint false) ∧ Below w.heap.size w w' ∧ Box w' (w.heap.size + 1 + 1) #[.bool false] 4)
    ((w.alloc (.cells #[.func (.func 40) #[] caps] 73)).alloc (.cells #[.pointer none] 55))
    (h0.mono fun e w' ⟨e1, p', e2, e3, e4⟩ => by
      have e5 := e4.box b3 (by omega)
      simp only [World.size_alloc]
      exact ⟨e1, ⟨p', e2, e3, hT.trans (e4.below (by omega) hT.size), e5⟩, e5⟩)
  simp only [World.size_alloc] at hC
  clear h0 h b1 b2 b3
  go_enter Try.func39, Try.ntmps39
  go_wp2_with (go_at_call 46; (with_reducible refine hC.mono ?_); rintro e w1 ⟨rfl, w2, ⟨p', e1, e2, e3, e4⟩, hlt, hbu⟩; have n1 := hbu.box e1 (by omega); have n0 := n1.cell 0; have hBl := e3.trans (hbu.below (by omega) e3.size); have ht1 := ht.under hBl ht.lt; have f2 := ht1.thaw 2; have f3 := ht1.thaw 3; obtain ⟨t0, t1, t2, t3⟩ := trC ht1; have l0 := ht1.lt)
  go_ret
  have hT1 := e2.but hbu e4 (by decide)
  exact ⟨rfl, p', (ht1.set 2 (.pointer p')).set 3 (eI many), (hT1.but (But.set Bt w1 2 (.pointer p')) ht1 (by decide)).but (But.set Bt _ 3 (eI many)) (ht1.set 2 _) (by decide), ((But.mk_below hBl).trans (But.set Bt w1 2 (.pointer p'))).trans (But.set Bt _ 3 (eI many))⟩
theorem become1_42 (Rb Nb : Nat) (caps : Array Value) (X : Tr) (w : World) (hR : Box w Rb #[.func (.func 42) #[] caps] 73) (hN : Box w Nb #[.pointer none] 55)
    (h : Calls Try.prog 42 caps w fun e w' => ∃ p' : Pt, e = .returned (.pointer p') ∧ Tre w' p' X ∧ Below w.heap.size w w') :
    Calls Try.prog 59 #[.pointer (some ⟨Rb, 0, none⟩), .pointer (some ⟨Nb, 0, none⟩)] w fun e w' => e = .returned (.tuple #[]) ∧ ∃ p' : Pt, Box w' Nb #[.pointer p'] 55 ∧ Tre w' p' (X.tint false) ∧ But Nb w w' := by
  have c0 := hR.cell 0
  have hT := fun w1 p1 (h1 : Tre w1 p1 X) => tinted_tre p1 X false w1 h1
  go_enter Try.func59, Try.ntmps59
  go_wp2_with (first
    | (go_at_call 42; (with_reducible refine h.mono ?_); rintro e w1 ⟨p1, rfl, hT1, hb1⟩)
    | (go_at_call 60; (with_reducible refine (hT _ _ hT1).mono ?_); rintro e w2 ⟨p2, rfl, hT2, hb2⟩; have hN2 := hN.below (upp hb1 hb2); have n0 := hN2.cell 0; have f0 := hN2.thaw 0))
  go_end0
  have hbu := But.set Nb w2 0 (.pointer p2)
  exact ⟨rfl, p2, hN2.set 0 _, hT2.but hbu hN2 (by decide), (But.mk_below (upp hb1 hb2)).trans hbu⟩
theorem become_42 (Bt : Nat) (tp : Pt) (tn many : Int) (caps : Array Value) (X : Tr) (w : World) (ht : Box w Bt (tree tp tn) 57)
    (h : ∀ w1, Below w.heap.size w w1 → Calls Try.prog 42 caps w1 fun e w' => ∃ p' : Pt, e = .returned (.pointer p') ∧ Tre w' p' X ∧ Below w1.heap.size w1 w') :
    Calls Try.prog 39 #[.pointer (some ⟨Bt, 0, none⟩), eI many, .func (.func 42) #[] caps] w fun e w' => e = .returned (eI 0) ∧ ∃ p' : Pt, Box w' Bt (tree p' many) 57 ∧ Tre w' p' (X.tint false) ∧ But Bt w w' := by
  have hT := up3 w (.cells #[.func (.func 42) #[] caps] 73) (.cells #[.pointer none] 55) (.cells #[.bool false] 4)
  have b1 := ((Box.new w 73 #[.func (.func 42) #[] caps]).alloc (.cells #[.pointer none] 55)).alloc (.cells #[.bool false] 4)
  have b2 := (Box.new (w.alloc (.cells #[.func (.func 42) #[] caps] 73)) 55 #[.pointer none]).alloc (.cells #[.bool false] 4)
  have b3 := Box.new ((w.alloc (.cells #[.func (.func 42) #[] caps] 73)).alloc (.cells #[.pointer none] 55)) 4 #[.bool false]
  simp only [World.size_alloc] at b2 b3
  have h0 := become1_42 w.heap.size (w.heap.size + 1) caps X _ b1 b2 (h _ hT)
  have hC := calm_59 #[.pointer (some ⟨w.heap.size, 0, none⟩), .pointer (some ⟨w.heap.size + 1, 0, none⟩)]
    (fun w' => ∃ p' : Pt, Box w' (w.heap.size + 1) #[.pointer p'] 55 ∧ Tre w' p' (X.tint false) ∧ Below w.heap.size w w' ∧ Box w' (w.heap.size + 1 + 1) #[.bool false] 4)
    ((w.alloc (.cells #[.func (.func 42) #[] caps] 73)).alloc (.cells #[.pointer none] 55))
    (h0.mono fun e w' ⟨e1, p', e2, e3, e4⟩ => by
      have e5 := e4.box b3 (by omega)
      simp only [World.size_alloc]
      exact ⟨e1, ⟨p', e2, e3, hT.trans (e4.below (by omega) hT.size), e5⟩, e5⟩)
  simp only [World.size_alloc] at hC
  clear h0 h b1 b2 b3
  go_enter Try.func39, Try.ntmps39
  go_wp2_with (go_at_call 46; (with_reducible refine hC.mono ?_); rintro e w1 ⟨rfl, w2, ⟨p', e1, e2, e3, e4⟩, hlt, hbu⟩; have n1 := hbu.box e1 (by omega); have n0 := n1.cell 0; have hBl := e3.trans (hbu.below (by omega) e3.size); have ht1 := ht.under hBl ht.lt; have f2 := ht1.thaw 2; have f3 := ht1.thaw 3; obtain ⟨t0, t1, t2, t3⟩ := trC ht1; have l0 := ht1.lt)
  go_ret
  have hT1 := e2.but hbu e4 (by decide)
  exact ⟨rfl, p', (ht1.set 2 (.pointer p')).set 3 (eI many), (hT1.but (But.set Bt w1 2 (.pointer p')) ht1 (by decide)).but (But.set Bt _ 3 (eI many)) (ht1.set 2 _) (by decide), ((But.mk_below hBl).trans (But.set Bt w1 2 (.pointer p'))).trans (But.set Bt _ 3 (eI many))⟩
theorem clo_put (Bt Ht Hk Hv : Nat) (tp : Pt) (tn : Int) (t : Tr) (x : It) (hx : Word x.1.1 ∧ Inte x.1.2 ∧ Word x.2) (w : World) (ht : Box w Bt (tree tp tn) 57) (hp : Tre w tp t)
    (b1 : Box w Ht #[.pointer (some ⟨Bt, 0, none⟩)] 23) (b2 : Box w Hk #[eU x.1.1, eI x.1.2] 32) (b3 : Box w Hv #[eU x.2] 30) :
    Calls Try.prog 40 #[.pointer (some ⟨Ht, 0, none⟩), .pointer (some ⟨Hk, 0, none⟩), .pointer (some ⟨Hv, 0, none⟩)] w fun e w' => ∃ p' : Pt, e = .returned (.pointer p') ∧ Tre w' p' (t.put x) ∧ Below w.heap.size w w' := by
  have h1 := fun w1 (h : Below w.heap.size w w1) => with_any Bt tp tn x hx t tp w1 (ht.below h) (hp.below h)
  have hS : ∀ w', Below w.heap.size w w' → w'.cell? ⟨Ht, 0, none⟩ = some (.pointer (some ⟨Bt, 0, none⟩)) ∧ w'.cell? ⟨Bt, 2, none⟩ = some (.pointer tp) ∧ (w'.cell? ⟨Hk, 0, none⟩ = some (.int .u64 x.1.1) ∧ w'.cell? ⟨Hk, 1, none⟩ = some (.int .i64 x.1.2)) ∧ w'.cell? ⟨Hv, 0, none⟩ = some (.int .u64 x.2) := fun w' h =>
    ⟨(b1.below h).cell 0, (trC (ht.below h)).2.2.1, kyC (b2.below h), (b3.below h).cell 0⟩
  have hS0 := hS w (Below.refl _ _)
  go_enter Try.func40, Try.ntmps40
  go_upto_region 1 with (fail)
  obtain ⟨c0, c1, ⟨c2, c3⟩, c4⟩ := id hS0
  go_region_held3 (fun w' => w'.cell? ⟨Ht, 0, none⟩ = some (.pointer (some ⟨Bt, 0, none⟩)) ∧ w'.cell? ⟨Bt, 2, none⟩ = some (.pointer tp) ∧ (w'.cell? ⟨Hk, 0, none⟩ = some (.int .u64 x.1.1) ∧ w'.cell? ⟨Hk, 1, none⟩ = some (.int .i64 x.1.2)) ∧ w'.cell? ⟨Hv, 0, none⟩ = some (.int .u64 x.2))
    (first | exact hS0 | exact hS _ hb1)
    (first
      | (go_at_call 41; (with_reducible refine (h1 _ (by first | exact Below.refl _ _ | exact (Below.refl _ _).drew | exact below_drewN (Below.refl _ _) _)).mono ?_); rintro e w1 ⟨p1, rfl, hT1, hb1⟩; (first | replace hb1 := undrew hb1 | replace hb1 := undrewN hb1 | skip)))
  all_goals go_wp2
  all_goals go_ret
  all_goals exact ⟨p1, rfl, hT1, hb1⟩
theorem clo_drop (Bt Ht Hk : Nat) (tp : Pt) (tn : Int) (t : Tr) (k : Ky) (hm : t.may k) (w : World) (ht : Box w Bt (tree tp tn) 57) (hp : Tre w tp t)
    (b1 : Box w Ht #[.pointer (some ⟨Bt, 0, none⟩)] 23) (b2 : Box w Hk #[eU k.1, eI k.2] 32) :
    Calls Try.prog 42 #[.pointer (some ⟨Ht, 0, none⟩), .pointer (some ⟨Hk, 0, none⟩)] w fun e w' => ∃ p' : Pt, e = .returned (.pointer p') ∧ Tre w' p' (t.rem k).1 ∧ Below w.heap.size w w' := by
  have h1 := fun w1 (h : Below w.heap.size w w1) => without_any Bt tp tn t tp k w1 hm (ht.below h) (hp.below h)
  have hS : ∀ w', Below w.heap.size w w' → w'.cell? ⟨Ht, 0, none⟩ = some (.pointer (some ⟨Bt, 0, none⟩)) ∧ w'.cell? ⟨Bt, 2, none⟩ = some (.pointer tp) ∧ (w'.cell? ⟨Hk, 0, none⟩ = some (.int .u64 k.1) ∧ w'.cell? ⟨Hk, 1, none⟩ = some (.int .i64 k.2)) := fun w' h =>
    ⟨(b1.below h).cell 0, (trC (ht.below h)).2.2.1, kyC (b2.below h)⟩
  have hS0 := hS w (Below.refl _ _)
  go_enter Try.func42, Try.ntmps42
  go_upto_region 1 with (fail)
  obtain ⟨c0, c1, ⟨c2, c3⟩⟩ := id hS0
  go_region_held3 (fun w' => w'.cell? ⟨Ht, 0, none⟩ = some (.pointer (some ⟨Bt, 0, none⟩)) ∧ w'.cell? ⟨Bt, 2, none⟩ = some (.pointer tp) ∧ (w'.cell? ⟨Hk, 0, none⟩ = some (.int .u64 k.1) ∧ w'.cell? ⟨Hk, 1, none⟩ = some (.int .i64 k.2)))
    (first | exact hS0 | exact hS _ hb1)
    (first
      | (go_at_call 43; (with_reducible refine (h1 _ (by first | exact Below.refl _ _ | exact (Below.refl _ _).drew | exact below_drewN (Below.refl _ _) _)).mono ?_); rintro e w1 ⟨p1, rfl, hT1, hb1⟩; (first | replace hb1 := undrew hb1 | replace hb1 := undrewN hb1 | skip)))
  all_goals go_wp2
  all_goals go_ret
  all_goals exact ⟨p1, rfl, hT1, hb1⟩
end Go.Proofs.Ytjfpemkdidoacaa
