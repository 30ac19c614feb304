/- The chapter's examples. -/
import Derived.Test.YtdhfblcheoahaaaBnS
namespace Go.Proofs.Ytdhfblcheoahaaa
open Go.RowKit Go.Shelf W
set_option linter.unusedVariables false
def eX (k : Nat) : Int := if k = 0 then 0 else 20
def eY (k : Nat) : Int := if k = 0 then 0 else 45
theorem cvE : CvB 4 10 1 := ⟨⟨by omega, by omega⟩, ⟨by omega, by omega⟩, ⟨by omega, by omega⟩, by unfold cMay; omega, by omega⟩
theorem eY_nn (k : Nat) : 0 ≤ eY k := by unfold eY; split <;> omega
theorem wI {x : Int} (h : 0 ≤ x ∧ x < 18446744073709551616) : Word x := h
theorem e_at (n : Nat) (hn : 0 < n) (t v : Int) (ht : Word t) (hv : rA (hS 4 0 eX eY n) 4 (hS 1 ((4 - 1) * 10) eX eY n) 1 (xS eX n) t = v) (B : Nat) (w : World) (h : Rn w B 4 10 1 eX eY n) :
    Calls Try.prog 18 #[.pointer (some ⟨B, 0, none⟩), eU t] w fun e w' => e = .returned (eU v) ∧ Below w.heap.size w w' := by
  have := rn_at B 4 10 1 t eX eY n w cvE eY_nn hn ht h
  rwa [hv] at this
theorem e_reach (n : Nat) (hn : 0 < n) (y v : Int) (hy : Word y) (hv : IsRR (hS 4 0 eX eY n) 4 (hS 1 ((4 - 1) * 10) eX eY n) 1 (xS eX n) y v) (B : Nat) (w : World) (h : Rn w B 4 10 1 eX eY n) :
    Calls Try.prog 17 #[.pointer (some ⟨B, 0, none⟩), eU y] w fun e w' => e = .returned (eU v) ∧ Below w.heap.size w w' := by
  obtain ⟨v', _, h1, h2⟩ := rn_reach 4 10 1 y eX eY n cvE eY_nn hn hy
  rw [hv.unique (by omega) (by omega) h1]
  exact h2 B w h
set_option maxRecDepth 100000 in
set_option maxHeartbeats 4000000 in
theorem awake_any (w : World) : Calls Try.prog 20 #[] w fun e w' => e = .returned (.bool true) ∧ Below w.heap.size w w' := by
  have z : Word 0 := ⟨by omega, by omega⟩
  have hN1 : ∀ w, Calls Try.prog 9 #[.agg #[eU 4, eU 10, eU 1]] w fun e w' => ∃ B : Nat, e = .returned (.tuple #[.pointer (some ⟨B, 0, none⟩), eI 0]) ∧ w.heap.size ≤ B ∧ Bn w' B 0 4 0 1 ((4 - 1) * 10) 0 0 ∧ Below w.heap.size w w' := fun w =>
    (bn_new_any 4 10 1 w (wI (by omega)) (wI (by omega)) (wI (by omega))).mono fun e w' h => by
      obtain ⟨h1, h2⟩ := h
      rcases h1 with ⟨_, B, e1, e2, e3⟩ | ⟨h1, _⟩
      · exact ⟨B, e1, e2, e3, h2⟩
      · exact absurd cvE h1
  have hN2 : ∀ w, Calls Try.prog 9 #[.agg #[eU 1, eU 10, eU 4]] w fun e w' => e = .returned (.tuple #[.pointer none, eI 30]) ∧ Below w.heap.size w w' := fun w =>
    (bn_new_any 1 10 4 w (wI (by omega)) (wI (by omega)) (wI (by omega))).mono fun e w' h => by
      obtain ⟨h1, h2⟩ := h
      rcases h1 with ⟨h1, _⟩ | ⟨_, h1⟩
      · exact absurd h1.2.2.2.2 (by omega)
      · exact ⟨h1, h2⟩
  have hS1 : ∀ (B : Nat) (w : World), Bn w B 0 4 0 1 ((4 - 1) * 10) 0 0 → Calls Try.prog 13 #[.pointer (some ⟨B, 0, none⟩), eU 0, eU 0] w fun e w' => e = .returned (.tuple #[]) ∧ Rn w' B 4 10 1 eX eY 1 ∧ But B w w' := fun B w h => rn_start B 4 10 1 eX eY 0 w cvE eY_nn (by omega) z z (rn_new _ _ h)
  have hS2 : ∀ (B : Nat) (w : World), Rn w B 4 10 1 eX eY 1 → Calls Try.prog 13 #[.pointer (some ⟨B, 0, none⟩), eU 20, eU 45] w fun e w' => e = .returned (.tuple #[]) ∧ Rn w' B 4 10 1 eX eY 2 ∧ But B w w' := fun B w h => rn_start B 4 10 1 eX eY 1 w cvE eY_nn (by omega) (wI (by unfold eX; omega)) (wI (by unfold eY; omega)) h
  have hA1 := e_at 1 (by omega) 10 40 (wI (by omega)) (by decide)
  have hA2 := e_at 1 (by omega) 20 50 (wI (by omega)) (by decide)
  have hRe1 := e_reach 1 (by omega) 41 11 (wI (by omega)) (by unfold IsRR; decide)
  have hA3 := e_at 2 (by omega) 21 49 (wI (by omega)) (by decide)
  have hA4 := e_at 2 (by omega) 22 52 (wI (by omega)) (by decide)
  have hA5 := e_at 2 (by omega) 23 53 (wI (by omega)) (by decide)
  have hA6 := e_at 2 (by omega) 3 45 (wI (by omega)) (by decide)
  have hRe2 := e_reach 2 (by omega) 3 20 (wI (by omega)) (by unfold IsRR; decide)
  have hRe3 := e_reach 2 (by omega) 52 22 (wI (by omega)) (by unfold IsRR; decide)
  have hk : ((1 : Int) == 0) = false := by decide
  have hk2 : ((((2 : Nat) : Int)) == 0) = false := by decide
  have hL : ∀ (B : Nat) (w : World), Rn w B 4 10 1 eX eY 2 → Calls Try.prog 16 #[.pointer (some ⟨B, 0, none⟩)] w fun e w' => e = .returned (.tuple #[eU 45, eU 50]) ∧ Below w.heap.size w w' := fun B w h => by
    have := bn_lines_any B _ _ _ _ _ _ _ w h hk2
    rwa [show hS 4 0 eX eY 2 = 45 from by decide, show hS 1 ((4 - 1) * 10) eX eY 2 = 50 from by decide] at this
  go_enter Try.func20, Try.ntmps20
  go_wp2_with (first
    | (go_at_call 9; (with_reducible refine (hN1 _).mono ?_); rintro e w1 ⟨B, rfl, hB, hR, T⟩)
    | (go_at_call 9; (with_reducible refine (hN2 _).mono ?_); rintro e w2 ⟨rfl, hb⟩; replace hR := hR.below hb; replace T := up T hb T.size; clear hb)
    | (go_at_call 18; (with_reducible refine (bn_at_none _ _ _ (bn_starts_any _ _ _ _ _ _ _ _ _ hR)).mono ?_); rintro e w3 ⟨rfl, rfl⟩)
    | (go_at_call 17; (with_reducible refine (bn_reach_none _ _ _ hk (bn_starts_any _ _ _ _ _ _ _ _ _ hR)).mono ?_); rintro e w3 ⟨rfl, rfl⟩)
    | (go_at_call 13; (with_reducible refine (hS1 _ _ hR).mono ?_); rintro e w4 ⟨rfl, hR1, hb⟩; replace T := hb.up T hB; clear hR hb)
    | (go_at_call 13; (with_reducible refine (hS2 _ _ hR1).mono ?_); rintro e w5 ⟨rfl, hR2, hb⟩; replace T := hb.up T hB; clear hR1 hb)
    | (go_at_call 18; (with_reducible refine (hA1 _ _ hR1).mono ?_); rintro e w6 ⟨rfl, hb⟩; replace hR1 := hR1.below hb; replace T := up T hb T.size; clear hb)
    | (go_at_call 18; (with_reducible refine (hA2 _ _ hR1).mono ?_); rintro e w7 ⟨rfl, hb⟩; replace hR1 := hR1.below hb; replace T := up T hb T.size; clear hb)
    | (go_at_call 17; (with_reducible refine (hRe1 _ _ hR1).mono ?_); rintro e w8 ⟨rfl, hb⟩; replace hR1 := hR1.below hb; replace T := up T hb T.size; clear hb)
    | (go_at_call 16; (with_reducible refine (hL _ _ hR2).mono ?_); rintro e w9 ⟨rfl, hb⟩; replace hR2 := hR2.below hb; replace T := up T hb T.size; clear hb)
    | (go_at_call 18; (with_reducible refine (hA3 _ _ hR2).mono ?_); rintro e w10 ⟨rfl, hb⟩; replace hR2 := hR2.below hb; replace T := up T hb T.size; clear hb)
    | (go_at_call 18; (with_reducible refine (hA4 _ _ hR2).mono ?_); rintro e w11 ⟨rfl, hb⟩; replace hR2 := hR2.below hb; replace T := up T hb T.size; clear hb)
    | (go_at_call 18; (with_reducible refine (hA5 _ _ hR2).mono ?_); rintro e w12 ⟨rfl, hb⟩; replace hR2 := hR2.below hb; replace T := up T hb T.size; clear hb)
    | (go_at_call 18; (with_reducible refine (hA6 _ _ hR2).mono ?_); rintro e w13 ⟨rfl, hb⟩; replace hR2 := hR2.below hb; replace T := up T hb T.size; clear hb)
    | (go_at_call 17; (with_reducible refine (hRe2 _ _ hR2).mono ?_); rintro e w14 ⟨rfl, hb⟩; replace hR2 := hR2.below hb; replace T := up T hb T.size; clear hb)
    | (go_at_call 17; (with_reducible refine (hRe3 _ _ hR2).mono ?_); rintro e w15 ⟨rfl, hb⟩; replace hR2 := hR2.below hb; replace T := up T hb T.size; clear hb))
  go_ret
  exact ⟨rfl, T⟩
end Go.Proofs.Ytdhfblcheoahaaa
