/- The chapter's examples. -/
import Derived.Test.YtknpfcnjnpcboaaSta
namespace Go.Proofs.Ytknpfcnjnpcboaa
open Go.RowKit Go.Shelf W
set_option linter.unusedVariables false
set_option maxRecDepth 100000
def eX (k : Nat) : Int := if k = 0 then 0 else if k = 1 then 5 else 8
def eY (k : Nat) : Int := if k = 0 then 0 else if k = 1 then 3 else 20
theorem cvE : CvS 1 10 4 := ⟨⟨by omega, by omega⟩, ⟨by omega, by omega⟩, ⟨by omega, by omega⟩, by unfold cMay; omega, by omega⟩
theorem cvN : ¬ CvS 4 10 1 := fun h => by have := h.2.2.2.2; omega
theorem eY_nn (k : Nat) : 0 ≤ eY k := by unfold eY; split <;> (try split) <;> omega
theorem wI {x : Int} (h : 0 ≤ x ∧ x < 18446744073709551616) : Word x := h
def lstB (V : Int × Int → Int) (A : List (Int × Int)) (v : Int) : Bool := A.all (fun c => decide (v ≤ V c)) && A.any (fun c => decide (V c = v))
theorem lstB_ok {V : Int × Int → Int} {A : List (Int × Int)} {v : Int} (h : lstB V A v = true) : IsLst V A v := by
  unfold lstB at h
  rw [Bool.and_eq_true, List.all_eq_true, List.any_eq_true] at h
  obtain ⟨h1, c, hc, h2⟩ := h
  exact ⟨fun c hc => by simpa using h1 c hc, c, hc, by simpa using h2⟩
theorem e_at (n : Nat) (hn : 0 < n) (hn2 : n ≤ 800) (t v : Int) (ht : Word t) (hv2 : stp v = v) (hv' : lstB (fun k => hv 1 10 4 k (max t (xS eX n))) (allL eX eY n) v = true) (m B : Nat) (K : List (Int × Int)) (w : World) (h : Rg w m B 1 10 4 eX eY n K) :
    Calls Try.prog 17 #[.pointer (some ⟨B, 0, none⟩), eU t] w fun e w' => e = .returned (eU v) ∧ Below w.heap.size w w' := by
  have := rg_at cvE eY_nn m B n K t v w hn hn2 ht (lstB_ok hv') h
  rwa [hv2] at this
theorem e_line (n : Nat) (hn : 0 < n) (hn2 : n ≤ 800) (t v : Int) (ht : Word t) (hv2 : stp v = v) (hv' : lstB (fun k => hv 0 0 4 k (max t (xS eX n))) (allL eX eY n) v = true) (m B : Nat) (K : List (Int × Int)) (w : World) (h : Rg w m B 1 10 4 eX eY n K) :
    Calls Try.prog 18 #[.pointer (some ⟨B, 0, none⟩), eU t] w fun e w' => e = .returned (eU v) ∧ Below w.heap.size w w' := by
  have := rg_line cvE eY_nn m B n K t v w hn hn2 ht (lstB_ok hv') h
  rwa [hv2] at this
theorem e_rch {F L R y x m : Int} {n : Nat} (hF : 0 ≤ F) (hR : 0 ≤ R) (hx : xS eX n = x) (h0 : x ≤ m) (h1 : m ≤ 9223372036854775808)
    (h2 : (allL eX eY n).all (fun k => decide (y ≤ stp (hv F L R k m))) = true) (h3 : (decide (m = x) || (allL eX eY n).any (fun k => decide (stp (hv F L R k (m - 1)) < y))) = true) : IsRch F L R y (xS eX n) (allL eX eY n) m := by
  rw [hx]
  refine IsRch.of hF hR (fun k hk => by have := (allL_le eY_nn k hk).2.1; omega) h0 h1 (fun _ k hk => by simpa using List.all_eq_true.1 h2 k hk) ?_
  rcases Bool.or_eq_true _ _ |>.mp h3 with h | h
  · exact .inl (by simpa using h)
  · obtain ⟨k, hk, h⟩ := List.any_eq_true.1 h
    exact .inr ⟨k, hk, by simpa using h⟩
set_option maxHeartbeats 8000000 in
theorem awake_any (w : World) : Calls Try.prog 21 #[] w fun e w' => e = .returned (.bool true) ∧ Below w.heap.size w w' := by
  have z : Word 0 := ⟨by omega, by omega⟩
  have hN1 : ∀ w, Calls Try.prog 8 #[.agg #[eU 1, eU 10, eU 4]] w fun e w' => (∃ B : Nat, e = .returned (.tuple #[.pointer (some ⟨B, 0, none⟩), eI 0]) ∧ w.heap.size ≤ B ∧ Rg w' w.heap.size B 1 10 4 eX eY 0 []) ∧ Below w.heap.size w w' := fun w => rg_new cvE eX eY w
  have hN2 : ∀ w, Calls Try.prog 8 #[.agg #[eU 4, eU 10, eU 1]] w fun e w' => e = .returned (.tuple #[.pointer none, eI 30]) ∧ Below w.heap.size w w' := fun w =>
    rg_new_not w (wI (by omega)) (wI (by omega)) (wI (by omega)) cvN
  have st : ∀ (n : Nat) (a b : Int), n ≤ 800 → eX n = a → eY n = b → Word a → Word b → ∀ (m B : Nat) (K : List (Int × Int)) (w : World), m ≤ B → Rg w m B 1 10 4 eX eY n K →
      Calls Try.prog 12 #[.pointer (some ⟨B, 0, none⟩), eU a, eU b] w fun e w' => e = .returned (.tuple #[]) ∧ (∃ K', Rg w' m B 1 10 4 eX eY (n + 1) K') ∧ Below m w w' := fun n a b hn ha hb wa wb m B K w hB h => by
    have := rg_start cvE eY_nn m B n K w hn hB (by rw [ha]; exact wa) (by rw [hb]; exact wb) h
    rw [ha, hb] at this
    exact this.mono fun e w' ⟨h1, h2, h3, _⟩ => ⟨h1, h2, h3⟩
  have hS1 := st 0 0 0 (by omega) rfl rfl z z
  have hS2 := st 1 5 3 (by omega) rfl rfl (wI (by omega)) (wI (by omega))
  have hS3 := st 2 8 20 (by omega) rfl rfl (wI (by omega)) (wI (by omega))
  have hA1 := e_at 1 (by omega) (by omega) 20 50 (wI (by omega)) (by decide) (by decide)
  have hL1 := e_line 1 (by omega) (by omega) 20 80 (wI (by omega)) (by decide) (by decide)
  have hA2 := e_at 3 (by omega) (by omega) 10 8 (wI (by omega)) (by decide) (by decide)
  have hA3 := e_at 3 (by omega) (by omega) 20 33 (wI (by omega)) (by decide) (by decide)
  have hL2 := e_line 3 (by omega) (by omega) 10 23 (wI (by omega)) (by decide) (by decide)
  have hRe := fun (m B : Nat) (K : List (Int × Int)) (w : World) (h : Rg w m B 1 10 4 eX eY 3 K) => rg_reach cvE eY_nn m B 3 K 33 20 w (by omega) (by omega) (wI (by omega)) (e_rch (x := 8) (by omega) (by omega) (by decide) (by omega) (by omega) (by decide) (by decide)) h
  have hAh := fun (m B : Nat) (K : List (Int × Int)) (w : World) (h : Rg w m B 1 10 4 eX eY 3 K) => rg_ahead cvE eY_nn m B 3 K 23 10 w (by omega) (by omega) (wI (by omega)) (e_rch (x := 8) (by omega) (by omega) (by decide) (by omega) (by omega) (by decide) (by decide)) h
  have hK2 : ∀ (m B : Nat) (K : List (Int × Int)) (w : World), Rg w m B 1 10 4 eX eY 2 K → Calls Try.prog 20 #[.pointer (some ⟨B, 0, none⟩)] w fun e w' => e = .returned (eI 1) ∧ w = w' := fun m B K w h => by
    have := rg_kept m B 2 K w h
    rwa [h.1.count, show docN 1 10 4 eX eY 2 = 1 by decide] at this
  have hK3 : ∀ (m B : Nat) (K : List (Int × Int)) (w : World), Rg w m B 1 10 4 eX eY 3 K → Calls Try.prog 20 #[.pointer (some ⟨B, 0, none⟩)] w fun e w' => e = .returned (eI 1) ∧ w = w' := fun m B K w h => by
    have := rg_kept m B 3 K w h
    rwa [h.1.count, show docN 1 10 4 eX eY 3 = 1 by decide] at this
  have hT3 : ∀ (m B : Nat) (K : List (Int × Int)) (w : World), Rg w m B 1 10 4 eX eY 3 K → Calls Try.prog 19 #[.pointer (some ⟨B, 0, none⟩)] w fun e w' => e = .returned (eI 3) ∧ w = w' := fun m B K w h => rg_starts m B 3 K w h
  have hY1 : ∀ (V : Value) (w : World), Calls Try.prog 20 #[V] w (fun e w' => e = .returned (eI 0) ∧ w = w') → Calls Try.prog 15 #[V, eU 1] w fun e w' => e = .returned (eU 9223372036854775808) ∧ w = w' := fun V w h => by
    have := sg_reach_none V 1 w h
    rwa [if_neg (by omega)] at this
  go_enter Try.func21, Try.ntmps21
  go_wp2_with (first
    | (go_at_call 8; (with_reducible refine (hN1 _).mono ?_); rintro e w1 ⟨⟨B, rfl, hB, hR⟩, T⟩)
    | (go_at_call 8; (with_reducible refine (hN2 _).mono ?_); rintro e w2 ⟨rfl, hb⟩; replace hR := hR.below hb; replace T := up T hb T.size; clear hb)
    | (go_at_call 17; (with_reducible refine (sg_at_none _ _ _ (rg_kept0 _ _ _ _ hR)).mono ?_); rintro e w3 ⟨rfl, rfl⟩)
    | (go_at_call 15; (with_reducible refine (hY1 _ _ (rg_kept0 _ _ _ _ hR)).mono ?_); rintro e w3 ⟨rfl, rfl⟩)
    | (go_at_call 12; (with_reducible refine (hS1 _ _ _ _ hB hR).mono ?_); rintro e w4 ⟨rfl, ⟨K1, hR1⟩, hb⟩; replace T := T.trans hb; clear hR hb)
    | (go_at_call 17; (with_reducible refine (hA1 _ _ _ _ hR1).mono ?_); rintro e w5 ⟨rfl, hb⟩; replace hR1 := hR1.below hb; replace T := up T hb T.size; clear hb)
    | (go_at_call 18; (with_reducible refine (hL1 _ _ _ _ hR1).mono ?_); rintro e w6 ⟨rfl, hb⟩; replace hR1 := hR1.below hb; replace T := up T hb T.size; clear hb)
    | (go_at_call 12; (with_reducible refine (hS2 _ _ _ _ hB hR1).mono ?_); rintro e w7 ⟨rfl, ⟨K2, hR2⟩, hb⟩; replace T := T.trans hb; clear hR1 hb)
    | (go_at_call 20; (with_reducible refine (hK2 _ _ _ _ hR2).mono ?_); rintro e w8 ⟨rfl, rfl⟩)
    | (go_at_call 12; (with_reducible refine (hS3 _ _ _ _ hB hR2).mono ?_); rintro e w9 ⟨rfl, ⟨K3, hR3⟩, hb⟩; replace T := T.trans hb; clear hR2 hb)
    | (go_at_call 20; (with_reducible refine (hK3 _ _ _ _ hR3).mono ?_); rintro e w10 ⟨rfl, rfl⟩)
    | (go_at_call 19; (with_reducible refine (hT3 _ _ _ _ hR3).mono ?_); rintro e w10 ⟨rfl, rfl⟩)
    | (go_at_call 17; (with_reducible refine (hA2 _ _ _ _ hR3).mono ?_); rintro e w11 ⟨rfl, hb⟩; replace hR3 := hR3.below hb; replace T := up T hb T.size; clear hb)
    | (go_at_call 17; (with_reducible refine (hA3 _ _ _ _ hR3).mono ?_); rintro e w12 ⟨rfl, hb⟩; replace hR3 := hR3.below hb; replace T := up T hb T.size; clear hb)
    | (go_at_call 18; (with_reducible refine (hL2 _ _ _ _ hR3).mono ?_); rintro e w13 ⟨rfl, hb⟩; replace hR3 := hR3.below hb; replace T := up T hb T.size; clear hb)
    | (go_at_call 15; (with_reducible refine (hRe _ _ _ _ hR3).mono ?_); rintro e w14 ⟨rfl, hb⟩; replace hR3 := hR3.below hb; replace T := up T hb T.size; clear hb)
    | (go_at_call 16; (with_reducible refine (hAh _ _ _ _ hR3).mono ?_); rintro e w15 ⟨rfl, hb⟩; replace hR3 := hR3.below hb; replace T := up T hb T.size; clear hb))
  go_ret
  exact ⟨rfl, T⟩
end Go.Proofs.Ytknpfcnjnpcboaa
