/- The law's same: a tree of ids tells what the document's row tells. No condition but words, and that there aren't too many. -/
import Derived.Test.YtcpienpkpodfmaaRE
namespace Go.Proofs.Ytcpienpkpodfmaa
open Go.RowKit Go.Shelf
set_option linter.unusedVariables false
theorem gotV_three (o : Option It) : gotV o = .tuple #[eU (match o with | none => 0 | some a => a.1.1), eU (match o with | none => 0 | some a => a.2), .bool o.isSome] := by cases o <;> rfl
set_option maxRecDepth 100000 in
set_option maxHeartbeats 8000000 in
theorem same_of (tp : Pt) (R : Nat) (L : List It) (x : Ac) (W : World) (hl : L.length ≤ 1000) (hR : Rw W R L)
    (c20 : ∀ w1, Below W.heap.size W w1 → Calls Try.prog 20 #[.pointer tp, eI x.i] w1 fun e w' => e = .returned (gotV (getA x.i L)) ∧ Below w1.heap.size w1 w')
    (c22 : ∀ w1, Below W.heap.size W w1 → Calls Try.prog 22 #[.pointer tp] w1 fun e w' => e = .returned (.tuple #[eI (kO L.head?).2, .bool L.head?.isSome]) ∧ Below w1.heap.size w1 w')
    (c18 : ∀ w1, Below W.heap.size W w1 → Calls Try.prog 18 #[.pointer tp, eU x.q] w1 fun e w' => e = .returned (.tuple #[eI (low (upto x.q L)).2, .bool (decide (upto x.q L ≠ []))]) ∧ Below w1.heap.size w1 w')
    (c19 : ∀ w1, Below W.heap.size W w1 → Calls Try.prog 19 #[.pointer tp, eU x.y] w1 fun e w' => e = .returned (.tuple #[eI (kO (fnd x.y L)).2, .bool (fnd x.y L).isSome]) ∧ Below w1.heap.size w1 w')
    (c25 : ∀ w1, Below W.heap.size W w1 → Calls Try.prog 25 #[.pointer tp] w1 fun e w' => e = .returned (.tuple #[eU (low L).1, .bool (decide (L ≠ []))]) ∧ Below w1.heap.size w1 w')
    (c23 : ∀ w1, Below W.heap.size W w1 → Calls Try.prog 23 #[.pointer tp] w1 fun e w' => e = .returned (eI (L.length : Int)) ∧ w1 = w')
    (c21 : ∀ w1, Below W.heap.size W w1 → Calls Try.prog 21 #[.pointer tp] w1 fun e w' => ∃ v, e = .returned v ∧ IntS w' v (idsI L) ∧ Below w1.heap.size w1 w') :
    Calls Try.prog 11 #[.pointer tp, .pointer (some ⟨R, 0, none⟩), .agg #[eI x.i, eU x.k, eU x.v, .bool x.d, eU x.q, eU x.y]] W fun e w' => e = .returned (.bool true) ∧ Below W.heap.size W w' := by
  have T := up1 W (.cells #[eI x.i, eU x.k, eU x.v, .bool x.d, eU x.q, eU x.y] 31)
  have bP := Box.new W 31 #[eI x.i, eU x.k, eU x.v, .bool x.d, eU x.q, eU x.y]
  rw [gotV_three] at c20
  have d31 : ∀ w1, Below W.heap.size W w1 → Calls Try.prog 31 #[.pointer (some ⟨R, 0, none⟩), eI x.i] w1 fun e w' => e = .returned (gotV (getA x.i L)) ∧ Below w1.heap.size w1 w' := fun w1 hb => rw_get R L w1 x.i (by omega) (hR.below hb)
  rw [gotV_three] at d31
  have d32 : ∀ w1, Below W.heap.size W w1 → Calls Try.prog 32 #[.pointer (some ⟨R, 0, none⟩)] w1 fun e w' => e = .returned (.tuple #[eI (kO L.head?).2, .bool L.head?.isSome]) ∧ w1 = w' := fun w1 hb => rw_first R L w1 (by omega) (hR.below hb)
  have d33 : ∀ w1, Below W.heap.size W w1 → Calls Try.prog 33 #[.pointer (some ⟨R, 0, none⟩), eU x.q] w1 fun e w' => e = .returned (.tuple #[eI (low (upto x.q L)).2, .bool (decide (upto x.q L ≠ []))]) ∧ Below w1.heap.size w1 w' := fun w1 hb => rw_least R L w1 x.q (by omega) (hR.below hb)
  have d34 : ∀ w1, Below W.heap.size W w1 → Calls Try.prog 34 #[.pointer (some ⟨R, 0, none⟩), eU x.y] w1 fun e w' => e = .returned (.tuple #[eI (kO (fnd x.y L)).2, .bool (fnd x.y L).isSome]) ∧ w1 = w' := fun w1 hb => rw_within R L w1 x.y (by omega) (hR.below hb)
  have d35 : ∀ w1, Below W.heap.size W w1 → Calls Try.prog 35 #[.pointer (some ⟨R, 0, none⟩)] w1 fun e w' => e = .returned (.tuple #[eU (low L).1, .bool (decide (L ≠ []))]) ∧ w1 = w' := fun w1 hb => rw_lowest R L w1 (by omega) (hR.below hb)
  have d36 : ∀ w1, Below W.heap.size W w1 → Calls Try.prog 36 #[.pointer (some ⟨R, 0, none⟩)] w1 fun e w' => ∃ v, e = .returned v ∧ IntS w' v (idsI L) ∧ Below w1.heap.size w1 w' := fun w1 hb => rw_ids R L w1 hl (hR.below hb)
  have d24 : ∀ w1 v u, IntS w1 v (idsI L) → IntS w1 u (idsI L) → Calls Try.prog 24 #[v, u] w1 fun e w' => e = .returned (.bool true) ∧ Below w1.heap.size w1 w' := fun w1 v u h1 h2 => same_any v u (idsI L) w1 (by simp [idsI]; omega) h1 h2
  obtain ⟨ra, rc, hRB, hrc, _⟩ := hR
  generalize (match getA x.i L with | none => (0 : Int) | some a => a.1.1) = K at *
  generalize (match getA x.i L with | none => (0 : Int) | some a => a.2) = V at *
  generalize (getA x.i L).isSome = th at *
  generalize (kO L.head?).2 = fi at *
  generalize L.head?.isSome = fs at *
  generalize (low (upto x.q L)).2 = li at *
  generalize decide (upto x.q L ≠ []) = ls at *
  generalize (kO (fnd x.y L)).2 = wi at *
  generalize (fnd x.y L).isSome = ws at *
  generalize (low L).1 = lo at *
  generalize decide (L ≠ []) = an at *
  generalize idsI L = ids at *
  generalize L.length = n at *
  have s1 : (K == K) = true := by simp
  have s2 : (V == V) = true := by simp
  have s3 : (th == th) = true := by simp
  have s4 : (fi == fi) = true := by simp
  have s5 : (fs == fs) = true := by simp
  have s6 : (li == li) = true := by simp
  have s7 : (ls == ls) = true := by simp
  have s8 : (wi == wi) = true := by simp
  have s9 : (ws == ws) = true := by simp
  have s10 : (lo == lo) = true := by simp
  have s11 : (an == an) = true := by simp
  have s12 : ((n : Int) == (n : Int)) = true := by simp
  go_enter Try.func11, Try.ntmps11
  go_upto_region 1 with (fail)
  obtain ⟨W0, hW0⟩ : ∃ v, W.alloc (.cells #[eI x.i, eU x.k, eU x.v, .bool x.d, eU x.q, eU x.y] 31) = v := ⟨_, rfl⟩
  rw [hW0] at T bP ⊢
  clear hW0
  obtain ⟨k0, k1, k2, k3, k4, k5⟩ := actC bP
  go_upto_region 7 with (first
    | (go_at_call 20; (with_reducible refine (c20 _ T).mono ?_); rintro e w1 ⟨rfl, hb⟩; replace T := upp T hb; replace bP := bP.below hb; clear hb k0 k1 k2 k3 k4 k5; obtain ⟨k0, k1, k2, k3, k4, k5⟩ := actC bP)
    | (go_at_call 31; (with_reducible refine (d31 _ T).mono ?_); rintro e w2 ⟨rfl, hb⟩; replace T := upp T hb; replace bP := bP.below hb; clear hb k0 k1 k2 k3 k4 k5; obtain ⟨k0, k1, k2, k3, k4, k5⟩ := actC bP)
    | (go_at_call 22; (with_reducible refine (c22 _ T).mono ?_); rintro e w3 ⟨rfl, hb⟩; replace T := upp T hb; replace bP := bP.below hb; clear hb k0 k1 k2 k3 k4 k5; obtain ⟨k0, k1, k2, k3, k4, k5⟩ := actC bP)
    | (go_at_call 32; (with_reducible refine (d32 _ T).mono ?_); rintro e w4 ⟨rfl, rfl⟩)
    | (go_at_call 18; (with_reducible refine (c18 _ T).mono ?_); rintro e w5 ⟨rfl, hb⟩; replace T := upp T hb; replace bP := bP.below hb; clear hb k0 k1 k2 k3 k4 k5; obtain ⟨k0, k1, k2, k3, k4, k5⟩ := actC bP)
    | (go_at_call 33; (with_reducible refine (d33 _ T).mono ?_); rintro e w6 ⟨rfl, hb⟩; replace T := upp T hb; replace bP := bP.below hb; clear hb k0 k1 k2 k3 k4 k5; obtain ⟨k0, k1, k2, k3, k4, k5⟩ := actC bP))
  clear c20 d31 c22 d32 c18 d33
  go_upto_region 13 with (first
    | (go_at_call 19; (with_reducible refine (c19 _ T).mono ?_); rintro e w7 ⟨rfl, hb⟩; replace T := upp T hb; replace bP := bP.below hb; clear hb k0 k1 k2 k3 k4 k5; obtain ⟨k0, k1, k2, k3, k4, k5⟩ := actC bP)
    | (go_at_call 34; (with_reducible refine (d34 _ T).mono ?_); rintro e w8 ⟨rfl, rfl⟩)
    | (go_at_call 25; (with_reducible refine (c25 _ T).mono ?_); rintro e w9 ⟨rfl, hb⟩; replace T := upp T hb; replace bP := bP.below hb; clear hb k0 k1 k2 k3 k4 k5; obtain ⟨k0, k1, k2, k3, k4, k5⟩ := actC bP)
    | (go_at_call 35; (with_reducible refine (d35 _ T).mono ?_); rintro e w10 ⟨rfl, rfl⟩))
  clear c19 d34 c25 d35 k0 k1 k2 k3 k4 k5 bP
  have hS : ∀ w', Below W.heap.size W w' → w'.cell? ⟨R, 0, none⟩ = some (.slice ra n rc) := fun w' h => (hRB.below h).cell 0
  have hS0 := hS _ T
  have hnc : (n : Int) ≤ (rc : Int) := by omega
  go_region_held3 (fun w' => w'.cell? ⟨R, 0, none⟩ = some (.slice ra n rc))
    (first | with_reducible exact hS _ T | with_reducible exact hS _ T.drew | exact hS _ (below_drewN T _))
    (first
      | (go_at_call 23; (with_reducible refine (c23 _ (by first | exact T | exact T.drew | exact below_drewN T _)).mono ?_); rintro e w11 ⟨rfl, rfl⟩)
      | (go_at_call 21; (with_reducible refine (c21 _ (by first | exact T | exact T.drew | exact below_drewN T _)).mono ?_); rintro e w12 ⟨v, rfl, hv, hb⟩; (first | replace hb := undrew hb | replace hb := undrewN hb | skip); replace T := upp T hb; (first | replace hu := hu.below hb | skip); clear hb)
      | (go_at_call 36; (with_reducible refine (d36 _ (by first | exact T | exact T.drew | exact below_drewN T _)).mono ?_); rintro e w13 ⟨u, rfl, hu, hb⟩; (first | replace hb := undrew hb | replace hb := undrewN hb | skip); replace T := upp T hb; (first | replace hv := hv.below hb | skip); clear hb)
      | (go_at_call 24; (with_reducible refine (d24 _ _ _ (by first | exact hv | exact hv.below ((Below.refl _ _).drew) | exact hv.below (below_drewN (Below.refl _ _) _)) (by first | exact hu | exact hu.below ((Below.refl _ _).drew) | exact hu.below (below_drewN (Below.refl _ _) _))).mono ?_); rintro e w14 ⟨rfl, hb⟩; (first | replace hb := undrew hb | replace hb := undrewN hb | skip); replace T := upp T hb; clear hb))
  all_goals go_wp2_with fail
  all_goals go_ret
  all_goals first
    | exact ⟨rfl, T⟩
    | exact ⟨rfl, T.drew⟩
    | exact ⟨rfl, below_drewN T _⟩
end Go.Proofs.Ytcpienpkpodfmaa
