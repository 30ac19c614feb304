/- The steepest slope of a curve, gone over by its pieces. No condition but that words are words. -/
import Derived.Test.YtbgccdjkofpiaaaGrn
namespace Go.Proofs.Ytbgccdjkofpiaaa
open Go.RowKit Go.Shelf W
set_option linter.unusedVariables false
attribute [local go_sem] Oper.semAt_some
/-- The slope of a piece; the steepest one of some. -/
def slo (f r : Int) : Bool → Int
  | false => f
  | true => r
def stF (f r : Int) (pre : List Bool) : Int := pre.foldl (fun s x => max s (slo f r x)) 0
theorem stF_snoc (f r : Int) (pre : List Bool) (x : Bool) : stF f r (pre ++ [x]) = max (stF f r pre) (slo f r x) := by simp [stF]
set_option maxRecDepth 100000 in
set_option maxHeartbeats 2000000 in
theorem steepest_of (f l r : Int) (w : World) :
    Calls Try.prog 21 #[.agg #[.int .u64 f, .int .u64 l, .int .u64 r]] w fun e w' => e = .returned (.int .u64 (stF f r (ps l))) ∧ Below w.heap.size w w' := by
  refine (callsIn_wide (n := 3)).1 ?_
  refine callsIn_of_wp_marks Try.func21 rfl trivial ?_ rfl
  simp only [Try.ntmps21, List.size_toArray, List.length_cons, List.length_nil, Nat.reduceAdd, Nat.reduceSub, Array.replicate_succ, Array.replicate_zero, List.push_toArray, List.append_toArray, List.nil_append, List.cons_append]
  gi_wp2_with (refine ⟨trivial, ?_⟩; gi_at_call 35; (refine (callsIn_wide.2 (pieces_any _ _ _ _)).mono ?_); rintro e w' ⟨rfl, rfl⟩)
  have bS := (Boxed.new (w.alloc (.cells #[.int .u64 f, .int .u64 l, .int .u64 r] 24)) 22 (.int .u64 0)).alloc (.cells #[.int .u64 f, .int .u64 l, .int .u64 r] 24)
  have bC := Tri.new ((w.alloc (.cells #[.int .u64 f, .int .u64 l, .int .u64 r] 24)).alloc (.cells #[.int .u64 0] 22)) f l r 24
  simp only [World.size_alloc] at bS bC
  have hB0 : Below w.heap.size w (((w.alloc (.cells #[.int .u64 f, .int .u64 l, .int .u64 r] 24)).alloc (.cells #[.int .u64 0] 22)).alloc (.cells #[.int .u64 f, .int .u64 l, .int .u64 r] 24)) := (((Below.refl _ w).alloc (Nat.le_refl _) _).alloc (by simp) _).alloc (by simp; omega) _
  have hsz : (((w.alloc (.cells #[.int .u64 f, .int .u64 l, .int .u64 r] 24)).alloc (.cells #[.int .u64 0] 22)).alloc (.cells #[.int .u64 f, .int .u64 l, .int .u64 r] 24)).heap.size = w.heap.size + 3 := by simp
  obtain ⟨W0, hW0⟩ : ∃ W0, ((w.alloc (.cells #[.int .u64 f, .int .u64 l, .int .u64 r] 24)).alloc (.cells #[.int .u64 0] 22)).alloc (.cells #[.int .u64 f, .int .u64 l, .int .u64 r] 24) = W0 := ⟨_, rfl⟩
  rw [hW0] at bS bC hB0 hsz ⊢
  clear hW0
  refine wpIn_rangeFunc_ownH rfl (by omega) (gf := 50) (lb := #[.pointer (some ⟨w.heap.size + 1 + 1, 0, none⟩)]) rfl trivial (enters_of Try.func50 (by kernel_rfl) rfl)
    (pieces_stops 2 (by omega) (w.heap.size + 1 + 1) f l r W0 bC) KeepsAt.trans (KeepsAt.putObj (by omega)) (Below.refl _ _) (fun _ => rfl)
    (fun pre W => Boxed W (w.heap.size + 1) 22 (.int .u64 (stF f r pre)) ∧ Below w.heap.size w W ∧ w.heap.size + 3 ≤ W.heap.size)
    (fun _ _ _ => False)
    (OwnFrom.and (Go.Own.from (boxed_own _ _ _) _) (OwnFrom.and (ownFrom_below (Nat.le_refl _) (by omega)) (fun _ _ _ _ hs hg _ => Nat.le_trans hs hg.size)))
    (fun _ _ _ _ _ hs _ _ => hs)
    ⟨bS, hB0, by omega⟩
    (fun x a' W => ∃ Bx, w.heap.size + 1 + 1 < Bx ∧ Box W Bx (match pieceV f l r x with | .agg vs => vs | _ => #[]) 50 ∧ a' = { tmps := #[.agg #[.int .u64 f, .int .u64 l, .int .u64 r], .pointer (some ⟨w.heap.size, 0, none⟩), .int .u64 0, .pointer (some ⟨w.heap.size + 1, 0, none⟩), .pointer (some ⟨Bx, 0, none⟩), .agg #[.int .u64 f, .int .u64 l, .int .u64 r], .func (.func 50) #[] #[.pointer (some ⟨w.heap.size + 1 + 1, 0, none⟩)], pieceV f l r x, undef, undef, undef, undef, undef], defers := [] })
    (fun x a' _ X Y row hs hg hr => by obtain ⟨Bx, h1, h2, h3⟩ := hs; exact ⟨Bx, h1, box_own Bx 50 _ () X Y row h2 hg (fun r e => (hr r e).2), h3⟩)
    ?assign ?body ?done ?stop
  case assign =>
    rintro l0 pre x W K ⟨bS1, hB1, hz1⟩ hK
    cases x
    · dsimp only [pieceV]
      gi_wp2
      exact hK _ _ ((KeepsOthers.alloc _ _).from _) (KeepsAt.alloc W (by omega) _) ⟨bS1.alloc _, hB1.alloc hB1.size _, by simp; omega⟩ ⟨W.heap.size, by omega, Box.new W 50 _, rfl⟩
    · dsimp only [pieceV]
      gi_wp2
      exact hK _ _ ((KeepsOthers.alloc _ _).from _) (KeepsAt.alloc W (by omega) _) ⟨bS1.alloc _, hB1.alloc hB1.size _, by simp; omega⟩ ⟨W.heap.size, by omega, Box.new W 50 _, rfl⟩
  case body =>
    rintro l0 pre x a' W hl ⟨rr, hr⟩ ⟨bS1, hB1, hz1⟩ ⟨Bx, hBx, bX, rfl⟩ hlt
    have cS := bS1.cell
    have fS := bS1.frozen
    cases x
    · obtain ⟨x1, x2, x3, x4⟩ := Box.tri bX
      have hS := stF_snoc f r pre false
      simp only [slo] at hS
      obtain ⟨m, em⟩ : ∃ m, stF f r pre = m := ⟨_, rfl⟩
      rw [em] at cS hS
      rcases Int.lt_trichotomy m f with h | rfl | h
      · have m1 : min m f = m := by omega
        have m2 : max m f = f := by omega
        rw [m2] at hS
        gi_wp2
        exact ⟨(KeepsOthers.setCell _ _ _).from _, KeepsAt.setCell W (by omega) _, by rw [hS]; exact bS1.set _, hB1.setCell (p := ⟨w.heap.size + 1, 0, none⟩) (by simp) _, by simpa [World.setCell] using hz1⟩
      · have m2 : max m m = m := by omega
        rw [m2] at hS
        gi_wp2
        exact ⟨(KeepsOthers.setCell _ _ _).from _, KeepsAt.setCell W (by omega) _, by rw [hS]; exact bS1.set _, hB1.setCell (p := ⟨w.heap.size + 1, 0, none⟩) (by simp) _, by simpa [World.setCell] using hz1⟩
      · have m1 : min m f = f := by omega
        have m2 : max m f = m := by omega
        rw [m2] at hS
        gi_wp2
        exact ⟨(KeepsOthers.setCell _ _ _).from _, KeepsAt.setCell W (by omega) _, by rw [hS]; exact bS1.set _, hB1.setCell (p := ⟨w.heap.size + 1, 0, none⟩) (by simp) _, by simpa [World.setCell] using hz1⟩
    · obtain ⟨x1, x2, x3, x4⟩ := Box.tri bX
      have hS := stF_snoc f r pre true
      simp only [slo] at hS
      obtain ⟨m, em⟩ : ∃ m, stF f r pre = m := ⟨_, rfl⟩
      rw [em] at cS hS
      rcases Int.lt_trichotomy m r with h | rfl | h
      · have m1 : min m r = m := by omega
        have m2 : max m r = r := by omega
        rw [m2] at hS
        gi_wp2
        exact ⟨(KeepsOthers.setCell _ _ _).from _, KeepsAt.setCell W (by omega) _, by rw [hS]; exact bS1.set _, hB1.setCell (p := ⟨w.heap.size + 1, 0, none⟩) (by simp) _, by simpa [World.setCell] using hz1⟩
      · have m2 : max m m = m := by omega
        rw [m2] at hS
        gi_wp2
        exact ⟨(KeepsOthers.setCell _ _ _).from _, KeepsAt.setCell W (by omega) _, by rw [hS]; exact bS1.set _, hB1.setCell (p := ⟨w.heap.size + 1, 0, none⟩) (by simp) _, by simpa [World.setCell] using hz1⟩
      · have m1 : min m r = r := by omega
        have m2 : max m r = m := by omega
        rw [m2] at hS
        gi_wp2
        exact ⟨(KeepsOthers.setCell _ _ _).from _, KeepsAt.setCell W (by omega) _, by rw [hS]; exact bS1.set _, hB1.setCell (p := ⟨w.heap.size + 1, 0, none⟩) (by simp) _, by simpa [World.setCell] using hz1⟩
  case done =>
    rintro D zs W hD rfl ⟨bS1, hB1, hz1⟩ hK
    have cS := bS1.cell
    gi_wp2
    refine ⟨by simp, .inl ⟨_, _, rfl, run_takeDeferred hK, ?_⟩⟩
    exact ⟨_, results_tmp rfl _ _ _, rfl, hB1.trans (belowK_b (w := w) (Nat.le_refl _) W D _ _ (by omega) hK rfl rfl)⟩
  case stop =>
    rintro D c pre W _ _ h _
    exact h.elim
end Go.Proofs.Ytbgccdjkofpiaaa
