/- A run that nobody made, or a nil one, has no copies, and none start: the walk of the statement. -/
import Derived.Test.YtknpfcnjnpcboaaSgX
import Derived.BigQuiet
namespace Go.Proofs.Ytknpfcnjnpcboaa
open Go.RowKit Go.Shelf W
set_option linter.unusedVariables false
set_option maxRecDepth 100000
theorem Box.four {W : World} {B : Nat} {t : TypeId} {a b c d : Int} (h : Box W B #[eU a, eU b, eU c, eU d] t) :
    W.cell? ⟨B, 0, none⟩ = some (.int .u64 a) ∧ W.cell? ⟨B, 1, none⟩ = some (.int .u64 b) ∧ W.cell? ⟨B, 2, none⟩ = some (.int .u64 c) ∧ W.cell? ⟨B, 3, none⟩ = some (.int .u64 d) :=
  ⟨h.cell 0, h.cell 1, h.cell 2, h.cell 3⟩
set_option maxHeartbeats 4000000 in
theorem none_zero (x y t : Int) (w : World) : Calls Try.prog 4 #[.agg #[eU x, eU y, eU t, eU 0]] w fun e w' => e = .returned (.bool true) ∧ Below w.heap.size w w' := by
  have hR := fun V w (h : Calls Try.prog 20 #[V] w fun e w' => e = .returned (eI 0) ∧ w = w') => sg_reach_none V 0 w h
  have hA := fun V w (h : Calls Try.prog 20 #[V] w fun e w' => e = .returned (eI 0) ∧ w = w') => sg_ahead_none V 0 w h
  rw [if_pos rfl] at hR hA
  have BA := ((Box.new w 36 #[eU x, eU y, eU t, eU 0]).alloc (.cells #[eU 0, eU 0, eU 0, eU 0, eU 0, eU 0, .slice none 0 0, eU 0, eI 0, .bool false] 41)).alloc (.cells #[.pointer none, .pointer (some ⟨w.heap.size + 1, 0, none⟩)] 26)
  have BN := (SgB.new (w.alloc (.cells #[eU x, eU y, eU t, eU 0] 36)) 0 0 0 (.slice none 0 0) 0 0 false).below (up1 _ (.cells #[.pointer none, .pointer (some ⟨w.heap.size + 1, 0, none⟩)] 26))
  have BS := Box.new ((w.alloc (.cells #[eU x, eU y, eU t, eU 0] 36)).alloc (.cells #[eU 0, eU 0, eU 0, eU 0, eU 0, eU 0, .slice none 0 0, eU 0, eI 0, .bool false] 41)) 26 #[.pointer none, .pointer (some ⟨w.heap.size + 1, 0, none⟩)]
  have T := up3 w (.cells #[eU x, eU y, eU t, eU 0] 36) (.cells #[eU 0, eU 0, eU 0, eU 0, eU 0, eU 0, .slice none 0 0, eU 0, eI 0, .bool false] 41) (.cells #[.pointer none, .pointer (some ⟨w.heap.size + 1, 0, none⟩)] 26)
  simp only [World.size_alloc] at BN BS
  go_enter Try.func4, Try.ntmps4
  go_wp2
  obtain ⟨W0, hW0⟩ : ∃ W0, ((w.alloc (.cells #[eU x, eU y, eU t, eU 0] 36)).alloc (.cells #[eU 0, eU 0, eU 0, eU 0, eU 0, eU 0, .slice none 0 0, eU 0, eI 0, .bool false] 41)).alloc (.cells #[.pointer none, .pointer (some ⟨w.heap.size + 1, 0, none⟩)] 26) = W0 := ⟨_, rfl⟩
  rw [hW0] at BA BN BS T ⊢
  clear hW0
  go_loopw [5] (fun s5 wr => ∃ i : Int, s5 = .int .i64 i ∧ (i = 0 ∨ i = 1 ∨ i = 2) ∧ Box wr w.heap.size #[eU x, eU y, eU t, eU 0] 36 ∧ SgB wr (w.heap.size + 1) 0 0 0 (.slice none 0 0) 0 0 false ∧ Box wr (w.heap.size + 1 + 1) #[.pointer none, .pointer (some ⟨w.heap.size + 1, 0, none⟩)] 26 ∧ Below w.heap.size w wr) (fun s5 _ => 2 - (intOf s5).toNat)
  case atStart => exact ⟨0, rfl, Or.inl rfl, BA, BN, BS, T⟩
  case round =>
    clear BA BN BS T
    obtain ⟨i, rfl, hi, BA, BN, BS, T⟩ := hrel
    obtain ⟨a0, a1, a2, a3⟩ := BA.four
    have s0 : wr.cell? ⟨w.heap.size + 1 + 1, 0, none⟩ = some (.pointer none) := BS.cell 0
    have s1 : wr.cell? ⟨w.heap.size + 1 + 1, 1, none⟩ = some (.pointer (some ⟨w.heap.size + 1, 0, none⟩)) := BS.cell 1
    rcases hi with rfl | rfl | rfl
    · go_upto_region 9 with (first
          | (go_at_call 12; (with_reducible refine (sg_start_nil _ _ _).mono ?_); rintro e w1 ⟨rfl, rfl⟩)
          | (go_at_call 14; (with_reducible refine (sg_last_none _ _ (sg_starts_nil _)).mono ?_); rintro e w1 ⟨rfl, rfl⟩)
          | (go_at_call 15; (with_reducible refine (hR _ _ (sg_kept_nil _)).mono ?_); rintro e w1 ⟨rfl, rfl⟩)
          | (go_at_call 16; (with_reducible refine (hA _ _ (sg_kept_nil _)).mono ?_); rintro e w1 ⟨rfl, rfl⟩)
          | (go_at_call 17; (with_reducible refine (sg_at_none _ _ _ (sg_kept_nil _)).mono ?_); rintro e w1 ⟨rfl, rfl⟩)
          | (go_at_call 18; (with_reducible refine (sg_line_none _ _ _ (sg_kept_nil _)).mono ?_); rintro e w1 ⟨rfl, rfl⟩)
          | (go_at_call 19; (with_reducible refine (sg_starts_nil _).mono ?_); rintro e w1 ⟨rfl, rfl⟩)
          | (go_at_call 20; (with_reducible refine (sg_kept_nil _).mono ?_); rintro e w1 ⟨rfl, rfl⟩))
      go_quiet (first
          | (go_at_call 15; refine Calls.quiet_of_same ((hR _ _ (sg_kept_nil _)).mono fun _ _ ⟨e1, e2⟩ => ⟨e1, e2.symm⟩))
          | (go_at_call 16; refine Calls.quiet_of_same ((hA _ _ (sg_kept_nil _)).mono fun _ _ ⟨e1, e2⟩ => ⟨e1, e2.symm⟩)))
      have BA2 := BA.below (below_drewN (Below.refl _ wr) nq)
      have BN2 := BN.below (below_drewN (Below.refl _ wr) nq)
      have BS2 := BS.below (below_drewN (Below.refl _ wr) nq)
      have T2 := below_drewN T nq
      clear BA BS BN T s0 s1 a0 a1 a2 a3
      have BN := BN2
      obtain ⟨a0, a1, a2, a3⟩ := BA2.four
      go_wp2_with (first
          | (go_at_call 12; (with_reducible refine (sg_start_nil _ _ _).mono ?_); rintro e w1 ⟨rfl, rfl⟩)
          | (go_at_call 14; (with_reducible refine (sg_last_none _ _ (sg_starts_nil _)).mono ?_); rintro e w1 ⟨rfl, rfl⟩)
          | (go_at_call 15; (with_reducible refine (hR _ _ (sg_kept_nil _)).mono ?_); rintro e w1 ⟨rfl, rfl⟩)
          | (go_at_call 16; (with_reducible refine (hA _ _ (sg_kept_nil _)).mono ?_); rintro e w1 ⟨rfl, rfl⟩)
          | (go_at_call 17; (with_reducible refine (sg_at_none _ _ _ (sg_kept_nil _)).mono ?_); rintro e w1 ⟨rfl, rfl⟩)
          | (go_at_call 18; (with_reducible refine (sg_line_none _ _ _ (sg_kept_nil _)).mono ?_); rintro e w1 ⟨rfl, rfl⟩)
          | (go_at_call 19; (with_reducible refine (sg_starts_nil _).mono ?_); rintro e w1 ⟨rfl, rfl⟩)
          | (go_at_call 20; (with_reducible refine (sg_kept_nil _).mono ?_); rintro e w1 ⟨rfl, rfl⟩))
      go_roundw
      case rel => exact ⟨1, rfl, Or.inr (Or.inl rfl), BA2, BN, BS2, T2⟩
      case measure => simp [intOf]
    · go_upto_region 9 with (first
          | (go_at_call 12; (with_reducible refine (sg_start_zero _ _ _ _ _ _ _ _ _ _ BN).mono ?_); rintro e w1 ⟨rfl, rfl⟩)
          | (go_at_call 14; (with_reducible refine (sg_last_none _ _ (sg_starts_any _ _ _ _ _ _ _ _ _ BN)).mono ?_); rintro e w1 ⟨rfl, rfl⟩)
          | (go_at_call 15; (with_reducible refine (hR _ _ (sg_kept_any _ _ _ _ _ 0 _ _ _ _ _ BN)).mono ?_); rintro e w1 ⟨rfl, rfl⟩)
          | (go_at_call 16; (with_reducible refine (hA _ _ (sg_kept_any _ _ _ _ _ 0 _ _ _ _ _ BN)).mono ?_); rintro e w1 ⟨rfl, rfl⟩)
          | (go_at_call 17; (with_reducible refine (sg_at_none _ _ _ (sg_kept_any _ _ _ _ _ 0 _ _ _ _ _ BN)).mono ?_); rintro e w1 ⟨rfl, rfl⟩)
          | (go_at_call 18; (with_reducible refine (sg_line_none _ _ _ (sg_kept_any _ _ _ _ _ 0 _ _ _ _ _ BN)).mono ?_); rintro e w1 ⟨rfl, rfl⟩)
          | (go_at_call 19; (with_reducible refine (sg_starts_any _ _ _ _ _ _ _ _ _ BN).mono ?_); rintro e w1 ⟨rfl, rfl⟩)
          | (go_at_call 20; (with_reducible refine (sg_kept_any _ _ _ _ _ 0 _ _ _ _ _ BN).mono ?_); rintro e w1 ⟨rfl, rfl⟩))
      go_quiet (first
          | (go_at_call 15; refine Calls.quiet_of_same ((hR _ _ (sg_kept_any _ _ _ _ _ 0 _ _ _ _ _ (BN.below (below_drewN (Below.refl _ wr) _)))).mono fun _ _ ⟨e1, e2⟩ => ⟨e1, e2.symm⟩))
          | (go_at_call 16; refine Calls.quiet_of_same ((hA _ _ (sg_kept_any _ _ _ _ _ 0 _ _ _ _ _ (BN.below (below_drewN (Below.refl _ wr) _)))).mono fun _ _ ⟨e1, e2⟩ => ⟨e1, e2.symm⟩)))
      have BA2 := BA.below (below_drewN (Below.refl _ wr) nq)
      have BN2 := BN.below (below_drewN (Below.refl _ wr) nq)
      have BS2 := BS.below (below_drewN (Below.refl _ wr) nq)
      have T2 := below_drewN T nq
      clear BA BS BN T s0 s1 a0 a1 a2 a3
      have BN := BN2
      obtain ⟨a0, a1, a2, a3⟩ := BA2.four
      go_wp2_with (first
          | (go_at_call 12; (with_reducible refine (sg_start_zero _ _ _ _ _ _ _ _ _ _ BN).mono ?_); rintro e w1 ⟨rfl, rfl⟩)
          | (go_at_call 14; (with_reducible refine (sg_last_none _ _ (sg_starts_any _ _ _ _ _ _ _ _ _ BN)).mono ?_); rintro e w1 ⟨rfl, rfl⟩)
          | (go_at_call 15; (with_reducible refine (hR _ _ (sg_kept_any _ _ _ _ _ 0 _ _ _ _ _ BN)).mono ?_); rintro e w1 ⟨rfl, rfl⟩)
          | (go_at_call 16; (with_reducible refine (hA _ _ (sg_kept_any _ _ _ _ _ 0 _ _ _ _ _ BN)).mono ?_); rintro e w1 ⟨rfl, rfl⟩)
          | (go_at_call 17; (with_reducible refine (sg_at_none _ _ _ (sg_kept_any _ _ _ _ _ 0 _ _ _ _ _ BN)).mono ?_); rintro e w1 ⟨rfl, rfl⟩)
          | (go_at_call 18; (with_reducible refine (sg_line_none _ _ _ (sg_kept_any _ _ _ _ _ 0 _ _ _ _ _ BN)).mono ?_); rintro e w1 ⟨rfl, rfl⟩)
          | (go_at_call 19; (with_reducible refine (sg_starts_any _ _ _ _ _ _ _ _ _ BN).mono ?_); rintro e w1 ⟨rfl, rfl⟩)
          | (go_at_call 20; (with_reducible refine (sg_kept_any _ _ _ _ _ 0 _ _ _ _ _ BN).mono ?_); rintro e w1 ⟨rfl, rfl⟩))
      go_roundw
      case rel => exact ⟨2, rfl, Or.inr (Or.inr rfl), BA2, BN, BS2, T2⟩
      case measure => simp [intOf]
    · go_wp2_with (go_at_call 10; (with_reducible refine (sg_copy_nil _).mono ?_); rintro e w1 ⟨rfl, rfl⟩)
      go_ret
      exact ⟨rfl, T⟩
set_option maxHeartbeats 4000000 in
theorem none_more (x y t n : Int) (w : World) (hn0 : n ≠ 0) (hn : (n == 0) = false) : Calls Try.prog 4 #[.agg #[eU x, eU y, eU t, eU n]] w fun e w' => e = .returned (.bool true) ∧ Below w.heap.size w w' := by
  have hR := fun V w (h : Calls Try.prog 20 #[V] w fun e w' => e = .returned (eI 0) ∧ w = w') => sg_reach_none V n w h
  have hA := fun V w (h : Calls Try.prog 20 #[V] w fun e w' => e = .returned (eI 0) ∧ w = w') => sg_ahead_none V n w h
  rw [if_neg hn0] at hR hA
  clear hn0
  have BA := ((Box.new w 36 #[eU x, eU y, eU t, eU n]).alloc (.cells #[eU 0, eU 0, eU 0, eU 0, eU 0, eU 0, .slice none 0 0, eU 0, eI 0, .bool false] 41)).alloc (.cells #[.pointer none, .pointer (some ⟨w.heap.size + 1, 0, none⟩)] 26)
  have BN := (SgB.new (w.alloc (.cells #[eU x, eU y, eU t, eU n] 36)) 0 0 0 (.slice none 0 0) 0 0 false).below (up1 _ (.cells #[.pointer none, .pointer (some ⟨w.heap.size + 1, 0, none⟩)] 26))
  have BS := Box.new ((w.alloc (.cells #[eU x, eU y, eU t, eU n] 36)).alloc (.cells #[eU 0, eU 0, eU 0, eU 0, eU 0, eU 0, .slice none 0 0, eU 0, eI 0, .bool false] 41)) 26 #[.pointer none, .pointer (some ⟨w.heap.size + 1, 0, none⟩)]
  have T := up3 w (.cells #[eU x, eU y, eU t, eU n] 36) (.cells #[eU 0, eU 0, eU 0, eU 0, eU 0, eU 0, .slice none 0 0, eU 0, eI 0, .bool false] 41) (.cells #[.pointer none, .pointer (some ⟨w.heap.size + 1, 0, none⟩)] 26)
  simp only [World.size_alloc] at BN BS
  go_enter Try.func4, Try.ntmps4
  go_wp2
  obtain ⟨W0, hW0⟩ : ∃ W0, ((w.alloc (.cells #[eU x, eU y, eU t, eU n] 36)).alloc (.cells #[eU 0, eU 0, eU 0, eU 0, eU 0, eU 0, .slice none 0 0, eU 0, eI 0, .bool false] 41)).alloc (.cells #[.pointer none, .pointer (some ⟨w.heap.size + 1, 0, none⟩)] 26) = W0 := ⟨_, rfl⟩
  rw [hW0] at BA BN BS T ⊢
  clear hW0
  go_loopw [5] (fun s5 wr => ∃ i : Int, s5 = .int .i64 i ∧ (i = 0 ∨ i = 1 ∨ i = 2) ∧ Box wr w.heap.size #[eU x, eU y, eU t, eU n] 36 ∧ SgB wr (w.heap.size + 1) 0 0 0 (.slice none 0 0) 0 0 false ∧ Box wr (w.heap.size + 1 + 1) #[.pointer none, .pointer (some ⟨w.heap.size + 1, 0, none⟩)] 26 ∧ Below w.heap.size w wr) (fun s5 _ => 2 - (intOf s5).toNat)
  case atStart => exact ⟨0, rfl, Or.inl rfl, BA, BN, BS, T⟩
  case round =>
    clear BA BN BS T
    obtain ⟨i, rfl, hi, BA, BN, BS, T⟩ := hrel
    obtain ⟨a0, a1, a2, a3⟩ := BA.four
    have s0 : wr.cell? ⟨w.heap.size + 1 + 1, 0, none⟩ = some (.pointer none) := BS.cell 0
    have s1 : wr.cell? ⟨w.heap.size + 1 + 1, 1, none⟩ = some (.pointer (some ⟨w.heap.size + 1, 0, none⟩)) := BS.cell 1
    rcases hi with rfl | rfl | rfl
    · go_upto_region 9 with (first
          | (go_at_call 12; (with_reducible refine (sg_start_nil _ _ _).mono ?_); rintro e w1 ⟨rfl, rfl⟩)
          | (go_at_call 14; (with_reducible refine (sg_last_none _ _ (sg_starts_nil _)).mono ?_); rintro e w1 ⟨rfl, rfl⟩)
          | (go_at_call 15; (with_reducible refine (hR _ _ (sg_kept_nil _)).mono ?_); rintro e w1 ⟨rfl, rfl⟩)
          | (go_at_call 16; (with_reducible refine (hA _ _ (sg_kept_nil _)).mono ?_); rintro e w1 ⟨rfl, rfl⟩)
          | (go_at_call 17; (with_reducible refine (sg_at_none _ _ _ (sg_kept_nil _)).mono ?_); rintro e w1 ⟨rfl, rfl⟩)
          | (go_at_call 18; (with_reducible refine (sg_line_none _ _ _ (sg_kept_nil _)).mono ?_); rintro e w1 ⟨rfl, rfl⟩)
          | (go_at_call 19; (with_reducible refine (sg_starts_nil _).mono ?_); rintro e w1 ⟨rfl, rfl⟩)
          | (go_at_call 20; (with_reducible refine (sg_kept_nil _).mono ?_); rintro e w1 ⟨rfl, rfl⟩))
      go_quiet (first
          | (go_at_call 15; refine Calls.quiet_of_same ((hR _ _ (sg_kept_nil _)).mono fun _ _ ⟨e1, e2⟩ => ⟨e1, e2.symm⟩))
          | (go_at_call 16; refine Calls.quiet_of_same ((hA _ _ (sg_kept_nil _)).mono fun _ _ ⟨e1, e2⟩ => ⟨e1, e2.symm⟩)))
      have BA2 := BA.below (below_drewN (Below.refl _ wr) nq)
      have BN2 := BN.below (below_drewN (Below.refl _ wr) nq)
      have BS2 := BS.below (below_drewN (Below.refl _ wr) nq)
      have T2 := below_drewN T nq
      clear BA BS BN T s0 s1 a0 a1 a2 a3
      have BN := BN2
      obtain ⟨a0, a1, a2, a3⟩ := BA2.four
      go_wp2_with (first
          | (go_at_call 12; (with_reducible refine (sg_start_nil _ _ _).mono ?_); rintro e w1 ⟨rfl, rfl⟩)
          | (go_at_call 14; (with_reducible refine (sg_last_none _ _ (sg_starts_nil _)).mono ?_); rintro e w1 ⟨rfl, rfl⟩)
          | (go_at_call 15; (with_reducible refine (hR _ _ (sg_kept_nil _)).mono ?_); rintro e w1 ⟨rfl, rfl⟩)
          | (go_at_call 16; (with_reducible refine (hA _ _ (sg_kept_nil _)).mono ?_); rintro e w1 ⟨rfl, rfl⟩)
          | (go_at_call 17; (with_reducible refine (sg_at_none _ _ _ (sg_kept_nil _)).mono ?_); rintro e w1 ⟨rfl, rfl⟩)
          | (go_at_call 18; (with_reducible refine (sg_line_none _ _ _ (sg_kept_nil _)).mono ?_); rintro e w1 ⟨rfl, rfl⟩)
          | (go_at_call 19; (with_reducible refine (sg_starts_nil _).mono ?_); rintro e w1 ⟨rfl, rfl⟩)
          | (go_at_call 20; (with_reducible refine (sg_kept_nil _).mono ?_); rintro e w1 ⟨rfl, rfl⟩))
      go_roundw
      case rel => exact ⟨1, rfl, Or.inr (Or.inl rfl), BA2, BN, BS2, T2⟩
      case measure => simp [intOf]
    · go_upto_region 9 with (first
          | (go_at_call 12; (with_reducible refine (sg_start_zero _ _ _ _ _ _ _ _ _ _ BN).mono ?_); rintro e w1 ⟨rfl, rfl⟩)
          | (go_at_call 14; (with_reducible refine (sg_last_none _ _ (sg_starts_any _ _ _ _ _ _ _ _ _ BN)).mono ?_); rintro e w1 ⟨rfl, rfl⟩)
          | (go_at_call 15; (with_reducible refine (hR _ _ (sg_kept_any _ _ _ _ _ 0 _ _ _ _ _ BN)).mono ?_); rintro e w1 ⟨rfl, rfl⟩)
          | (go_at_call 16; (with_reducible refine (hA _ _ (sg_kept_any _ _ _ _ _ 0 _ _ _ _ _ BN)).mono ?_); rintro e w1 ⟨rfl, rfl⟩)
          | (go_at_call 17; (with_reducible refine (sg_at_none _ _ _ (sg_kept_any _ _ _ _ _ 0 _ _ _ _ _ BN)).mono ?_); rintro e w1 ⟨rfl, rfl⟩)
          | (go_at_call 18; (with_reducible refine (sg_line_none _ _ _ (sg_kept_any _ _ _ _ _ 0 _ _ _ _ _ BN)).mono ?_); rintro e w1 ⟨rfl, rfl⟩)
          | (go_at_call 19; (with_reducible refine (sg_starts_any _ _ _ _ _ _ _ _ _ BN).mono ?_); rintro e w1 ⟨rfl, rfl⟩)
          | (go_at_call 20; (with_reducible refine (sg_kept_any _ _ _ _ _ 0 _ _ _ _ _ BN).mono ?_); rintro e w1 ⟨rfl, rfl⟩))
      go_quiet (first
          | (go_at_call 15; refine Calls.quiet_of_same ((hR _ _ (sg_kept_any _ _ _ _ _ 0 _ _ _ _ _ (BN.below (below_drewN (Below.refl _ wr) _)))).mono fun _ _ ⟨e1, e2⟩ => ⟨e1, e2.symm⟩))
          | (go_at_call 16; refine Calls.quiet_of_same ((hA _ _ (sg_kept_any _ _ _ _ _ 0 _ _ _ _ _ (BN.below (below_drewN (Below.refl _ wr) _)))).mono fun _ _ ⟨e1, e2⟩ => ⟨e1, e2.symm⟩)))
      have BA2 := BA.below (below_drewN (Below.refl _ wr) nq)
      have BN2 := BN.below (below_drewN (Below.refl _ wr) nq)
      have BS2 := BS.below (below_drewN (Below.refl _ wr) nq)
      have T2 := below_drewN T nq
      clear BA BS BN T s0 s1 a0 a1 a2 a3
      have BN := BN2
      obtain ⟨a0, a1, a2, a3⟩ := BA2.four
      go_wp2_with (first
          | (go_at_call 12; (with_reducible refine (sg_start_zero _ _ _ _ _ _ _ _ _ _ BN).mono ?_); rintro e w1 ⟨rfl, rfl⟩)
          | (go_at_call 14; (with_reducible refine (sg_last_none _ _ (sg_starts_any _ _ _ _ _ _ _ _ _ BN)).mono ?_); rintro e w1 ⟨rfl, rfl⟩)
          | (go_at_call 15; (with_reducible refine (hR _ _ (sg_kept_any _ _ _ _ _ 0 _ _ _ _ _ BN)).mono ?_); rintro e w1 ⟨rfl, rfl⟩)
          | (go_at_call 16; (with_reducible refine (hA _ _ (sg_kept_any _ _ _ _ _ 0 _ _ _ _ _ BN)).mono ?_); rintro e w1 ⟨rfl, rfl⟩)
          | (go_at_call 17; (with_reducible refine (sg_at_none _ _ _ (sg_kept_any _ _ _ _ _ 0 _ _ _ _ _ BN)).mono ?_); rintro e w1 ⟨rfl, rfl⟩)
          | (go_at_call 18; (with_reducible refine (sg_line_none _ _ _ (sg_kept_any _ _ _ _ _ 0 _ _ _ _ _ BN)).mono ?_); rintro e w1 ⟨rfl, rfl⟩)
          | (go_at_call 19; (with_reducible refine (sg_starts_any _ _ _ _ _ _ _ _ _ BN).mono ?_); rintro e w1 ⟨rfl, rfl⟩)
          | (go_at_call 20; (with_reducible refine (sg_kept_any _ _ _ _ _ 0 _ _ _ _ _ BN).mono ?_); rintro e w1 ⟨rfl, rfl⟩))
      go_roundw
      case rel => exact ⟨2, rfl, Or.inr (Or.inr rfl), BA2, BN, BS2, T2⟩
      case measure => simp [intOf]
    · go_wp2_with (go_at_call 10; (with_reducible refine (sg_copy_nil _).mono ?_); rintro e w1 ⟨rfl, rfl⟩)
      go_ret
      exact ⟨rfl, T⟩
theorem SaggedNone_walk (x y t n : Int) (hx : Word x) (hy : Word y) (ht : Word t) (hn : Word n) (w : World) : Calls Try.prog 4 #[.agg #[eU x, eU y, eU t, eU n]] w fun e w' => e = .returned (.bool true) ∧ Below w.heap.size w w' := by
  by_cases h : n = 0
  · subst h
    exact none_zero x y t w
  · exact none_more x y t n w h (by simpa using h)
end Go.Proofs.Ytknpfcnjnpcboaa
