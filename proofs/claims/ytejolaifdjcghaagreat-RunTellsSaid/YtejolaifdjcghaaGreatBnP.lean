/- A run of a bent curve as an object: how it is made, how a copy starts, what it reaches. -/
import Derived.Test.YtejolaifdjcghaaGreatBnO
namespace Go.Proofs.YtejolaifdjcghaaGreat
open Go.RowKit Go.Shelf W
set_option linter.unusedVariables false
theorem Bn.new (w : World) (p F q R o x k : Int) : Bn (w.alloc (.cells #[eU p, eU 0, eU 0, eU F, eU q, eU 0, eU 0, eU R, eU o, eU x, eI k] 68)) w.heap.size p F q R o x k := Box.new w 68 _
set_option maxRecDepth 100000 in
set_option maxHeartbeats 2000000 in
theorem bn_copy_any (B : Nat) (p F q R o x k : Int) (w : World) (h : Bn w B p F q R o x k) :
    Calls Tryz.prog 99 #[.pointer (some ⟨B, 0, none⟩)] w fun e w' => e = .returned (.pointer (some ⟨w.heap.size, 0, none⟩)) ∧ Bn w' w.heap.size p F q R o x k ∧ Below w.heap.size w w' := by
  obtain ⟨c0, c1, c2, c3, c4, c5, c6, c7, c8, c9, c10⟩ := h.cells
  go_enter Tryz.func99, Tryz.ntmps99
  go_wp2
  go_ret
  exact ⟨rfl, Bn.new w p F q R o x k, up1 w _⟩
theorem bn_copy_nil (w : World) : Calls Tryz.prog 99 #[.pointer none] w fun e w' => e = .returned (.pointer none) ∧ w = w' := by
  go_enter Tryz.func99, Tryz.ntmps99
  go_wp2
  go_ret
  exact ⟨rfl, rfl⟩
set_option maxRecDepth 100000 in
set_option maxHeartbeats 2000000 in
theorem bn_reach_of (B : Nat) (p F q R o x k y a b m d d2 r : Int) (w : World) (h : Bn w B p F q R o x k) (hk : (k == 0) = false) (hy : ¬ (4611686018427387904 : Int) < y)
    (hm : max a b = m) (hd : IntKind.u64.wrap (9223372036854775808 - x) = d) (hd2 : min m d = d2) (hr : IntKind.u64.wrap (x + d2) = r)
    (hA : ∀ w, Calls Tryz.prog 82 #[.agg #[eU p, eU 0, eU 0, eU F], eU y] w fun e w' => e = .returned (eU a) ∧ Below w.heap.size w w')
    (hB : ∀ w, Calls Tryz.prog 82 #[.agg #[eU q, eU 0, eU 0, eU R], eU y] w fun e w' => e = .returned (eU b) ∧ Below w.heap.size w w') :
    Calls Tryz.prog 77 #[.pointer (some ⟨B, 0, none⟩), eU y] w fun e w' => e = .returned (eU r) ∧ Below w.heap.size w w' := by
  have hS := fun w h => bn_starts_any B p F q R o x k w h
  have BC := h
  clear h
  go_enter Tryz.func77, Tryz.ntmps77
  go_upto_region 5 with (go_at_call 79; (with_reducible refine (hS _ BC).mono ?_); rintro e w1 ⟨rfl, rfl⟩)
  obtain ⟨c0, c1, c2, c3, c4, c5, c6, c7, c8, c9, c10⟩ := BC.cells
  go_cut [5] from 6 (fun s5 wx => s5 = eU m ∧ Bn wx B p F q R o x k ∧ Below w.heap.size w wx)
  case first =>
    go_region_held3 (fun w' => BnC w' B p F q R o x k)
      (first | exact ⟨c0, c1, c2, c3, c4, c5, c6, c7, c8, c9, c10⟩ | exact (BC.below hb2).cells | exact (BC.below hb3).cells | exact (BC.below (up hb2 hb3 hb2.size)).cells | exact (BC.below (up hb3 hb2 hb3.size)).cells)
      (first
        | (go_at_call 82; (with_reducible refine (hA _).mono ?_); rintro e w2 ⟨rfl, hb2⟩; (first | replace hb2 := undrew hb2 | replace hb2 := undrewN hb2 | skip))
        | (go_at_call 82; (with_reducible refine (hB _).mono ?_); rintro e w3 ⟨rfl, hb3⟩; (first | replace hb3 := undrew hb3 | replace hb3 := undrewN hb3 | skip)))
    all_goals
      go_wp2_with fail
      go_meet
      first
        | exact ⟨rfl, BC.below (up hb2 hb3 hb2.size), up hb2 hb3 hb2.size⟩
        | exact ⟨rfl, BC.below (up hb3 hb2 hb3.size), up hb3 hb2 hb3.size⟩
  case rest =>
    obtain ⟨rfl, BC2, T2⟩ := hcut
    clear c0 c1 c2 c3 c4 c5 c6 c7 c8 c9 c10
    obtain ⟨c0, c1, c2, c3, c4, c5, c6, c7, c8, c9, c10⟩ := BC2.cells
    go_wp2
    go_region
    all_goals go_wp2
    all_goals go_ret
    all_goals exact ⟨rfl, T2.drew⟩
theorem bn_reach_far (B : Nat) (p F q R o x k y : Int) (w : World) (h : Bn w B p F q R o x k) (hk : (k == 0) = false) (hy : (4611686018427387904 : Int) < y) :
    Calls Tryz.prog 77 #[.pointer (some ⟨B, 0, none⟩), eU y] w fun e w' => e = .returned (eU 9223372036854775808) ∧ w = w' := by
  have hS := bn_starts_any B p F q R o x k w h
  clear h
  go_enter Tryz.func77, Tryz.ntmps77
  go_wp2_with (go_at_call 79; (with_reducible refine hS.mono ?_); rintro e w1 ⟨rfl, rfl⟩)
  go_ret
  exact ⟨rfl, rfl⟩
theorem bn_start_nil (X Y : Int) (w : World) : Calls Tryz.prog 78 #[.pointer none, eU X, eU Y] w fun e w' => e = .returned (.tuple #[]) ∧ w = w' := by
  go_enter Tryz.func78, Tryz.ntmps78
  go_wp2
  (try simp only [Exit.inBlock, Exit.then]); refine bodyPost_ret (results_none rfl _ _ _) rfl ?_
  exact ⟨rfl, rfl⟩
theorem bn_start_zero (B : Nat) (p F q R x k X Y : Int) (w : World) (h : Bn w B p F q R 0 x k) : Calls Tryz.prog 78 #[.pointer (some ⟨B, 0, none⟩), eU X, eU Y] w fun e w' => e = .returned (.tuple #[]) ∧ w = w' := by
  obtain ⟨c0, c1, c2, c3, c4, c5, c6, c7, c8, c9, c10⟩ := h.cells
  clear h
  go_enter Tryz.func78, Tryz.ntmps78
  go_wp2
  (try simp only [Exit.inBlock, Exit.then]); refine bodyPost_ret (results_none rfl _ _ _) rfl ?_
  exact ⟨rfl, rfl⟩
theorem Bn.start {w : World} {B : Nat} {p F q R o x k : Int} (h : Bn w B p F q R o x k) (p' q' x' k' : Int) :
    Bn ((((w.setCell ⟨B, 0, none⟩ (eU p')).setCell ⟨B, 4, none⟩ (eU q')).setCell ⟨B, 9, none⟩ (eU x')).setCell ⟨B, 10, none⟩ (eI k')) B p' F q' R o x' k' :=
  ((((Box.set h 0 (eU p')).set 4 (eU q')).set 9 (eU x')).set 10 (eI k'))
theorem But.start {w w' : World} {B : Nat} (h : But B w w') (p' q' x' k' : Int) : But B w ((((w'.setCell ⟨B, 0, none⟩ (eU p')).setCell ⟨B, 4, none⟩ (eU q')).setCell ⟨B, 9, none⟩ (eU x')).setCell ⟨B, 10, none⟩ (eI k')) :=
  (((h.set 0 _).set 4 _).set 9 _).set 10 _
set_option maxRecDepth 100000 in
set_option maxHeartbeats 2000000 in
theorem bn_start_first (B : Nat) (p F q R o x X Y X1 Y1 r : Int) (w : World) (h : Bn w B p F q R o x 0) (ho : (o == 0) = false)
    (hX : min X 9223372036854775808 = X1) (hY : min Y 4611686018427387904 = Y1)
    (hP : ∀ w, Calls Tryz.prog 83 #[eU Y, eU o] w fun e w' => e = .returned (eU r) ∧ Below w.heap.size w w') :
    Calls Tryz.prog 78 #[.pointer (some ⟨B, 0, none⟩), eU X, eU Y] w fun e w' => e = .returned (.tuple #[]) ∧ Bn w' B Y1 F r R o X1 1 ∧ But B w w' := by
  have BC := h
  have hf0 := Box.thaw h 0
  have hf4 := Box.thaw h 4
  have hf9 := Box.thaw h 9
  have hf10 := Box.thaw h 10
  obtain ⟨c0, c1, c2, c3, c4, c5, c6, c7, c8, c9, c10⟩ := h.cells
  clear h
  go_enter Tryz.func78, Tryz.ntmps78
  go_wp2_with (go_at_call 83; (with_reducible refine (hP _).mono ?_); rintro e w1 ⟨rfl, hb1⟩; replace BC := BC.below hb1; clear c0 c1 c2 c3 c4 c5 c6 c7 c8 c9 c10 hf0 hf4 hf9 hf10; have hf0 := Box.thaw BC 0; have hf4 := Box.thaw BC 4; have hf9 := Box.thaw BC 9; have hf10 := Box.thaw BC 10; obtain ⟨c0, c1, c2, c3, c4, c5, c6, c7, c8, c9, c10⟩ := BC.cells)
  go_end0
  exact ⟨rfl, BC.start Y1 r X1 1, (But.of hb1).start Y1 r X1 1⟩
set_option maxRecDepth 100000 in
set_option maxHeartbeats 4000000 in
theorem bn_start_more (B : Nat) (p F q R o x k X Y X1 Y1 X2 n r a b p1 q1 : Int) (w : World) (h : Bn w B p F q R o x k) (ho : (o == 0) = false) (hk : 0 < k) (hk2 : IntKind.i64.wrap (k + 1) = k + 1)
    (hX : min X 9223372036854775808 = X1) (hY : min Y 4611686018427387904 = Y1) (hX2 : max X1 x = X2) (hn : IntKind.u64.wrap (X2 - x) = n) (hp : min Y1 a = p1) (hq : min r b = q1)
    (hP : ∀ w, Calls Tryz.prog 83 #[eU Y, eU o] w fun e w' => e = .returned (eU r) ∧ Below w.heap.size w w')
    (hA : ∀ w, Calls Tryz.prog 81 #[.agg #[eU p, eU 0, eU 0, eU F], eU n] w fun e w' => e = .returned (eU a) ∧ Below w.heap.size w w')
    (hB : ∀ w, Calls Tryz.prog 81 #[.agg #[eU q, eU 0, eU 0, eU R], eU n] w fun e w' => e = .returned (eU b) ∧ Below w.heap.size w w') :
    Calls Tryz.prog 78 #[.pointer (some ⟨B, 0, none⟩), eU X, eU Y] w fun e w' => e = .returned (.tuple #[]) ∧ Bn w' B p1 F q1 R o X2 (k + 1) ∧ But B w w' := by
  have BC := h
  obtain ⟨c0, c1, c2, c3, c4, c5, c6, c7, c8, c9, c10⟩ := h.cells
  clear h
  go_enter Tryz.func78, Tryz.ntmps78
  go_upto_region 6 with (go_at_call 83; (with_reducible refine (hP _).mono ?_); rintro e w1 ⟨rfl, hb1⟩; replace BC := BC.below hb1; clear c0 c1 c2 c3 c4 c5 c6 c7 c8 c9 c10; obtain ⟨c0, c1, c2, c3, c4, c5, c6, c7, c8, c9, c10⟩ := BC.cells)
  go_cut [6, 7] from 9 (fun s6 s7 wx => s6 = eU p1 ∧ s7 = eU q1 ∧ Bn wx B p F q R o x k ∧ Below w.heap.size w wx)
  case first =>
    go_region_held3 (fun w' => BnC w' B p F q R o x k)
      (first | exact ⟨c0, c1, c2, c3, c4, c5, c6, c7, c8, c9, c10⟩ | exact (BC.below hb2).cells | exact (BC.below hb3).cells | exact (BC.below (up hb2 hb3 hb2.size)).cells | exact (BC.below (up hb3 hb2 hb3.size)).cells)
      (first
        | (go_at_call 81; (with_reducible refine (hA _).mono ?_); rintro e w2 ⟨rfl, hb2⟩; (first | replace hb2 := undrew hb2 | replace hb2 := undrewN hb2 | skip))
        | (go_at_call 81; (with_reducible refine (hB _).mono ?_); rintro e w3 ⟨rfl, hb3⟩; (first | replace hb3 := undrew hb3 | replace hb3 := undrewN hb3 | skip)))
    all_goals
      go_wp2_with fail
      go_meet
      first
        | exact ⟨rfl, rfl, BC.below (up hb2 hb3 hb2.size), up hb1 (up hb2 hb3 hb2.size) hb1.size⟩
        | exact ⟨rfl, rfl, BC.below (up hb3 hb2 hb3.size), up hb1 (up hb3 hb2 hb3.size) hb1.size⟩
  case rest =>
    obtain ⟨rfl, rfl, BC2, T2⟩ := hcut
    clear c0 c1 c2 c3 c4 c5 c6 c7 c8 c9 c10 hP hA hB BC
    have hf0 := Box.thaw BC2 0
    have hf4 := Box.thaw BC2 4
    have hf9 := Box.thaw BC2 9
    have hf10 := Box.thaw BC2 10
    obtain ⟨c0, c1, c2, c3, c4, c5, c6, c7, c8, c9, c10⟩ := BC2.cells
    go_wp2
    go_end0
    exact ⟨rfl, BC2.start p1 q1 X2 (k + 1), (But.of T2).start p1 q1 X2 (k + 1)⟩
end Go.Proofs.YtejolaifdjcghaaGreat
