/- A copy starts; a run is made, and copied. -/
import Derived.Test.YtejolaifdjcghaaGreatSgJ
namespace Go.Proofs.YtejolaifdjcghaaGreat
open Go.RowKit Go.Shelf W
set_option linter.unusedVariables false
set_option maxRecDepth 100000
theorem sg_start_nil (X Y : Int) (w : World) : Calls Tryz.prog 103 #[.pointer none, eU X, eU Y] w fun e w' => e = .returned (.tuple #[]) ∧ w = w' := by
  go_enter Tryz.func103, Tryz.ntmps103
  go_wp2
  (try simp only [Exit.inBlock, Exit.then]); refine bodyPost_ret (results_none rfl _ _ _) rfl ?_
  exact ⟨rfl, rfl⟩
theorem sg_start_zero (B : Nat) (f l r : Int) (v : Value) (x k X Y : Int) (w : World) (h : SgB w B f l r v x k false) : Calls Tryz.prog 103 #[.pointer (some ⟨B, 0, none⟩), eU X, eU Y] w fun e w' => e = .returned (.tuple #[]) ∧ w = w' := by
  obtain ⟨c0, c1, c2, c3, c4, c5, c6, c7, c8, c9⟩ := h.cells
  clear h
  go_enter Tryz.func103, Tryz.ntmps103
  go_wp2
  (try simp only [Exit.inBlock, Exit.then]); refine bodyPost_ret (results_none rfl _ _ _) rfl ?_
  exact ⟨rfl, rfl⟩
theorem ageF_len (f l r x : Int) (K : List (Int × Int)) : (ageF f l r x K).length ≤ K.length := by
  obtain ⟨d, e, _⟩ := ageF_sub f l r x K
  rw [e, List.length_drop]; omega
theorem ageF_mem {f l r x : Int} {K : List (Int × Int)} : ∀ k ∈ ageF f l r x K, k ∈ K := fun k hk => by
  obtain ⟨d, e, _⟩ := ageF_sub f l r x K
  rw [e] at hk
  exact List.mem_of_mem_drop hk
set_option maxHeartbeats 4000000 in
theorem sg_start (m B : Nat) (K : List (Int × Int)) (f l r x k X Y X1 Y1 X2 : Int) (v : Value) (w : World) (hn2 : K.length ≤ 900) (hS : SgB w B f l r v x k true) (hR : KeptAt w m v K) (hmw : m ≤ w.heap.size) (hc : CvS f l r) (hx : 0 ≤ x ∧ x ≤ 9223372036854775808)
    (hXw : Word X) (hYw : Word Y) (hX : min X 9223372036854775808 = X1) (hX2 : max x X1 = X2) (hY : min Y 4611686018427387904 = Y1) (hk : IntKind.i64.wrap (k + 1) = k + 1)
    (hK : ∀ k ∈ K, 0 ≤ k.1 ∧ k.1 ≤ x ∧ 0 ≤ k.2 ∧ k.2 ≤ 4611686018427387904) :
    Calls Tryz.prog 103 #[.pointer (some ⟨B, 0, none⟩), eU X, eU Y] w fun e w' => e = .returned (.tuple #[]) ∧
      (∃ v' K', SgB w' B f l r v' X2 (k + 1) true ∧ KeptAt w' m v' K' ∧ IsJoin f l r X2 Y1 (ageF f l r X2 K) K' ∧ (v'.ownBlock = v.ownBlock ∨ ∃ g, v'.ownBlock = some g ∧ w.heap.size ≤ g)) ∧ Fr B v.ownBlock w w' := by
  have hx2 : 0 ≤ X2 ∧ X2 ≤ 9223372036854775808 := by unfold Word at hXw; omega
  have hy1 : 0 ≤ Y1 ∧ Y1 ≤ 4611686018427387904 := by unfold Word at hYw; omega
  have hK2 : ∀ k ∈ K, 0 ≤ k.1 ∧ k.1 ≤ X2 ∧ 0 ≤ k.2 ∧ k.2 ≤ 4611686018427387904 := fun k hk => by have := hK k hk; omega
  have hBr := hR.ne hS (by decide)
  obtain ⟨W1, hW1⟩ : ∃ W1, (w.setCell ⟨B, 7, none⟩ (.int .u64 X2)).setCell ⟨B, 8, none⟩ (.int .i64 (k + 1)) = W1 := ⟨_, rfl⟩
  have hS1 : SgB W1 B f l r v X2 (k + 1) true := by
    rw [← hW1]
    exact Box.set (Box.set hS 7 (.int .u64 X2)) 8 (.int .i64 (k + 1))
  have hR1 : KeptAt W1 m v K := by
    rw [← hW1]
    exact hR.of fun g hg => by
      have : g ≠ B := fun e => hBr (by rw [hg, e])
      rw [Below.heap_setCell _ _ _ g (by exact this), Below.heap_setCell _ _ _ g (by exact this)]
  have F1 : But B w W1 := by rw [← hW1]; exact ((But.refl B w).set 7 _).set 8 _
  have hs1 : w.heap.size ≤ W1.heap.size := F1.size
  have hA := sg_age m B K f l r X2 (k + 1) v W1 (by omega) hS1 hR1 hc hx2 hK2
  have hJ := fun w' v1 (h1 : SgB w' B f l r v1 X2 (k + 1) true) (h2 : KeptAt w' m v1 (ageF f l r X2 K)) (h3 : m ≤ w'.heap.size) =>
    sg_join m B (ageF f l r X2 K) f l r X2 Y1 (k + 1) v1 w' (Nat.le_trans (ageF_len _ _ _ _ _) hn2) h1 h2 h3 hc hx2 hy1 (fun q hq => hK2 q (ageF_mem q hq))
  obtain ⟨c0, c1, c2, c3, c4, c5, c6, c7, c8, c9⟩ := hS.cells
  have f7 := Box.thaw hS 7
  have f8 := Box.thaw hS 8
  clear c0 c1 c2 c3 c4 c5 c6 hx2 hy1 hK2 hK hS hR hS1 hR1
  have hJh := Lib.hid hJ
  have hF1 := Lib.hid F1
  have hs1h := Lib.hid hs1
  clear hJ F1 hs1
  go_enter Tryz.func103, Tryz.ntmps103
  go_wp2_with (first
    | (go_at_call 105; (with_reducible refine hA.mono ?_); rintro e w1 ⟨rfl, ⟨v1, S1, R1, o1⟩, F2⟩; have c7 := S1.cells.2.2.2.2.2.2.2.1)
    | (go_at_call 110; (with_reducible refine (hJh.out _ v1 S1 R1 (by have := F2.size; have := hs1h.out; omega)).mono ?_); rintro e w2 ⟨rfl, ⟨v2, K2, S2, R2, J2, o2⟩, F3⟩))
  go_end0
  have F4 : Fr B v.ownBlock w w1 := Fr.of (hF1.out.trans F2)
  refine ⟨rfl, ⟨v2, K2, S2, R2, J2, ?_⟩, F4.trans F3 (fun g hg => .inl (by rw [← o1]; exact hg))⟩
  rcases o2 with o2 | ⟨g, h1, h2⟩
  · exact .inl (by rw [o2, o1])
  · exact .inr ⟨g, h1, Nat.le_trans F4.size h2⟩
end Go.Proofs.YtejolaifdjcghaaGreat
