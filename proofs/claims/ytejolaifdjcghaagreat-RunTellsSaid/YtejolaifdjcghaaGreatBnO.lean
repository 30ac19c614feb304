/- A run of a bent curve as an object: what its calls answer and do. -/
import Derived.Test.YtejolaifdjcghaaGreatBnL
import Derived.Deep.CutRange
namespace Go.Proofs.YtejolaifdjcghaaGreat
open Go.RowKit Go.Shelf W
set_option linter.unusedVariables false
/-- Block B holds a run: the heights p and q of the lines of slopes F and R, by how much the second one is above a start, the last start, how many started. -/
def Bn (w : World) (B : Nat) (p F q R o x k : Int) : Prop := Box w B #[eU p, eU 0, eU 0, eU F, eU q, eU 0, eU 0, eU R, eU o, eU x, eI k] 68
abbrev BnC (w : World) (B : Nat) (p F q R o x k : Int) : Prop :=
  w.cell? ⟨B, 0, none⟩ = some (.int .u64 p) ∧ w.cell? ⟨B, 1, none⟩ = some (.int .u64 0) ∧ w.cell? ⟨B, 2, none⟩ = some (.int .u64 0) ∧ w.cell? ⟨B, 3, none⟩ = some (.int .u64 F) ∧
  w.cell? ⟨B, 4, none⟩ = some (.int .u64 q) ∧ w.cell? ⟨B, 5, none⟩ = some (.int .u64 0) ∧ w.cell? ⟨B, 6, none⟩ = some (.int .u64 0) ∧ w.cell? ⟨B, 7, none⟩ = some (.int .u64 R) ∧
  w.cell? ⟨B, 8, none⟩ = some (.int .u64 o) ∧ w.cell? ⟨B, 9, none⟩ = some (.int .u64 x) ∧ w.cell? ⟨B, 10, none⟩ = some (.int .i64 k)
theorem Bn.cells {w : World} {B : Nat} {p F q R o x k : Int} (h : Bn w B p F q R o x k) : BnC w B p F q R o x k :=
  ⟨Box.cell h 0, Box.cell h 1, Box.cell h 2, Box.cell h 3, Box.cell h 4, Box.cell h 5, Box.cell h 6, Box.cell h 7, Box.cell h 8, Box.cell h 9, Box.cell h 10⟩
theorem Bn.below {W w : World} {B : Nat} {p F q R o x k : Int} (h : Bn W B p F q R o x k) (hb : Below W.heap.size W w) : Bn w B p F q R o x k := Box.below h hb
theorem Bn.lt {w : World} {B : Nat} {p F q R o x k : Int} (h : Bn w B p F q R o x k) : B < w.heap.size := Box.lt h
theorem bn_starts_any (B : Nat) (p F q R o x k : Int) (w : World) (h : Bn w B p F q R o x k) :
    Calls Tryz.prog 79 #[.pointer (some ⟨B, 0, none⟩)] w fun e w' => e = .returned (eI k) ∧ w = w' := by
  obtain ⟨c0, c1, c2, c3, c4, c5, c6, c7, c8, c9, c10⟩ := h.cells
  go_enter Tryz.func79, Tryz.ntmps79
  go_wp2
  go_ret
  exact ⟨rfl, rfl⟩
theorem bn_starts_nil (w : World) : Calls Tryz.prog 79 #[.pointer none] w fun e w' => e = .returned (eI 0) ∧ w = w' := by
  go_enter Tryz.func79, Tryz.ntmps79
  go_wp2
  go_ret
  exact ⟨rfl, rfl⟩
theorem bn_last_any (B : Nat) (p F q R o x k : Int) (w : World) (h : Bn w B p F q R o x k) (hk : (k == 0) = false) :
    Calls Tryz.prog 76 #[.pointer (some ⟨B, 0, none⟩)] w fun e w' => e = .returned (.tuple #[eU x, .bool true]) ∧ w = w' := by
  have hS := bn_starts_any B p F q R o x k w h
  obtain ⟨c0, c1, c2, c3, c4, c5, c6, c7, c8, c9, c10⟩ := h.cells
  clear h
  go_enter Tryz.func76, Tryz.ntmps76
  go_wp2_with (go_at_call 79; (with_reducible refine hS.mono ?_); rintro e w1 ⟨rfl, rfl⟩)
  go_ret2
  exact ⟨rfl, rfl⟩
theorem bn_last_none (V : Value) (w : World) (hS : Calls Tryz.prog 79 #[V] w fun e w' => e = .returned (eI 0) ∧ w = w') :
    Calls Tryz.prog 76 #[V] w fun e w' => e = .returned (.tuple #[eU 0, .bool false]) ∧ w = w' := by
  go_enter Tryz.func76, Tryz.ntmps76
  go_wp2_with (go_at_call 79; (with_reducible refine hS.mono ?_); rintro e w1 ⟨rfl, rfl⟩)
  go_ret2
  exact ⟨rfl, rfl⟩
theorem bn_at_none (V : Value) (t : Int) (w : World) (hS : Calls Tryz.prog 79 #[V] w fun e w' => e = .returned (eI 0) ∧ w = w') :
    Calls Tryz.prog 75 #[V, eU t] w fun e w' => e = .returned (eU 0) ∧ w = w' := by
  go_enter Tryz.func75, Tryz.ntmps75
  go_wp2_with (go_at_call 79; (with_reducible refine hS.mono ?_); rintro e w1 ⟨rfl, rfl⟩)
  go_ret
  exact ⟨rfl, rfl⟩
theorem bn_reach_none0 (V : Value) (w : World) (hS : Calls Tryz.prog 79 #[V] w fun e w' => e = .returned (eI 0) ∧ w = w') :
    Calls Tryz.prog 77 #[V, eU 0] w fun e w' => e = .returned (eU 0) ∧ w = w' := by
  go_enter Tryz.func77, Tryz.ntmps77
  go_wp2_with (go_at_call 79; (with_reducible refine hS.mono ?_); rintro e w1 ⟨rfl, rfl⟩)
  go_ret
  exact ⟨rfl, rfl⟩
theorem bn_reach_none (V : Value) (y : Int) (w : World) (hy : (y == 0) = false) (hS : Calls Tryz.prog 79 #[V] w fun e w' => e = .returned (eI 0) ∧ w = w') :
    Calls Tryz.prog 77 #[V, eU y] w fun e w' => e = .returned (eU 9223372036854775808) ∧ w = w' := by
  go_enter Tryz.func77, Tryz.ntmps77
  go_wp2_with (go_at_call 79; (with_reducible refine hS.mono ?_); rintro e w1 ⟨rfl, rfl⟩)
  go_ret
  exact ⟨rfl, rfl⟩
set_option maxRecDepth 100000 in
set_option maxHeartbeats 2000000 in
theorem bn_at_of (B : Nat) (p F q R o x k t m v : Int) (w : World) (h : Bn w B p F q R o x k) (hk : (k == 0) = false)
    (hM : ∀ w, Calls Tryz.prog 38 #[eU t, eU x] w fun e w' => e = .returned (eU m) ∧ Below w.heap.size w w')
    (hL : ∀ w, Calls Tryz.prog 80 #[.func (.func 81) #[.agg #[eU p, eU 0, eU 0, eU F]] #[], .func (.func 81) #[.agg #[eU q, eU 0, eU 0, eU R]] #[], eU m] w fun e w' => e = .returned (eU v) ∧ Below w.heap.size w w') :
    Calls Tryz.prog 75 #[.pointer (some ⟨B, 0, none⟩), eU t] w fun e w' => e = .returned (eU v) ∧ Below w.heap.size w w' := by
  have hS := bn_starts_any B p F q R o x k w h
  have BC := h
  clear h
  go_enter Tryz.func75, Tryz.ntmps75
  go_upto_region 3 with (go_at_call 79; (with_reducible refine hS.mono ?_); rintro e w1 ⟨rfl, rfl⟩)
  obtain ⟨c0, c1, c2, c3, c4, c5, c6, c7, c8, c9, c10⟩ := BC.cells
  go_region_held3 (fun w' => BnC w' B p F q R o x k)
    (first | exact ⟨c0, c1, c2, c3, c4, c5, c6, c7, c8, c9, c10⟩ | exact (BC.below hb2).cells | exact (BC.below (up hb2 hb3 hb2.size)).cells)
    (first
      | (go_at_call 38; (with_reducible refine (hM _).mono ?_); rintro e w2 ⟨rfl, hb2⟩; (first | replace hb2 := undrew hb2 | replace hb2 := undrewN hb2 | skip))
      | (go_at_call 80; (with_reducible refine (hL _).mono ?_); rintro e w3 ⟨rfl, hb3⟩; (first | replace hb3 := undrew hb3 | replace hb3 := undrewN hb3 | skip)))
  all_goals go_wp2
  all_goals go_ret
  all_goals exact ⟨rfl, up hb2 hb3 hb2.size⟩
end Go.Proofs.YtejolaifdjcghaaGreat
