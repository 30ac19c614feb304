/- A run of a sagging curve as an object: how many are kept, how many started, and the neighbours that are asked. -/
import Derived.Test.YtejolaifdjcghaaGreatSgC
import Derived.Deep.DeepCutAuto
import Derived.Deep.CutBlock
namespace Go.Proofs.YtejolaifdjcghaaGreat
open Go.RowKit Go.Shelf W
set_option linter.unusedVariables false
set_option maxRecDepth 100000
/-- Block B holds a run of a curve: the slice of those kept, the last start, how many started, and whether it was made. -/
def SgB (w : World) (B : Nat) (f l r : Int) (v : Value) (x k : Int) (md : Bool) : Prop := Box w B #[eU f, eU l, eU r, eU 0, eU 0, eU r, v, eU x, eI k, .bool md] 71
abbrev SgC (w : World) (B : Nat) (f l r : Int) (v : Value) (x k : Int) (md : Bool) : Prop :=
  w.cell? ⟨B, 0, none⟩ = some (.int .u64 f) ∧ w.cell? ⟨B, 1, none⟩ = some (.int .u64 l) ∧ w.cell? ⟨B, 2, none⟩ = some (.int .u64 r) ∧ w.cell? ⟨B, 3, none⟩ = some (.int .u64 0) ∧ w.cell? ⟨B, 4, none⟩ = some (.int .u64 0) ∧
  w.cell? ⟨B, 5, none⟩ = some (.int .u64 r) ∧ w.cell? ⟨B, 6, none⟩ = some v ∧ w.cell? ⟨B, 7, none⟩ = some (.int .u64 x) ∧ w.cell? ⟨B, 8, none⟩ = some (.int .i64 k) ∧ w.cell? ⟨B, 9, none⟩ = some (.bool md)
section
variable {w W : World} {B : Nat} {f l r x k : Int} {v : Value} {md : Bool}
theorem SgB.cells (h : SgB w B f l r v x k md) : SgC w B f l r v x k md :=
  ⟨Box.cell h 0, Box.cell h 1, Box.cell h 2, Box.cell h 3, Box.cell h 4, Box.cell h 5, Box.cell h 6, Box.cell h 7, Box.cell h 8, Box.cell h 9⟩
theorem SgB.below (h : SgB W B f l r v x k md) (hb : Below W.heap.size W w) : SgB w B f l r v x k md := Box.below h hb
theorem SgB.lt (h : SgB w B f l r v x k md) : B < w.heap.size := Box.lt h
end
/-- A cell that lies stays, whatever is made. -/
theorem _root_.Go.RowKit.Below.cellAt {w w' : World} {p : Addr} {v : Value} (hb : Below w.heap.size w w') (h : w.cell? p = some v) : w'.cell? p = some v := (hb.cell (World.block_lt_of_cell? w p h)).trans h
theorem sg_starts_any (B : Nat) (f l r : Int) (v : Value) (x k : Int) (md : Bool) (w : World) (h : SgB w B f l r v x k md) :
    Calls Tryz.prog 104 #[.pointer (some ⟨B, 0, none⟩)] w fun e w' => e = .returned (eI k) ∧ w = w' := by
  obtain ⟨c0, c1, c2, c3, c4, c5, c6, c7, c8, c9⟩ := h.cells
  go_enter Tryz.func104, Tryz.ntmps104
  go_wp2
  go_ret
  exact ⟨rfl, rfl⟩
theorem sg_starts_nil (w : World) : Calls Tryz.prog 104 #[.pointer none] w fun e w' => e = .returned (eI 0) ∧ w = w' := by
  go_enter Tryz.func104, Tryz.ntmps104
  go_wp2
  go_ret
  exact ⟨rfl, rfl⟩
theorem sg_kept_any (B : Nat) (f l r : Int) (a : Option Addr) (n c : Nat) (x k : Int) (md : Bool) (w : World) (h : SgB w B f l r (.slice a n c) x k md) :
    Calls Tryz.prog 106 #[.pointer (some ⟨B, 0, none⟩)] w fun e w' => e = .returned (eI n) ∧ w = w' := by
  obtain ⟨c0, c1, c2, c3, c4, c5, c6, c7, c8, c9⟩ := h.cells
  go_enter Tryz.func106, Tryz.ntmps106
  go_wp2
  go_ret
  exact ⟨rfl, rfl⟩
theorem sg_kept_nil (w : World) : Calls Tryz.prog 106 #[.pointer none] w fun e w' => e = .returned (eI 0) ∧ w = w' := by
  go_enter Tryz.func106, Tryz.ntmps106
  go_wp2
  go_ret
  exact ⟨rfl, rfl⟩
theorem sg_last_any (B : Nat) (f l r : Int) (v : Value) (x k : Int) (md : Bool) (w : World) (h : SgB w B f l r v x k md) (hk : (k == 0) = false) :
    Calls Tryz.prog 101 #[.pointer (some ⟨B, 0, none⟩)] w fun e w' => e = .returned (.tuple #[eU x, .bool true]) ∧ w = w' := by
  have hS := sg_starts_any B f l r v x k md w h
  obtain ⟨c0, c1, c2, c3, c4, c5, c6, c7, c8, c9⟩ := h.cells
  clear h
  go_enter Tryz.func101, Tryz.ntmps101
  go_wp2_with (go_at_call 104; (with_reducible refine hS.mono ?_); rintro e w1 ⟨rfl, rfl⟩)
  go_ret2
  exact ⟨rfl, rfl⟩
theorem sg_last_none (V : Value) (w : World) (hS : Calls Tryz.prog 104 #[V] w fun e w' => e = .returned (eI 0) ∧ w = w') :
    Calls Tryz.prog 101 #[V] w fun e w' => e = .returned (.tuple #[eU 0, .bool false]) ∧ w = w' := by
  go_enter Tryz.func101, Tryz.ntmps101
  go_wp2_with (go_at_call 104; (with_reducible refine hS.mono ?_); rintro e w1 ⟨rfl, rfl⟩)
  go_ret2
  exact ⟨rfl, rfl⟩
theorem without_0 (w : World) : Calls Tryz.prog 108 #[eU 0] w fun e w' => e = .returned (eU 0) ∧ w = w' := by
  go_enter Tryz.func108, Tryz.ntmps108
  go_wp2
  go_ret
  exact ⟨rfl, rfl⟩
theorem without_pos (y : Int) (w : World) (hy : (y == 0) = false) : Calls Tryz.prog 108 #[eU y] w fun e w' => e = .returned (eU 9223372036854775808) ∧ w = w' := by
  go_enter Tryz.func108, Tryz.ntmps108
  go_wp2
  go_ret
  exact ⟨rfl, rfl⟩
theorem without_any (y : Int) (w : World) : Calls Tryz.prog 108 #[eU y] w fun e w' => e = .returned (eU (if y = 0 then 0 else 9223372036854775808)) ∧ w = w' := by
  by_cases h : y = 0
  · subst h; exact without_0 w
  · rw [if_neg h]; exact without_pos y w (by simpa using h)
-- At, Line, Reach, Ahead: without copies
theorem sg_at_none (V : Value) (t : Int) (w : World) (hS : Calls Tryz.prog 106 #[V] w fun e w' => e = .returned (eI 0) ∧ w = w') :
    Calls Tryz.prog 100 #[V, eU t] w fun e w' => e = .returned (eU 0) ∧ w = w' := by
  go_enter Tryz.func100, Tryz.ntmps100
  go_wp2_with (go_at_call 106; (with_reducible refine hS.mono ?_); rintro e w1 ⟨rfl, rfl⟩)
  go_ret
  exact ⟨rfl, rfl⟩
theorem sg_line_none (V : Value) (t : Int) (w : World) (hS : Calls Tryz.prog 106 #[V] w fun e w' => e = .returned (eI 0) ∧ w = w') :
    Calls Tryz.prog 123 #[V, eU t] w fun e w' => e = .returned (eU 0) ∧ w = w' := by
  go_enter Tryz.func123, Tryz.ntmps123
  go_wp2_with (go_at_call 106; (with_reducible refine hS.mono ?_); rintro e w1 ⟨rfl, rfl⟩)
  go_ret
  exact ⟨rfl, rfl⟩
theorem sg_reach_none (V : Value) (y : Int) (w : World) (hS : Calls Tryz.prog 106 #[V] w fun e w' => e = .returned (eI 0) ∧ w = w') :
    Calls Tryz.prog 102 #[V, eU y] w fun e w' => e = .returned (eU (if y = 0 then 0 else 9223372036854775808)) ∧ w = w' := by
  have hO := without_any y w
  generalize (if y = 0 then 0 else 9223372036854775808 : Int) = z at hO ⊢
  go_enter Tryz.func102, Tryz.ntmps102
  go_wp2_with (first | (go_at_call 106; (with_reducible refine hS.mono ?_); rintro e w1 ⟨rfl, rfl⟩) | (go_at_call 108; (with_reducible refine hO.mono ?_); rintro e w1 ⟨rfl, rfl⟩))
  go_ret
  exact ⟨rfl, rfl⟩
theorem sg_ahead_none (V : Value) (y : Int) (w : World) (hS : Calls Tryz.prog 106 #[V] w fun e w' => e = .returned (eI 0) ∧ w = w') :
    Calls Tryz.prog 124 #[V, eU y] w fun e w' => e = .returned (eU (if y = 0 then 0 else 9223372036854775808)) ∧ w = w' := by
  have hO := without_any y w
  generalize (if y = 0 then 0 else 9223372036854775808 : Int) = z at hO ⊢
  go_enter Tryz.func124, Tryz.ntmps124
  go_wp2_with (first | (go_at_call 106; (with_reducible refine hS.mono ?_); rintro e w1 ⟨rfl, rfl⟩) | (go_at_call 108; (with_reducible refine hO.mono ?_); rintro e w1 ⟨rfl, rfl⟩))
  go_ret
  exact ⟨rfl, rfl⟩
set_option maxHeartbeats 1000000 in
theorem ask_59 (B P2 P3 g o cap j n : Nat) (f l r x k a b : Int) (md bo : Bool) (pc pd : Value) (w : World) (hj : j < n) (hS : SgB w B f l r (.slice (some ⟨g, o, none⟩) n cap) x k md)
    (h2 : w.cell? ⟨P2, 0, none⟩ = some (.pointer (some ⟨B, 0, none⟩))) (h3 : w.cell? ⟨P3, 0, none⟩ = some (.func (.func 113) #[] #[pc, pd]))
    (ha : w.cell? ⟨g, o + j * 2, none⟩ = some (.int .u64 a)) (hb : w.cell? ⟨g, o + j * 2 + 1, none⟩ = some (.int .u64 b))
    (hT : ∀ w', Below w.heap.size w w' → Calls Tryz.prog 113 #[.agg #[eU a, eU b], pc, pd] w' fun e w'' => e = .returned (.bool bo) ∧ Below w'.heap.size w' w'') :
    Calls Tryz.prog 119 #[.int .i64 j, .pointer (some ⟨P3, 0, none⟩), .pointer (some ⟨P2, 0, none⟩)] w fun e w' => e = .returned (.bool bo) ∧ Below w.heap.size w w' := by
  obtain ⟨c0, c1, c2, c3, c4, c5, c6, c7, c8, c9⟩ := hS.cells
  have i1 : (j : Int) < (n : Int) := by omega
  have i2 : (0 : Int) ≤ (j : Int) := by omega
  have T := Below.refl w.heap.size w
  have c6h := Lib.hid c6
  clear c0 c1 c2 c3 c4 c5 c7 c8 c9 hS
  go_enter Tryz.func119, Tryz.ntmps119
  go_upto_region 1 with (fail)
  have S0 : ∀ w', Below w.heap.size w w' → (w'.cell? ⟨P2, 0, none⟩ = some (.pointer (some ⟨B, 0, none⟩)) ∧ w'.cell? ⟨P3, 0, none⟩ = some (.func (.func 113) #[] #[pc, pd])) ∧ w'.cell? ⟨B, 6, none⟩ = some (.slice (some ⟨g, o, none⟩) n cap) ∧ w'.cell? ⟨g, o + j * 2, none⟩ = some (.int .u64 a) ∧ w'.cell? ⟨g, o + j * 2 + 1, none⟩ = some (.int .u64 b) := fun w' hb' =>
    ⟨⟨hb'.cellAt h2, hb'.cellAt h3⟩, hb'.cellAt c6, hb'.cellAt ha, hb'.cellAt hb⟩
  go_region_held3 (fun w' => (w'.cell? ⟨P2, 0, none⟩ = some (.pointer (some ⟨B, 0, none⟩)) ∧ w'.cell? ⟨P3, 0, none⟩ = some (.func (.func 113) #[] #[pc, pd])) ∧ w'.cell? ⟨B, 6, none⟩ = some (.slice (some ⟨g, o, none⟩) n cap) ∧ w'.cell? ⟨g, o + j * 2, none⟩ = some (.int .u64 a) ∧ w'.cell? ⟨g, o + j * 2 + 1, none⟩ = some (.int .u64 b))
    (first | exact ⟨⟨h2, h3⟩, c6, ha, hb⟩ | exact S0 _ T | exact S0 _ T.drew | exact S0 _ hb2)
    (first | (go_at_call 113; (with_reducible refine (hT _ (by first | exact T | exact T.drew)).mono ?_); rintro e w2 ⟨rfl, hb2⟩; (first | replace hb2 := undrew hb2 | replace hb2 := undrewN hb2 | skip)))
  all_goals go_wp2
  all_goals go_ret
  all_goals exact ⟨rfl, hb2⟩
set_option maxHeartbeats 1000000 in
theorem ask_55 (B P2 P3 g o cap j n : Nat) (f l r x k a b : Int) (md bo : Bool) (pc pd : Value) (w : World) (hj : j < n) (hS : SgB w B f l r (.slice (some ⟨g, o, none⟩) n cap) x k md)
    (h2 : w.cell? ⟨P2, 0, none⟩ = some (.pointer (some ⟨B, 0, none⟩))) (h3 : w.cell? ⟨P3, 0, none⟩ = some (.func (.func 115) #[] #[pc, pd]))
    (ha : w.cell? ⟨g, o + j * 2, none⟩ = some (.int .u64 a)) (hb : w.cell? ⟨g, o + j * 2 + 1, none⟩ = some (.int .u64 b))
    (hT : ∀ w', Below w.heap.size w w' → Calls Tryz.prog 115 #[.agg #[eU a, eU b], pc, pd] w' fun e w'' => e = .returned (.bool bo) ∧ Below w'.heap.size w' w'') :
    Calls Tryz.prog 119 #[.int .i64 j, .pointer (some ⟨P3, 0, none⟩), .pointer (some ⟨P2, 0, none⟩)] w fun e w' => e = .returned (.bool bo) ∧ Below w.heap.size w w' := by
  obtain ⟨c0, c1, c2, c3, c4, c5, c6, c7, c8, c9⟩ := hS.cells
  have i1 : (j : Int) < (n : Int) := by omega
  have i2 : (0 : Int) ≤ (j : Int) := by omega
  have T := Below.refl w.heap.size w
  have c6h := Lib.hid c6
  clear c0 c1 c2 c3 c4 c5 c7 c8 c9 hS
  go_enter Tryz.func119, Tryz.ntmps119
  go_upto_region 1 with (fail)
  have S0 : ∀ w', Below w.heap.size w w' → (w'.cell? ⟨P2, 0, none⟩ = some (.pointer (some ⟨B, 0, none⟩)) ∧ w'.cell? ⟨P3, 0, none⟩ = some (.func (.func 115) #[] #[pc, pd])) ∧ w'.cell? ⟨B, 6, none⟩ = some (.slice (some ⟨g, o, none⟩) n cap) ∧ w'.cell? ⟨g, o + j * 2, none⟩ = some (.int .u64 a) ∧ w'.cell? ⟨g, o + j * 2 + 1, none⟩ = some (.int .u64 b) := fun w' hb' =>
    ⟨⟨hb'.cellAt h2, hb'.cellAt h3⟩, hb'.cellAt c6, hb'.cellAt ha, hb'.cellAt hb⟩
  go_region_held3 (fun w' => (w'.cell? ⟨P2, 0, none⟩ = some (.pointer (some ⟨B, 0, none⟩)) ∧ w'.cell? ⟨P3, 0, none⟩ = some (.func (.func 115) #[] #[pc, pd])) ∧ w'.cell? ⟨B, 6, none⟩ = some (.slice (some ⟨g, o, none⟩) n cap) ∧ w'.cell? ⟨g, o + j * 2, none⟩ = some (.int .u64 a) ∧ w'.cell? ⟨g, o + j * 2 + 1, none⟩ = some (.int .u64 b))
    (first | exact ⟨⟨h2, h3⟩, c6, ha, hb⟩ | exact S0 _ T | exact S0 _ T.drew | exact S0 _ hb2)
    (first | (go_at_call 115; (with_reducible refine (hT _ (by first | exact T | exact T.drew)).mono ?_); rintro e w2 ⟨rfl, hb2⟩; (first | replace hb2 := undrew hb2 | replace hb2 := undrewN hb2 | skip)))
  all_goals go_wp2
  all_goals go_ret
  all_goals exact ⟨rfl, hb2⟩
end Go.Proofs.YtejolaifdjcghaaGreat
