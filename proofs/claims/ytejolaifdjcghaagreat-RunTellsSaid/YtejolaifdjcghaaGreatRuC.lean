/- A run's curve; a nil run, and one that nobody made. -/
import Derived.Test.YtejolaifdjcghaaGreatRuX
import Derived.Laws.StructEq
namespace Go.Proofs.YtejolaifdjcghaaGreat
open Go.RowKit Go.Shelf W
set_option linter.unusedVariables false
set_option maxRecDepth 100000
set_option maxHeartbeats 1000000 in
theorem run_curve (B : Nat) (f l r : Int) (v : Value) (w : World) (h : Box w B #[eU f, eU l, eU r, v] 45) : Calls Tryz.prog 16 #[.pointer (some ⟨B, 0, none⟩)] w fun e w' => e = .returned (.agg #[eU f, eU l, eU r]) ∧ Below w.heap.size w w' := by
  have BN := Box.new w 24 #[eU 0, eU 0, eU 0]
  have T := up1 w (.cells #[eU 0, eU 0, eU 0] 24)
  have h2 := h.below T
  have c0 : (w.alloc (.cells #[eU 0, eU 0, eU 0] 24)).cell? ⟨B, 0, none⟩ = some (.int .u64 f) := h2.cell 0
  have c1 : (w.alloc (.cells #[eU 0, eU 0, eU 0] 24)).cell? ⟨B, 1, none⟩ = some (.int .u64 l) := h2.cell 1
  have c2 : (w.alloc (.cells #[eU 0, eU 0, eU 0] 24)).cell? ⟨B, 2, none⟩ = some (.int .u64 r) := h2.cell 2
  have hf0 := BN.thaw 0
  have hf1 := BN.thaw 1
  have hf2 := BN.thaw 2
  go_enter Tryz.func16, Tryz.ntmps16
  go_wp2
  exact bodyPost_ret (v := .agg #[eU f, eU l, eU r]) (by simp [results, Tryz.results16, go_sem]) rfl ⟨rfl, up1 _ _⟩
set_option maxHeartbeats 1000000 in
theorem run_curve_nil (w : World) : Calls Tryz.prog 16 #[.pointer none] w fun e w' => e = .returned (.agg #[eU 0, eU 0, eU 0]) ∧ Below w.heap.size w w' := by
  have BN := Box.new w 24 #[eU 0, eU 0, eU 0]
  have T := up1 w (.cells #[eU 0, eU 0, eU 0] 24)
  have hf0 := BN.thaw 0
  have hf1 := BN.thaw 1
  have hf2 := BN.thaw 2
  go_enter Tryz.func16, Tryz.ntmps16
  go_wp2
  exact bodyPost_ret (v := .agg #[eU 0, eU 0, eU 0]) (by simp [results, Tryz.results16, go_sem]) rfl ⟨rfl, up1 _ _⟩
theorem ru_curve {f l r : Int} {X Y : Nat → Int} (S : Nat → Prop) (B n : Nat) (w : World) (h : Ru w S B f l r X Y n) : Calls Tryz.prog 16 #[.pointer (some ⟨B, 0, none⟩)] w fun e w' => e = .returned (.agg #[eU f, eU l, eU r]) ∧ Below w.heap.size w w' := by
  obtain ⟨v, _, h2, _⟩ := h
  exact run_curve B f l r v w h2
/-- A nil run, or one that nobody made. -/
def Zr (p : Option Addr) (w : World) : Prop := p = none ∨ ∃ B : Nat, p = some ⟨B, 0, none⟩ ∧ Box w B #[eU 0, eU 0, eU 0, .nilIface] 45
theorem Zr.below {p : Option Addr} {W w : World} (h : Zr p W) (hb : Below W.heap.size W w) : Zr p w := by
  rcases h with h | ⟨B, h1, h2⟩
  · exact .inl h
  · exact .inr ⟨B, h1, h2.below hb⟩
theorem Zr.kept {p : Option Addr} {w : World} (h : Zr p w) : Calls Tryz.prog 13 #[.pointer p] w fun e w' => e = .returned (kB none) ∧ w = w' := by
  rcases h with rfl | ⟨B, rfl, h⟩
  · exact kept_nil w
  · exact kept_zero B 0 0 0 w h
theorem zr_curve (p : Option Addr) (w : World) (h : Zr p w) : Calls Tryz.prog 16 #[.pointer p] w fun e w' => e = .returned (.agg #[eU 0, eU 0, eU 0]) ∧ Below w.heap.size w w' := by
  rcases h with rfl | ⟨B, rfl, h⟩
  · exact run_curve_nil w
  · exact run_curve B 0 0 0 _ w h
theorem zr_start (p : Option Addr) (x y : Int) (w : World) (h : Zr p w) : Calls Tryz.prog 8 #[.pointer p, eU x, eU y] w fun e w' => e = .returned (.tuple #[]) ∧ Below w.heap.size w w' :=
  quietly (rB_Start _ none x y (fun w' => w = w') w h.kept (bn_start_nil x y w))
theorem zr_last (p : Option Addr) (w : World) (h : Zr p w) : Calls Tryz.prog 14 #[.pointer p] w fun e w' => e = .returned (.tuple #[eU 0, .bool false]) ∧ Below w.heap.size w w' :=
  quietly (rB_Last _ none _ _ (fun w' => w = w') w h.kept (bn_last_none _ w (bn_starts_nil w)))
theorem zr_many (p : Option Addr) (w : World) (h : Zr p w) : Calls Tryz.prog 17 #[.pointer p] w fun e w' => e = .returned (eI 0) ∧ Below w.heap.size w w' :=
  quietly (rB_Starts _ none _ (fun w' => w = w') w h.kept (bn_starts_nil w))
theorem zr_at (p : Option Addr) (t : Int) (w : World) (h : Zr p w) : Calls Tryz.prog 19 #[.pointer p, eU t] w fun e w' => e = .returned (eU 0) ∧ Below w.heap.size w w' :=
  quietly (rB_At _ none t _ (fun w' => w = w') w h.kept (bn_at_none _ t w (bn_starts_nil w)))
theorem zr_ahead (p : Option Addr) (t : Int) (w : World) (h : Zr p w) : Calls Tryz.prog 23 #[.pointer p, eU t] w fun e w' => e = .returned (eU 0) ∧ Below w.heap.size w w' :=
  rB_early _ none t _ w h.kept (fun w' T => quietly (bn_at_none _ t w' (bn_starts_nil w')))
theorem zr_reach (p : Option Addr) (y : Int) (w : World) (h : Zr p w) : Calls Tryz.prog 21 #[.pointer p, eU y] w fun e w' => e = .returned (eU (if y = 0 then 0 else 9223372036854775808)) ∧ Below w.heap.size w w' :=
  quietly (rB_Reach _ none y _ (fun w' => w = w') w h.kept (bn_reach_no _ y w (bn_starts_nil w)))
theorem zr_eligible (p : Option Addr) (y : Int) (w : World) (h : Zr p w) : Calls Tryz.prog 25 #[.pointer p, eU y] w fun e w' => e = .returned (eU (if y = 0 then 0 else 9223372036854775808)) ∧ Below w.heap.size w w' :=
  rB_from _ none y _ w h.kept (fun w' T => quietly (bn_reach_no _ y w' (bn_starts_nil w')))
set_option maxHeartbeats 1000000 in
theorem run_copy_nil (w : World) : Calls Tryz.prog 6 #[.pointer none] w fun e w' => e = .returned (.pointer none) ∧ w = w' := by
  go_enter Tryz.func6, Tryz.ntmps6
  go_wp2
  go_ret
  exact ⟨rfl, rfl⟩
end Go.Proofs.YtejolaifdjcghaaGreat
