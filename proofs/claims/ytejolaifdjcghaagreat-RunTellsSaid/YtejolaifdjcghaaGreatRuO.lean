/- A run's methods, by what its kind answers: calls through an interface whose dynamic type is known. -/
import Derived.Test.YtejolaifdjcghaaGreatSgF
namespace Go.Proofs.YtejolaifdjcghaaGreat
open Go.RowKit Go.Shelf W
set_option linter.unusedVariables false
set_option maxRecDepth 100000
abbrev vB (q : Option Addr) : Value := .agg #[.pointer q]
abbrev kB (q : Option Addr) : Value := .iface 41 (vB q)
abbrev kS (q : Option Addr) : Value := .iface 50 (vB q)
theorem dB_At (q : Option Addr) (w : World) : (method 245 41 (vB q) "At").run Tryz.prog w = .ok (75, .pointer q) w := by kernel_rfl
theorem nB_At (q : Option Addr) (w : World) : (nilAhead 245 41 (vB q) "At").run Tryz.prog w = .ok (some false) w := by kernel_rfl
theorem dB_Reach (q : Option Addr) (w : World) : (method 245 41 (vB q) "Reach").run Tryz.prog w = .ok (77, .pointer q) w := by kernel_rfl
theorem nB_Reach (q : Option Addr) (w : World) : (nilAhead 245 41 (vB q) "Reach").run Tryz.prog w = .ok (some false) w := by kernel_rfl
theorem dB_Last (q : Option Addr) (w : World) : (method 245 41 (vB q) "Last").run Tryz.prog w = .ok (76, .pointer q) w := by kernel_rfl
theorem nB_Last (q : Option Addr) (w : World) : (nilAhead 245 41 (vB q) "Last").run Tryz.prog w = .ok (some false) w := by kernel_rfl
theorem dB_Starts (q : Option Addr) (w : World) : (method 245 41 (vB q) "Starts").run Tryz.prog w = .ok (79, .pointer q) w := by kernel_rfl
theorem nB_Starts (q : Option Addr) (w : World) : (nilAhead 245 41 (vB q) "Starts").run Tryz.prog w = .ok (some false) w := by kernel_rfl
theorem dB_Start (q : Option Addr) (w : World) : (method 245 41 (vB q) "Start").run Tryz.prog w = .ok (78, .pointer q) w := by kernel_rfl
theorem nB_Start (q : Option Addr) (w : World) : (nilAhead 245 41 (vB q) "Start").run Tryz.prog w = .ok (some false) w := by kernel_rfl
theorem dB_early (q : Option Addr) (w : World) : (method 245 41 (vB q) "distributary/run.early").run Tryz.prog w = .ok (96, vB q) w := by kernel_rfl
theorem nB_early (q : Option Addr) (w : World) : (nilAhead 245 41 (vB q) "distributary/run.early").run Tryz.prog w = .ok (some false) w := by kernel_rfl
theorem dB_from (q : Option Addr) (w : World) : (method 245 41 (vB q) "distributary/run.from").run Tryz.prog w = .ok (97, vB q) w := by kernel_rfl
theorem nB_from (q : Option Addr) (w : World) : (nilAhead 245 41 (vB q) "distributary/run.from").run Tryz.prog w = .ok (some false) w := by kernel_rfl
theorem dB_same (q : Option Addr) (w : World) : (method 245 41 (vB q) "distributary/run.same").run Tryz.prog w = .ok (98, vB q) w := by kernel_rfl
theorem nB_same (q : Option Addr) (w : World) : (nilAhead 245 41 (vB q) "distributary/run.same").run Tryz.prog w = .ok (some false) w := by kernel_rfl
theorem dS_At (q : Option Addr) (w : World) : (method 245 50 (vB q) "At").run Tryz.prog w = .ok (100, .pointer q) w := by kernel_rfl
theorem nS_At (q : Option Addr) (w : World) : (nilAhead 245 50 (vB q) "At").run Tryz.prog w = .ok (some false) w := by kernel_rfl
theorem dS_Reach (q : Option Addr) (w : World) : (method 245 50 (vB q) "Reach").run Tryz.prog w = .ok (102, .pointer q) w := by kernel_rfl
theorem nS_Reach (q : Option Addr) (w : World) : (nilAhead 245 50 (vB q) "Reach").run Tryz.prog w = .ok (some false) w := by kernel_rfl
theorem dS_Last (q : Option Addr) (w : World) : (method 245 50 (vB q) "Last").run Tryz.prog w = .ok (101, .pointer q) w := by kernel_rfl
theorem nS_Last (q : Option Addr) (w : World) : (nilAhead 245 50 (vB q) "Last").run Tryz.prog w = .ok (some false) w := by kernel_rfl
theorem dS_Starts (q : Option Addr) (w : World) : (method 245 50 (vB q) "Starts").run Tryz.prog w = .ok (104, .pointer q) w := by kernel_rfl
theorem nS_Starts (q : Option Addr) (w : World) : (nilAhead 245 50 (vB q) "Starts").run Tryz.prog w = .ok (some false) w := by kernel_rfl
theorem dS_Start (q : Option Addr) (w : World) : (method 245 50 (vB q) "Start").run Tryz.prog w = .ok (103, .pointer q) w := by kernel_rfl
theorem nS_Start (q : Option Addr) (w : World) : (nilAhead 245 50 (vB q) "Start").run Tryz.prog w = .ok (some false) w := by kernel_rfl
theorem dS_early (q : Option Addr) (w : World) : (method 245 50 (vB q) "distributary/run.early").run Tryz.prog w = .ok (120, vB q) w := by kernel_rfl
theorem nS_early (q : Option Addr) (w : World) : (nilAhead 245 50 (vB q) "distributary/run.early").run Tryz.prog w = .ok (some false) w := by kernel_rfl
theorem dS_from (q : Option Addr) (w : World) : (method 245 50 (vB q) "distributary/run.from").run Tryz.prog w = .ok (121, vB q) w := by kernel_rfl
theorem nS_from (q : Option Addr) (w : World) : (nilAhead 245 50 (vB q) "distributary/run.from").run Tryz.prog w = .ok (some false) w := by kernel_rfl
theorem dS_same (q : Option Addr) (w : World) : (method 245 50 (vB q) "distributary/run.same").run Tryz.prog w = .ok (122, vB q) w := by kernel_rfl
theorem nS_same (q : Option Addr) (w : World) : (nilAhead 245 50 (vB q) "distributary/run.same").run Tryz.prog w = .ok (some false) w := by kernel_rfl
/-- The kind of a run that was made. -/
theorem kept_some (B : Nat) (f l r : Int) (T : TypeId) (x : Value) (w : World) (h : Box w B #[eU f, eU l, eU r, .iface T x] 45) : Calls Tryz.prog 13 #[.pointer (some ⟨B, 0, none⟩)] w fun e w' => e = .returned (.iface T x) ∧ w = w' := by
  have c3 : w.cell? ⟨B, 3, none⟩ = some (.iface T x) := h.cell 3
  clear h
  go_enter Tryz.func13, Tryz.ntmps13
  go_wp2
  go_ret
  exact ⟨rfl, rfl⟩
theorem kept_nil (w : World) : Calls Tryz.prog 13 #[.pointer none] w fun e w' => e = .returned (kB none) ∧ w = w' := by
  go_enter Tryz.func13, Tryz.ntmps13
  go_wp2
  go_ret
  exact ⟨rfl, rfl⟩
theorem kept_zero (B : Nat) (f l r : Int) (w : World) (h : Box w B #[eU f, eU l, eU r, .nilIface] 45) : Calls Tryz.prog 13 #[.pointer (some ⟨B, 0, none⟩)] w fun e w' => e = .returned (kB none) ∧ w = w' := by
  have c3 : w.cell? ⟨B, 3, none⟩ = some .nilIface := h.cell 3
  clear h
  go_enter Tryz.func13, Tryz.ntmps13
  go_wp2
  go_ret
  exact ⟨rfl, rfl⟩
theorem rB_At (V : Value) (q : Option Addr) (t z : Int) (R : World → Prop) (w : World) (hk : Calls Tryz.prog 13 #[V] w fun e w' => e = .returned (kB q) ∧ w = w')
    (hA : Calls Tryz.prog 75 #[.pointer q, eU t] w fun e w' => e = .returned (eU z) ∧ R w') : Calls Tryz.prog 19 #[V, eU t] w fun e w' => e = .returned (eU z) ∧ R w' := by
  have d := dB_At q
  have n := nB_At q
  go_enter Tryz.func19, Tryz.ntmps19
  go_wp2_with (first
    | (go_at_call 13; (with_reducible refine hk.mono ?_); rintro e w1 ⟨rfl, rfl⟩)
    | (go_at_call 75; (with_reducible refine hA.mono ?_); rintro e w2 ⟨rfl, hR⟩))
  go_ret
  exact ⟨rfl, hR⟩
theorem rB_Reach (V : Value) (q : Option Addr) (t z : Int) (R : World → Prop) (w : World) (hk : Calls Tryz.prog 13 #[V] w fun e w' => e = .returned (kB q) ∧ w = w')
    (hA : Calls Tryz.prog 77 #[.pointer q, eU t] w fun e w' => e = .returned (eU z) ∧ R w') : Calls Tryz.prog 21 #[V, eU t] w fun e w' => e = .returned (eU z) ∧ R w' := by
  have d := dB_Reach q
  have n := nB_Reach q
  go_enter Tryz.func21, Tryz.ntmps21
  go_wp2_with (first
    | (go_at_call 13; (with_reducible refine hk.mono ?_); rintro e w1 ⟨rfl, rfl⟩)
    | (go_at_call 77; (with_reducible refine hA.mono ?_); rintro e w2 ⟨rfl, hR⟩))
  go_ret
  exact ⟨rfl, hR⟩
theorem rB_Last (V : Value) (q : Option Addr) (z : Int) (b : Bool) (R : World → Prop) (w : World) (hk : Calls Tryz.prog 13 #[V] w fun e w' => e = .returned (kB q) ∧ w = w')
    (hA : Calls Tryz.prog 76 #[.pointer q] w fun e w' => e = .returned (.tuple #[eU z, .bool b]) ∧ R w') : Calls Tryz.prog 14 #[V] w fun e w' => e = .returned (.tuple #[eU z, .bool b]) ∧ R w' := by
  have d := dB_Last q
  have n := nB_Last q
  go_enter Tryz.func14, Tryz.ntmps14
  go_wp2_with (first
    | (go_at_call 13; (with_reducible refine hk.mono ?_); rintro e w1 ⟨rfl, rfl⟩)
    | (go_at_call 76; (with_reducible refine hA.mono ?_); rintro e w2 ⟨rfl, hR⟩))
  go_ret2
  exact ⟨rfl, hR⟩
theorem rB_Starts (V : Value) (q : Option Addr) (z : Int) (R : World → Prop) (w : World) (hk : Calls Tryz.prog 13 #[V] w fun e w' => e = .returned (kB q) ∧ w = w')
    (hA : Calls Tryz.prog 79 #[.pointer q] w fun e w' => e = .returned (eI z) ∧ R w') : Calls Tryz.prog 17 #[V] w fun e w' => e = .returned (eI z) ∧ R w' := by
  have d := dB_Starts q
  have n := nB_Starts q
  go_enter Tryz.func17, Tryz.ntmps17
  go_wp2_with (first
    | (go_at_call 13; (with_reducible refine hk.mono ?_); rintro e w1 ⟨rfl, rfl⟩)
    | (go_at_call 79; (with_reducible refine hA.mono ?_); rintro e w2 ⟨rfl, hR⟩))
  go_ret
  exact ⟨rfl, hR⟩
theorem rB_Start (V : Value) (q : Option Addr) (x y : Int) (R : World → Prop) (w : World) (hk : Calls Tryz.prog 13 #[V] w fun e w' => e = .returned (kB q) ∧ w = w')
    (hA : Calls Tryz.prog 78 #[.pointer q, eU x, eU y] w fun e w' => e = .returned (.tuple #[]) ∧ R w') : Calls Tryz.prog 8 #[V, eU x, eU y] w fun e w' => e = .returned (.tuple #[]) ∧ R w' := by
  have d := dB_Start q
  have n := nB_Start q
  go_enter Tryz.func8, Tryz.ntmps8
  go_wp2_with (first
    | (go_at_call 13; (with_reducible refine hk.mono ?_); rintro e w1 ⟨rfl, rfl⟩)
    | (go_at_call 78; (with_reducible refine hA.mono ?_); rintro e w2 ⟨rfl, hR⟩))
  go_end0
  exact ⟨rfl, hR⟩
theorem kB_early (q : Option Addr) (t z : Int) (w : World) (hA : ∀ w', Below w.heap.size w w' → Calls Tryz.prog 75 #[.pointer q, eU t] w' fun e w'' => e = .returned (eU z) ∧ Below w'.heap.size w' w'') :
    Calls Tryz.prog 96 #[vB q, eU t] w fun e w' => e = .returned (eU z) ∧ Below w.heap.size w w' := by
  have BC := Box.new w 41 #[.pointer q]
  have E := up1 w (.cells #[.pointer q] 41)
  have c0 := BC.cell 0
  clear BC
  go_enter Tryz.func96, Tryz.ntmps96
  go_wp2_with (go_at_call 75; (with_reducible refine (hA _ E).mono ?_); rintro e w1 ⟨rfl, hb⟩; replace E := up E hb E.size)
  go_ret
  exact ⟨rfl, E⟩
theorem rB_early (V : Value) (q : Option Addr) (t z : Int) (w : World) (hk : Calls Tryz.prog 13 #[V] w fun e w' => e = .returned (kB q) ∧ w = w')
    (hA : ∀ w', Below w.heap.size w w' → Calls Tryz.prog 75 #[.pointer q, eU t] w' fun e w'' => e = .returned (eU z) ∧ Below w'.heap.size w' w'') : Calls Tryz.prog 23 #[V, eU t] w fun e w' => e = .returned (eU z) ∧ Below w.heap.size w w' := by
  have d := dB_early q
  have n := nB_early q
  have hE := kB_early q t z w hA
  clear hA
  go_enter Tryz.func23, Tryz.ntmps23
  go_wp2_with (first
    | (go_at_call 13; (with_reducible refine hk.mono ?_); rintro e w1 ⟨rfl, rfl⟩)
    | (go_at_call 96; (with_reducible refine hE.mono ?_); rintro e w2 ⟨rfl, hR⟩))
  go_ret
  exact ⟨rfl, hR⟩
theorem kB_from (q : Option Addr) (t z : Int) (w : World) (hA : ∀ w', Below w.heap.size w w' → Calls Tryz.prog 77 #[.pointer q, eU t] w' fun e w'' => e = .returned (eU z) ∧ Below w'.heap.size w' w'') :
    Calls Tryz.prog 97 #[vB q, eU t] w fun e w' => e = .returned (eU z) ∧ Below w.heap.size w w' := by
  have BC := Box.new w 41 #[.pointer q]
  have E := up1 w (.cells #[.pointer q] 41)
  have c0 := BC.cell 0
  clear BC
  go_enter Tryz.func97, Tryz.ntmps97
  go_wp2_with (go_at_call 77; (with_reducible refine (hA _ E).mono ?_); rintro e w1 ⟨rfl, hb⟩; replace E := up E hb E.size)
  go_ret
  exact ⟨rfl, E⟩
theorem rB_from (V : Value) (q : Option Addr) (t z : Int) (w : World) (hk : Calls Tryz.prog 13 #[V] w fun e w' => e = .returned (kB q) ∧ w = w')
    (hA : ∀ w', Below w.heap.size w w' → Calls Tryz.prog 77 #[.pointer q, eU t] w' fun e w'' => e = .returned (eU z) ∧ Below w'.heap.size w' w'') : Calls Tryz.prog 25 #[V, eU t] w fun e w' => e = .returned (eU z) ∧ Below w.heap.size w w' := by
  have d := dB_from q
  have n := nB_from q
  have hE := kB_from q t z w hA
  clear hA
  go_enter Tryz.func25, Tryz.ntmps25
  go_wp2_with (first
    | (go_at_call 13; (with_reducible refine hk.mono ?_); rintro e w1 ⟨rfl, rfl⟩)
    | (go_at_call 97; (with_reducible refine hE.mono ?_); rintro e w2 ⟨rfl, hR⟩))
  go_ret
  exact ⟨rfl, hR⟩
theorem kB_same (q : Option Addr) (P : Nat → World → Prop) (w : World) (hC : ∀ w', Below w.heap.size w w' → Calls Tryz.prog 99 #[.pointer q] w' fun e w'' => ∃ Q : Nat, e = .returned (.pointer (some ⟨Q, 0, none⟩)) ∧ P Q w'' ∧ Below w'.heap.size w' w'') :
    Calls Tryz.prog 98 #[vB q] w fun e w' => ∃ Q : Nat, e = .returned (kB (some ⟨Q, 0, none⟩)) ∧ P Q w' ∧ Below w.heap.size w w' := by
  have BC := Box.new w 41 #[.pointer q]
  have E := up1 w (.cells #[.pointer q] 41)
  have c0 := BC.cell 0
  clear BC
  go_enter Tryz.func98, Tryz.ntmps98
  go_wp2_with (go_at_call 99; (with_reducible refine (hC _ E).mono ?_); rintro e w1 ⟨Q, rfl, hP, hb⟩; replace E := up E hb E.size)
  go_ret
  exact ⟨Q, rfl, hP, E⟩
theorem rS_At (V : Value) (q : Option Addr) (t z : Int) (R : World → Prop) (w : World) (hk : Calls Tryz.prog 13 #[V] w fun e w' => e = .returned (kS q) ∧ w = w')
    (hA : Calls Tryz.prog 100 #[.pointer q, eU t] w fun e w' => e = .returned (eU z) ∧ R w') : Calls Tryz.prog 19 #[V, eU t] w fun e w' => e = .returned (eU z) ∧ R w' := by
  have d := dS_At q
  have n := nS_At q
  go_enter Tryz.func19, Tryz.ntmps19
  go_wp2_with (first
    | (go_at_call 13; (with_reducible refine hk.mono ?_); rintro e w1 ⟨rfl, rfl⟩)
    | (go_at_call 100; (with_reducible refine hA.mono ?_); rintro e w2 ⟨rfl, hR⟩))
  go_ret
  exact ⟨rfl, hR⟩
theorem rS_Reach (V : Value) (q : Option Addr) (t z : Int) (R : World → Prop) (w : World) (hk : Calls Tryz.prog 13 #[V] w fun e w' => e = .returned (kS q) ∧ w = w')
    (hA : Calls Tryz.prog 102 #[.pointer q, eU t] w fun e w' => e = .returned (eU z) ∧ R w') : Calls Tryz.prog 21 #[V, eU t] w fun e w' => e = .returned (eU z) ∧ R w' := by
  have d := dS_Reach q
  have n := nS_Reach q
  go_enter Tryz.func21, Tryz.ntmps21
  go_wp2_with (first
    | (go_at_call 13; (with_reducible refine hk.mono ?_); rintro e w1 ⟨rfl, rfl⟩)
    | (go_at_call 102; (with_reducible refine hA.mono ?_); rintro e w2 ⟨rfl, hR⟩))
  go_ret
  exact ⟨rfl, hR⟩
theorem rS_Last (V : Value) (q : Option Addr) (z : Int) (b : Bool) (R : World → Prop) (w : World) (hk : Calls Tryz.prog 13 #[V] w fun e w' => e = .returned (kS q) ∧ w = w')
    (hA : Calls Tryz.prog 101 #[.pointer q] w fun e w' => e = .returned (.tuple #[eU z, .bool b]) ∧ R w') : Calls Tryz.prog 14 #[V] w fun e w' => e = .returned (.tuple #[eU z, .bool b]) ∧ R w' := by
  have d := dS_Last q
  have n := nS_Last q
  go_enter Tryz.func14, Tryz.ntmps14
  go_wp2_with (first
    | (go_at_call 13; (with_reducible refine hk.mono ?_); rintro e w1 ⟨rfl, rfl⟩)
    | (go_at_call 101; (with_reducible refine hA.mono ?_); rintro e w2 ⟨rfl, hR⟩))
  go_ret2
  exact ⟨rfl, hR⟩
theorem rS_Starts (V : Value) (q : Option Addr) (z : Int) (R : World → Prop) (w : World) (hk : Calls Tryz.prog 13 #[V] w fun e w' => e = .returned (kS q) ∧ w = w')
    (hA : Calls Tryz.prog 104 #[.pointer q] w fun e w' => e = .returned (eI z) ∧ R w') : Calls Tryz.prog 17 #[V] w fun e w' => e = .returned (eI z) ∧ R w' := by
  have d := dS_Starts q
  have n := nS_Starts q
  go_enter Tryz.func17, Tryz.ntmps17
  go_wp2_with (first
    | (go_at_call 13; (with_reducible refine hk.mono ?_); rintro e w1 ⟨rfl, rfl⟩)
    | (go_at_call 104; (with_reducible refine hA.mono ?_); rintro e w2 ⟨rfl, hR⟩))
  go_ret
  exact ⟨rfl, hR⟩
theorem rS_Start (V : Value) (q : Option Addr) (x y : Int) (R : World → Prop) (w : World) (hk : Calls Tryz.prog 13 #[V] w fun e w' => e = .returned (kS q) ∧ w = w')
    (hA : Calls Tryz.prog 103 #[.pointer q, eU x, eU y] w fun e w' => e = .returned (.tuple #[]) ∧ R w') : Calls Tryz.prog 8 #[V, eU x, eU y] w fun e w' => e = .returned (.tuple #[]) ∧ R w' := by
  have d := dS_Start q
  have n := nS_Start q
  go_enter Tryz.func8, Tryz.ntmps8
  go_wp2_with (first
    | (go_at_call 13; (with_reducible refine hk.mono ?_); rintro e w1 ⟨rfl, rfl⟩)
    | (go_at_call 103; (with_reducible refine hA.mono ?_); rintro e w2 ⟨rfl, hR⟩))
  go_end0
  exact ⟨rfl, hR⟩
theorem kS_early (q : Option Addr) (t z : Int) (w : World) (hA : ∀ w', Below w.heap.size w w' → Calls Tryz.prog 123 #[.pointer q, eU t] w' fun e w'' => e = .returned (eU z) ∧ Below w'.heap.size w' w'') :
    Calls Tryz.prog 120 #[vB q, eU t] w fun e w' => e = .returned (eU z) ∧ Below w.heap.size w w' := by
  have BC := Box.new w 50 #[.pointer q]
  have E := up1 w (.cells #[.pointer q] 50)
  have c0 := BC.cell 0
  clear BC
  go_enter Tryz.func120, Tryz.ntmps120
  go_wp2_with (go_at_call 123; (with_reducible refine (hA _ E).mono ?_); rintro e w1 ⟨rfl, hb⟩; replace E := up E hb E.size)
  go_ret
  exact ⟨rfl, E⟩
theorem rS_early (V : Value) (q : Option Addr) (t z : Int) (w : World) (hk : Calls Tryz.prog 13 #[V] w fun e w' => e = .returned (kS q) ∧ w = w')
    (hA : ∀ w', Below w.heap.size w w' → Calls Tryz.prog 123 #[.pointer q, eU t] w' fun e w'' => e = .returned (eU z) ∧ Below w'.heap.size w' w'') : Calls Tryz.prog 23 #[V, eU t] w fun e w' => e = .returned (eU z) ∧ Below w.heap.size w w' := by
  have d := dS_early q
  have n := nS_early q
  have hE := kS_early q t z w hA
  clear hA
  go_enter Tryz.func23, Tryz.ntmps23
  go_wp2_with (first
    | (go_at_call 13; (with_reducible refine hk.mono ?_); rintro e w1 ⟨rfl, rfl⟩)
    | (go_at_call 120; (with_reducible refine hE.mono ?_); rintro e w2 ⟨rfl, hR⟩))
  go_ret
  exact ⟨rfl, hR⟩
theorem kS_from (q : Option Addr) (t z : Int) (w : World) (hA : ∀ w', Below w.heap.size w w' → Calls Tryz.prog 124 #[.pointer q, eU t] w' fun e w'' => e = .returned (eU z) ∧ Below w'.heap.size w' w'') :
    Calls Tryz.prog 121 #[vB q, eU t] w fun e w' => e = .returned (eU z) ∧ Below w.heap.size w w' := by
  have BC := Box.new w 50 #[.pointer q]
  have E := up1 w (.cells #[.pointer q] 50)
  have c0 := BC.cell 0
  clear BC
  go_enter Tryz.func121, Tryz.ntmps121
  go_wp2_with (go_at_call 124; (with_reducible refine (hA _ E).mono ?_); rintro e w1 ⟨rfl, hb⟩; replace E := up E hb E.size)
  go_ret
  exact ⟨rfl, E⟩
theorem rS_from (V : Value) (q : Option Addr) (t z : Int) (w : World) (hk : Calls Tryz.prog 13 #[V] w fun e w' => e = .returned (kS q) ∧ w = w')
    (hA : ∀ w', Below w.heap.size w w' → Calls Tryz.prog 124 #[.pointer q, eU t] w' fun e w'' => e = .returned (eU z) ∧ Below w'.heap.size w' w'') : Calls Tryz.prog 25 #[V, eU t] w fun e w' => e = .returned (eU z) ∧ Below w.heap.size w w' := by
  have d := dS_from q
  have n := nS_from q
  have hE := kS_from q t z w hA
  clear hA
  go_enter Tryz.func25, Tryz.ntmps25
  go_wp2_with (first
    | (go_at_call 13; (with_reducible refine hk.mono ?_); rintro e w1 ⟨rfl, rfl⟩)
    | (go_at_call 121; (with_reducible refine hE.mono ?_); rintro e w2 ⟨rfl, hR⟩))
  go_ret
  exact ⟨rfl, hR⟩
theorem kS_same (q : Option Addr) (P : Nat → World → Prop) (w : World) (hC : ∀ w', Below w.heap.size w w' → Calls Tryz.prog 125 #[.pointer q] w' fun e w'' => ∃ Q : Nat, e = .returned (.pointer (some ⟨Q, 0, none⟩)) ∧ P Q w'' ∧ Below w'.heap.size w' w'') :
    Calls Tryz.prog 122 #[vB q] w fun e w' => ∃ Q : Nat, e = .returned (kS (some ⟨Q, 0, none⟩)) ∧ P Q w' ∧ Below w.heap.size w w' := by
  have BC := Box.new w 50 #[.pointer q]
  have E := up1 w (.cells #[.pointer q] 50)
  have c0 := BC.cell 0
  clear BC
  go_enter Tryz.func122, Tryz.ntmps122
  go_wp2_with (go_at_call 125; (with_reducible refine (hC _ E).mono ?_); rintro e w1 ⟨Q, rfl, hP, hb⟩; replace E := up E hb E.size)
  go_ret
  exact ⟨Q, rfl, hP, E⟩
end Go.Proofs.YtejolaifdjcghaaGreat
