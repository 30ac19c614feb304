/- A run's methods, by what its kind answers: calls through an interface whose dynamic type is known. -/
import Derived.Test.YtejolaifdjcghaaSgF
namespace Go.Proofs.Ytejolaifdjcghaa
open Go.RowKit Go.Shelf W
set_option linter.unusedVariables false
set_option maxRecDepth 100000
abbrev vB (q : Option Addr) : Value := .agg #[.pointer q]
abbrev kB (q : Option Addr) : Value := .iface 62 (vB q)
abbrev kS (q : Option Addr) : Value := .iface 67 (vB q)
theorem dB_At (q : Option Addr) (w : World) : (method 239 62 (vB q) "At").run Try.prog w = .ok (62, .pointer q) w := by kernel_rfl
theorem nB_At (q : Option Addr) (w : World) : (nilAhead 239 62 (vB q) "At").run Try.prog w = .ok (some false) w := by kernel_rfl
theorem dB_Reach (q : Option Addr) (w : World) : (method 239 62 (vB q) "Reach").run Try.prog w = .ok (64, .pointer q) w := by kernel_rfl
theorem nB_Reach (q : Option Addr) (w : World) : (nilAhead 239 62 (vB q) "Reach").run Try.prog w = .ok (some false) w := by kernel_rfl
theorem dB_Last (q : Option Addr) (w : World) : (method 239 62 (vB q) "Last").run Try.prog w = .ok (63, .pointer q) w := by kernel_rfl
theorem nB_Last (q : Option Addr) (w : World) : (nilAhead 239 62 (vB q) "Last").run Try.prog w = .ok (some false) w := by kernel_rfl
theorem dB_Starts (q : Option Addr) (w : World) : (method 239 62 (vB q) "Starts").run Try.prog w = .ok (66, .pointer q) w := by kernel_rfl
theorem nB_Starts (q : Option Addr) (w : World) : (nilAhead 239 62 (vB q) "Starts").run Try.prog w = .ok (some false) w := by kernel_rfl
theorem dB_Start (q : Option Addr) (w : World) : (method 239 62 (vB q) "Start").run Try.prog w = .ok (65, .pointer q) w := by kernel_rfl
theorem nB_Start (q : Option Addr) (w : World) : (nilAhead 239 62 (vB q) "Start").run Try.prog w = .ok (some false) w := by kernel_rfl
theorem dB_early (q : Option Addr) (w : World) : (method 239 62 (vB q) "distributary/run.early").run Try.prog w = .ok (78, vB q) w := by kernel_rfl
theorem nB_early (q : Option Addr) (w : World) : (nilAhead 239 62 (vB q) "distributary/run.early").run Try.prog w = .ok (some false) w := by kernel_rfl
theorem dB_from (q : Option Addr) (w : World) : (method 239 62 (vB q) "distributary/run.from").run Try.prog w = .ok (79, vB q) w := by kernel_rfl
theorem nB_from (q : Option Addr) (w : World) : (nilAhead 239 62 (vB q) "distributary/run.from").run Try.prog w = .ok (some false) w := by kernel_rfl
theorem dB_same (q : Option Addr) (w : World) : (method 239 62 (vB q) "distributary/run.same").run Try.prog w = .ok (80, vB q) w := by kernel_rfl
theorem nB_same (q : Option Addr) (w : World) : (nilAhead 239 62 (vB q) "distributary/run.same").run Try.prog w = .ok (some false) w := by kernel_rfl
theorem dS_At (q : Option Addr) (w : World) : (method 239 67 (vB q) "At").run Try.prog w = .ok (82, .pointer q) w := by kernel_rfl
theorem nS_At (q : Option Addr) (w : World) : (nilAhead 239 67 (vB q) "At").run Try.prog w = .ok (some false) w := by kernel_rfl
theorem dS_Reach (q : Option Addr) (w : World) : (method 239 67 (vB q) "Reach").run Try.prog w = .ok (84, .pointer q) w := by kernel_rfl
theorem nS_Reach (q : Option Addr) (w : World) : (nilAhead 239 67 (vB q) "Reach").run Try.prog w = .ok (some false) w := by kernel_rfl
theorem dS_Last (q : Option Addr) (w : World) : (method 239 67 (vB q) "Last").run Try.prog w = .ok (83, .pointer q) w := by kernel_rfl
theorem nS_Last (q : Option Addr) (w : World) : (nilAhead 239 67 (vB q) "Last").run Try.prog w = .ok (some false) w := by kernel_rfl
theorem dS_Starts (q : Option Addr) (w : World) : (method 239 67 (vB q) "Starts").run Try.prog w = .ok (86, .pointer q) w := by kernel_rfl
theorem nS_Starts (q : Option Addr) (w : World) : (nilAhead 239 67 (vB q) "Starts").run Try.prog w = .ok (some false) w := by kernel_rfl
theorem dS_Start (q : Option Addr) (w : World) : (method 239 67 (vB q) "Start").run Try.prog w = .ok (85, .pointer q) w := by kernel_rfl
theorem nS_Start (q : Option Addr) (w : World) : (nilAhead 239 67 (vB q) "Start").run Try.prog w = .ok (some false) w := by kernel_rfl
theorem dS_early (q : Option Addr) (w : World) : (method 239 67 (vB q) "distributary/run.early").run Try.prog w = .ok (102, vB q) w := by kernel_rfl
theorem nS_early (q : Option Addr) (w : World) : (nilAhead 239 67 (vB q) "distributary/run.early").run Try.prog w = .ok (some false) w := by kernel_rfl
theorem dS_from (q : Option Addr) (w : World) : (method 239 67 (vB q) "distributary/run.from").run Try.prog w = .ok (103, vB q) w := by kernel_rfl
theorem nS_from (q : Option Addr) (w : World) : (nilAhead 239 67 (vB q) "distributary/run.from").run Try.prog w = .ok (some false) w := by kernel_rfl
theorem dS_same (q : Option Addr) (w : World) : (method 239 67 (vB q) "distributary/run.same").run Try.prog w = .ok (104, vB q) w := by kernel_rfl
theorem nS_same (q : Option Addr) (w : World) : (nilAhead 239 67 (vB q) "distributary/run.same").run Try.prog w = .ok (some false) w := by kernel_rfl
/-- The kind of a run that was made. -/
theorem kept_some (B : Nat) (f l r : Int) (T : TypeId) (x : Value) (w : World) (h : Box w B #[eU f, eU l, eU r, .iface T x] 31) : Calls Try.prog 22 #[.pointer (some ⟨B, 0, none⟩)] w fun e w' => e = .returned (.iface T x) ∧ w = w' := by
  have c3 : w.cell? ⟨B, 3, none⟩ = some (.iface T x) := h.cell 3
  clear h
  go_enter Try.func22, Try.ntmps22
  go_wp2
  go_ret
  exact ⟨rfl, rfl⟩
theorem kept_nil (w : World) : Calls Try.prog 22 #[.pointer none] w fun e w' => e = .returned (kB none) ∧ w = w' := by
  go_enter Try.func22, Try.ntmps22
  go_wp2
  go_ret
  exact ⟨rfl, rfl⟩
theorem kept_zero (B : Nat) (f l r : Int) (w : World) (h : Box w B #[eU f, eU l, eU r, .nilIface] 31) : Calls Try.prog 22 #[.pointer (some ⟨B, 0, none⟩)] w fun e w' => e = .returned (kB none) ∧ w = w' := by
  have c3 : w.cell? ⟨B, 3, none⟩ = some .nilIface := h.cell 3
  clear h
  go_enter Try.func22, Try.ntmps22
  go_wp2
  go_ret
  exact ⟨rfl, rfl⟩
theorem rB_At (V : Value) (q : Option Addr) (t z : Int) (R : World → Prop) (w : World) (hk : Calls Try.prog 22 #[V] w fun e w' => e = .returned (kB q) ∧ w = w')
    (hA : Calls Try.prog 62 #[.pointer q, eU t] w fun e w' => e = .returned (eU z) ∧ R w') : Calls Try.prog 13 #[V, eU t] w fun e w' => e = .returned (eU z) ∧ R w' := by
  have d := dB_At q
  have n := nB_At q
  go_enter Try.func13, Try.ntmps13
  go_wp2_with (first
    | (go_at_call 22; (with_reducible refine hk.mono ?_); rintro e w1 ⟨rfl, rfl⟩)
    | (go_at_call 62; (with_reducible refine hA.mono ?_); rintro e w2 ⟨rfl, hR⟩))
  go_ret
  exact ⟨rfl, hR⟩
theorem rB_Reach (V : Value) (q : Option Addr) (t z : Int) (R : World → Prop) (w : World) (hk : Calls Try.prog 22 #[V] w fun e w' => e = .returned (kB q) ∧ w = w')
    (hA : Calls Try.prog 64 #[.pointer q, eU t] w fun e w' => e = .returned (eU z) ∧ R w') : Calls Try.prog 10 #[V, eU t] w fun e w' => e = .returned (eU z) ∧ R w' := by
  have d := dB_Reach q
  have n := nB_Reach q
  go_enter Try.func10, Try.ntmps10
  go_wp2_with (first
    | (go_at_call 22; (with_reducible refine hk.mono ?_); rintro e w1 ⟨rfl, rfl⟩)
    | (go_at_call 64; (with_reducible refine hA.mono ?_); rintro e w2 ⟨rfl, hR⟩))
  go_ret
  exact ⟨rfl, hR⟩
theorem rB_Last (V : Value) (q : Option Addr) (z : Int) (b : Bool) (R : World → Prop) (w : World) (hk : Calls Try.prog 22 #[V] w fun e w' => e = .returned (kB q) ∧ w = w')
    (hA : Calls Try.prog 63 #[.pointer q] w fun e w' => e = .returned (.tuple #[eU z, .bool b]) ∧ R w') : Calls Try.prog 9 #[V] w fun e w' => e = .returned (.tuple #[eU z, .bool b]) ∧ R w' := by
  have d := dB_Last q
  have n := nB_Last q
  go_enter Try.func9, Try.ntmps9
  go_wp2_with (first
    | (go_at_call 22; (with_reducible refine hk.mono ?_); rintro e w1 ⟨rfl, rfl⟩)
    | (go_at_call 63; (with_reducible refine hA.mono ?_); rintro e w2 ⟨rfl, hR⟩))
  go_ret2
  exact ⟨rfl, hR⟩
theorem rB_Starts (V : Value) (q : Option Addr) (z : Int) (R : World → Prop) (w : World) (hk : Calls Try.prog 22 #[V] w fun e w' => e = .returned (kB q) ∧ w = w')
    (hA : Calls Try.prog 66 #[.pointer q] w fun e w' => e = .returned (eI z) ∧ R w') : Calls Try.prog 15 #[V] w fun e w' => e = .returned (eI z) ∧ R w' := by
  have d := dB_Starts q
  have n := nB_Starts q
  go_enter Try.func15, Try.ntmps15
  go_wp2_with (first
    | (go_at_call 22; (with_reducible refine hk.mono ?_); rintro e w1 ⟨rfl, rfl⟩)
    | (go_at_call 66; (with_reducible refine hA.mono ?_); rintro e w2 ⟨rfl, hR⟩))
  go_ret
  exact ⟨rfl, hR⟩
theorem rB_Start (V : Value) (q : Option Addr) (x y : Int) (R : World → Prop) (w : World) (hk : Calls Try.prog 22 #[V] w fun e w' => e = .returned (kB q) ∧ w = w')
    (hA : Calls Try.prog 65 #[.pointer q, eU x, eU y] w fun e w' => e = .returned (.tuple #[]) ∧ R w') : Calls Try.prog 8 #[V, eU x, eU y] w fun e w' => e = .returned (.tuple #[]) ∧ R w' := by
  have d := dB_Start q
  have n := nB_Start q
  go_enter Try.func8, Try.ntmps8
  go_wp2_with (first
    | (go_at_call 22; (with_reducible refine hk.mono ?_); rintro e w1 ⟨rfl, rfl⟩)
    | (go_at_call 65; (with_reducible refine hA.mono ?_); rintro e w2 ⟨rfl, hR⟩))
  go_end0
  exact ⟨rfl, hR⟩
theorem kB_early (q : Option Addr) (t z : Int) (w : World) (hA : ∀ w', Below w.heap.size w w' → Calls Try.prog 62 #[.pointer q, eU t] w' fun e w'' => e = .returned (eU z) ∧ Below w'.heap.size w' w'') :
    Calls Try.prog 78 #[vB q, eU t] w fun e w' => e = .returned (eU z) ∧ Below w.heap.size w w' := by
  have BC := Box.new w 62 #[.pointer q]
  have E := up1 w (.cells #[.pointer q] 62)
  have c0 := BC.cell 0
  clear BC
  go_enter Try.func78, Try.ntmps78
  go_wp2_with (go_at_call 62; (with_reducible refine (hA _ E).mono ?_); rintro e w1 ⟨rfl, hb⟩; replace E := up E hb E.size)
  go_ret
  exact ⟨rfl, E⟩
theorem rB_early (V : Value) (q : Option Addr) (t z : Int) (w : World) (hk : Calls Try.prog 22 #[V] w fun e w' => e = .returned (kB q) ∧ w = w')
    (hA : ∀ w', Below w.heap.size w w' → Calls Try.prog 62 #[.pointer q, eU t] w' fun e w'' => e = .returned (eU z) ∧ Below w'.heap.size w' w'') : Calls Try.prog 14 #[V, eU t] w fun e w' => e = .returned (eU z) ∧ Below w.heap.size w w' := by
  have d := dB_early q
  have n := nB_early q
  have hE := kB_early q t z w hA
  clear hA
  go_enter Try.func14, Try.ntmps14
  go_wp2_with (first
    | (go_at_call 22; (with_reducible refine hk.mono ?_); rintro e w1 ⟨rfl, rfl⟩)
    | (go_at_call 78; (with_reducible refine hE.mono ?_); rintro e w2 ⟨rfl, hR⟩))
  go_ret
  exact ⟨rfl, hR⟩
theorem kB_from (q : Option Addr) (t z : Int) (w : World) (hA : ∀ w', Below w.heap.size w w' → Calls Try.prog 64 #[.pointer q, eU t] w' fun e w'' => e = .returned (eU z) ∧ Below w'.heap.size w' w'') :
    Calls Try.prog 79 #[vB q, eU t] w fun e w' => e = .returned (eU z) ∧ Below w.heap.size w w' := by
  have BC := Box.new w 62 #[.pointer q]
  have E := up1 w (.cells #[.pointer q] 62)
  have c0 := BC.cell 0
  clear BC
  go_enter Try.func79, Try.ntmps79
  go_wp2_with (go_at_call 64; (with_reducible refine (hA _ E).mono ?_); rintro e w1 ⟨rfl, hb⟩; replace E := up E hb E.size)
  go_ret
  exact ⟨rfl, E⟩
theorem rB_from (V : Value) (q : Option Addr) (t z : Int) (w : World) (hk : Calls Try.prog 22 #[V] w fun e w' => e = .returned (kB q) ∧ w = w')
    (hA : ∀ w', Below w.heap.size w w' → Calls Try.prog 64 #[.pointer q, eU t] w' fun e w'' => e = .returned (eU z) ∧ Below w'.heap.size w' w'') : Calls Try.prog 11 #[V, eU t] w fun e w' => e = .returned (eU z) ∧ Below w.heap.size w w' := by
  have d := dB_from q
  have n := nB_from q
  have hE := kB_from q t z w hA
  clear hA
  go_enter Try.func11, Try.ntmps11
  go_wp2_with (first
    | (go_at_call 22; (with_reducible refine hk.mono ?_); rintro e w1 ⟨rfl, rfl⟩)
    | (go_at_call 79; (with_reducible refine hE.mono ?_); rintro e w2 ⟨rfl, hR⟩))
  go_ret
  exact ⟨rfl, hR⟩
theorem kB_same (q : Option Addr) (P : Nat → World → Prop) (w : World) (hC : ∀ w', Below w.heap.size w w' → Calls Try.prog 81 #[.pointer q] w' fun e w'' => ∃ Q : Nat, e = .returned (.pointer (some ⟨Q, 0, none⟩)) ∧ P Q w'' ∧ Below w'.heap.size w' w'') :
    Calls Try.prog 80 #[vB q] w fun e w' => ∃ Q : Nat, e = .returned (kB (some ⟨Q, 0, none⟩)) ∧ P Q w' ∧ Below w.heap.size w w' := by
  have BC := Box.new w 62 #[.pointer q]
  have E := up1 w (.cells #[.pointer q] 62)
  have c0 := BC.cell 0
  clear BC
  go_enter Try.func80, Try.ntmps80
  go_wp2_with (go_at_call 81; (with_reducible refine (hC _ E).mono ?_); rintro e w1 ⟨Q, rfl, hP, hb⟩; replace E := up E hb E.size)
  go_ret
  exact ⟨Q, rfl, hP, E⟩
theorem rS_At (V : Value) (q : Option Addr) (t z : Int) (R : World → Prop) (w : World) (hk : Calls Try.prog 22 #[V] w fun e w' => e = .returned (kS q) ∧ w = w')
    (hA : Calls Try.prog 82 #[.pointer q, eU t] w fun e w' => e = .returned (eU z) ∧ R w') : Calls Try.prog 13 #[V, eU t] w fun e w' => e = .returned (eU z) ∧ R w' := by
  have d := dS_At q
  have n := nS_At q
  go_enter Try.func13, Try.ntmps13
  go_wp2_with (first
    | (go_at_call 22; (with_reducible refine hk.mono ?_); rintro e w1 ⟨rfl, rfl⟩)
    | (go_at_call 82; (with_reducible refine hA.mono ?_); rintro e w2 ⟨rfl, hR⟩))
  go_ret
  exact ⟨rfl, hR⟩
theorem rS_Reach (V : Value) (q : Option Addr) (t z : Int) (R : World → Prop) (w : World) (hk : Calls Try.prog 22 #[V] w fun e w' => e = .returned (kS q) ∧ w = w')
    (hA : Calls Try.prog 84 #[.pointer q, eU t] w fun e w' => e = .returned (eU z) ∧ R w') : Calls Try.prog 10 #[V, eU t] w fun e w' => e = .returned (eU z) ∧ R w' := by
  have d := dS_Reach q
  have n := nS_Reach q
  go_enter Try.func10, Try.ntmps10
  go_wp2_with (first
    | (go_at_call 22; (with_reducible refine hk.mono ?_); rintro e w1 ⟨rfl, rfl⟩)
    | (go_at_call 84; (with_reducible refine hA.mono ?_); rintro e w2 ⟨rfl, hR⟩))
  go_ret
  exact ⟨rfl, hR⟩
theorem rS_Last (V : Value) (q : Option Addr) (z : Int) (b : Bool) (R : World → Prop) (w : World) (hk : Calls Try.prog 22 #[V] w fun e w' => e = .returned (kS q) ∧ w = w')
    (hA : Calls Try.prog 83 #[.pointer q] w fun e w' => e = .returned (.tuple #[eU z, .bool b]) ∧ R w') : Calls Try.prog 9 #[V] w fun e w' => e = .returned (.tuple #[eU z, .bool b]) ∧ R w' := by
  have d := dS_Last q
  have n := nS_Last q
  go_enter Try.func9, Try.ntmps9
  go_wp2_with (first
    | (go_at_call 22; (with_reducible refine hk.mono ?_); rintro e w1 ⟨rfl, rfl⟩)
    | (go_at_call 83; (with_reducible refine hA.mono ?_); rintro e w2 ⟨rfl, hR⟩))
  go_ret2
  exact ⟨rfl, hR⟩
theorem rS_Starts (V : Value) (q : Option Addr) (z : Int) (R : World → Prop) (w : World) (hk : Calls Try.prog 22 #[V] w fun e w' => e = .returned (kS q) ∧ w = w')
    (hA : Calls Try.prog 86 #[.pointer q] w fun e w' => e = .returned (eI z) ∧ R w') : Calls Try.prog 15 #[V] w fun e w' => e = .returned (eI z) ∧ R w' := by
  have d := dS_Starts q
  have n := nS_Starts q
  go_enter Try.func15, Try.ntmps15
  go_wp2_with (first
    | (go_at_call 22; (with_reducible refine hk.mono ?_); rintro e w1 ⟨rfl, rfl⟩)
    | (go_at_call 86; (with_reducible refine hA.mono ?_); rintro e w2 ⟨rfl, hR⟩))
  go_ret
  exact ⟨rfl, hR⟩
theorem rS_Start (V : Value) (q : Option Addr) (x y : Int) (R : World → Prop) (w : World) (hk : Calls Try.prog 22 #[V] w fun e w' => e = .returned (kS q) ∧ w = w')
    (hA : Calls Try.prog 85 #[.pointer q, eU x, eU y] w fun e w' => e = .returned (.tuple #[]) ∧ R w') : Calls Try.prog 8 #[V, eU x, eU y] w fun e w' => e = .returned (.tuple #[]) ∧ R w' := by
  have d := dS_Start q
  have n := nS_Start q
  go_enter Try.func8, Try.ntmps8
  go_wp2_with (first
    | (go_at_call 22; (with_reducible refine hk.mono ?_); rintro e w1 ⟨rfl, rfl⟩)
    | (go_at_call 85; (with_reducible refine hA.mono ?_); rintro e w2 ⟨rfl, hR⟩))
  go_end0
  exact ⟨rfl, hR⟩
theorem kS_early (q : Option Addr) (t z : Int) (w : World) (hA : ∀ w', Below w.heap.size w w' → Calls Try.prog 105 #[.pointer q, eU t] w' fun e w'' => e = .returned (eU z) ∧ Below w'.heap.size w' w'') :
    Calls Try.prog 102 #[vB q, eU t] w fun e w' => e = .returned (eU z) ∧ Below w.heap.size w w' := by
  have BC := Box.new w 67 #[.pointer q]
  have E := up1 w (.cells #[.pointer q] 67)
  have c0 := BC.cell 0
  clear BC
  go_enter Try.func102, Try.ntmps102
  go_wp2_with (go_at_call 105; (with_reducible refine (hA _ E).mono ?_); rintro e w1 ⟨rfl, hb⟩; replace E := up E hb E.size)
  go_ret
  exact ⟨rfl, E⟩
theorem rS_early (V : Value) (q : Option Addr) (t z : Int) (w : World) (hk : Calls Try.prog 22 #[V] w fun e w' => e = .returned (kS q) ∧ w = w')
    (hA : ∀ w', Below w.heap.size w w' → Calls Try.prog 105 #[.pointer q, eU t] w' fun e w'' => e = .returned (eU z) ∧ Below w'.heap.size w' w'') : Calls Try.prog 14 #[V, eU t] w fun e w' => e = .returned (eU z) ∧ Below w.heap.size w w' := by
  have d := dS_early q
  have n := nS_early q
  have hE := kS_early q t z w hA
  clear hA
  go_enter Try.func14, Try.ntmps14
  go_wp2_with (first
    | (go_at_call 22; (with_reducible refine hk.mono ?_); rintro e w1 ⟨rfl, rfl⟩)
    | (go_at_call 102; (with_reducible refine hE.mono ?_); rintro e w2 ⟨rfl, hR⟩))
  go_ret
  exact ⟨rfl, hR⟩
theorem kS_from (q : Option Addr) (t z : Int) (w : World) (hA : ∀ w', Below w.heap.size w w' → Calls Try.prog 106 #[.pointer q, eU t] w' fun e w'' => e = .returned (eU z) ∧ Below w'.heap.size w' w'') :
    Calls Try.prog 103 #[vB q, eU t] w fun e w' => e = .returned (eU z) ∧ Below w.heap.size w w' := by
  have BC := Box.new w 67 #[.pointer q]
  have E := up1 w (.cells #[.pointer q] 67)
  have c0 := BC.cell 0
  clear BC
  go_enter Try.func103, Try.ntmps103
  go_wp2_with (go_at_call 106; (with_reducible refine (hA _ E).mono ?_); rintro e w1 ⟨rfl, hb⟩; replace E := up E hb E.size)
  go_ret
  exact ⟨rfl, E⟩
theorem rS_from (V : Value) (q : Option Addr) (t z : Int) (w : World) (hk : Calls Try.prog 22 #[V] w fun e w' => e = .returned (kS q) ∧ w = w')
    (hA : ∀ w', Below w.heap.size w w' → Calls Try.prog 106 #[.pointer q, eU t] w' fun e w'' => e = .returned (eU z) ∧ Below w'.heap.size w' w'') : Calls Try.prog 11 #[V, eU t] w fun e w' => e = .returned (eU z) ∧ Below w.heap.size w w' := by
  have d := dS_from q
  have n := nS_from q
  have hE := kS_from q t z w hA
  clear hA
  go_enter Try.func11, Try.ntmps11
  go_wp2_with (first
    | (go_at_call 22; (with_reducible refine hk.mono ?_); rintro e w1 ⟨rfl, rfl⟩)
    | (go_at_call 103; (with_reducible refine hE.mono ?_); rintro e w2 ⟨rfl, hR⟩))
  go_ret
  exact ⟨rfl, hR⟩
theorem kS_same (q : Option Addr) (P : Nat → World → Prop) (w : World) (hC : ∀ w', Below w.heap.size w w' → Calls Try.prog 107 #[.pointer q] w' fun e w'' => ∃ Q : Nat, e = .returned (.pointer (some ⟨Q, 0, none⟩)) ∧ P Q w'' ∧ Below w'.heap.size w' w'') :
    Calls Try.prog 104 #[vB q] w fun e w' => ∃ Q : Nat, e = .returned (kS (some ⟨Q, 0, none⟩)) ∧ P Q w' ∧ Below w.heap.size w w' := by
  have BC := Box.new w 67 #[.pointer q]
  have E := up1 w (.cells #[.pointer q] 67)
  have c0 := BC.cell 0
  clear BC
  go_enter Try.func104, Try.ntmps104
  go_wp2_with (go_at_call 107; (with_reducible refine (hC _ E).mono ?_); rintro e w1 ⟨Q, rfl, hP, hb⟩; replace E := up E hb E.size)
  go_ret
  exact ⟨Q, rfl, hP, E⟩
end Go.Proofs.Ytejolaifdjcghaa
