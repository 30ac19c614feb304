/- The whole walks of TableIds and of TableValues, too many acts among them. No condition but words. -/
import Derived.Test.YtenghpgnhmglpaaDoorRtI
import Derived.Test.YtenghpgnhmglpaaDoorRtX
import Derived.Test.YtenghpgnhmglpaaDoorTbT
namespace Go.Proofs.YtenghpgnhmglpaaDoor
open Go.RowKit Go.Shelf
set_option linter.unusedVariables false
set_option linter.unusedSimpArgs false
attribute [local go_sem] Oper.semAt_some
theorem ids_over (a : Option Addr) (n c : Nat) (most ask : Int) (w : World) (ht : Tab w) (hn : 200 < n) :
    Calls Tryd.prog 5 #[.slice a n c, eI most, eI ask] w fun e w' => e = .returned (.bool true) ∧ Below w.heap.size w w' := by
  have T1 := up1 w (.cells #[eI most] 3)
  obtain ⟨w1, hw1⟩ : ∃ x, w.alloc (.cells #[eI most] 3) = x := ⟨_, rfl⟩
  rw [hw1] at T1
  have hAw := awake_any tbLaws w1 (ht.below T1)
  refine (callsIn_wide (n := 14)).1 ?_
  refine callsIn_of_wp_marks Tryd.func5 rfl trivial ?_ rfl
  simp only [Tryd.ntmps5, List.size_toArray, List.length_cons, List.length_nil, Nat.reduceAdd, Nat.reduceSub, Array.replicate_succ, Array.replicate_zero, List.push_toArray, List.append_toArray, List.nil_append, List.cons_append]
  gi_wp2_with (first
    | (refine ⟨trivial, ?_⟩; gi_at_call 22; (with_reducible refine (callsIn_wide.2 hAw).mono ?_); rintro e w2 ⟨rfl, hb2⟩)
    | (refine ⟨trivial, ?_⟩; gi_at_call 23; (with_reducible refine (callsIn_wide.2 (acted_over tbLaws a n c w2 ((ht.below T1).below hb2) hn)).mono ?_); rintro e w3 ⟨rfl, hb3⟩))
  have T3 := ups (ups T1 hb2 T1.size) hb3 (by have := T1.size; have := hb2.size; omega)
  exact ⟨_, results_tmp rfl _ _ _, rfl, T3⟩
set_option maxRecDepth 100000 in
theorem values_over (a : Option Addr) (n c : Nat) (w : World) (ht : Tab w) (hn : 200 < n) :
    Calls Tryd.prog 6 #[.slice a n c] w fun e w' => e = .returned (.bool true) ∧ Below w.heap.size w w' := by
  have hAw := awake_any tbLaws w ht
  have i1 : (200 : Int) < (n : Int) := by omega
  go_enter Tryd.func6, Tryd.ntmps6
  go_wp2_with (first
    | (go_at_call 22; (with_reducible refine hAw.mono ?_); rintro e W1 ⟨rfl, hb1⟩)
    | (go_at_call 9; (with_reducible refine (own1_new tbLaws _ (ht.below hb1)).mono ?_); rintro e w2 ⟨B, rfl, H0⟩))
  go_ret
  exact ⟨rfl, upp hb1 H0.world⟩
theorem TableIds_walk (a : Option Addr) (n c : Nat) (xs : Nat → Ac) (most ask : Int) (w : World) (ht : Tab w) (hI : IsRow acC 4 w a n c xs) (hw : ∀ i, (xs i).ok) (hso : Inte most) (ha : Inte ask) :
    Calls Tryd.prog 5 #[.slice a n c, eI most, eI ask] w fun e w' => e = .returned (.bool true) ∧ Below w.heap.size w w' := by
  rcases Nat.lt_or_ge 200 n with h | h
  · exact ids_over a n c most ask w ht h
  · exact ids_ok tbLaws a n c xs most ask w ht h hI hw hso ha
theorem TableValues_walk (a : Option Addr) (n c : Nat) (xs : Nat → Ac) (w : World) (ht : Tab w) (hI : IsRow acC 4 w a n c xs) (hw : ∀ i, (xs i).ok) :
    Calls Tryd.prog 6 #[.slice a n c] w fun e w' => e = .returned (.bool true) ∧ Below w.heap.size w w' := by
  rcases Nat.lt_or_ge 200 n with h | h
  · exact values_over a n c w ht h
  · exact values_ok tbLaws a n c xs w ht h hI hw
end Go.Proofs.YtenghpgnhmglpaaDoor
