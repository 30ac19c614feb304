/- The chapter's examples, as the statements ask them first: awake answers true. Condition: the library's table of powers of ten holds them. -/
import Derived.Test.YtdmgalcfgignpaaDoorPkP
namespace Go.Proofs.YtdmgalcfgignpaaDoor
open Go.RowKit W
set_option linter.unusedVariables false

def eP : Pk := ⟨7, 3, 100, 12⟩
theorem eP_ok : eP.ok := by unfold Pk.ok eP; decide
theorem eP_good : eP.good := by unfold Pk.good eP; decide
theorem eP_txt : txt eP = [55, 32, 51, 32, 49, 48, 48, 32, 49, 50] := by
  unfold txt eP
  simp [Lib.decDigits]
  try decide
theorem eP_read : ∃ n, rd [55, 32, 51, 32, 48, 49, 48, 48, 32, 49, 50] 0 (fun _ => 0) = some n ∧ n 0 = 7 ∧ n 1 = 3 ∧ n 2 = 100 ∧ n 3 = 12 := ⟨_, rfl, rfl, rfl, rfl, rfl⟩
theorem eP_other : IsP [55, 32, 51, 32, 48, 49, 48, 48, 32, 49, 50] Pk.zero 2 := by
  obtain ⟨n, hn, n0, n1, n2, n3⟩ := eP_read
  refine (IsP.of_read hn (p := eP) n0.symm (fun _ => n1.symm) (fun _ => n2.symm) n3.symm (fun _ => n1.symm) (fun _ => n2.symm) eP_ok).2 (fun h => ?_)
  have := h.2
  rw [eP_txt] at this
  simp at this
theorem Text_e (w : World) (ht : Tab w) : Calls Tryd.prog 8 #[.agg #[.int .u64 7, .int .i64 3, .int .i64 100, .int .u64 12]] w fun e w' => e = .returned (.tuple #[.string ⟨#[55, 32, 51, 32, 49, 48, 48, 32, 49, 50]⟩, .int .i64 0]) ∧ Below w.heap.size w w' := by
  have h := Text_good eP eP_ok eP_good w ht
  rw [eP_txt] at h
  exact h
theorem Parse_e (w : World) (ht : Tab w) : Calls Tryd.prog 10 #[.string ⟨#[55, 32, 51, 32, 49, 48, 48, 32, 49, 50]⟩] w fun e w' => e = .returned (.tuple #[.agg #[.int .u64 7, .int .i64 3, .int .i64 100, .int .u64 12], .int .i64 0]) ∧ Below w.heap.size w w' := by
  obtain ⟨r, e, hI, h⟩ := Parse_any ⟨#[55, 32, 51, 32, 49, 48, 48, 32, 49, 50]⟩ w ht
  have hI' : IsP (txt eP) r e := by rw [eP_txt]; exact hI
  obtain ⟨rfl, rfl⟩ := hI'.of_txt eP_ok eP_good
  exact h
theorem Parse_o (w : World) (ht : Tab w) : Calls Tryd.prog 10 #[.string ⟨#[55, 32, 51, 32, 48, 49, 48, 48, 32, 49, 50]⟩] w fun e w' => e = .returned (.tuple #[.agg #[.int .u64 0, .int .i64 0, .int .i64 0, .int .u64 0], .int .i64 2]) ∧ Below w.heap.size w w' := by
  obtain ⟨r, e, hI, h⟩ := Parse_any ⟨#[55, 32, 51, 32, 48, 49, 48, 48, 32, 49, 50]⟩ w ht
  obtain ⟨rfl, rfl⟩ := hI.unique eP_other
  exact h

set_option maxHeartbeats 4000000 in
set_option maxRecDepth 100000 in
theorem awake_any (w : World) (ht : Tab w) :
    Calls Tryd.prog 12 #[] w fun e w' => e = .returned (.bool true) ∧ Below w.heap.size w w' := by
  have g1 : ∀ w, Calls Tryd.prog 14 #[.agg #[.int .u64 7, .int .i64 3, .int .i64 100, .int .u64 12]] w fun e w' => e = .returned (.int .u64 25600) ∧ Below w.heap.size w w' := fun w => by
    have h := Grains_any 7 3 100 12 w (by omega)
    rw [show grN 100 = 25600 by decide] at h
    exact h
  have k1 : ∀ w, Calls Tryd.prog 15 #[.agg #[.int .u64 7, .int .i64 3, .int .i64 100, .int .u64 12], .int .u64 1000] w fun e w' => e = .returned (.int .u64 26) ∧ Below w.heap.size w w' := fun w => by
    have h := Ticks_any 7 3 100 12 1000 w (by omega) ⟨by omega, by omega⟩
    rw [show tkN 100 1000 = 26 by decide] at h
    exact h
  have k2 : ∀ w, Calls Tryd.prog 15 #[.agg #[.int .u64 7, .int .i64 3, .int .i64 100, .int .u64 12], .int .u64 25600] w fun e w' => e = .returned (.int .u64 1) ∧ Below w.heap.size w w' := fun w => by
    have h := Ticks_any 7 3 100 12 25600 w (by omega) ⟨by omega, by omega⟩
    rw [show tkN 100 25600 = 1 by decide] at h
    exact h
  have k3 : ∀ w, Calls Tryd.prog 15 #[.agg #[.int .u64 7, .int .i64 3, .int .i64 100, .int .u64 12], .int .u64 0] w fun e w' => e = .returned (.int .u64 9223372036854775808) ∧ Below w.heap.size w w' := fun w => by
    have h := Ticks_any 7 3 100 12 0 w (by omega) ⟨by omega, by omega⟩
    rw [show tkN 100 0 = 9223372036854775808 by decide] at h
    exact h
  have m1 : ∀ w, Calls Tryd.prog 13 #[.agg #[.int .u64 7, .int .i64 3, .int .i64 100, .int .u64 12], .int .i64 100] w fun e w' => e = .returned (.int .i64 0) ∧ Below w.heap.size w w' := fun w => by
    have h := May_any 7 3 100 12 100 w
    rw [show mayN 100 100 = 0 by decide] at h
    exact h
  have m2 : ∀ w, Calls Tryd.prog 13 #[.agg #[.int .u64 7, .int .i64 3, .int .i64 100, .int .u64 12], .int .i64 99] w fun e w' => e = .returned (.int .i64 100) ∧ Below w.heap.size w w' := fun w => by
    have h := May_any 7 3 100 12 99 w
    rw [show mayN 100 99 = 100 by decide] at h
    exact h
  have m3 : ∀ w, Calls Tryd.prog 13 #[.agg #[.int .u64 7, .int .i64 3, .int .i64 100, .int .u64 12], .int .i64 65536] w fun e w' => e = .returned (.int .i64 2) ∧ Below w.heap.size w w' := fun w => by
    have h := May_any 7 3 100 12 65536 w
    rw [show mayN 100 65536 = 2 by decide] at h
    exact h
  have b1 : ∀ w, Calls Tryd.prog 20 #[.agg #[.int .u64 7, .int .i64 3, .int .i64 100, .int .u64 12], .agg #[.int .u64 7, .int .i64 3, .int .i64 100, .int .u64 12]] w fun e w' => e = .returned (.bool false) ∧ Below w.heap.size w w' := fun w => by
    have h := Before_any 7 3 100 12 7 3 100 12 w
    rw [show bef 7 12 7 12 = false by decide] at h
    exact h
  go_enter Tryd.func12, Tryd.ntmps12
  go_upto_region 2 with (fail)
  have B1 := Box.new w 24 #[.int .u64 7, .int .i64 3, .int .i64 100, .int .u64 12]
  have T := up1 w (.cells #[.int .u64 7, .int .i64 3, .int .i64 100, .int .u64 12] 24)
  generalize w.alloc (.cells #[.int .u64 7, .int .i64 3, .int .i64 100, .int .u64 12] 24) = W1 at B1 T ⊢
  obtain ⟨a0, a1, a2, a3, _, _, _, _⟩ := B1.four
  go_upto_region 3 with (go_at_call 8; (with_reducible refine (Text_e _ (ht.below T)).mono ?_); rintro e w2 ⟨rfl, hb⟩; replace B1 := B1.below hb; replace T := ups T hb T.size; clear hb)
  clear a0 a1 a2 a3
  go_upto_region 4 with (go_at_call 10; (with_reducible refine (Parse_e _ (ht.below T)).mono ?_); rintro e w3 ⟨rfl, hb⟩; replace B1 := B1.below hb; replace T := ups T hb T.size; clear hb)
  have B4 := Box.new w3 24 #[.int .u64 7, .int .i64 3, .int .i64 100, .int .u64 12]
  replace B1 := B1.alloc (.cells #[.int .u64 7, .int .i64 3, .int .i64 100, .int .u64 12] 24)
  replace T := T.alloc T.size (.cells #[.int .u64 7, .int .i64 3, .int .i64 100, .int .u64 12] 24)
  generalize w3.alloc (.cells #[.int .u64 7, .int .i64 3, .int .i64 100, .int .u64 12] 24) = W4 at B1 B4 T ⊢
  go_upto_region 5 with (go_at_call 10; (with_reducible refine (Parse_o _ (ht.below T)).mono ?_); rintro e w5 ⟨rfl, hb⟩; replace B1 := B1.below hb; replace B4 := B4.below hb; replace T := ups T hb T.size; clear hb)
  replace B1 := B1.alloc (.cells #[.int .u64 0, .int .i64 0, .int .i64 0, .int .u64 0] 24)
  replace B4 := B4.alloc (.cells #[.int .u64 0, .int .i64 0, .int .i64 0, .int .u64 0] 24)
  replace T := T.alloc T.size (.cells #[.int .u64 0, .int .i64 0, .int .i64 0, .int .u64 0] 24)
  generalize w5.alloc (.cells #[.int .u64 0, .int .i64 0, .int .i64 0, .int .u64 0] 24) = W6 at B1 B4 T ⊢
  obtain ⟨a0, a1, a2, a3, _, _, _, _⟩ := B1.four
  obtain ⟨b0, b1', b2, b3, _, _, _, _⟩ := B4.four
  go_wp2_with (first
    | (go_at_call 14; (with_reducible refine (g1 _).mono ?_); rintro e wn ⟨rfl, hb⟩; replace B1 := B1.below hb; replace B4 := B4.below hb; replace T := ups T hb T.size; clear hb; obtain ⟨_, _, _, _, _, _, _, _⟩ := B1.four; obtain ⟨_, _, _, _, _, _, _, _⟩ := B4.four)
    | (go_at_call 15; (with_reducible refine (k1 _).mono ?_); rintro e wn ⟨rfl, hb⟩; replace B1 := B1.below hb; replace B4 := B4.below hb; replace T := ups T hb T.size; clear hb; obtain ⟨_, _, _, _, _, _, _, _⟩ := B1.four; obtain ⟨_, _, _, _, _, _, _, _⟩ := B4.four)
    | (go_at_call 15; (with_reducible refine (k2 _).mono ?_); rintro e wn ⟨rfl, hb⟩; replace B1 := B1.below hb; replace B4 := B4.below hb; replace T := ups T hb T.size; clear hb; obtain ⟨_, _, _, _, _, _, _, _⟩ := B1.four; obtain ⟨_, _, _, _, _, _, _, _⟩ := B4.four)
    | (go_at_call 15; (with_reducible refine (k3 _).mono ?_); rintro e wn ⟨rfl, hb⟩; replace B1 := B1.below hb; replace B4 := B4.below hb; replace T := ups T hb T.size; clear hb; obtain ⟨_, _, _, _, _, _, _, _⟩ := B1.four; obtain ⟨_, _, _, _, _, _, _, _⟩ := B4.four)
    | (go_at_call 13; (with_reducible refine (m1 _).mono ?_); rintro e wn ⟨rfl, hb⟩; replace B1 := B1.below hb; replace B4 := B4.below hb; replace T := ups T hb T.size; clear hb; obtain ⟨_, _, _, _, _, _, _, _⟩ := B1.four; obtain ⟨_, _, _, _, _, _, _, _⟩ := B4.four)
    | (go_at_call 13; (with_reducible refine (m2 _).mono ?_); rintro e wn ⟨rfl, hb⟩; replace B1 := B1.below hb; replace B4 := B4.below hb; replace T := ups T hb T.size; clear hb; obtain ⟨_, _, _, _, _, _, _, _⟩ := B1.four; obtain ⟨_, _, _, _, _, _, _, _⟩ := B4.four)
    | (go_at_call 13; (with_reducible refine (m3 _).mono ?_); rintro e wn ⟨rfl, hb⟩; replace B1 := B1.below hb; replace B4 := B4.below hb; replace T := ups T hb T.size; clear hb; obtain ⟨_, _, _, _, _, _, _, _⟩ := B1.four; obtain ⟨_, _, _, _, _, _, _, _⟩ := B4.four)
    | (go_at_call 20; (with_reducible refine (b1 _).mono ?_); rintro e wn ⟨rfl, hb⟩; replace B1 := B1.below hb; replace B4 := B4.below hb; replace T := ups T hb T.size; clear hb; obtain ⟨_, _, _, _, _, _, _, _⟩ := B1.four; obtain ⟨_, _, _, _, _, _, _, _⟩ := B4.four))
  go_ret
  exact ⟨rfl, T⟩
end Go.Proofs.YtdmgalcfgignpaaDoor
