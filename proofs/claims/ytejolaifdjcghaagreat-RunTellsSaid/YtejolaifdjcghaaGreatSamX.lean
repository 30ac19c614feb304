/- Do a run and the document's tell the same? -/
import Derived.Test.YtejolaifdjcghaaGreatRfE
namespace Go.Proofs.YtejolaifdjcghaaGreat
open Go.RowKit Go.Shelf W
set_option linter.unusedVariables false
set_option maxRecDepth 100000
set_option maxHeartbeats 16000000 in
theorem same_of (Bb Br : Nat) (f l r ax ay T N x : Int) (b : Bool) (kn A v C u : Int) (w : World)
    (h14 : ∀ w', Below w.heap.size w w' → Calls Tryz.prog 14 #[.pointer (some ⟨Bb, 0, none⟩)] w' fun e w'' => e = .returned (.tuple #[eU x, .bool b]) ∧ Below w'.heap.size w' w'')
    (h15 : ∀ w', Below w.heap.size w w' → Calls Tryz.prog 15 #[.pointer (some ⟨Br, 0, none⟩)] w' fun e w'' => e = .returned (.tuple #[eU x, .bool b]) ∧ Below w'.heap.size w' w'')
    (h16 : ∀ w', Below w.heap.size w w' → Calls Tryz.prog 16 #[.pointer (some ⟨Bb, 0, none⟩)] w' fun e w'' => e = .returned (.agg #[eU f, eU l, eU r]) ∧ Below w'.heap.size w' w'')
    (h17 : ∀ w', Below w.heap.size w w' → Calls Tryz.prog 17 #[.pointer (some ⟨Bb, 0, none⟩)] w' fun e w'' => e = .returned (eI kn) ∧ Below w'.heap.size w' w'')
    (h18 : ∀ w', Below w.heap.size w w' → Calls Tryz.prog 18 #[.pointer (some ⟨Br, 0, none⟩)] w' fun e w'' => e = .returned (eI kn) ∧ Below w'.heap.size w' w'')
    (h19 : ∀ w', Below w.heap.size w w' → Calls Tryz.prog 19 #[.pointer (some ⟨Bb, 0, none⟩), eU T] w' fun e w'' => e = .returned (eU A) ∧ Below w'.heap.size w' w'')
    (h20 : ∀ w', Below w.heap.size w w' → Calls Tryz.prog 20 #[.pointer (some ⟨Br, 0, none⟩), eU T] w' fun e w'' => e = .returned (eU A) ∧ Below w'.heap.size w' w'')
    (h21 : ∀ w', Below w.heap.size w w' → Calls Tryz.prog 21 #[.pointer (some ⟨Bb, 0, none⟩), eU N] w' fun e w'' => e = .returned (eU v) ∧ Below w'.heap.size w' w'')
    (h22 : ∀ w', Below w.heap.size w w' → Calls Tryz.prog 22 #[.pointer (some ⟨Br, 0, none⟩), eU N] w' fun e w'' => e = .returned (eU v) ∧ Below w'.heap.size w' w'')
    (h23 : ∀ w', Below w.heap.size w w' → Calls Tryz.prog 23 #[.pointer (some ⟨Bb, 0, none⟩), eU T] w' fun e w'' => e = .returned (eU C) ∧ Below w'.heap.size w' w'')
    (h24 : ∀ w', Below w.heap.size w w' → Calls Tryz.prog 24 #[.pointer (some ⟨Br, 0, none⟩), eU T] w' fun e w'' => e = .returned (eU C) ∧ Below w'.heap.size w' w'')
    (h25 : ∀ w', Below w.heap.size w w' → Calls Tryz.prog 25 #[.pointer (some ⟨Bb, 0, none⟩), eU N] w' fun e w'' => e = .returned (eU u) ∧ Below w'.heap.size w' w'')
    (h26 : ∀ w', Below w.heap.size w w' → Calls Tryz.prog 26 #[.pointer (some ⟨Br, 0, none⟩), eU N] w' fun e w'' => e = .returned (eU u) ∧ Below w'.heap.size w' w'')
    (hc : ∀ w', Below w.heap.size w w' → w'.cell? ⟨Br, 0, none⟩ = some (.int .u64 f) ∧ w'.cell? ⟨Br, 1, none⟩ = some (.int .u64 l) ∧ w'.cell? ⟨Br, 2, none⟩ = some (.int .u64 r)) :
    Calls Tryz.prog 7 #[.pointer (some ⟨Bb, 0, none⟩), .pointer (some ⟨Br, 0, none⟩), .agg #[eU ax, eU ay, eU T, eU N]] w fun e w' => e = .returned (.bool true) ∧ Below w.heap.size w w' := by
  have BX := Box.new w 33 #[eU ax, eU ay, eU T, eU N]
  have E := up1 w (.cells #[eU ax, eU ay, eU T, eU N] 33)
  have hch := Lib.hid hc
  clear hc
  have t2 : _ = some (Value.int .u64 T) := BX.cell 2
  have t3 : _ = some (Value.int .u64 N) := BX.cell 3
  obtain ⟨k0, k1, k2⟩ := hch.out _ E
  go_enter Tryz.func7, Tryz.ntmps7
  go_upto_region 3 with (first
    | (go_at_call 14; (with_reducible refine (h14 _ E).mono ?_); rintro e w1 ⟨rfl, hb⟩; replace E := up E hb E.size; replace BX := BX.below hb; clear hb t2 t3 k0 k1 k2; have t2 : _ = some (Value.int .u64 T) := BX.cell 2; have t3 : _ = some (Value.int .u64 N) := BX.cell 3; obtain ⟨k0, k1, k2⟩ := hch.out _ E)
    | (go_at_call 15; (with_reducible refine (h15 _ E).mono ?_); rintro e w1 ⟨rfl, hb⟩; replace E := up E hb E.size; replace BX := BX.below hb; clear hb t2 t3 k0 k1 k2; have t2 : _ = some (Value.int .u64 T) := BX.cell 2; have t3 : _ = some (Value.int .u64 N) := BX.cell 3; obtain ⟨k0, k1, k2⟩ := hch.out _ E))
  simp only [List.append_eq, List.cons_append, List.nil_append]
  go_region_held3 (fun w' => w'.cell? ⟨w.heap.size, 2, none⟩ = some (.int .u64 T) ∧ w'.cell? ⟨w.heap.size, 3, none⟩ = some (.int .u64 N) ∧ w'.cell? ⟨Br, 0, none⟩ = some (.int .u64 f) ∧ w'.cell? ⟨Br, 1, none⟩ = some (.int .u64 l) ∧ w'.cell? ⟨Br, 2, none⟩ = some (.int .u64 r))
    (first | exact ⟨BX.cell 2, BX.cell 3, hch.out _ E⟩ | exact ⟨BX.cell 2, BX.cell 3, hch.out _ E.drew⟩)
    (first
      | (go_at_call 16; (with_reducible refine (h16 _ (by first | exact E | exact E.drew)).mono ?_); rintro e w1 ⟨rfl, hb⟩; (first | replace hb := undrew hb | replace hb := undrewN hb | skip); replace E := up E hb E.size; replace BX := BX.below hb; clear hb)
      | (go_at_call 17; (with_reducible refine (h17 _ (by first | exact E | exact E.drew)).mono ?_); rintro e w1 ⟨rfl, hb⟩; (first | replace hb := undrew hb | replace hb := undrewN hb | skip); replace E := up E hb E.size; replace BX := BX.below hb; clear hb)
      | (go_at_call 18; (with_reducible refine (h18 _ (by first | exact E | exact E.drew)).mono ?_); rintro e w1 ⟨rfl, hb⟩; (first | replace hb := undrew hb | replace hb := undrewN hb | skip); replace E := up E hb E.size; replace BX := BX.below hb; clear hb)
      | (go_at_call 19; (with_reducible refine (h19 _ (by first | exact E | exact E.drew)).mono ?_); rintro e w1 ⟨rfl, hb⟩; (first | replace hb := undrew hb | replace hb := undrewN hb | skip); replace E := up E hb E.size; replace BX := BX.below hb; clear hb)
      | (go_at_call 20; (with_reducible refine (h20 _ (by first | exact E | exact E.drew)).mono ?_); rintro e w1 ⟨rfl, hb⟩; (first | replace hb := undrew hb | replace hb := undrewN hb | skip); replace E := up E hb E.size; replace BX := BX.below hb; clear hb)
      | (go_at_call 21; (with_reducible refine (h21 _ (by first | exact E | exact E.drew)).mono ?_); rintro e w1 ⟨rfl, hb⟩; (first | replace hb := undrew hb | replace hb := undrewN hb | skip); replace E := up E hb E.size; replace BX := BX.below hb; clear hb)
      | (go_at_call 22; (with_reducible refine (h22 _ (by first | exact E | exact E.drew)).mono ?_); rintro e w1 ⟨rfl, hb⟩; (first | replace hb := undrew hb | replace hb := undrewN hb | skip); replace E := up E hb E.size; replace BX := BX.below hb; clear hb)
      | (go_at_call 23; (with_reducible refine (h23 _ (by first | exact E | exact E.drew)).mono ?_); rintro e w1 ⟨rfl, hb⟩; (first | replace hb := undrew hb | replace hb := undrewN hb | skip); replace E := up E hb E.size; replace BX := BX.below hb; clear hb)
      | (go_at_call 24; (with_reducible refine (h24 _ (by first | exact E | exact E.drew)).mono ?_); rintro e w1 ⟨rfl, hb⟩; (first | replace hb := undrew hb | replace hb := undrewN hb | skip); replace E := up E hb E.size; replace BX := BX.below hb; clear hb)
      | (go_at_call 25; (with_reducible refine (h25 _ (by first | exact E | exact E.drew)).mono ?_); rintro e w1 ⟨rfl, hb⟩; (first | replace hb := undrew hb | replace hb := undrewN hb | skip); replace E := up E hb E.size; replace BX := BX.below hb; clear hb)
      | (go_at_call 26; (with_reducible refine (h26 _ (by first | exact E | exact E.drew)).mono ?_); rintro e w1 ⟨rfl, hb⟩; (first | replace hb := undrew hb | replace hb := undrewN hb | skip); replace E := up E hb E.size; replace BX := BX.below hb; clear hb))
  all_goals go_wp2_with fail
  all_goals go_ret
  all_goals exact ⟨by first | rfl | simp, E⟩
end Go.Proofs.YtejolaifdjcghaaGreat
