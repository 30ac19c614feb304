/- Do a run and the document's copies tell the same? -/
import Derived.Test.YtdhfblcheoahaaaCpX
namespace Go.Proofs.Ytdhfblcheoahaaa
open Go.RowKit Go.Shelf W
set_option linter.unusedVariables false
set_option maxRecDepth 100000
set_option maxHeartbeats 8000000 in
theorem same_of (Bb Br n : Nat) (ax ay T N x p q A v : Int) (a : Option Addr) (cap : Nat) (w : World) (hn : 0 < n)
    (h15 : ∀ w', Below w.heap.size w w' → Calls Try.prog 15 #[.pointer (some ⟨Bb, 0, none⟩)] w' fun e w'' => e = .returned (.tuple #[eU x, .bool true]) ∧ Below w'.heap.size w' w'')
    (h16 : ∀ w', Below w.heap.size w w' → Calls Try.prog 16 #[.pointer (some ⟨Bb, 0, none⟩)] w' fun e w'' => e = .returned (.tuple #[eU p, eU q]) ∧ Below w'.heap.size w' w'')
    (h29 : ∀ w', Below w.heap.size w w' → Calls Try.prog 29 #[.pointer (some ⟨Br, 0, none⟩)] w' fun e w'' => e = .returned (.tuple #[eU p, eU q]) ∧ Below w'.heap.size w' w'')
    (h30 : ∀ w', Below w.heap.size w w' → Calls Try.prog 30 #[.pointer (some ⟨Br, 0, none⟩)] w' fun e w'' => e = .returned (eU x) ∧ Below w'.heap.size w' w'')
    (h19 : ∀ w', Below w.heap.size w w' → Calls Try.prog 19 #[.pointer (some ⟨Bb, 0, none⟩)] w' fun e w'' => e = .returned (.int .i64 n) ∧ Below w'.heap.size w' w'')
    (h18 : ∀ w', Below w.heap.size w w' → Calls Try.prog 18 #[.pointer (some ⟨Bb, 0, none⟩), eU T] w' fun e w'' => e = .returned (eU A) ∧ Below w'.heap.size w' w'')
    (h31 : ∀ w', Below w.heap.size w w' → Calls Try.prog 31 #[.pointer (some ⟨Br, 0, none⟩), eU T] w' fun e w'' => e = .returned (eU A) ∧ Below w'.heap.size w' w'')
    (h17 : ∀ w', Below w.heap.size w w' → Calls Try.prog 17 #[.pointer (some ⟨Bb, 0, none⟩), eU N] w' fun e w'' => e = .returned (eU v) ∧ Below w'.heap.size w' w'')
    (h32 : ∀ w', Below w.heap.size w w' → Calls Try.prog 32 #[.pointer (some ⟨Br, 0, none⟩), eU N] w' fun e w'' => e = .returned (eU v) ∧ Below w'.heap.size w' w'')
    (hc3 : ∀ w', Below w.heap.size w w' → w'.cell? ⟨Br, 3, none⟩ = some (.slice a n cap)) :
    Calls Try.prog 12 #[.pointer (some ⟨Bb, 0, none⟩), .pointer (some ⟨Br, 0, none⟩), .agg #[eU ax, eU ay, eU T, eU N]] w fun e w' => e = .returned (.bool true) ∧ Below w.heap.size w w' := by
  have BX := Box.new w 36 #[eU ax, eU ay, eU T, eU N]
  have E := up1 w (.cells #[eU ax, eU ay, eU T, eU N] 36)
  have hc3h := Lib.hid hc3
  have hd : decide (0 < n) = true := decide_eq_true hn
  have i1 : (0 : Int) < (n : Int) := by omega
  clear hc3
  go_enter Try.func12, Try.ntmps12
  go_upto_region 4 with (first
    | (go_at_call 15; (with_reducible refine (h15 _ (by first | exact E | exact E.drew)).mono ?_); rintro e w1 ⟨rfl, hb⟩; (first | replace hb := undrew hb | skip); replace E := up E hb E.size; replace BX := BX.below hb; clear hb)
    | (go_at_call 16; (with_reducible refine (h16 _ (by first | exact E | exact E.drew)).mono ?_); rintro e w2 ⟨rfl, hb⟩; (first | replace hb := undrew hb | skip); replace E := up E hb E.size; replace BX := BX.below hb; clear hb)
    | (go_at_call 29; (with_reducible refine (h29 _ (by first | exact E | exact E.drew)).mono ?_); rintro e w3 ⟨rfl, hb⟩; (first | replace hb := undrew hb | skip); replace E := up E hb E.size; replace BX := BX.below hb; clear hb))
  have k3 := hc3h.out _ E
  have t2 : w3.cell? ⟨w.heap.size, 2, none⟩ = some (.int .u64 T) := BX.cell 2
  have t3 : w3.cell? ⟨w.heap.size, 3, none⟩ = some (.int .u64 N) := BX.cell 3
  go_region_held3 (fun w' => w'.cell? ⟨w.heap.size, 2, none⟩ = some (.int .u64 T) ∧ w'.cell? ⟨w.heap.size, 3, none⟩ = some (.int .u64 N) ∧ w'.cell? ⟨Br, 3, none⟩ = some (.slice a n cap))
    (first | exact ⟨BX.cell 2, BX.cell 3, hc3h.out _ E⟩ | exact ⟨BX.cell 2, BX.cell 3, hc3h.out _ E.drew⟩)
    (first
      | (go_at_call 30; (with_reducible refine (h30 _ (by first | exact E | exact E.drew)).mono ?_); rintro e w4 ⟨rfl, hb⟩; (first | replace hb := undrew hb | replace hb := undrewN hb | skip); replace E := up E hb E.size; replace BX := BX.below hb; clear hb)
      | (go_at_call 19; (with_reducible refine (h19 _ (by first | exact E | exact E.drew)).mono ?_); rintro e w5 ⟨rfl, hb⟩; (first | replace hb := undrew hb | replace hb := undrewN hb | skip); replace E := up E hb E.size; replace BX := BX.below hb; clear hb)
      | (go_at_call 18; (with_reducible refine (h18 _ (by first | exact E | exact E.drew)).mono ?_); rintro e w6 ⟨rfl, hb⟩; (first | replace hb := undrew hb | replace hb := undrewN hb | skip); replace E := up E hb E.size; replace BX := BX.below hb; clear hb)
      | (go_at_call 31; (with_reducible refine (h31 _ (by first | exact E | exact E.drew)).mono ?_); rintro e w7 ⟨rfl, hb⟩; (first | replace hb := undrew hb | replace hb := undrewN hb | skip); replace E := up E hb E.size; replace BX := BX.below hb; clear hb)
      | (go_at_call 17; (with_reducible refine (h17 _ (by first | exact E | exact E.drew)).mono ?_); rintro e w8 ⟨rfl, hb⟩; (first | replace hb := undrew hb | replace hb := undrewN hb | skip); replace E := up E hb E.size; replace BX := BX.below hb; clear hb)
      | (go_at_call 32; (with_reducible refine (h32 _ (by first | exact E | exact E.drew)).mono ?_); rintro e w9 ⟨rfl, hb⟩; (first | replace hb := undrew hb | replace hb := undrewN hb | skip); replace E := up E hb E.size; replace BX := BX.below hb; clear hb))
  all_goals go_wp2
  all_goals go_ret
  all_goals exact ⟨rfl, E⟩
set_option maxHeartbeats 8000000 in
theorem same_nil (Bb Br : Nat) (ax ay T N x p q A v : Int) (a : Option Addr) (cap : Nat) (w : World)
    (h15 : ∀ w', Below w.heap.size w w' → Calls Try.prog 15 #[.pointer (some ⟨Bb, 0, none⟩)] w' fun e w'' => e = .returned (.tuple #[eU x, .bool false]) ∧ Below w'.heap.size w' w'')
    (h16 : ∀ w', Below w.heap.size w w' → Calls Try.prog 16 #[.pointer (some ⟨Bb, 0, none⟩)] w' fun e w'' => e = .returned (.tuple #[eU p, eU q]) ∧ Below w'.heap.size w' w'')
    (h29 : ∀ w', Below w.heap.size w w' → Calls Try.prog 29 #[.pointer (some ⟨Br, 0, none⟩)] w' fun e w'' => e = .returned (.tuple #[eU p, eU q]) ∧ Below w'.heap.size w' w'')
    (h30 : ∀ w', Below w.heap.size w w' → Calls Try.prog 30 #[.pointer (some ⟨Br, 0, none⟩)] w' fun e w'' => e = .returned (eU x) ∧ Below w'.heap.size w' w'')
    (h19 : ∀ w', Below w.heap.size w w' → Calls Try.prog 19 #[.pointer (some ⟨Bb, 0, none⟩)] w' fun e w'' => e = .returned (eI 0) ∧ Below w'.heap.size w' w'')
    (h18 : ∀ w', Below w.heap.size w w' → Calls Try.prog 18 #[.pointer (some ⟨Bb, 0, none⟩), eU T] w' fun e w'' => e = .returned (eU A) ∧ Below w'.heap.size w' w'')
    (h31 : ∀ w', Below w.heap.size w w' → Calls Try.prog 31 #[.pointer (some ⟨Br, 0, none⟩), eU T] w' fun e w'' => e = .returned (eU A) ∧ Below w'.heap.size w' w'')
    (h17 : ∀ w', Below w.heap.size w w' → Calls Try.prog 17 #[.pointer (some ⟨Bb, 0, none⟩), eU N] w' fun e w'' => e = .returned (eU v) ∧ Below w'.heap.size w' w'')
    (h32 : ∀ w', Below w.heap.size w w' → Calls Try.prog 32 #[.pointer (some ⟨Br, 0, none⟩), eU N] w' fun e w'' => e = .returned (eU v) ∧ Below w'.heap.size w' w'')
    (hc3 : ∀ w', Below w.heap.size w w' → w'.cell? ⟨Br, 3, none⟩ = some (.slice a 0 cap)) :
    Calls Try.prog 12 #[.pointer (some ⟨Bb, 0, none⟩), .pointer (some ⟨Br, 0, none⟩), .agg #[eU ax, eU ay, eU T, eU N]] w fun e w' => e = .returned (.bool true) ∧ Below w.heap.size w w' := by
  have BX := Box.new w 36 #[eU ax, eU ay, eU T, eU N]
  have E := up1 w (.cells #[eU ax, eU ay, eU T, eU N] 36)
  have hc3h := Lib.hid hc3
  clear hc3
  go_enter Try.func12, Try.ntmps12
  go_upto_region 4 with (first
    | (go_at_call 15; (with_reducible refine (h15 _ (by first | exact E | exact E.drew)).mono ?_); rintro e w1 ⟨rfl, hb⟩; (first | replace hb := undrew hb | skip); replace E := up E hb E.size; replace BX := BX.below hb; clear hb)
    | (go_at_call 16; (with_reducible refine (h16 _ (by first | exact E | exact E.drew)).mono ?_); rintro e w2 ⟨rfl, hb⟩; (first | replace hb := undrew hb | skip); replace E := up E hb E.size; replace BX := BX.below hb; clear hb)
    | (go_at_call 29; (with_reducible refine (h29 _ (by first | exact E | exact E.drew)).mono ?_); rintro e w3 ⟨rfl, hb⟩; (first | replace hb := undrew hb | skip); replace E := up E hb E.size; replace BX := BX.below hb; clear hb))
  have k3 := hc3h.out _ E
  have t2 : w3.cell? ⟨w.heap.size, 2, none⟩ = some (.int .u64 T) := BX.cell 2
  have t3 : w3.cell? ⟨w.heap.size, 3, none⟩ = some (.int .u64 N) := BX.cell 3
  go_region_held3 (fun w' => w'.cell? ⟨w.heap.size, 2, none⟩ = some (.int .u64 T) ∧ w'.cell? ⟨w.heap.size, 3, none⟩ = some (.int .u64 N) ∧ w'.cell? ⟨Br, 3, none⟩ = some (.slice a 0 cap))
    (first | exact ⟨BX.cell 2, BX.cell 3, hc3h.out _ E⟩ | exact ⟨BX.cell 2, BX.cell 3, hc3h.out _ E.drew⟩)
    (first
      | (go_at_call 30; (with_reducible refine (h30 _ (by first | exact E | exact E.drew)).mono ?_); rintro e w4 ⟨rfl, hb⟩; (first | replace hb := undrew hb | replace hb := undrewN hb | skip); replace E := up E hb E.size; replace BX := BX.below hb; clear hb)
      | (go_at_call 19; (with_reducible refine (h19 _ (by first | exact E | exact E.drew)).mono ?_); rintro e w5 ⟨rfl, hb⟩; (first | replace hb := undrew hb | replace hb := undrewN hb | skip); replace E := up E hb E.size; replace BX := BX.below hb; clear hb)
      | (go_at_call 18; (with_reducible refine (h18 _ (by first | exact E | exact E.drew)).mono ?_); rintro e w6 ⟨rfl, hb⟩; (first | replace hb := undrew hb | replace hb := undrewN hb | skip); replace E := up E hb E.size; replace BX := BX.below hb; clear hb)
      | (go_at_call 31; (with_reducible refine (h31 _ (by first | exact E | exact E.drew)).mono ?_); rintro e w7 ⟨rfl, hb⟩; (first | replace hb := undrew hb | replace hb := undrewN hb | skip); replace E := up E hb E.size; replace BX := BX.below hb; clear hb)
      | (go_at_call 17; (with_reducible refine (h17 _ (by first | exact E | exact E.drew)).mono ?_); rintro e w8 ⟨rfl, hb⟩; (first | replace hb := undrew hb | replace hb := undrewN hb | skip); replace E := up E hb E.size; replace BX := BX.below hb; clear hb)
      | (go_at_call 32; (with_reducible refine (h32 _ (by first | exact E | exact E.drew)).mono ?_); rintro e w9 ⟨rfl, hb⟩; (first | replace hb := undrew hb | replace hb := undrewN hb | skip); replace E := up E hb E.size; replace BX := BX.below hb; clear hb))
  all_goals go_wp2
  all_goals go_ret
  all_goals exact ⟨rfl, E⟩
end Go.Proofs.Ytdhfblcheoahaaa
