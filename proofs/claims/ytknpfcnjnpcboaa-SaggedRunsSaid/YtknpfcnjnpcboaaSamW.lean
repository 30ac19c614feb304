/- Do a run and the document's copies tell the same? -/
import Derived.Test.YtknpfcnjnpcboaaCpM
namespace Go.Proofs.Ytknpfcnjnpcboaa
open Go.RowKit Go.Shelf W
set_option linter.unusedVariables false
set_option maxRecDepth 100000
set_option maxHeartbeats 16000000 in
theorem same_of (Bb Br n kn : Nat) (ax ay T N x A v C u : Int) (a : Option Addr) (cap : Nat) (w : World) (RL : Nat → World → Prop) (hn : 0 < n)
    (h14 : ∀ w', Below w.heap.size w w' → Calls Try.prog 14 #[.pointer (some ⟨Bb, 0, none⟩)] w' fun e w'' => e = .returned (.tuple #[eU x, .bool true]) ∧ Below w'.heap.size w' w'')
    (h32 : ∀ w', Below w.heap.size w w' → Calls Try.prog 32 #[.pointer (some ⟨Br, 0, none⟩)] w' fun e w'' => e = .returned (eU x) ∧ Below w'.heap.size w' w'')
    (h19 : ∀ w', Below w.heap.size w w' → Calls Try.prog 19 #[.pointer (some ⟨Bb, 0, none⟩)] w' fun e w'' => e = .returned (.int .i64 n) ∧ Below w'.heap.size w' w'')
    (h20 : ∀ w', Below w.heap.size w w' → Calls Try.prog 20 #[.pointer (some ⟨Bb, 0, none⟩)] w' fun e w'' => e = .returned (.int .i64 kn) ∧ Below w'.heap.size w' w'')
    (h33 : ∀ w', Below w.heap.size w w' → Calls Try.prog 33 #[.pointer (some ⟨Br, 0, none⟩)] w' fun e w'' => e = .returned (.int .i64 kn) ∧ Below w'.heap.size w' w'')
    (h17 : ∀ w', Below w.heap.size w w' → Calls Try.prog 17 #[.pointer (some ⟨Bb, 0, none⟩), eU T] w' fun e w'' => e = .returned (eU A) ∧ Below w'.heap.size w' w'')
    (h34 : ∀ w', Below w.heap.size w w' → Calls Try.prog 34 #[.pointer (some ⟨Br, 0, none⟩), eU T] w' fun e w'' => e = .returned (eU A) ∧ Below w'.heap.size w' w'')
    (h15 : ∀ w', Below w.heap.size w w' → Calls Try.prog 15 #[.pointer (some ⟨Bb, 0, none⟩), eU N] w' fun e w'' => e = .returned (eU v) ∧ Below w'.heap.size w' w'')
    (h35 : ∀ w', Below w.heap.size w w' → Calls Try.prog 35 #[.pointer (some ⟨Br, 0, none⟩), eU N] w' fun e w'' => e = .returned (eU v) ∧ Below w'.heap.size w' w'')
    (h18 : ∀ w', Below w.heap.size w w' → Calls Try.prog 18 #[.pointer (some ⟨Bb, 0, none⟩), eU T] w' fun e w'' => e = .returned (eU C) ∧ Below w'.heap.size w' w'')
    (h16 : ∀ w', Below w.heap.size w w' → Calls Try.prog 16 #[.pointer (some ⟨Bb, 0, none⟩), eU N] w' fun e w'' => e = .returned (eU u) ∧ Below w'.heap.size w' w'')
    (h31 : ∀ w', Below w.heap.size w w' → Calls Try.prog 31 #[.pointer (some ⟨Br, 0, none⟩)] w' fun e w'' => (∃ Bl : Nat, e = .returned (.pointer (some ⟨Bl, 0, none⟩)) ∧ RL Bl w'') ∧ Below w'.heap.size w' w'')
    (hRL : ∀ Bl w w', RL Bl w → Below w.heap.size w w' → RL Bl w')
    (hl34 : ∀ Bl w, RL Bl w → Calls Try.prog 34 #[.pointer (some ⟨Bl, 0, none⟩), eU T] w fun e w' => e = .returned (eU C) ∧ Below w.heap.size w w')
    (hl35 : ∀ Bl w, RL Bl w → Calls Try.prog 35 #[.pointer (some ⟨Bl, 0, none⟩), eU N] w fun e w' => e = .returned (eU u) ∧ Below w.heap.size w w')
    (hc3 : ∀ w', Below w.heap.size w w' → w'.cell? ⟨Br, 3, none⟩ = some (.slice a n cap)) :
    Calls Try.prog 11 #[.pointer (some ⟨Bb, 0, none⟩), .pointer (some ⟨Br, 0, none⟩), .agg #[eU ax, eU ay, eU T, eU N]] w fun e w' => e = .returned (.bool true) ∧ Below w.heap.size w w' := by
  have BX := Box.new w 36 #[eU ax, eU ay, eU T, eU N]
  have E := up1 w (.cells #[eU ax, eU ay, eU T, eU N] 36)
  have hc3h := Lib.hid hc3
  have hd : decide (0 < n) = true := decide_eq_true hn
  have i1 : (0 : Int) < (n : Int) := by omega
  clear hc3
  go_enter Try.func11, Try.ntmps11
  go_upto_region 3 with (first
    | (go_at_call 14; (with_reducible refine (h14 _ (by first | exact E | exact E.drew)).mono ?_); rintro e w1 ⟨rfl, hb⟩; (first | replace hb := undrew hb | replace hb := undrewN hb | skip); replace E := up E hb E.size; replace BX := BX.below hb; clear hb)
    | (go_at_call 31; (with_reducible refine (h31 _ (by first | exact E | exact E.drew)).mono ?_); rintro e w2 ⟨⟨Bl, rfl, QL⟩, hb⟩; replace E := up E hb E.size; replace BX := BX.below hb; clear hb))
  have k3 := hc3h.out _ E
  have t2 : w2.cell? ⟨w.heap.size, 2, none⟩ = some (.int .u64 T) := BX.cell 2
  have t3 : w2.cell? ⟨w.heap.size, 3, none⟩ = some (.int .u64 N) := BX.cell 3
  go_cut [47] (fun s47 wx => s47 = .bool false ∧ RL Bl wx ∧ Box wx w.heap.size #[eU ax, eU ay, eU T, eU N] 36 ∧ Below w.heap.size w wx)
  case first =>
    go_region_held3 (fun w' => w'.cell? ⟨w.heap.size, 2, none⟩ = some (.int .u64 T) ∧ w'.cell? ⟨w.heap.size, 3, none⟩ = some (.int .u64 N) ∧ w'.cell? ⟨Br, 3, none⟩ = some (.slice a n cap))
      (first | exact ⟨BX.cell 2, BX.cell 3, hc3h.out _ E⟩ | exact ⟨BX.cell 2, BX.cell 3, hc3h.out _ E.drew⟩)
      (first
        | (go_at_call 32; (with_reducible refine (h32 _ (by first | exact E | exact E.drew)).mono ?_); rintro e w3 ⟨rfl, hb⟩; (first | replace hb := undrew hb | replace hb := undrewN hb | skip); replace QL := hRL _ _ _ QL hb; replace E := up E hb E.size; replace BX := BX.below hb; clear hb)
        | (go_at_call 19; (with_reducible refine (h19 _ (by first | exact E | exact E.drew)).mono ?_); rintro e w4 ⟨rfl, hb⟩; (first | replace hb := undrew hb | replace hb := undrewN hb | skip); replace QL := hRL _ _ _ QL hb; replace E := up E hb E.size; replace BX := BX.below hb; clear hb)
        | (go_at_call 20; (with_reducible refine (h20 _ (by first | exact E | exact E.drew)).mono ?_); rintro e w5 ⟨rfl, hb⟩; (first | replace hb := undrew hb | replace hb := undrewN hb | skip); replace QL := hRL _ _ _ QL hb; replace E := up E hb E.size; replace BX := BX.below hb; clear hb)
        | (go_at_call 33; (with_reducible refine (h33 _ (by first | exact E | exact E.drew)).mono ?_); rintro e w6 ⟨rfl, hb⟩; (first | replace hb := undrew hb | replace hb := undrewN hb | skip); replace QL := hRL _ _ _ QL hb; replace E := up E hb E.size; replace BX := BX.below hb; clear hb))
    all_goals go_wp2_with fail
    all_goals go_meet
    all_goals exact ⟨by first | rfl | simp, QL, BX, E⟩
  case rest =>
    clear QL BX E k3 t2 t3
    obtain ⟨rfl, QL, BX, E⟩ := hcut
    have t2 : wc.cell? ⟨w.heap.size, 2, none⟩ = some (.int .u64 T) := BX.cell 2
    have t3 : wc.cell? ⟨w.heap.size, 3, none⟩ = some (.int .u64 N) := BX.cell 3
    go_upto_region 5 with fail
    go_region_held3 (fun w' => w'.cell? ⟨w.heap.size, 2, none⟩ = some (.int .u64 T) ∧ w'.cell? ⟨w.heap.size, 3, none⟩ = some (.int .u64 N))
      (first | exact ⟨BX.cell 2, BX.cell 3⟩)
      (first
        | (go_at_call 17; (with_reducible refine (h17 _ (by first | exact E | exact E.drew)).mono ?_); rintro e w7 ⟨rfl, hb⟩; (first | replace hb := undrew hb | replace hb := undrewN hb | skip); replace QL := hRL _ _ _ QL hb; replace E := up E hb E.size; replace BX := BX.below hb; clear hb)
        | (go_at_call 34; (with_reducible refine (h34 _ (by first | exact E | exact E.drew)).mono ?_); rintro e w8 ⟨rfl, hb⟩; (first | replace hb := undrew hb | replace hb := undrewN hb | skip); replace QL := hRL _ _ _ QL hb; replace E := up E hb E.size; replace BX := BX.below hb; clear hb)
        | (go_at_call 15; (with_reducible refine (h15 _ (by first | exact E | exact E.drew)).mono ?_); rintro e w9 ⟨rfl, hb⟩; (first | replace hb := undrew hb | replace hb := undrewN hb | skip); replace QL := hRL _ _ _ QL hb; replace E := up E hb E.size; replace BX := BX.below hb; clear hb)
        | (go_at_call 35; (with_reducible refine (h35 _ (by first | exact E | exact E.drew)).mono ?_); rintro e w10 ⟨rfl, hb⟩; (first | replace hb := undrew hb | replace hb := undrewN hb | skip); replace QL := hRL _ _ _ QL hb; replace E := up E hb E.size; replace BX := BX.below hb; clear hb)
        | (go_at_call 18; (with_reducible refine (h18 _ (by first | exact E | exact E.drew)).mono ?_); rintro e w11 ⟨rfl, hb⟩; (first | replace hb := undrew hb | replace hb := undrewN hb | skip); replace QL := hRL _ _ _ QL hb; replace E := up E hb E.size; replace BX := BX.below hb; clear hb)
        | (go_at_call 34; (with_reducible refine (hl34 _ _ (by first | exact QL | exact hRL _ _ _ QL (Below.refl _ _).drew)).mono ?_); rintro e w12 ⟨rfl, hb⟩; (first | replace hb := undrew hb | replace hb := undrewN hb | skip); replace QL := hRL _ _ _ QL hb; replace E := up E hb E.size; replace BX := BX.below hb; clear hb)
        | (go_at_call 16; (with_reducible refine (h16 _ (by first | exact E | exact E.drew)).mono ?_); rintro e w13 ⟨rfl, hb⟩; (first | replace hb := undrew hb | replace hb := undrewN hb | skip); replace QL := hRL _ _ _ QL hb; replace E := up E hb E.size; replace BX := BX.below hb; clear hb)
        | (go_at_call 35; (with_reducible refine (hl35 _ _ (by first | exact QL | exact hRL _ _ _ QL (Below.refl _ _).drew)).mono ?_); rintro e w14 ⟨rfl, hb⟩; (first | replace hb := undrew hb | replace hb := undrewN hb | skip); replace QL := hRL _ _ _ QL hb; replace E := up E hb E.size; replace BX := BX.below hb; clear hb))
    all_goals go_wp2
    all_goals go_ret
    all_goals exact ⟨rfl, E⟩
set_option maxHeartbeats 16000000 in
theorem same_nil (Bb Br kn : Nat) (ax ay T N x A v C u : Int) (a : Option Addr) (cap : Nat) (w : World) (RL : Nat → World → Prop) 
    (h14 : ∀ w', Below w.heap.size w w' → Calls Try.prog 14 #[.pointer (some ⟨Bb, 0, none⟩)] w' fun e w'' => e = .returned (.tuple #[eU x, .bool false]) ∧ Below w'.heap.size w' w'')
    (h32 : ∀ w', Below w.heap.size w w' → Calls Try.prog 32 #[.pointer (some ⟨Br, 0, none⟩)] w' fun e w'' => e = .returned (eU x) ∧ Below w'.heap.size w' w'')
    (h19 : ∀ w', Below w.heap.size w w' → Calls Try.prog 19 #[.pointer (some ⟨Bb, 0, none⟩)] w' fun e w'' => e = .returned (eI 0) ∧ Below w'.heap.size w' w'')
    (h20 : ∀ w', Below w.heap.size w w' → Calls Try.prog 20 #[.pointer (some ⟨Bb, 0, none⟩)] w' fun e w'' => e = .returned (.int .i64 kn) ∧ Below w'.heap.size w' w'')
    (h33 : ∀ w', Below w.heap.size w w' → Calls Try.prog 33 #[.pointer (some ⟨Br, 0, none⟩)] w' fun e w'' => e = .returned (.int .i64 kn) ∧ Below w'.heap.size w' w'')
    (h17 : ∀ w', Below w.heap.size w w' → Calls Try.prog 17 #[.pointer (some ⟨Bb, 0, none⟩), eU T] w' fun e w'' => e = .returned (eU A) ∧ Below w'.heap.size w' w'')
    (h34 : ∀ w', Below w.heap.size w w' → Calls Try.prog 34 #[.pointer (some ⟨Br, 0, none⟩), eU T] w' fun e w'' => e = .returned (eU A) ∧ Below w'.heap.size w' w'')
    (h15 : ∀ w', Below w.heap.size w w' → Calls Try.prog 15 #[.pointer (some ⟨Bb, 0, none⟩), eU N] w' fun e w'' => e = .returned (eU v) ∧ Below w'.heap.size w' w'')
    (h35 : ∀ w', Below w.heap.size w w' → Calls Try.prog 35 #[.pointer (some ⟨Br, 0, none⟩), eU N] w' fun e w'' => e = .returned (eU v) ∧ Below w'.heap.size w' w'')
    (h18 : ∀ w', Below w.heap.size w w' → Calls Try.prog 18 #[.pointer (some ⟨Bb, 0, none⟩), eU T] w' fun e w'' => e = .returned (eU C) ∧ Below w'.heap.size w' w'')
    (h16 : ∀ w', Below w.heap.size w w' → Calls Try.prog 16 #[.pointer (some ⟨Bb, 0, none⟩), eU N] w' fun e w'' => e = .returned (eU u) ∧ Below w'.heap.size w' w'')
    (h31 : ∀ w', Below w.heap.size w w' → Calls Try.prog 31 #[.pointer (some ⟨Br, 0, none⟩)] w' fun e w'' => (∃ Bl : Nat, e = .returned (.pointer (some ⟨Bl, 0, none⟩)) ∧ RL Bl w'') ∧ Below w'.heap.size w' w'')
    (hRL : ∀ Bl w w', RL Bl w → Below w.heap.size w w' → RL Bl w')
    (hl34 : ∀ Bl w, RL Bl w → Calls Try.prog 34 #[.pointer (some ⟨Bl, 0, none⟩), eU T] w fun e w' => e = .returned (eU C) ∧ Below w.heap.size w w')
    (hl35 : ∀ Bl w, RL Bl w → Calls Try.prog 35 #[.pointer (some ⟨Bl, 0, none⟩), eU N] w fun e w' => e = .returned (eU u) ∧ Below w.heap.size w w')
    (hc3 : ∀ w', Below w.heap.size w w' → w'.cell? ⟨Br, 3, none⟩ = some (.slice a 0 cap)) :
    Calls Try.prog 11 #[.pointer (some ⟨Bb, 0, none⟩), .pointer (some ⟨Br, 0, none⟩), .agg #[eU ax, eU ay, eU T, eU N]] w fun e w' => e = .returned (.bool true) ∧ Below w.heap.size w w' := by
  have BX := Box.new w 36 #[eU ax, eU ay, eU T, eU N]
  have E := up1 w (.cells #[eU ax, eU ay, eU T, eU N] 36)
  have hc3h := Lib.hid hc3
  clear hc3
  go_enter Try.func11, Try.ntmps11
  go_upto_region 3 with (first
    | (go_at_call 14; (with_reducible refine (h14 _ (by first | exact E | exact E.drew)).mono ?_); rintro e w1 ⟨rfl, hb⟩; (first | replace hb := undrew hb | replace hb := undrewN hb | skip); replace E := up E hb E.size; replace BX := BX.below hb; clear hb)
    | (go_at_call 31; (with_reducible refine (h31 _ (by first | exact E | exact E.drew)).mono ?_); rintro e w2 ⟨⟨Bl, rfl, QL⟩, hb⟩; replace E := up E hb E.size; replace BX := BX.below hb; clear hb))
  have k3 := hc3h.out _ E
  have t2 : w2.cell? ⟨w.heap.size, 2, none⟩ = some (.int .u64 T) := BX.cell 2
  have t3 : w2.cell? ⟨w.heap.size, 3, none⟩ = some (.int .u64 N) := BX.cell 3
  go_cut [47] (fun s47 wx => s47 = .bool false ∧ RL Bl wx ∧ Box wx w.heap.size #[eU ax, eU ay, eU T, eU N] 36 ∧ Below w.heap.size w wx)
  case first =>
    go_region_held3 (fun w' => w'.cell? ⟨w.heap.size, 2, none⟩ = some (.int .u64 T) ∧ w'.cell? ⟨w.heap.size, 3, none⟩ = some (.int .u64 N) ∧ w'.cell? ⟨Br, 3, none⟩ = some (.slice a 0 cap))
      (first | exact ⟨BX.cell 2, BX.cell 3, hc3h.out _ E⟩ | exact ⟨BX.cell 2, BX.cell 3, hc3h.out _ E.drew⟩)
      (first
        | (go_at_call 32; (with_reducible refine (h32 _ (by first | exact E | exact E.drew)).mono ?_); rintro e w3 ⟨rfl, hb⟩; (first | replace hb := undrew hb | replace hb := undrewN hb | skip); replace QL := hRL _ _ _ QL hb; replace E := up E hb E.size; replace BX := BX.below hb; clear hb)
        | (go_at_call 19; (with_reducible refine (h19 _ (by first | exact E | exact E.drew)).mono ?_); rintro e w4 ⟨rfl, hb⟩; (first | replace hb := undrew hb | replace hb := undrewN hb | skip); replace QL := hRL _ _ _ QL hb; replace E := up E hb E.size; replace BX := BX.below hb; clear hb)
        | (go_at_call 20; (with_reducible refine (h20 _ (by first | exact E | exact E.drew)).mono ?_); rintro e w5 ⟨rfl, hb⟩; (first | replace hb := undrew hb | replace hb := undrewN hb | skip); replace QL := hRL _ _ _ QL hb; replace E := up E hb E.size; replace BX := BX.below hb; clear hb)
        | (go_at_call 33; (with_reducible refine (h33 _ (by first | exact E | exact E.drew)).mono ?_); rintro e w6 ⟨rfl, hb⟩; (first | replace hb := undrew hb | replace hb := undrewN hb | skip); replace QL := hRL _ _ _ QL hb; replace E := up E hb E.size; replace BX := BX.below hb; clear hb))
    all_goals go_wp2_with fail
    all_goals go_meet
    all_goals exact ⟨by first | rfl | simp, QL, BX, E⟩
  case rest =>
    clear QL BX E k3 t2 t3
    obtain ⟨rfl, QL, BX, E⟩ := hcut
    have t2 : wc.cell? ⟨w.heap.size, 2, none⟩ = some (.int .u64 T) := BX.cell 2
    have t3 : wc.cell? ⟨w.heap.size, 3, none⟩ = some (.int .u64 N) := BX.cell 3
    go_upto_region 5 with fail
    go_region_held3 (fun w' => w'.cell? ⟨w.heap.size, 2, none⟩ = some (.int .u64 T) ∧ w'.cell? ⟨w.heap.size, 3, none⟩ = some (.int .u64 N))
      (first | exact ⟨BX.cell 2, BX.cell 3⟩)
      (first
        | (go_at_call 17; (with_reducible refine (h17 _ (by first | exact E | exact E.drew)).mono ?_); rintro e w7 ⟨rfl, hb⟩; (first | replace hb := undrew hb | replace hb := undrewN hb | skip); replace QL := hRL _ _ _ QL hb; replace E := up E hb E.size; replace BX := BX.below hb; clear hb)
        | (go_at_call 34; (with_reducible refine (h34 _ (by first | exact E | exact E.drew)).mono ?_); rintro e w8 ⟨rfl, hb⟩; (first | replace hb := undrew hb | replace hb := undrewN hb | skip); replace QL := hRL _ _ _ QL hb; replace E := up E hb E.size; replace BX := BX.below hb; clear hb)
        | (go_at_call 15; (with_reducible refine (h15 _ (by first | exact E | exact E.drew)).mono ?_); rintro e w9 ⟨rfl, hb⟩; (first | replace hb := undrew hb | replace hb := undrewN hb | skip); replace QL := hRL _ _ _ QL hb; replace E := up E hb E.size; replace BX := BX.below hb; clear hb)
        | (go_at_call 35; (with_reducible refine (h35 _ (by first | exact E | exact E.drew)).mono ?_); rintro e w10 ⟨rfl, hb⟩; (first | replace hb := undrew hb | replace hb := undrewN hb | skip); replace QL := hRL _ _ _ QL hb; replace E := up E hb E.size; replace BX := BX.below hb; clear hb)
        | (go_at_call 18; (with_reducible refine (h18 _ (by first | exact E | exact E.drew)).mono ?_); rintro e w11 ⟨rfl, hb⟩; (first | replace hb := undrew hb | replace hb := undrewN hb | skip); replace QL := hRL _ _ _ QL hb; replace E := up E hb E.size; replace BX := BX.below hb; clear hb)
        | (go_at_call 34; (with_reducible refine (hl34 _ _ (by first | exact QL | exact hRL _ _ _ QL (Below.refl _ _).drew)).mono ?_); rintro e w12 ⟨rfl, hb⟩; (first | replace hb := undrew hb | replace hb := undrewN hb | skip); replace QL := hRL _ _ _ QL hb; replace E := up E hb E.size; replace BX := BX.below hb; clear hb)
        | (go_at_call 16; (with_reducible refine (h16 _ (by first | exact E | exact E.drew)).mono ?_); rintro e w13 ⟨rfl, hb⟩; (first | replace hb := undrew hb | replace hb := undrewN hb | skip); replace QL := hRL _ _ _ QL hb; replace E := up E hb E.size; replace BX := BX.below hb; clear hb)
        | (go_at_call 35; (with_reducible refine (hl35 _ _ (by first | exact QL | exact hRL _ _ _ QL (Below.refl _ _).drew)).mono ?_); rintro e w14 ⟨rfl, hb⟩; (first | replace hb := undrew hb | replace hb := undrewN hb | skip); replace QL := hRL _ _ _ QL hb; replace E := up E hb E.size; replace BX := BX.below hb; clear hb))
    all_goals go_wp2
    all_goals go_ret
    all_goals exact ⟨rfl, E⟩
end Go.Proofs.Ytknpfcnjnpcboaa
