/- The run behind all starts of a slice; when all copies have so much. -/
import Derived.Test.YtknpfcnjnpcboaaSgD
import Derived.Test.YtknpfcnjnpcboaaAcs
namespace Go.Proofs.Ytknpfcnjnpcboaa
open Go.RowKit Go.Shelf W
set_option linter.unusedVariables false
set_option maxRecDepth 100000
namespace W
theorem IsRch.of {F L R y x m : Int} {A : List (Int × Int)} (hF : 0 ≤ F) (hR : 0 ≤ R) (hA : ∀ k ∈ A, k.1 ≤ x) (h0 : x ≤ m) (h1 : m ≤ 9223372036854775808)
    (h2 : m < 9223372036854775808 → ∀ k ∈ A, y ≤ stp (hv F L R k m)) (h3 : m = x ∨ ∃ k ∈ A, stp (hv F L R k (m - 1)) < y) : IsRch F L R y x A m := by
  refine ⟨h0, h1, fun t t1 t2 => ⟨fun h => ?_, fun h k hk => ?_⟩⟩
  · rcases h3 with h3 | ⟨k, hk, h3⟩
    · omega
    · rcases Int.lt_or_le t m with c | c
      · have := stp_mono (hv_mono (F := F) (L := L) (R := R) (k := k) hF hR (by have := hA k hk; omega) (show t ≤ m - 1 by omega))
        have := h k hk
        omega
      · exact c
  · have := stp_mono (hv_mono (F := F) (L := L) (R := R) (k := k) hF hR (by have := hA k hk; omega) h)
    have := h2 (by omega) k hk
    omega
theorem rch_ex {F L R y x : Int} (hF : Word F) (hL : Word L) (hR : Word R) (hx : x ≤ 9223372036854775808) (A : List (Int × Int)) (h0 : 0 < A.length) (hA : ∀ k ∈ A, 0 ≤ k.1 ∧ k.1 ≤ x ∧ 0 ≤ k.2 ∧ k.2 ≤ 4611686018427387904) : ∃ m, IsRch F L R y x A m := by
  rcases Int.lt_or_le 4611686018427387904 y with h | h
  · exact ⟨_, rch_far h0 hx h⟩
  · obtain ⟨m, h1, h2, h3⟩ := all_ex' hF hL hR hx h A hA
    refine ⟨m, h1, h2, fun t t1 t2 => ?_⟩
    rw [← h3 t t1 t2]
    have bst : ∀ z, y ≤ stp z ↔ y ≤ z := fun z => by have := stp_or z; omega
    exact ⟨fun g k hk => (bst _).1 (g k hk), fun g k hk => (bst _).2 (g k hk)⟩
end W
set_option maxHeartbeats 2000000 in
theorem started_ok (f l r : Int) (a : Option Addr) (n c : Nat) (xs : Nat → Ac) (w : World) (hc : CvS f l r) (hw : ∀ i, (xs i).word) (hI : IsAcs w a n c xs) (hn : n ≤ 40) :
    Calls Try.prog 22 #[.agg #[eU f, eU l, eU r], .slice a n c] w fun e w' => (∃ (B : Nat) (K : List (Int × Int)), e = .returned (.pointer (some ⟨B, 0, none⟩)) ∧ w.heap.size ≤ B ∧ Rg w' w.heap.size B f l r (fun i => (xs i).x) (fun i => (xs i).y) n K) ∧ Below w.heap.size w w' := by
  have hN := fun w => rg_new hc (fun i => (xs i).x) (fun i => (xs i).y) w
  have hS := fun (m B k : Nat) (K : List (Int × Int)) (w : World) (hk : k ≤ 800) (hB : m ≤ B) (h : Rg w m B f l r (fun i => (xs i).x) (fun i => (xs i).y) k K) => rg_start hc (fun i => (hw i).2.1.1) m B k K w hk hB (hw k).1 (hw k).2.1 h
  have BC := Box.new w 24 #[eU f, eU l, eU r]
  have T := up1 w (.cells #[eU f, eU l, eU r] 24)
  have hn' : ¬ ((40 : Int) < (n : Int)) := by omega
  have hSh := Lib.hid hS
  have hIh := Lib.hid hI
  obtain ⟨c0, c1, c2⟩ := BC.three
  clear hS hI hc hw
  go_enter Try.func22, Try.ntmps22
  go_wp2_with (go_at_call 8; (with_reducible refine (hN _).mono ?_); rintro e w1 ⟨⟨B, rfl, hB, hR⟩, hb⟩; replace T := up T hb T.size; clear hb)
  have hBw : w.heap.size ≤ B := by simp at hB; omega
  have hR0 : ∃ K, Rg w1 w.heap.size B f l r (fun i => (xs i).x) (fun i => (xs i).y) 0 K := by
    obtain ⟨h1, v, h2, h3, h4⟩ := hR
    exact ⟨[], h1, v, h2, h3.mono (by simp), h4⟩
  clear hN hB BC c0 c1 c2 hR
  go_loopw [7] (fun s7 wr => ∃ k : Nat, s7 = .int .i64 k ∧ k ≤ n ∧ (∃ K, Rg wr w.heap.size B f l r (fun i => (xs i).x) (fun i => (xs i).y) k K) ∧ Below w.heap.size w wr) (fun s7 _ => n - (intOf s7).toNat)
  case atStart => exact ⟨0, rfl, by omega, hR0, T⟩
  case round =>
    clear hR0 T
    obtain ⟨k, rfl, hk, ⟨K, hR⟩, T⟩ := hrel
    by_cases hlt : k < n
    · have i1 : (k : Int) < (n : Int) := by omega
      have i2 : (0 : Int) ≤ (k : Int) := by omega
      obtain ⟨h2, h3⟩ := hIh.out
      rcases h3 with h3 | ⟨b, o, rfl, h3⟩
      · omega
      · obtain ⟨x1, x2, _, _⟩ := (h3.below T).2 k hlt
        have hcs : (n : Int) ≤ (c : Int) := by omega
        have hR' := Lib.hid hR
        have hTh := Lib.hid T
        have h3h := Lib.hid h3
        clear hR h3 T
        go_upto_region 7 with fail
        go_region_held3 (fun w' => w'.cell? ⟨b, o + k * 4, none⟩ = some (.int .u64 (xs k).x) ∧ w'.cell? ⟨b, o + k * 4 + 1, none⟩ = some (.int .u64 (xs k).y))
          (first | exact ⟨x1, x2⟩ | exact ⟨((h3h.out.below (hTh.out.drew.trans hb2)).2 k hlt).1, ((h3h.out.below (hTh.out.drew.trans hb2)).2 k hlt).2.1⟩ | exact ⟨((h3h.out.below (hTh.out.trans hb2)).2 k hlt).1, ((h3h.out.below (hTh.out.trans hb2)).2 k hlt).2.1⟩)
          (first | (go_at_call 12; refine (hSh.out _ B k K wr.drew (by omega) hBw (show Rg wr.drew _ _ _ _ _ _ _ _ _ from hR'.out.drew)).mono ?_; rintro e w2 ⟨rfl, hR2, hb2, _⟩))
        all_goals go_wp2
        go_roundw
        case rel => exact ⟨k + 1, by go_num, by omega, hR2, hTh.out.drew.trans hb2⟩
        case measure => simp [intOf]; omega
    · obtain rfl : k = n := by omega
      have i1 : ¬ (k : Int) < (k : Int) := by omega
      go_wp2
      go_ret
      exact ⟨⟨B, rfl, hBw, K, hR⟩, T⟩
set_option maxHeartbeats 2000000 in
theorem started_long (f l r : Int) (a : Option Addr) (n c : Nat) (w : World) (hc : CvS f l r) (hn : 40 < n) :
    Calls Try.prog 22 #[.agg #[eU f, eU l, eU r], .slice a n c] w fun e w' => e = .returned (.pointer none) ∧ Below w.heap.size w w' := by
  have hN := fun w => rg_new hc (fun _ => 0) (fun _ => 0) w
  have BC := Box.new w 24 #[eU f, eU l, eU r]
  have T := up1 w (.cells #[eU f, eU l, eU r] 24)
  have hn' : ((40 : Int) < (n : Int)) := by omega
  obtain ⟨c0, c1, c2⟩ := BC.three
  go_enter Try.func22, Try.ntmps22
  go_wp2_with (go_at_call 8; (with_reducible refine (hN _).mono ?_); rintro e w1 ⟨⟨B, rfl, hB, hR⟩, hb⟩; replace T := up T hb T.size; clear hb)
  go_ret
  exact ⟨rfl, T⟩
set_option maxHeartbeats 2000000 in
theorem started_not (f l r : Int) (a : Option Addr) (n c : Nat) (w : World) (hf : Word f) (hl : Word l) (hr : Word r) (hc : ¬ CvS f l r) :
    Calls Try.prog 22 #[.agg #[eU f, eU l, eU r], .slice a n c] w fun e w' => e = .returned (.pointer none) ∧ Below w.heap.size w w' := by
  have hN := fun w => rg_new_not w hf hl hr hc
  have BC := Box.new w 24 #[eU f, eU l, eU r]
  have T := up1 w (.cells #[eU f, eU l, eU r] 24)
  obtain ⟨c0, c1, c2⟩ := BC.three
  go_enter Try.func22, Try.ntmps22
  go_wp2_with (go_at_call 8; (with_reducible refine (hN _).mono ?_); rintro e w1 ⟨rfl, hb⟩; replace T := up T hb T.size; clear hb)
  go_ret
  exact ⟨rfl, T⟩
theorem started_any (f l r : Int) (a : Option Addr) (n c : Nat) (xs : Nat → Ac) (w : World) (hf : Word f) (hl : Word l) (hr : Word r) (hw : ∀ i, (xs i).word) (hI : IsAcs w a n c xs) :
    Calls Try.prog 22 #[.agg #[eU f, eU l, eU r], .slice a n c] w fun e w' =>
      (((CvS f l r ∧ n ≤ 40) ∧ ∃ (B : Nat) (K : List (Int × Int)), e = .returned (.pointer (some ⟨B, 0, none⟩)) ∧ w.heap.size ≤ B ∧ Rg w' w.heap.size B f l r (fun i => (xs i).x) (fun i => (xs i).y) n K) ∨ (¬ (CvS f l r ∧ n ≤ 40) ∧ e = .returned (.pointer none))) ∧ Below w.heap.size w w' := by
  by_cases hc : CvS f l r
  · by_cases hn : n ≤ 40
    · refine (started_ok f l r a n c xs w hc hw hI hn).mono ?_
      rintro e w' ⟨⟨B, K, e1, e2, e3⟩, h2⟩
      exact ⟨.inl ⟨⟨hc, hn⟩, B, K, e1, e2, e3⟩, h2⟩
    · refine (started_long f l r a n c w hc (by omega)).mono ?_
      rintro e w' ⟨e1, h2⟩
      exact ⟨.inr ⟨fun h => hn h.2, e1⟩, h2⟩
  · refine (started_not f l r a n c w hf hl hr hc).mono ?_
    rintro e w' ⟨e1, h2⟩
    exact ⟨.inr ⟨fun h => hc h.1, e1⟩, h2⟩
end Go.Proofs.Ytknpfcnjnpcboaa
