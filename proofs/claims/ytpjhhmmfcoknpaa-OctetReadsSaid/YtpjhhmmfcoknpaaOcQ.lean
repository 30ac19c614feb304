/- OctetReads's walk. Condition: what the slice, the string and the number can hold. -/
import Derived.Test.YtpjhhmmfcoknpaaOcP
import Derived.BigQuiet
import Derived.Deep.QuietTactic
namespace Go.Proofs.Ytpjhhmmfcoknpaa
open Go.RowKit
set_option linter.unusedVariables false
/-- The program's eye and the document's, of one state. -/
structure Dr (w0 w : World) (A B : Nat) (s t : Ey) : Prop where
  a : Eye w A s
  b : Rye w B t
  ne : A ≠ B
  la : w0.heap.size ≤ A
  lb : w0.heap.size ≤ B
  T : Below w0.heap.size w0 w
section
variable {w0 w w' : World} {A B : Nat} {s t s' : Ey}
theorem Dr.onA (h : Dr w0 w A B s t) (e : Eye w' A s') (k : But A w w') : Dr w0 w' A B s' t := ⟨e, h.b.but k (Ne.symm h.ne), h.ne, h.la, h.lb, k.up h.T h.la⟩
theorem Dr.onB (h : Dr w0 w A B s t) (e : Rye w' B s') (k : But B w w') : Dr w0 w' A B s s' := ⟨h.a.but k h.ne, e, h.ne, h.la, h.lb, k.up h.T h.lb⟩
theorem Dr.below (h : Dr w0 w A B s t) (k : Below w.heap.size w w') : Dr w0 w' A B s t := ⟨h.a.below k, h.b.below k, h.ne, h.la, h.lb, ups h.T k h.T.size⟩
end
set_option maxHeartbeats 16000000 in
set_option maxRecDepth 100000 in
theorem OctetReads_walk (S : List UInt8) (a : Option Addr) (n c : Nat) (xs : Nat → Th) (z : Int) (w0 : World) (hI : IsThs w0 a n c xs) (hok : ∀ i, (xs i).ok) :
    Calls Try.prog 4 #[.string (bs S), .slice a n c, .int .i64 z] w0 fun e w' => e = .returned (.bool true) ∧ Below w0.heap.size w0 w' := by
  have j3 : (n : Int) ≤ (c : Int) := by have := hI.1; omega
  have hz := bs_size S
  by_cases hb1 : 3000 < S.length
  · have j0 : (3000 : Int) < (S.length : Int) := by omega
    go_enter Try.func4, Try.ntmps4
    go_wp2
    go_ret
    exact ⟨rfl, Below.refl _ _⟩
  have j0 : ¬ (3000 : Int) < (S.length : Int) := by omega
  by_cases hb2 : 100 < n
  · have j1 : (100 : Int) < (n : Int) := by omega
    go_enter Try.func4, Try.ntmps4
    go_wp2
    go_ret
    exact ⟨rfl, Below.refl _ _⟩
  have j1 : ¬ (100 : Int) < (n : Int) := by omega
  have hO := Open_any w0 S
  go_enter Try.func4, Try.ntmps4
  go_wp2_with (go_at_call 15; (with_reducible refine hO.mono ?_); rintro e w2 ⟨rfl, E2, T2⟩)
  have D3 : Dr w0 (w2.alloc (.cells #[.string (bs S), .bool false] 46)) w0.heap.size w2.heap.size ⟨S, false⟩ ⟨S, false⟩ := ⟨E2.below (up1 _ _), Box.new w2 46 _, Nat.ne_of_lt E2.lt, Nat.le_refl _, T2.size, ups T2 (up1 w2 _) T2.size⟩
  generalize w2.alloc (.cells #[.string (bs S), .bool false] 46) = w3 at *
  generalize w2.heap.size = B at *
  clear hO E2 T2
  go_loopw [9] (fun s9 wr => ∃ (k : Nat) (s : Ey), s9 = .int .i64 k ∧ k ≤ n ∧ Dr w0 wr w0.heap.size B s s ∧ s.ok ∧ s.left.length ≤ 3000) (fun s9 _ => n - (intOf s9).toNat)
  case atStart => exact ⟨0, _, rfl, by omega, D3, (fun h => by cases h), by show S.length ≤ 3000; omega⟩
  case round =>
    clear D3
    obtain ⟨k, s, rfl, hk, D, hso, hsl⟩ := hrel
    by_cases hlt : k < n
    · obtain ⟨b, o, rfl, hb, c0, c1⟩ := hI.at hlt
      have hcell : ∀ W, Below w0.heap.size w0 W → W.cell? ⟨b, o + k * 2, none⟩ = some (.int .u8 ((xs k).k : Int)) := fun W T => (T.cell (p := ⟨b, _, none⟩) hb).trans c0
      clear c0 c1
      have j4 : (k : Int) < (n : Int) := by omega
      go_upto_if 35 with (fail)
      go_cut [] (fun wx => ∃ s', Dr w0 wx w0.heap.size B s' s' ∧ s'.ok ∧ s'.left.length ≤ 3000)
      case first =>
        by_cases hat : (k : Int) = z
        · have q1 : ((k : Int) == z) = true := by simpa using hat
          have KA := Fail_any D.a
          have KB : ∀ w, Dr w0 w w0.heap.size B Ey.fail s → Calls Try.prog 17 #[ptr B] w fun e w' => e = .returned unitV ∧ Dr w0 w' w0.heap.size B Ey.fail Ey.fail := fun w D => (RFail_any D.b).mono fun e w' ⟨x, y, z⟩ => ⟨x, D.onB y z⟩
          clear hat
          go_wp2_with (first
            | (go_at_call 16; (with_reducible refine KA.mono ?_); rintro e w4 ⟨rfl, E4, B4⟩; have KB4 := KB _ (D.onA E4 B4))
            | (go_at_call 17; (with_reducible refine KB4.mono ?_); rintro e w5 ⟨rfl, D5⟩))
          go_meet
          exact ⟨_, D5, Ey.ok_fail, by show (0 : Nat) ≤ 3000; omega⟩
        · have q1 : ((k : Int) == z) = false := by simpa using hat
          clear hat
          go_wp2
          go_meet
          exact ⟨_, D, hso, hsl⟩
      case rest =>
        clear D hso hsl
        obtain ⟨s, D, hso, hsl⟩ := hcut
        have c0 := hcell _ D.T
        go_upto_block 2 with (fail)
        obtain ⟨kk, hkk⟩ : ∃ kk : Int, ((xs k).k : Int) % 4 = kk := ⟨_, rfl⟩
        rw [hkk]
        go_cut [10] (fun s10 wx => s10 = .bool true ∧ ∃ s', Dr w0 wx w0.heap.size B s' s' ∧ s'.ok ∧ s'.left.length ≤ 3000)
        case first =>
          rcases (by omega : (xs k).k % 4 = 0 ∨ (xs k).k % 4 = 1 ∨ (xs k).k % 4 = 2 ∨ (xs k).k % 4 = 3) with hk4 | hk4 | hk4 | hk4
          · have hki : kk = 0 := by omega
            have hq0 : (kk == 0) = true := by rw [hki]; rfl
            clear hki hkk hk4
            have KA : Calls Try.prog 18 #[ptr w0.heap.size] wc fun e w' => e = .returned (.int .u8 (byV s.left : Int)) ∧ Dr w0 w' w0.heap.size B (byE s) s := (EByte_any D.a).mono fun e w' ⟨x, y, z⟩ => ⟨x, D.onA y z⟩
            have KB : ∀ w, Dr w0 w w0.heap.size B (byE s) s → Calls Try.prog 19 #[ptr B] w fun e w' => e = .returned (.int .u8 (byV s.left : Int)) ∧ Dr w0 w' w0.heap.size B (byE s) (byE s) := fun w D => (RByte_any D.b).mono fun e w' ⟨x, y, z⟩ => ⟨x, D.onB y z⟩
            have q1 := byE_ok hso
            have q2 := byE_len s
            go_wp2_with (first
              | (go_at_call 18; (with_reducible refine KA.mono ?_); rintro e w4 ⟨rfl, D4⟩; have KB4 := KB _ D4)
              | (go_at_call 19; (with_reducible refine KB4.mono ?_); rintro e w5 ⟨rfl, D5⟩))
            go_meet
            exact ⟨by simp, _, D5, q1, by omega⟩
          · have hki : kk = 1 := by omega
            have hq0 : (kk == 0) = false := by rw [hki]; rfl
            have hq1 : (kk == 1) = true := by rw [hki]; rfl
            clear hki hkk hk4
            have KA : Calls Try.prog 20 #[ptr w0.heap.size] wc fun e w' => e = .returned (.int .u64 (nuV s.left : Int)) ∧ Dr w0 w' w0.heap.size B (nuE s) s := (ENum_any D.a hso (by omega)).mono fun e w' ⟨x, y, z⟩ => ⟨x, D.onA y z⟩
            have KB : ∀ w, Dr w0 w w0.heap.size B (nuE s) s → Calls Try.prog 21 #[ptr B] w fun e w' => e = .returned (.int .u64 (nuV s.left : Int)) ∧ Dr w0 w' w0.heap.size B (nuE s) (nuE s) := fun w D => (REye_num D.b (by omega)).mono fun e w' ⟨x, y, z⟩ => ⟨x, D.onB y z⟩
            have q1 := nuE_ok hso
            have q2 := nuE_len s
            go_wp2_with (first
              | (go_at_call 20; (with_reducible refine KA.mono ?_); rintro e w4 ⟨rfl, D4⟩; have KB4 := KB _ D4)
              | (go_at_call 21; (with_reducible refine KB4.mono ?_); rintro e w5 ⟨rfl, D5⟩))
            go_meet
            exact ⟨by simp, _, D5, q1, by omega⟩
          · have hki : kk = 2 := by omega
            have hq0 : (kk == 0) = false := by rw [hki]; rfl
            have hq1 : (kk == 1) = false := by rw [hki]; rfl
            have hq2 : (kk == 2) = true := by rw [hki]; rfl
            clear hki hkk hk4
            have KA : Calls Try.prog 22 #[ptr w0.heap.size] wc fun e w' => e = .returned (.int .i64 (sg (nuV s.left))) ∧ Dr w0 w' w0.heap.size B (nuE s) s := (EInt_any D.a hso (by omega)).mono fun e w' ⟨x, y, z⟩ => ⟨x, D.onA y z⟩
            have KB : ∀ w, Dr w0 w w0.heap.size B (nuE s) s → Calls Try.prog 23 #[ptr B] w fun e w' => e = .returned (.int .i64 (sg (nuV s.left))) ∧ Dr w0 w' w0.heap.size B (nuE s) (nuE s) := fun w D => (REye_int D.b (by omega)).mono fun e w' ⟨x, y, z⟩ => ⟨x, D.onB y z⟩
            have q1 := nuE_ok hso
            have q2 := nuE_len s
            go_wp2_with (first
              | (go_at_call 22; (with_reducible refine KA.mono ?_); rintro e w4 ⟨rfl, D4⟩; have KB4 := KB _ D4)
              | (go_at_call 23; (with_reducible refine KB4.mono ?_); rintro e w5 ⟨rfl, D5⟩))
            go_meet
            exact ⟨by simp, _, D5, q1, by omega⟩
          · have hki : kk = 3 := by omega
            have hq0 : (kk == 0) = false := by rw [hki]; rfl
            have hq1 : (kk == 1) = false := by rw [hki]; rfl
            have hq2 : (kk == 2) = false := by rw [hki]; rfl
            clear hki hkk hk4
            have KA : Calls Try.prog 24 #[ptr w0.heap.size] wc fun e w' => e = .returned (.bool (flV s.left)) ∧ Dr w0 w' w0.heap.size B (flE s) s := (EFlag_any D.a).mono fun e w' ⟨x, y, z⟩ => ⟨x, D.onA y z⟩
            have KB : ∀ w, Dr w0 w w0.heap.size B (flE s) s → Calls Try.prog 25 #[ptr B] w fun e w' => e = .returned (.bool (flV s.left)) ∧ Dr w0 w' w0.heap.size B (flE s) (flE s) := fun w D => (RFlagE_any D.b).mono fun e w' ⟨x, y, z⟩ => ⟨x, D.onB y z⟩
            have q1 := flE_ok hso
            have q2 := flE_len s
            go_wp2_with (first
              | (go_at_call 24; (with_reducible refine KA.mono ?_); rintro e w4 ⟨rfl, D4⟩; have KB4 := KB _ D4)
              | (go_at_call 25; (with_reducible refine KB4.mono ?_); rintro e w5 ⟨rfl, D5⟩))
            go_meet
            exact ⟨by simp, _, D5, q1, by omega⟩
        case rest =>
          clear D hso hsl c0
          obtain ⟨rfl, s, D, hso, hsl⟩ := hcut
          rename World => wq
          have hDN : ∀ q, Below wq.heap.size wq (wq.drewN q) := fun q => below_drewN (Below.refl _ wq) q
          have q1 : ∀ q, Calls Try.prog 26 #[ptr w0.heap.size] (wq.drewN q) fun e w' => e = .returned (.bool s.bad) ∧ w' = wq.drewN q := fun q => (Failed_any (D.below (hDN q)).a).mono fun e w' ⟨x, y⟩ => ⟨x, y.symm⟩
          have q2 : ∀ q, Calls Try.prog 27 #[ptr w0.heap.size] (wq.drewN q) fun e w' => e = .returned (.int .i64 (s.left.length : Int)) ∧ w' = wq.drewN q := fun q => (Left_any (D.below (hDN q)).a).mono fun e w' ⟨x, y⟩ => ⟨x, y.symm⟩
          have q3 : ∀ q, Calls Try.prog 28 #[ptr w0.heap.size] (wq.drewN q) fun e w' => e = .returned (.int .i64 (endV s)) ∧ w' = wq.drewN q := fun q => (End_any (D.below (hDN q)).a).mono fun e w' ⟨x, y⟩ => ⟨x, y.symm⟩
          have q4 : ∀ q, Calls Try.prog 29 #[ptr B] (wq.drewN q) fun e w' => e = .returned (.bool (endV s == 0)) ∧ w' = wq.drewN q := fun q => (RDone_any (D.below (hDN q)).b).mono fun e w' ⟨x, y⟩ => ⟨x, y.symm⟩
          obtain ⟨d0, d1, g0, g1⟩ := D.b.cells
          have hsz := bs_size s.left
          obtain ⟨v, hv⟩ : ∃ v, endV s = v := ⟨_, rfl⟩
          rw [hv] at q3 q4
          clear hv hDN
          go_upto_region 21 with fail
          go_quiet (first
            | (go_at_call 26; refine Calls.quiet_of_same (q1 _))
            | (go_at_call 27; refine Calls.quiet_of_same (q2 _))
            | (go_at_call 28; refine Calls.quiet_of_same (q3 _))
            | (go_at_call 29; refine Calls.quiet_of_same (q4 _)))
          have D9 := D.below (below_drewN (Below.refl _ wq) nq)
          clear q1 q2 q3 q4 d0 d1 g0 g1 D
          go_wp2
          go_roundw
          case rel => exact ⟨k + 1, s, by simp, by omega, D9, hso, hsl⟩
          case measure => simp only [intOf]; omega
    · obtain rfl : k = n := by omega
      have j4 : ¬ (k : Int) < (k : Int) := by omega
      have T := D.T
      clear D
      have f1 : ∀ w, Calls Try.prog 26 #[.pointer none] w fun e w' => e = .returned (.bool true) ∧ w = w' := Failed_nil
      have f2 : ∀ w, Calls Try.prog 20 #[.pointer none] w fun e w' => e = .returned (.int .u64 0) ∧ w = w' := ENum_nil
      have f3 : ∀ w, Calls Try.prog 27 #[.pointer none] w fun e w' => e = .returned (.int .i64 0) ∧ w = w' := Left_nil
      have f4 : ∀ w, Calls Try.prog 28 #[.pointer none] w fun e w' => e = .returned (.int .i64 140) ∧ w = w' := End_nil
      go_wp2_with (first
        | (go_at_call 26; (with_reducible refine (f1 _).mono ?_); rintro e w4 ⟨rfl, rfl⟩)
        | (go_at_call 20; (with_reducible refine (f2 _).mono ?_); rintro e w4 ⟨rfl, rfl⟩)
        | (go_at_call 27; (with_reducible refine (f3 _).mono ?_); rintro e w4 ⟨rfl, rfl⟩)
        | (go_at_call 28; (with_reducible refine (f4 _).mono ?_); rintro e w4 ⟨rfl, rfl⟩))
      go_ret
      exact ⟨rfl, T⟩
end Go.Proofs.Ytpjhhmmfcoknpaa
