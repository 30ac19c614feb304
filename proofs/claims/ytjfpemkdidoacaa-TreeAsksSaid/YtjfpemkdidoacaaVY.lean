/- The summary of all, of those up to any number, and the first key whose value is at most any number, are the document's: the walk of the statement. No condition but words. -/
import Derived.Test.YtjfpemkdidoacaaVX
namespace Go.Proofs.Ytjfpemkdidoacaa
open Go.RowKit Go.Shelf
set_option linter.unusedVariables false
set_option maxRecDepth 100000 in
set_option maxHeartbeats 8000000 in
theorem TreeAsks_walk (a : Option Addr) (n c : Nat) (xs : Nat → Ac) (q y : Int) (w : World) (hI : IsAcs w a n c xs) (hw : ∀ i, (xs i).word) (hcm : c ≤ maxLen) (hnn : a = none → n = 0 ∧ c = 0) (hq : Word q) (hy : Word y) :
    Calls Try.prog 4 #[.slice a n c, eU q, eU y] w fun e w' => e = .returned (.bool true) ∧ Below w.heap.size w w' := by
  by_cases hn : n ≤ 120
  · have hcell : ∀ (k : Nat) w', k < n → Below w.heap.size w w' → ∃ b o, a = some ⟨b, o, none⟩ ∧ b < w.heap.size ∧ AcC w' b (o + k * 4) (xs k) := fun k w' hk T => by
      obtain ⟨h2, h3⟩ := hI
      rcases h3 with h3 | ⟨b, o, e, h3⟩
      · omega
      · exact ⟨b, o, e, h3.1, (h3.below T).2 k hk⟩
    have hcl := Lib.hid hcell
    have hlen := Lib.hid (rowA_len xs)
    replace hw := Lib.hid hw
    have hnc : (n : Int) ≤ (c : Int) := by have := hI.1; omega
    have hN := ob_new w
    have g0 : ¬ (120 : Int) < (n : Int) := by omega
    have hmf : ∀ (fn : Fn) (first cap : Array Value) (w : World), (Instr.makeFunc fn first cap).run Try.prog w = .ok (.func fn first cap) w := fun _ _ _ _ => rfl
    clear hI hcm hnn hcell hq hy
    go_enter Try.func4, Try.ntmps4
    go_wp2_with (go_at_call 10; (with_reducible refine hN.mono ?_); rintro e w1 ⟨B, rfl, hB, hO, hb1⟩)
    have hD : Duo w (w1.alloc (.cells #[.slice none 0 0] 28)) B w1.heap.size [] [] :=
      ⟨⟨hO.below (up1 _ _), hB, hb1.alloc hb1.size _⟩, ⟨hb1.size, _, Box.new _ _ _, World.ownsRow_nil _ _ _ _⟩, List.Pairwise.nil⟩
    clear hN hb1 hO hB
    obtain ⟨R, hR⟩ : ∃ z, w1.heap.size = z := ⟨_, rfl⟩
    rw [hR] at hD
    obtain ⟨w2, hw2⟩ : ∃ z, w1.alloc (.cells #[.slice none 0 0] 28) = z := ⟨_, rfl⟩
    rw [hw2] at hD
    first
      | simp only [hw2, hR]
      | simp only [hR]
    clear hw2 hR
    go_loopw [9] (fun s9 wr => ∃ i : Nat, s9 = .int .i64 i ∧ i ≤ n ∧ Duo w wr B R (rowA xs i) (rowA xs i)) (fun s9 _ => n - (intOf s9).toNat)
    case atStart => exact ⟨0, rfl, by omega, hD⟩
    case round =>
      clear hD
      obtain ⟨i, rfl, hi, H⟩ := hrel
      by_cases hlt : i < n
      · have i1 : (i : Int) < (n : Int) := by omega
        have i2 : (0 : Int) ≤ (i : Int) := by omega
        obtain ⟨b, o, rfl, hbw, x0, x1, x2, x3⟩ := hcl.out i wr hlt H.world
        have hwi := hw.out i
        have hL0 := hlen.out i
        obtain ⟨x, hx⟩ : ∃ z, xs i = z := ⟨_, rfl⟩
        obtain ⟨L, hL⟩ : ∃ z, rowA xs i = z := ⟨_, rfl⟩
        have hstep : rowA xs (i + 1) = stepL L x := by rw [← hx, ← hL]; rfl
        replace hstep := Lib.hid hstep
        rw [hx] at x0 x1 x2 x3 hwi
        rw [hL] at H hL0
        have hcx : ∀ w', Below w.heap.size w w' → w'.cell? ⟨b, o + i * 4, none⟩ = some (.int .u64 x.k.1) ∧ w'.cell? ⟨b, o + i * 4 + 1, none⟩ = some (.int .i64 x.k.2) ∧ w'.cell? ⟨b, o + i * 4 + 2, none⟩ = some (.int .u64 x.v) := fun w' hb => by
          obtain ⟨b', o', e, _, h0, h1, h2, _⟩ := hcl.out i w' hlt hb
          cases e
          rw [hx] at h0 h1 h2
          exact ⟨h0, h1, h2⟩
        replace hcx := Lib.hid hcx
        clear hL hx
        have hii : (((i + 1 : Nat)) : Int) = (i : Int) + 1 := by omega
        have c14 : ∀ W', Duo w W' B R L L → Calls Try.prog 14 #[.pointer (some ⟨B, 0, none⟩), ky x.k] W' fun e w' => ∃ z : Int, e = .returned (eI z) ∧ Duo w w' B R (del x.k L) L := fun W' h => (duo_drop x.k (by omega) h).mono fun e w' ⟨h1, h2, _⟩ => ⟨_, h1, h2⟩
        have c15 : ∀ W' L1, Duo w W' B R L1 L → Calls Try.prog 15 #[.pointer (some ⟨R, 0, none⟩), ky x.k] W' fun e w' => ∃ z : Int, e = .returned (eI z) ∧ Duo w w' B R L1 (del x.k L) := fun W' L1 h => (duo_rdrop x.k (by omega) h).mono fun e w' ⟨h1, h2, _⟩ => ⟨_, h1, h2⟩
        have c13 : ∀ W', Duo w W' B R L L → Calls Try.prog 13 #[.pointer (some ⟨B, 0, none⟩), ky x.k, eU x.v] W' fun e w' => ∃ z : Int, e = .returned (eI z) ∧ Duo w w' B R (putL x.it L) L := fun W' h => (duo_put x.it ⟨hwi.1, hwi.2.1, hwi.2.2⟩ (by omega) h).mono fun e w' ⟨h1, h2, _⟩ => ⟨_, h1, h2⟩
        have c16 : ∀ W' L1, Duo w W' B R L1 L → Calls Try.prog 16 #[.pointer (some ⟨R, 0, none⟩), ky x.k, eU x.v] W' fun e w' => ∃ z : Int, e = .returned (eI z) ∧ Duo w w' B R L1 (putL x.it L) := fun W' L1 h => (duo_rput x.it ⟨hwi.1, hwi.2.1, hwi.2.2⟩ (by omega) h).mono fun e w' ⟨h1, h2, _⟩ => ⟨_, h1, h2⟩
        obtain ⟨L2, hL2⟩ : ∃ z, stepL L x = z := ⟨_, rfl⟩
        obtain ⟨d, hd⟩ : ∃ d, x.d = d := ⟨_, rfl⟩
        rw [hd] at x3
        go_upto_if 40 with (fail)
        go_cut [] (fun wx => Duo w wx B R L2 L2)
        case first =>
          unfold stepL at hL2
          rw [hd] at hL2
          clear hd hstep
          cases d with
          | true =>
            have hL2 : del x.k L = L2 := hL2
            rw [hL2] at c14 c15
            clear c13 c16 hL2
            go_wp2_with (first
              | (go_at_call 14; (with_reducible refine (c14 _ H).mono ?_); rintro e w4 ⟨z4, rfl, H4⟩; obtain ⟨x0, x1, x2⟩ := hcx.out w4 H4.world)
              | (go_at_call 15; (with_reducible refine (c15 _ _ H4).mono ?_); rintro e w5 ⟨z5, rfl, H5⟩))
            go_meet
            exact H5
          | false =>
            have hL2 : putL x.it L = L2 := hL2
            rw [hL2] at c13 c16
            clear c14 c15 hL2
            have hp := c13 _ (H.below (Below.refl _ wr).drew)
            go_upto_region 12 with (fail)
            go_still_tail 11, (by kernel_rfl)
            change wpList _ _ _ _ _ wr.drew
            generalize wr.drew = w3 at *
            clear x0 x1 x2 x3 H
            go_upto_region 13 with (go_at_call 13; (with_reducible refine hp.mono ?_); rintro e w4 ⟨z4, rfl, H4⟩)
            obtain ⟨x0, x1, x2⟩ := hcx.out w4 H4.world
            have hp2 := c16 _ _ (H4.below (Below.refl _ w4).drew)
            go_still_tail 11, (by kernel_rfl)
            change wpList _ _ _ _ _ w4.drew
            generalize w4.drew = w5 at *
            clear x0 x1 x2 hp
            go_wp2_with (go_at_call 16; (with_reducible refine hp2.mono ?_); rintro e w6 ⟨z6, rfl, H6⟩)
            go_meet
            exact H6
        case rest =>
          clear H x0 x1 x2 x3 c13 c14 c15 c16 hcx hd
          rename World => X
          have H : Duo w X B R L2 L2 := hcut
          clear hcut
          have hlen2 : L2.length ≤ 120 := by have := hlen.out (i + 1); rw [hstep.out, hL2] at this; omega
          rw [hL2] at hstep
          have hF := H.1.1.words
          have hall := upto_all hF
          obtain ⟨lo, hlo⟩ : ∃ z, low (upto q L2) = z := ⟨_, rfl⟩
          obtain ⟨ls, hls⟩ : ∃ z, decide (upto q L2 ≠ []) = z := ⟨_, rfl⟩
          obtain ⟨al, hal⟩ : ∃ z, low L2 = z := ⟨_, rfl⟩
          obtain ⟨aa, haa⟩ : ∃ z, decide (L2 ≠ []) = z := ⟨_, rfl⟩
          obtain ⟨kf, hkf⟩ : ∃ z, kG (fnd y L2) = z := ⟨_, rfl⟩
          obtain ⟨kb, hkb⟩ : ∃ z, (fnd y L2).isSome = z := ⟨_, rfl⟩
          have c19 : ∀ W', Duo w W' B R L2 L2 → Calls Try.prog 19 #[.pointer (some ⟨B, 0, none⟩), eU q] W' fun e w' => e = .returned (.tuple #[eU lo, .bool ls]) ∧ Below W'.heap.size W' w' := fun W' h => by rw [← hlo, ← hls]; exact ob_upto q h.1.1
          have c20 : ∀ W', Duo w W' B R L2 L2 → Calls Try.prog 20 #[.pointer (some ⟨R, 0, none⟩), eU q] W' fun e w' => e = .returned (.tuple #[eU lo, .bool ls]) ∧ W' = w' := fun W' h => by rw [← hlo, ← hls]; exact rw_least R q L2 W' (by omega) h.rw
          have c21 : ∀ W', Duo w W' B R L2 L2 → Calls Try.prog 21 #[.pointer (some ⟨B, 0, none⟩)] W' fun e w' => e = .returned (.tuple #[eU al, .bool aa]) ∧ W' = w' := fun W' h => by rw [← hal, ← haa]; exact ob_all h.1.1
          have d20 : ∀ W', Duo w W' B R L2 L2 → Calls Try.prog 20 #[.pointer (some ⟨R, 0, none⟩), .int .u64 18446744073709551615] W' fun e w' => e = .returned (.tuple #[eU al, .bool aa]) ∧ W' = w' := fun W' h => by
            have := rw_least R 18446744073709551615 L2 W' (by omega) h.rw
            rw [hall, hal, haa] at this
            exact this
          have c22 : ∀ W', Duo w W' B R L2 L2 → Calls Try.prog 22 #[.pointer (some ⟨B, 0, none⟩), .func (.func 23) #[eU y] #[]] W' fun e w' => e = .returned (.tuple #[.agg #[eU kf.1, eI kf.2], .bool kb]) ∧ Below W'.heap.size W' w' := fun W' h => by
            have := ob_find y h.1.1
            rw [fstV_kG, hkf, hkb] at this
            exact this
          have c24 : ∀ W', Duo w W' B R L2 L2 → Calls Try.prog 24 #[.pointer (some ⟨R, 0, none⟩), eU y] W' fun e w' => e = .returned (.tuple #[.agg #[eU kf.1, eI kf.2], .bool kb]) ∧ Below W'.heap.size W' w' := fun W' h => by
            have := rw_find R y L2 W' (by omega) h.rw
            rw [fstV_kG, hkf, hkb] at this
            exact this
          have s1 : (lo == lo) = true := by simp
          have s2 : (ls == ls) = true := by simp
          have s3 : (al == al) = true := by simp
          have s4 : (aa == aa) = true := by simp
          have s5 : (kf.1 == kf.1) = true := by simp
          have s6 : (kf.2 == kf.2) = true := by simp
          have s7 : (kb == kb) = true := by simp
          clear hlo hls hal haa hkf hkb hall hF hL2 hlen2
          go_upto_region 19 with (first
            | (go_at_call 19; (with_reducible refine (c19 _ H).mono ?_); rintro e w7 ⟨rfl, hb⟩; replace H := H.below hb; clear hb)
            | (go_at_call 20; (with_reducible refine (c20 _ H).mono ?_); rintro e w8 ⟨rfl, rfl⟩)
            | (go_at_call 21; (with_reducible refine (c21 _ H).mono ?_); rintro e w9 ⟨rfl, rfl⟩)
            | (go_at_call 20; (with_reducible refine (d20 _ H).mono ?_); rintro e w10 ⟨rfl, rfl⟩)
            | (go_at_call 22; (with_reducible refine (c22 _ H).mono ?_); rintro e w11 ⟨rfl, hb⟩; replace H := (H.below hb).below (up1 w11 (.cells #[eU kf.1, eI kf.2] 32)); have bk := Box.new w11 32 #[eU kf.1, eI kf.2]; clear hb))
          have c24h := c24 _ H
          clear c19 c20 c21 d20 c22 c24
          go_upto_region 20 with (go_at_call 24; (with_reducible refine c24h.mono ?_); rintro e w12 ⟨rfl, hb⟩)
          replace H := (H.below hb).below (up1 w12 (.cells #[eU kf.1, eI kf.2] 32))
          replace bk := (bk.below hb).alloc (.cells #[eU kf.1, eI kf.2] 32)
          have bl := Box.new w12 32 #[eU kf.1, eI kf.2]
          obtain ⟨u0, u1⟩ := kyC bk
          obtain ⟨v0, v1⟩ := kyC bl
          clear hb c24h
          go_wp2_with fail
          exact ⟨⟨i + 1, by rw [hii], by omega, by rw [hstep.out]; exact H⟩, by simp [intOf]; omega⟩
      · obtain rfl : i = n := by omega
        have i1 : ¬ (i : Int) < (i : Int) := by omega
        have hW := H.world
        go_wp2_with fail
        go_ret
        exact ⟨rfl, hW⟩
  · have h1 : (120 : Int) < (n : Int) := by omega
    clear hI hw hnn hn hcm
    go_enter Try.func4, Try.ntmps4
    go_wp2_with fail
    go_ret
    exact ⟨rfl, Below.refl _ _⟩
end Go.Proofs.Ytjfpemkdidoacaa
