/- OctetOne's walk. Condition: what the slice and the string can hold. -/
import Derived.Test.YtpjhhmmfcoknpaaOcI
namespace Go.Proofs.Ytpjhhmmfcoknpaa
open Go.RowKit
set_option linter.unusedVariables false
/-- A signed number as one of 64 bits. -/
def uns (i : Int) : Nat := (i % 18446744073709551616).toNat
theorem u64_lt (i : Int) : uns i < 18446744073709551616 := by unfold uns; omega
theorem i64_u64 {i : Int} (h : -9223372036854775808 ≤ i ∧ i < 9223372036854775808) : i64 (uns i) = i := by
  unfold i64 uns
  split <;> omega
/-- The number that is read of a thing of that kind. -/
noncomputable def rN (k : Nat) (S : List UInt8) : Nat := if k % 4 = 0 then byV S else if k % 4 = 1 then nuV S else if k % 4 = 2 then uns (sg (nuV S)) else if flV S then 1 else 0
theorem rN_lt (k : Nat) (S : List UInt8) : rN k S < 18446744073709551616 := by
  unfold rN
  split
  · have := byV_lt S; omega
  · split
    · exact nuV_lt S
    · split
      · exact u64_lt _
      · split <;> omega
/-- What is read, written, is what was read. -/
theorem th_one (t : Th) (S : List UInt8) (h : (thE t ⟨S, false⟩).bad = false) : S = wrB ⟨t.k, rN t.k S⟩ ++ (thE t ⟨S, false⟩).left := by
  unfold thE at h ⊢
  unfold wrB rN
  simp only
  by_cases h0 : t.k % 4 = 0
  · rw [if_pos h0] at h ⊢
    rw [if_pos h0, if_pos h0]
    cases S with
    | nil => cases h
    | cons b R =>
      show b :: R = [UInt8.ofNat b.toNat] ++ R
      rw [UInt8.ofNat_toNat]; rfl
  · rw [if_neg h0] at h ⊢
    rw [if_neg h0, if_neg h0]
    have key : (nuE ⟨S, false⟩).bad = false → S = numL (nuV S) ++ (nuE ⟨S, false⟩).left := fun h => by
      cases hr : rdNum S with
      | none =>
        rw [(nu_none (s := ⟨S, false⟩) hr).2] at h
        cases h
      | some p =>
        obtain ⟨n, R⟩ := p
        have e := nu_some (s := ⟨S, false⟩) hr
        rw [e.2]
        have e1 : nuV S = n := e.1
        rw [e1]
        exact (rdNum_some hr).2
    by_cases h1 : t.k % 4 = 1
    · rw [if_pos h1] at h ⊢
      rw [if_pos h1, if_pos h1]
      exact key h
    · rw [if_neg h1] at h ⊢
      rw [if_neg h1, if_neg h1]
      by_cases h2 : t.k % 4 = 2
      · rw [if_pos h2] at h ⊢
        rw [if_pos h2, if_pos h2, i64_u64 (sg_lt (nuV_lt S)), zg_sg]
        exact key h
      · rw [if_neg h2] at h ⊢
        rw [if_neg h2, if_neg h2]
        unfold flE at h ⊢
        cases S with
        | nil => cases h
        | cons b R =>
          by_cases h1 : 1 < byV (b :: R)
          · have h1' : 1 < byV (Ey.mk (b :: R) false).left := h1
            rw [if_pos h1'] at h
            cases h
          · have h1' : ¬ 1 < byV (Ey.mk (b :: R) false).left := h1
            rw [if_neg h1']
            have hb : b.toNat ≤ 1 := Nat.le_of_not_lt h1
            show b :: R = [_] ++ R
            congr 1
            unfold flV byV
            rcases (by omega : b.toNat = 0 ∨ b.toNat = 1) with e | e
            · have : b = 0 := UInt8.toNat_inj.1 e
              subst this; rfl
            · have : b = 1 := UInt8.toNat_inj.1 e
              subst this; rfl
theorem Ey.eta {s : Ey} (h : s.bad = false) : s = ⟨s.left, false⟩ := by cases s; cases h; rfl
theorem th_bad {t : Th} {S : List UInt8} (h : (thE t ⟨S, false⟩).bad = true) : thE t ⟨S, false⟩ = Ey.fail := by
  have hn : (nuE ⟨S, false⟩).bad = true → nuE ⟨S, false⟩ = Ey.fail := fun h => by
    unfold nuE at h ⊢
    cases hr : rdNum (Ey.mk S false).left with
    | none => rfl
    | some p => rw [hr] at h; cases h
  have hby : (byE ⟨S, false⟩).bad = true → byE ⟨S, false⟩ = Ey.fail := fun h => by
    cases S with
    | nil => rfl
    | cons b R => cases h
  have hfl : (flE ⟨S, false⟩).bad = true → flE ⟨S, false⟩ = Ey.fail := fun h => by
    unfold flE at h ⊢
    by_cases h1 : 1 < byV (Ey.mk S false).left
    · rw [if_pos h1]
    · rw [if_neg h1] at h ⊢
      exact hby h
  unfold thE at h ⊢
  by_cases h0 : t.k % 4 = 0
  · rw [if_pos h0] at h ⊢; exact hby h
  · rw [if_neg h0] at h ⊢
    by_cases h1 : t.k % 4 = 1
    · rw [if_pos h1] at h ⊢; exact hn h
    · rw [if_neg h1] at h ⊢
      by_cases h2 : t.k % 4 = 2
      · rw [if_pos h2] at h ⊢; exact hn h
      · rw [if_neg h2] at h ⊢; exact hfl h
/-- An eye and a pen of the call's own. -/
structure Ob (w0 w : World) (E P : Nat) (s : Ey) (L : List UInt8) : Prop where
  e : Eye w E s
  p : Pen w P L
  ne : E ≠ P
  le : w0.heap.size ≤ E
  lp : w0.heap.size ≤ P
  T : Below w0.heap.size w0 w
section
variable {w0 w w' : World} {E P X : Nat} {s s' : Ey} {L L' : List UInt8}
theorem Ob.onE (h : Ob w0 w E P s L) (e : Eye w' E s') (k : But E w w') : Ob w0 w' E P s' L := ⟨e, h.p.but k (Ne.symm h.ne), h.ne, h.le, h.lp, k.up h.T h.le⟩
theorem Ob.onP (h : Ob w0 w E P s L) (p : Pen w' P L') (k : But P w w') : Ob w0 w' E P s L' := ⟨h.e.but k h.ne, p, h.ne, h.le, h.lp, k.up h.T h.lp⟩
theorem Ob.below (h : Ob w0 w E P s L) (k : Below w.heap.size w w') : Ob w0 w' E P s L := ⟨h.e.below k, h.p.below k, h.ne, h.le, h.lp, ups h.T k h.T.size⟩
theorem Ob.other (h : Ob w0 w E P s L) (k : But X w w') (hE : E ≠ X) (hP : P ≠ X) (hX : w0.heap.size ≤ X) : Ob w0 w' E P s L := ⟨h.e.but k hE, h.p.but k hP, h.ne, h.le, h.lp, k.up h.T hX⟩
end
set_option maxHeartbeats 16000000 in
set_option maxRecDepth 100000 in
theorem OctetOne_walk (S : List UInt8) (a : Option Addr) (n c : Nat) (xs : Nat → Th) (w0 : World) (hI : IsThs w0 a n c xs) (hok : ∀ i, (xs i).ok) :
    Calls Try.prog 6 #[.string (bs S), .slice a n c] w0 fun e w' => e = .returned (.bool true) ∧ Below w0.heap.size w0 w' := by
  have hA := awake_any w0
  have j3 : (n : Int) ≤ (c : Int) := by have := hI.1; omega
  have hz := bs_size S
  by_cases hb1 : 2000 < S.length
  · have j0 : (2000 : Int) < (S.length : Int) := by omega
    go_enter Try.func6, Try.ntmps6
    go_wp2_with (go_at_call 30; (with_reducible refine hA.mono ?_); rintro e w1 ⟨rfl, T⟩)
    go_ret
    exact ⟨rfl, T⟩
  have j0 : ¬ (2000 : Int) < (S.length : Int) := by omega
  by_cases hb2 : 100 < n
  · have j1 : (100 : Int) < (n : Int) := by omega
    go_enter Try.func6, Try.ntmps6
    go_wp2_with (go_at_call 30; (with_reducible refine hA.mono ?_); rintro e w1 ⟨rfl, T⟩)
    go_ret
    exact ⟨rfl, T⟩
  have j1 : ¬ (100 : Int) < (n : Int) := by omega
  have hO : ∀ w, Calls Try.prog 15 #[.string (bs S)] w fun e w' => e = .returned (ptr w.heap.size) ∧ Eye w' w.heap.size ⟨S, false⟩ ∧ Below w.heap.size w w' := fun w => Open_any w S
  have hz28 := zero28
  have hPn := Pen.new
  generalize penC [] = p0 at *
  go_enter Try.func6, Try.ntmps6
  go_wp2_with (first
    | (go_at_call 30; (with_reducible refine hA.mono ?_); rintro e w1 ⟨rfl, T1⟩; have hO1 := hO w1)
    | (go_at_call 15; (with_reducible refine hO1.mono ?_); rintro e w2 ⟨rfl, E2, T2⟩; have hz2 := hz28 w2))
  have O3 : Ob w0 (w2.alloc (.cells p0 28)) w1.heap.size w2.heap.size ⟨S, false⟩ [] := ⟨E2.below (up1 _ _), hPn w2, Nat.ne_of_lt E2.lt, T1.size, Nat.le_trans T1.size T2.size, ups (ups T1 T2 T1.size) (up1 w2 _) (Nat.le_trans T1.size T2.size)⟩
  generalize w2.alloc (.cells p0 28) = w3 at *
  generalize w1.heap.size = E at *
  generalize w2.heap.size = P at *
  clear hA hO hO1 hz28 hPn hz2 E2 T1 T2
  go_loopw [7, 8] (fun s7 s8 wr => ∃ (k : Nat) (R L : List UInt8), s7 = .int .i64 (L.length : Int) ∧ s8 = .int .i64 k ∧ k ≤ n ∧ Ob w0 wr E P ⟨R, false⟩ L ∧ S = L ++ R ∧ L.length ≤ 10 * k) (fun s7 s8 _ => n - (intOf s8).toNat)
  case atStart => exact ⟨0, S, [], rfl, rfl, by omega, O3, rfl, by simp⟩
  case round =>
    clear O3
    obtain ⟨k, R, L, rfl, rfl, hk, O, hS, hL⟩ := hrel
    by_cases hlt : k < n
    · obtain ⟨b, o, rfl, hb, c0, c1⟩ := (hI.below O.T).at hlt
      have j4 : (k : Int) < (n : Int) := by omega
      replace hS := Lib.hid hS
      have hEX : E ≠ wr.heap.size := Nat.ne_of_lt O.e.lt
      have hPX : P ≠ wr.heap.size := Nat.ne_of_lt O.p.lt
      have O1 := O.below (up1 wr (.cells #[.int .u8 ((xs k).k : Int), .int .u64 ((xs k).n : Int)] 31))
      have b1 := Box.new wr 31 #[.int .u8 ((xs k).k : Int), .int .u64 ((xs k).n : Int)]
      have hRl : R.length ≤ 2000 := by have := congrArg List.length hS.out; simp only [List.length_append] at this; omega
      have fNum : ∀ w, Ob w0 w E P Ey.fail L → Calls Try.prog 20 #[ptr E] w fun e w' => e = .returned (.int .u64 0) ∧ Ob w0 w' E P Ey.fail L := fun w O => by
        have h := ENum_any O.e (fun _ => rfl) (by decide)
        have e := nu_none (s := Ey.fail) rdNum_nil
        rw [e.1, e.2] at h
        exact h.mono fun e w' ⟨x, y, z⟩ => ⟨x, O.onE y z⟩
      have fByte : ∀ w, Ob w0 w E P Ey.fail L → Calls Try.prog 18 #[ptr E] w fun e w' => e = .returned (.int .u8 0) ∧ Ob w0 w' E P Ey.fail L := fun w O => (EByte_any O.e).mono fun e w' ⟨x, y, z⟩ => ⟨x, O.onE y z⟩
      have fFlag : ∀ w, Ob w0 w E P Ey.fail L → Calls Try.prog 24 #[ptr E] w fun e w' => e = .returned (.bool false) ∧ Ob w0 w' E P Ey.fail L := fun w O => (EFlag_any O.e).mono fun e w' ⟨x, y, z⟩ => ⟨x, O.onE y z⟩
      have fInt : ∀ w, Ob w0 w E P Ey.fail L → Calls Try.prog 22 #[ptr E] w fun e w' => e = .returned (.int .i64 0) ∧ Ob w0 w' E P Ey.fail L := fun w O => by
        have h := EInt_any O.e (fun _ => rfl) (by decide)
        have e := nu_none (s := Ey.fail) rdNum_nil
        rw [e.1, e.2] at h
        exact h.mono fun e w' ⟨x, y, z⟩ => ⟨x, O.onE y z⟩
      have fEnd : ∀ w, Ob w0 w E P Ey.fail L → Calls Try.prog 28 #[ptr E] w fun e w' => e = .returned (.int .i64 140) ∧ w = w' := fun w O => End_any O.e
      have cX : (wr.alloc (.cells #[.int .u8 ((xs k).k : Int), .int .u64 ((xs k).n : Int)] 31)).cell? ⟨wr.heap.size, 0, none⟩ = some (.int .u8 ((xs k).k : Int)) := b1.cell 0
      have hso : (Ey.mk R false).ok := fun h => by cases h
      have KB := EByte_any O1.e
      have KN := ENum_any O1.e hso (by show R.length < _; omega)
      have KI := EInt_any O1.e hso (by show R.length < _; omega)
      rcases (by omega : (xs k).k % 4 = 0 ∨ (xs k).k % 4 = 1 ∨ (xs k).k % 4 = 2 ∨ (xs k).k % 4 = 3) with hk4 | hk4 | hk4 | hk4
      · have hki : ((xs k).k : Int) % 4 = 0 := by omega
        have hE : thE (xs k) ⟨R, false⟩ = byE ⟨R, false⟩ := by unfold thE; simp only [hk4]; simp
        have hR : ((rN (xs k).k R : Nat) : Int) = (byV R : Int) := by unfold rN; simp only [hk4]; simp
        have K1 := KB
        clear KB KN KI
        have hwr : IntKind.u64.wrap (byV R : Int) = (byV R : Int) := by have := byV_lt R; rw [IntKind.wrap_u64]; omega
        have hthaw : ∀ w, Box w wr.heap.size #[.int .u8 ((xs k).k : Int), .int .u64 ((xs k).n : Int)] 31 → w.frozen? ⟨wr.heap.size, 1, none⟩ = false := fun w h => h.thaw 1
        have hcc : ∀ w, Box w wr.heap.size #[.int .u8 ((xs k).k : Int), .int .u64 ((xs k).n : Int)] 31 → w.cell? ⟨wr.heap.size, 1, none⟩ = some (.int .u64 ((xs k).n : Int)) := fun w h => h.cell 1
        go_upto_region 24 with (go_at_call 18; (with_reducible refine K1.mono ?_); rintro e w4 ⟨rfl, E4, B4⟩; have t4 := hthaw _ (B4.box b1 (Ne.symm hEX)); have s4 := hcc _ (B4.box b1 (Ne.symm hEX)))
        have O5 : Ob w0 (w4.setCell ⟨wr.heap.size, 1, none⟩ (.int .u64 ((byV R : Int)))) E P (thE (xs k) ⟨R, false⟩) L := by rw [hE]; exact ((O1.onE E4 B4).other (But.set (But.refl _ _) 1 _) hEX hPX O.T.size)
        have b5 : Box (w4.setCell ⟨wr.heap.size, 1, none⟩ (.int .u64 ((byV R : Int)))) wr.heap.size #[.int .u8 ((xs k).k : Int), .int .u64 ((rN (xs k).k R : Nat) : Int)] 31 := by rw [hR]; exact (B4.box b1 (Ne.symm hEX)).set 1 _
        clear hE hR hki K1 E4 B4
        generalize w4.setCell ⟨wr.heap.size, 1, none⟩ (.int .u64 ((byV R : Int))) = w5 at O5 b5 ⊢
        by_cases hbad : (thE (xs k) ⟨R, false⟩).bad = true
        · have O5 : Ob w0 w5 E P Ey.fail L := by rw [← th_bad hbad]; exact O5
          have g1 : Calls Try.prog 26 #[ptr E] w5 fun e w' => e = .returned (.bool true) ∧ w5 = w' := Failed_any O5.e
          have g2 : Calls Try.prog 27 #[ptr E] w5 fun e w' => e = .returned (.int .i64 0) ∧ w5 = w' := Left_any O5.e
          have g3 := fNum _ O5
          clear hbad
          go_wp2_with (first
            | (go_at_call 26; (with_reducible refine g1.mono ?_); rintro e v1 ⟨rfl, rfl⟩)
            | (go_at_call 27; (with_reducible refine g2.mono ?_); rintro e v2 ⟨rfl, rfl⟩)
            | (go_at_call 20; (with_reducible refine g3.mono ?_); rintro e v3 ⟨rfl, O6⟩; have g4 := fByte _ O6)
            | (go_at_call 18; (with_reducible refine g4.mono ?_); rintro e v4 ⟨rfl, O7⟩; have g5 := fFlag _ O7)
            | (go_at_call 24; (with_reducible refine g5.mono ?_); rintro e v5 ⟨rfl, O8⟩; have g6 := fInt _ O8)
            | (go_at_call 22; (with_reducible refine g6.mono ?_); rintro e v6 ⟨rfl, O9⟩; have g7 := fEnd _ O9)
            | (go_at_call 28; (with_reducible refine g7.mono ?_); rintro e v7 ⟨rfl, rfl⟩))
          go_ret
          exact ⟨rfl, O9.T⟩
        · have hgood : (thE (xs k) ⟨R, false⟩).bad = false := by simpa using hbad
          have hone := th_one (xs k) R hgood
          obtain ⟨R', hR'⟩ : ∃ R', (thE (xs k) ⟨R, false⟩).left = R' := ⟨_, rfl⟩
          have hst : thE (xs k) ⟨R, false⟩ = ⟨R', false⟩ := (Ey.eta hgood).trans (by rw [hR'])
          rw [hR'] at hone
          rw [hst] at O5
          have htok : (Th.mk (xs k).k (rN (xs k).k R)).ok := ⟨(hok k).1, rN_lt _ _⟩
          have hwle := wrB_le htok
          have hpl := write_any O5.p ⟨(xs k).k, rN (xs k).k R⟩ htok (by omega)
          obtain ⟨L', hL'⟩ : ∃ L', L ++ wrB ⟨(xs k).k, rN (xs k).k R⟩ = L' := ⟨_, rfl⟩
          have hSL : S = L' ++ R' := by rw [← hL', List.append_assoc, ← hone, ← hS.out]
          have hlen : L'.length ≤ 10 * (k + 1) := by rw [← hL']; simp only [List.length_append]; omega
          rw [hL'] at hpl
          have hpl : Calls Try.prog 9 #[.agg #[.int .u8 ((xs k).k : Int), .int .u64 ((rN (xs k).k R : Nat) : Int)], ptr P] w5 fun e w' => e = .returned unitV ∧ Ob w0 w' E P ⟨R', false⟩ L' := hpl.mono fun e w' ⟨x, y, z⟩ => ⟨x, O5.onP y z⟩
          obtain ⟨N, hN⟩ : ∃ N, rN (xs k).k R = N := ⟨_, rfl⟩
          rw [hN] at hpl b5
          have c5 : w5.cell? ⟨wr.heap.size, 0, none⟩ = some (.int .u8 ((xs k).k : Int)) := b5.cell 0
          have c6 : w5.cell? ⟨wr.heap.size, 1, none⟩ = some (.int .u64 (N : Int)) := b5.cell 1
          have g1 : Calls Try.prog 26 #[ptr E] w5 fun e w' => e = .returned (.bool false) ∧ w5 = w' := Failed_any O5.e
          have g8 : ∀ w, Ob w0 w E P ⟨R', false⟩ L' → Calls Try.prog 27 #[ptr E] w fun e w' => e = .returned (.int .i64 (R'.length : Int)) ∧ w = w' := fun w O => Left_any O.e
          have g9 : ∀ w, Ob w0 w E P ⟨R', false⟩ L' → Calls Try.prog 13 #[ptr P] w fun e w' => e = .returned (.tuple #[.string (bs L'), .int .i64 0]) ∧ Ob w0 w' E P ⟨R', false⟩ L' := fun w O => by
            have h := Done_any O.p (by omega)
            unfold doneV at h
            rw [if_pos (by omega)] at h
            exact h.mono fun e w' ⟨x, y⟩ => ⟨x, O.below y⟩
          have hSn : S.length = L'.length + R'.length := by rw [hSL, List.length_append]
          have hd : IntKind.i64.wrap ((S.length : Int) - (R'.length : Int)) = (L'.length : Int) := by rw [IntKind.wrap_i64]; omega
          have hd' : (S.length : Int) - (R'.length : Int) = (L'.length : Int) := by omega
          have hx : (bs S).extract 0 L'.length = bs L' := by rw [bs_take, hSL]; congr 1; simp
          have hle' : (L'.length : Int) ≤ (S.length : Int) := by omega
          have hge' : ¬ (S.length : Int) < (L'.length : Int) := by omega
          have h0' : ¬ (L'.length : Int) < 0 := by omega
          replace hSL := Lib.hid hSL
          replace hlen := Lib.hid hlen
          clear hbad hgood hone hR' hst O5 b5 htok hwle hL' hSn hN hS hL
          go_wp2_with (first
            | (go_at_call 26; (with_reducible refine g1.mono ?_); rintro e v1 ⟨rfl, rfl⟩)
            | (go_at_call 9; (with_reducible refine hpl.mono ?_); rintro e v2 ⟨rfl, O6⟩; have f8 := g8 _ O6; have f9 := g9 _ O6)
            | (go_at_call 27; (with_reducible refine f8.mono ?_); rintro e v3 ⟨rfl, rfl⟩)
            | (go_at_call 13; (with_reducible refine f9.mono ?_); rintro e v4 ⟨rfl, O7⟩))
          go_roundw
          case rel => exact ⟨k + 1, R', L', by simp, by simp, by omega, O7, hSL.out, hlen.out⟩
          case measure => simp only [intOf]; omega
      · have hki : ((xs k).k : Int) % 4 = 1 := by omega
        have hE : thE (xs k) ⟨R, false⟩ = nuE ⟨R, false⟩ := by unfold thE; simp only [hk4]; simp
        have hR : ((rN (xs k).k R : Nat) : Int) = (nuV R : Int) := by unfold rN; simp only [hk4]; simp
        have K1 := KN
        clear KB KN KI
        have hthaw : ∀ w, Box w wr.heap.size #[.int .u8 ((xs k).k : Int), .int .u64 ((xs k).n : Int)] 31 → w.frozen? ⟨wr.heap.size, 1, none⟩ = false := fun w h => h.thaw 1
        have hcc : ∀ w, Box w wr.heap.size #[.int .u8 ((xs k).k : Int), .int .u64 ((xs k).n : Int)] 31 → w.cell? ⟨wr.heap.size, 1, none⟩ = some (.int .u64 ((xs k).n : Int)) := fun w h => h.cell 1
        go_upto_region 24 with (go_at_call 20; (with_reducible refine K1.mono ?_); rintro e w4 ⟨rfl, E4, B4⟩; have t4 := hthaw _ (B4.box b1 (Ne.symm hEX)); have s4 := hcc _ (B4.box b1 (Ne.symm hEX)))
        have O5 : Ob w0 (w4.setCell ⟨wr.heap.size, 1, none⟩ (.int .u64 ((nuV R : Int)))) E P (thE (xs k) ⟨R, false⟩) L := by rw [hE]; exact ((O1.onE E4 B4).other (But.set (But.refl _ _) 1 _) hEX hPX O.T.size)
        have b5 : Box (w4.setCell ⟨wr.heap.size, 1, none⟩ (.int .u64 ((nuV R : Int)))) wr.heap.size #[.int .u8 ((xs k).k : Int), .int .u64 ((rN (xs k).k R : Nat) : Int)] 31 := by rw [hR]; exact (B4.box b1 (Ne.symm hEX)).set 1 _
        clear hE hR hki K1 E4 B4
        generalize w4.setCell ⟨wr.heap.size, 1, none⟩ (.int .u64 ((nuV R : Int))) = w5 at O5 b5 ⊢
        by_cases hbad : (thE (xs k) ⟨R, false⟩).bad = true
        · have O5 : Ob w0 w5 E P Ey.fail L := by rw [← th_bad hbad]; exact O5
          have g1 : Calls Try.prog 26 #[ptr E] w5 fun e w' => e = .returned (.bool true) ∧ w5 = w' := Failed_any O5.e
          have g2 : Calls Try.prog 27 #[ptr E] w5 fun e w' => e = .returned (.int .i64 0) ∧ w5 = w' := Left_any O5.e
          have g3 := fNum _ O5
          clear hbad
          go_wp2_with (first
            | (go_at_call 26; (with_reducible refine g1.mono ?_); rintro e v1 ⟨rfl, rfl⟩)
            | (go_at_call 27; (with_reducible refine g2.mono ?_); rintro e v2 ⟨rfl, rfl⟩)
            | (go_at_call 20; (with_reducible refine g3.mono ?_); rintro e v3 ⟨rfl, O6⟩; have g4 := fByte _ O6)
            | (go_at_call 18; (with_reducible refine g4.mono ?_); rintro e v4 ⟨rfl, O7⟩; have g5 := fFlag _ O7)
            | (go_at_call 24; (with_reducible refine g5.mono ?_); rintro e v5 ⟨rfl, O8⟩; have g6 := fInt _ O8)
            | (go_at_call 22; (with_reducible refine g6.mono ?_); rintro e v6 ⟨rfl, O9⟩; have g7 := fEnd _ O9)
            | (go_at_call 28; (with_reducible refine g7.mono ?_); rintro e v7 ⟨rfl, rfl⟩))
          go_ret
          exact ⟨rfl, O9.T⟩
        · have hgood : (thE (xs k) ⟨R, false⟩).bad = false := by simpa using hbad
          have hone := th_one (xs k) R hgood
          obtain ⟨R', hR'⟩ : ∃ R', (thE (xs k) ⟨R, false⟩).left = R' := ⟨_, rfl⟩
          have hst : thE (xs k) ⟨R, false⟩ = ⟨R', false⟩ := (Ey.eta hgood).trans (by rw [hR'])
          rw [hR'] at hone
          rw [hst] at O5
          have htok : (Th.mk (xs k).k (rN (xs k).k R)).ok := ⟨(hok k).1, rN_lt _ _⟩
          have hwle := wrB_le htok
          have hpl := write_any O5.p ⟨(xs k).k, rN (xs k).k R⟩ htok (by omega)
          obtain ⟨L', hL'⟩ : ∃ L', L ++ wrB ⟨(xs k).k, rN (xs k).k R⟩ = L' := ⟨_, rfl⟩
          have hSL : S = L' ++ R' := by rw [← hL', List.append_assoc, ← hone, ← hS.out]
          have hlen : L'.length ≤ 10 * (k + 1) := by rw [← hL']; simp only [List.length_append]; omega
          rw [hL'] at hpl
          have hpl : Calls Try.prog 9 #[.agg #[.int .u8 ((xs k).k : Int), .int .u64 ((rN (xs k).k R : Nat) : Int)], ptr P] w5 fun e w' => e = .returned unitV ∧ Ob w0 w' E P ⟨R', false⟩ L' := hpl.mono fun e w' ⟨x, y, z⟩ => ⟨x, O5.onP y z⟩
          obtain ⟨N, hN⟩ : ∃ N, rN (xs k).k R = N := ⟨_, rfl⟩
          rw [hN] at hpl b5
          have c5 : w5.cell? ⟨wr.heap.size, 0, none⟩ = some (.int .u8 ((xs k).k : Int)) := b5.cell 0
          have c6 : w5.cell? ⟨wr.heap.size, 1, none⟩ = some (.int .u64 (N : Int)) := b5.cell 1
          have g1 : Calls Try.prog 26 #[ptr E] w5 fun e w' => e = .returned (.bool false) ∧ w5 = w' := Failed_any O5.e
          have g8 : ∀ w, Ob w0 w E P ⟨R', false⟩ L' → Calls Try.prog 27 #[ptr E] w fun e w' => e = .returned (.int .i64 (R'.length : Int)) ∧ w = w' := fun w O => Left_any O.e
          have g9 : ∀ w, Ob w0 w E P ⟨R', false⟩ L' → Calls Try.prog 13 #[ptr P] w fun e w' => e = .returned (.tuple #[.string (bs L'), .int .i64 0]) ∧ Ob w0 w' E P ⟨R', false⟩ L' := fun w O => by
            have h := Done_any O.p (by omega)
            unfold doneV at h
            rw [if_pos (by omega)] at h
            exact h.mono fun e w' ⟨x, y⟩ => ⟨x, O.below y⟩
          have hSn : S.length = L'.length + R'.length := by rw [hSL, List.length_append]
          have hd : IntKind.i64.wrap ((S.length : Int) - (R'.length : Int)) = (L'.length : Int) := by rw [IntKind.wrap_i64]; omega
          have hd' : (S.length : Int) - (R'.length : Int) = (L'.length : Int) := by omega
          have hx : (bs S).extract 0 L'.length = bs L' := by rw [bs_take, hSL]; congr 1; simp
          have hle' : (L'.length : Int) ≤ (S.length : Int) := by omega
          have hge' : ¬ (S.length : Int) < (L'.length : Int) := by omega
          have h0' : ¬ (L'.length : Int) < 0 := by omega
          replace hSL := Lib.hid hSL
          replace hlen := Lib.hid hlen
          clear hbad hgood hone hR' hst O5 b5 htok hwle hL' hSn hN hS hL
          go_wp2_with (first
            | (go_at_call 26; (with_reducible refine g1.mono ?_); rintro e v1 ⟨rfl, rfl⟩)
            | (go_at_call 9; (with_reducible refine hpl.mono ?_); rintro e v2 ⟨rfl, O6⟩; have f8 := g8 _ O6; have f9 := g9 _ O6)
            | (go_at_call 27; (with_reducible refine f8.mono ?_); rintro e v3 ⟨rfl, rfl⟩)
            | (go_at_call 13; (with_reducible refine f9.mono ?_); rintro e v4 ⟨rfl, O7⟩))
          go_roundw
          case rel => exact ⟨k + 1, R', L', by simp, by simp, by omega, O7, hSL.out, hlen.out⟩
          case measure => simp only [intOf]; omega
      · have hki : ((xs k).k : Int) % 4 = 2 := by omega
        have hE : thE (xs k) ⟨R, false⟩ = nuE ⟨R, false⟩ := by unfold thE; simp only [hk4]; simp
        have hR : ((rN (xs k).k R : Nat) : Int) = ((uns (sg (nuV R)) : Nat) : Int) := by unfold rN; simp only [hk4]; simp
        have K1 := KI
        clear KB KN KI
        have hwr : IntKind.u64.wrap (sg (nuV R)) = ((uns (sg (nuV R)) : Nat) : Int) := by rw [IntKind.wrap_u64]; unfold uns; omega
        have hthaw : ∀ w, Box w wr.heap.size #[.int .u8 ((xs k).k : Int), .int .u64 ((xs k).n : Int)] 31 → w.frozen? ⟨wr.heap.size, 1, none⟩ = false := fun w h => h.thaw 1
        have hcc : ∀ w, Box w wr.heap.size #[.int .u8 ((xs k).k : Int), .int .u64 ((xs k).n : Int)] 31 → w.cell? ⟨wr.heap.size, 1, none⟩ = some (.int .u64 ((xs k).n : Int)) := fun w h => h.cell 1
        go_upto_region 24 with (go_at_call 22; (with_reducible refine K1.mono ?_); rintro e w4 ⟨rfl, E4, B4⟩; have t4 := hthaw _ (B4.box b1 (Ne.symm hEX)); have s4 := hcc _ (B4.box b1 (Ne.symm hEX)))
        have O5 : Ob w0 (w4.setCell ⟨wr.heap.size, 1, none⟩ (.int .u64 (((uns (sg (nuV R)) : Nat) : Int)))) E P (thE (xs k) ⟨R, false⟩) L := by rw [hE]; exact ((O1.onE E4 B4).other (But.set (But.refl _ _) 1 _) hEX hPX O.T.size)
        have b5 : Box (w4.setCell ⟨wr.heap.size, 1, none⟩ (.int .u64 (((uns (sg (nuV R)) : Nat) : Int)))) wr.heap.size #[.int .u8 ((xs k).k : Int), .int .u64 ((rN (xs k).k R : Nat) : Int)] 31 := by rw [hR]; exact (B4.box b1 (Ne.symm hEX)).set 1 _
        clear hE hR hki K1 E4 B4
        generalize w4.setCell ⟨wr.heap.size, 1, none⟩ (.int .u64 (((uns (sg (nuV R)) : Nat) : Int))) = w5 at O5 b5 ⊢
        by_cases hbad : (thE (xs k) ⟨R, false⟩).bad = true
        · have O5 : Ob w0 w5 E P Ey.fail L := by rw [← th_bad hbad]; exact O5
          have g1 : Calls Try.prog 26 #[ptr E] w5 fun e w' => e = .returned (.bool true) ∧ w5 = w' := Failed_any O5.e
          have g2 : Calls Try.prog 27 #[ptr E] w5 fun e w' => e = .returned (.int .i64 0) ∧ w5 = w' := Left_any O5.e
          have g3 := fNum _ O5
          clear hbad
          go_wp2_with (first
            | (go_at_call 26; (with_reducible refine g1.mono ?_); rintro e v1 ⟨rfl, rfl⟩)
            | (go_at_call 27; (with_reducible refine g2.mono ?_); rintro e v2 ⟨rfl, rfl⟩)
            | (go_at_call 20; (with_reducible refine g3.mono ?_); rintro e v3 ⟨rfl, O6⟩; have g4 := fByte _ O6)
            | (go_at_call 18; (with_reducible refine g4.mono ?_); rintro e v4 ⟨rfl, O7⟩; have g5 := fFlag _ O7)
            | (go_at_call 24; (with_reducible refine g5.mono ?_); rintro e v5 ⟨rfl, O8⟩; have g6 := fInt _ O8)
            | (go_at_call 22; (with_reducible refine g6.mono ?_); rintro e v6 ⟨rfl, O9⟩; have g7 := fEnd _ O9)
            | (go_at_call 28; (with_reducible refine g7.mono ?_); rintro e v7 ⟨rfl, rfl⟩))
          go_ret
          exact ⟨rfl, O9.T⟩
        · have hgood : (thE (xs k) ⟨R, false⟩).bad = false := by simpa using hbad
          have hone := th_one (xs k) R hgood
          obtain ⟨R', hR'⟩ : ∃ R', (thE (xs k) ⟨R, false⟩).left = R' := ⟨_, rfl⟩
          have hst : thE (xs k) ⟨R, false⟩ = ⟨R', false⟩ := (Ey.eta hgood).trans (by rw [hR'])
          rw [hR'] at hone
          rw [hst] at O5
          have htok : (Th.mk (xs k).k (rN (xs k).k R)).ok := ⟨(hok k).1, rN_lt _ _⟩
          have hwle := wrB_le htok
          have hpl := write_any O5.p ⟨(xs k).k, rN (xs k).k R⟩ htok (by omega)
          obtain ⟨L', hL'⟩ : ∃ L', L ++ wrB ⟨(xs k).k, rN (xs k).k R⟩ = L' := ⟨_, rfl⟩
          have hSL : S = L' ++ R' := by rw [← hL', List.append_assoc, ← hone, ← hS.out]
          have hlen : L'.length ≤ 10 * (k + 1) := by rw [← hL']; simp only [List.length_append]; omega
          rw [hL'] at hpl
          have hpl : Calls Try.prog 9 #[.agg #[.int .u8 ((xs k).k : Int), .int .u64 ((rN (xs k).k R : Nat) : Int)], ptr P] w5 fun e w' => e = .returned unitV ∧ Ob w0 w' E P ⟨R', false⟩ L' := hpl.mono fun e w' ⟨x, y, z⟩ => ⟨x, O5.onP y z⟩
          obtain ⟨N, hN⟩ : ∃ N, rN (xs k).k R = N := ⟨_, rfl⟩
          rw [hN] at hpl b5
          have c5 : w5.cell? ⟨wr.heap.size, 0, none⟩ = some (.int .u8 ((xs k).k : Int)) := b5.cell 0
          have c6 : w5.cell? ⟨wr.heap.size, 1, none⟩ = some (.int .u64 (N : Int)) := b5.cell 1
          have g1 : Calls Try.prog 26 #[ptr E] w5 fun e w' => e = .returned (.bool false) ∧ w5 = w' := Failed_any O5.e
          have g8 : ∀ w, Ob w0 w E P ⟨R', false⟩ L' → Calls Try.prog 27 #[ptr E] w fun e w' => e = .returned (.int .i64 (R'.length : Int)) ∧ w = w' := fun w O => Left_any O.e
          have g9 : ∀ w, Ob w0 w E P ⟨R', false⟩ L' → Calls Try.prog 13 #[ptr P] w fun e w' => e = .returned (.tuple #[.string (bs L'), .int .i64 0]) ∧ Ob w0 w' E P ⟨R', false⟩ L' := fun w O => by
            have h := Done_any O.p (by omega)
            unfold doneV at h
            rw [if_pos (by omega)] at h
            exact h.mono fun e w' ⟨x, y⟩ => ⟨x, O.below y⟩
          have hSn : S.length = L'.length + R'.length := by rw [hSL, List.length_append]
          have hd : IntKind.i64.wrap ((S.length : Int) - (R'.length : Int)) = (L'.length : Int) := by rw [IntKind.wrap_i64]; omega
          have hd' : (S.length : Int) - (R'.length : Int) = (L'.length : Int) := by omega
          have hx : (bs S).extract 0 L'.length = bs L' := by rw [bs_take, hSL]; congr 1; simp
          have hle' : (L'.length : Int) ≤ (S.length : Int) := by omega
          have hge' : ¬ (S.length : Int) < (L'.length : Int) := by omega
          have h0' : ¬ (L'.length : Int) < 0 := by omega
          replace hSL := Lib.hid hSL
          replace hlen := Lib.hid hlen
          clear hbad hgood hone hR' hst O5 b5 htok hwle hL' hSn hN hS hL
          go_wp2_with (first
            | (go_at_call 26; (with_reducible refine g1.mono ?_); rintro e v1 ⟨rfl, rfl⟩)
            | (go_at_call 9; (with_reducible refine hpl.mono ?_); rintro e v2 ⟨rfl, O6⟩; have f8 := g8 _ O6; have f9 := g9 _ O6)
            | (go_at_call 27; (with_reducible refine f8.mono ?_); rintro e v3 ⟨rfl, rfl⟩)
            | (go_at_call 13; (with_reducible refine f9.mono ?_); rintro e v4 ⟨rfl, O7⟩))
          go_roundw
          case rel => exact ⟨k + 1, R', L', by simp, by simp, by omega, O7, hSL.out, hlen.out⟩
          case measure => simp only [intOf]; omega
      · have hki : ((xs k).k : Int) % 4 = 3 := by omega
        have hE : thE (xs k) ⟨R, false⟩ = flE ⟨R, false⟩ := by unfold thE; simp only [hk4]; simp
        clear KB KN KI
        have O2 := O.below (up1 wr (.cells #[.int .u8 ((xs k).k : Int), .int .u64 0] 31))
        have b2 := Box.new wr 31 #[.int .u8 ((xs k).k : Int), .int .u64 0]
        have K1 := EFlag_any O2.e
        have K1 : Calls Try.prog 24 #[ptr E] _ fun e w' => e = .returned (.bool (flV R)) ∧ Eye w' E (flE ⟨R, false⟩) ∧ But E _ w' := K1
        have hthaw : ∀ w, Box w wr.heap.size #[.int .u8 ((xs k).k : Int), .int .u64 0] 31 → w.frozen? ⟨wr.heap.size, 1, none⟩ = false := fun w h => h.thaw 1
        have hcc : ∀ w, Box w wr.heap.size #[.int .u8 ((xs k).k : Int), .int .u64 0] 31 → w.cell? ⟨wr.heap.size, 1, none⟩ = some (.int .u64 0) := fun w h => h.cell 1
        rcases Bool.eq_false_or_eq_true (flV R) with hfl | hfl
        · have hfl : flV R = true := hfl
          rw [hfl] at K1
          have hR : ((rN (xs k).k R : Nat) : Int) = 1 := by unfold rN; simp only [hk4, hfl]; simp
          go_upto_region 24 with (go_at_call 24; (with_reducible refine K1.mono ?_); rintro e w4 ⟨rfl, E4, B4⟩; have t4 := hthaw _ (B4.box b2 (Ne.symm hEX)); have s4 := hcc _ (B4.box b2 (Ne.symm hEX)))
          have O5 : Ob w0 (w4.setCell ⟨wr.heap.size, 1, none⟩ (.int .u64 (1))) E P (thE (xs k) ⟨R, false⟩) L := by rw [hE]; exact ((O2.onE E4 B4).other (But.set (But.refl _ _) 1 _) hEX hPX O.T.size)
          have b5 : Box (w4.setCell ⟨wr.heap.size, 1, none⟩ (.int .u64 (1))) wr.heap.size #[.int .u8 ((xs k).k : Int), .int .u64 ((rN (xs k).k R : Nat) : Int)] 31 := by rw [hR]; exact (B4.box b2 (Ne.symm hEX)).set 1 _
          clear hE hR hki K1 E4 B4
          generalize w4.setCell ⟨wr.heap.size, 1, none⟩ (.int .u64 (1)) = w5 at O5 b5 ⊢
          by_cases hbad : (thE (xs k) ⟨R, false⟩).bad = true
          · have O5 : Ob w0 w5 E P Ey.fail L := by rw [← th_bad hbad]; exact O5
            have g1 : Calls Try.prog 26 #[ptr E] w5 fun e w' => e = .returned (.bool true) ∧ w5 = w' := Failed_any O5.e
            have g2 : Calls Try.prog 27 #[ptr E] w5 fun e w' => e = .returned (.int .i64 0) ∧ w5 = w' := Left_any O5.e
            have g3 := fNum _ O5
            clear hbad
            go_wp2_with (first
              | (go_at_call 26; (with_reducible refine g1.mono ?_); rintro e v1 ⟨rfl, rfl⟩)
              | (go_at_call 27; (with_reducible refine g2.mono ?_); rintro e v2 ⟨rfl, rfl⟩)
              | (go_at_call 20; (with_reducible refine g3.mono ?_); rintro e v3 ⟨rfl, O6⟩; have g4 := fByte _ O6)
              | (go_at_call 18; (with_reducible refine g4.mono ?_); rintro e v4 ⟨rfl, O7⟩; have g5 := fFlag _ O7)
              | (go_at_call 24; (with_reducible refine g5.mono ?_); rintro e v5 ⟨rfl, O8⟩; have g6 := fInt _ O8)
              | (go_at_call 22; (with_reducible refine g6.mono ?_); rintro e v6 ⟨rfl, O9⟩; have g7 := fEnd _ O9)
              | (go_at_call 28; (with_reducible refine g7.mono ?_); rintro e v7 ⟨rfl, rfl⟩))
            go_ret
            exact ⟨rfl, O9.T⟩
          · have hgood : (thE (xs k) ⟨R, false⟩).bad = false := by simpa using hbad
            have hone := th_one (xs k) R hgood
            obtain ⟨R', hR'⟩ : ∃ R', (thE (xs k) ⟨R, false⟩).left = R' := ⟨_, rfl⟩
            have hst : thE (xs k) ⟨R, false⟩ = ⟨R', false⟩ := (Ey.eta hgood).trans (by rw [hR'])
            rw [hR'] at hone
            rw [hst] at O5
            have htok : (Th.mk (xs k).k (rN (xs k).k R)).ok := ⟨(hok k).1, rN_lt _ _⟩
            have hwle := wrB_le htok
            have hpl := write_any O5.p ⟨(xs k).k, rN (xs k).k R⟩ htok (by omega)
            obtain ⟨L', hL'⟩ : ∃ L', L ++ wrB ⟨(xs k).k, rN (xs k).k R⟩ = L' := ⟨_, rfl⟩
            have hSL : S = L' ++ R' := by rw [← hL', List.append_assoc, ← hone, ← hS.out]
            have hlen : L'.length ≤ 10 * (k + 1) := by rw [← hL']; simp only [List.length_append]; omega
            rw [hL'] at hpl
            have hpl : Calls Try.prog 9 #[.agg #[.int .u8 ((xs k).k : Int), .int .u64 ((rN (xs k).k R : Nat) : Int)], ptr P] w5 fun e w' => e = .returned unitV ∧ Ob w0 w' E P ⟨R', false⟩ L' := hpl.mono fun e w' ⟨x, y, z⟩ => ⟨x, O5.onP y z⟩
            obtain ⟨N, hN⟩ : ∃ N, rN (xs k).k R = N := ⟨_, rfl⟩
            rw [hN] at hpl b5
            have c5 : w5.cell? ⟨wr.heap.size, 0, none⟩ = some (.int .u8 ((xs k).k : Int)) := b5.cell 0
            have c6 : w5.cell? ⟨wr.heap.size, 1, none⟩ = some (.int .u64 (N : Int)) := b5.cell 1
            have g1 : Calls Try.prog 26 #[ptr E] w5 fun e w' => e = .returned (.bool false) ∧ w5 = w' := Failed_any O5.e
            have g8 : ∀ w, Ob w0 w E P ⟨R', false⟩ L' → Calls Try.prog 27 #[ptr E] w fun e w' => e = .returned (.int .i64 (R'.length : Int)) ∧ w = w' := fun w O => Left_any O.e
            have g9 : ∀ w, Ob w0 w E P ⟨R', false⟩ L' → Calls Try.prog 13 #[ptr P] w fun e w' => e = .returned (.tuple #[.string (bs L'), .int .i64 0]) ∧ Ob w0 w' E P ⟨R', false⟩ L' := fun w O => by
              have h := Done_any O.p (by omega)
              unfold doneV at h
              rw [if_pos (by omega)] at h
              exact h.mono fun e w' ⟨x, y⟩ => ⟨x, O.below y⟩
            have hSn : S.length = L'.length + R'.length := by rw [hSL, List.length_append]
            have hd : IntKind.i64.wrap ((S.length : Int) - (R'.length : Int)) = (L'.length : Int) := by rw [IntKind.wrap_i64]; omega
            have hd' : (S.length : Int) - (R'.length : Int) = (L'.length : Int) := by omega
            have hx : (bs S).extract 0 L'.length = bs L' := by rw [bs_take, hSL]; congr 1; simp
            have hle' : (L'.length : Int) ≤ (S.length : Int) := by omega
            have hge' : ¬ (S.length : Int) < (L'.length : Int) := by omega
            have h0' : ¬ (L'.length : Int) < 0 := by omega
            replace hSL := Lib.hid hSL
            replace hlen := Lib.hid hlen
            clear hbad hgood hone hR' hst O5 b5 htok hwle hL' hSn hN hS hL
            go_wp2_with (first
              | (go_at_call 26; (with_reducible refine g1.mono ?_); rintro e v1 ⟨rfl, rfl⟩)
              | (go_at_call 9; (with_reducible refine hpl.mono ?_); rintro e v2 ⟨rfl, O6⟩; have f8 := g8 _ O6; have f9 := g9 _ O6)
              | (go_at_call 27; (with_reducible refine f8.mono ?_); rintro e v3 ⟨rfl, rfl⟩)
              | (go_at_call 13; (with_reducible refine f9.mono ?_); rintro e v4 ⟨rfl, O7⟩))
            go_roundw
            case rel => exact ⟨k + 1, R', L', by simp, by simp, by omega, O7, hSL.out, hlen.out⟩
            case measure => simp only [intOf]; omega
        · have hfl : flV R = false := hfl
          rw [hfl] at K1
          have hR : ((rN (xs k).k R : Nat) : Int) = 0 := by unfold rN; simp only [hk4, hfl]; simp
          go_upto_region 24 with (go_at_call 24; (with_reducible refine K1.mono ?_); rintro e w4 ⟨rfl, E4, B4⟩; have t4 := hthaw _ (B4.box b2 (Ne.symm hEX)); have s4 := hcc _ (B4.box b2 (Ne.symm hEX)))
          have O5 : Ob w0 (w4) E P (thE (xs k) ⟨R, false⟩) L := by rw [hE]; exact (O2.onE E4 B4)
          have b5 : Box (w4) wr.heap.size #[.int .u8 ((xs k).k : Int), .int .u64 ((rN (xs k).k R : Nat) : Int)] 31 := by rw [hR]; exact B4.box b2 (Ne.symm hEX)
          clear hE hR hki K1 E4 B4
          generalize w4 = w5 at O5 b5 ⊢
          by_cases hbad : (thE (xs k) ⟨R, false⟩).bad = true
          · have O5 : Ob w0 w5 E P Ey.fail L := by rw [← th_bad hbad]; exact O5
            have g1 : Calls Try.prog 26 #[ptr E] w5 fun e w' => e = .returned (.bool true) ∧ w5 = w' := Failed_any O5.e
            have g2 : Calls Try.prog 27 #[ptr E] w5 fun e w' => e = .returned (.int .i64 0) ∧ w5 = w' := Left_any O5.e
            have g3 := fNum _ O5
            clear hbad
            go_wp2_with (first
              | (go_at_call 26; (with_reducible refine g1.mono ?_); rintro e v1 ⟨rfl, rfl⟩)
              | (go_at_call 27; (with_reducible refine g2.mono ?_); rintro e v2 ⟨rfl, rfl⟩)
              | (go_at_call 20; (with_reducible refine g3.mono ?_); rintro e v3 ⟨rfl, O6⟩; have g4 := fByte _ O6)
              | (go_at_call 18; (with_reducible refine g4.mono ?_); rintro e v4 ⟨rfl, O7⟩; have g5 := fFlag _ O7)
              | (go_at_call 24; (with_reducible refine g5.mono ?_); rintro e v5 ⟨rfl, O8⟩; have g6 := fInt _ O8)
              | (go_at_call 22; (with_reducible refine g6.mono ?_); rintro e v6 ⟨rfl, O9⟩; have g7 := fEnd _ O9)
              | (go_at_call 28; (with_reducible refine g7.mono ?_); rintro e v7 ⟨rfl, rfl⟩))
            go_ret
            exact ⟨rfl, O9.T⟩
          · have hgood : (thE (xs k) ⟨R, false⟩).bad = false := by simpa using hbad
            have hone := th_one (xs k) R hgood
            obtain ⟨R', hR'⟩ : ∃ R', (thE (xs k) ⟨R, false⟩).left = R' := ⟨_, rfl⟩
            have hst : thE (xs k) ⟨R, false⟩ = ⟨R', false⟩ := (Ey.eta hgood).trans (by rw [hR'])
            rw [hR'] at hone
            rw [hst] at O5
            have htok : (Th.mk (xs k).k (rN (xs k).k R)).ok := ⟨(hok k).1, rN_lt _ _⟩
            have hwle := wrB_le htok
            have hpl := write_any O5.p ⟨(xs k).k, rN (xs k).k R⟩ htok (by omega)
            obtain ⟨L', hL'⟩ : ∃ L', L ++ wrB ⟨(xs k).k, rN (xs k).k R⟩ = L' := ⟨_, rfl⟩
            have hSL : S = L' ++ R' := by rw [← hL', List.append_assoc, ← hone, ← hS.out]
            have hlen : L'.length ≤ 10 * (k + 1) := by rw [← hL']; simp only [List.length_append]; omega
            rw [hL'] at hpl
            have hpl : Calls Try.prog 9 #[.agg #[.int .u8 ((xs k).k : Int), .int .u64 ((rN (xs k).k R : Nat) : Int)], ptr P] w5 fun e w' => e = .returned unitV ∧ Ob w0 w' E P ⟨R', false⟩ L' := hpl.mono fun e w' ⟨x, y, z⟩ => ⟨x, O5.onP y z⟩
            obtain ⟨N, hN⟩ : ∃ N, rN (xs k).k R = N := ⟨_, rfl⟩
            rw [hN] at hpl b5
            have c5 : w5.cell? ⟨wr.heap.size, 0, none⟩ = some (.int .u8 ((xs k).k : Int)) := b5.cell 0
            have c6 : w5.cell? ⟨wr.heap.size, 1, none⟩ = some (.int .u64 (N : Int)) := b5.cell 1
            have g1 : Calls Try.prog 26 #[ptr E] w5 fun e w' => e = .returned (.bool false) ∧ w5 = w' := Failed_any O5.e
            have g8 : ∀ w, Ob w0 w E P ⟨R', false⟩ L' → Calls Try.prog 27 #[ptr E] w fun e w' => e = .returned (.int .i64 (R'.length : Int)) ∧ w = w' := fun w O => Left_any O.e
            have g9 : ∀ w, Ob w0 w E P ⟨R', false⟩ L' → Calls Try.prog 13 #[ptr P] w fun e w' => e = .returned (.tuple #[.string (bs L'), .int .i64 0]) ∧ Ob w0 w' E P ⟨R', false⟩ L' := fun w O => by
              have h := Done_any O.p (by omega)
              unfold doneV at h
              rw [if_pos (by omega)] at h
              exact h.mono fun e w' ⟨x, y⟩ => ⟨x, O.below y⟩
            have hSn : S.length = L'.length + R'.length := by rw [hSL, List.length_append]
            have hd : IntKind.i64.wrap ((S.length : Int) - (R'.length : Int)) = (L'.length : Int) := by rw [IntKind.wrap_i64]; omega
            have hd' : (S.length : Int) - (R'.length : Int) = (L'.length : Int) := by omega
            have hx : (bs S).extract 0 L'.length = bs L' := by rw [bs_take, hSL]; congr 1; simp
            have hle' : (L'.length : Int) ≤ (S.length : Int) := by omega
            have hge' : ¬ (S.length : Int) < (L'.length : Int) := by omega
            have h0' : ¬ (L'.length : Int) < 0 := by omega
            replace hSL := Lib.hid hSL
            replace hlen := Lib.hid hlen
            clear hbad hgood hone hR' hst O5 b5 htok hwle hL' hSn hN hS hL
            go_wp2_with (first
              | (go_at_call 26; (with_reducible refine g1.mono ?_); rintro e v1 ⟨rfl, rfl⟩)
              | (go_at_call 9; (with_reducible refine hpl.mono ?_); rintro e v2 ⟨rfl, O6⟩; have f8 := g8 _ O6; have f9 := g9 _ O6)
              | (go_at_call 27; (with_reducible refine f8.mono ?_); rintro e v3 ⟨rfl, rfl⟩)
              | (go_at_call 13; (with_reducible refine f9.mono ?_); rintro e v4 ⟨rfl, O7⟩))
            go_roundw
            case rel => exact ⟨k + 1, R', L', by simp, by simp, by omega, O7, hSL.out, hlen.out⟩
            case measure => simp only [intOf]; omega
    · obtain rfl : k = n := by omega
      have j4 : ¬ (k : Int) < (k : Int) := by omega
      have e1 : Calls Try.prog 28 #[ptr E] wr fun e w' => e = .returned (.int .i64 (endV ⟨R, false⟩)) ∧ wr = w' := End_any O.e
      have hSl : S.length = L.length + R.length := by rw [hS, List.length_append]
      have hcase : (endV ⟨R, false⟩ == 0) = ((L.length : Int) == (S.length : Int)) := by
        cases R with
        | nil =>
          have : ((L.length : Int) == (S.length : Int)) = true := by rw [beq_iff_eq]; simp only [List.length_nil] at hSl; omega
          rw [this]; rfl
        | cons x R =>
          have : ((L.length : Int) == (S.length : Int)) = false := beq_eq_false_iff_ne.2 (by simp only [List.length_cons] at hSl; omega)
          rw [this]; rfl
      have T := O.T
      clear O hS hSl
      generalize endV ⟨R, false⟩ = z at *
      go_wp2_with (go_at_call 28; (with_reducible refine e1.mono ?_); rintro e w3 ⟨rfl, rfl⟩)
      go_ret
      exact ⟨by simp, T⟩
end Go.Proofs.Ytpjhhmmfcoknpaa
