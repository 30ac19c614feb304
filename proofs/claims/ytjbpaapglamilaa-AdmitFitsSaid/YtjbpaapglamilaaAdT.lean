/- The document's book: made, asked, put to. Condition: words, and how much there is. -/
import Derived.Test.YtjbpaapglamilaaAdZ
namespace Go.Proofs.Ytjbpaapglamilaa.H
open Go.ChangeShapes Go.WideShapes Go.Deep Go.RowKit W
set_option linter.unusedVariables false
set_option linter.unusedSimpArgs false
section
variable {w w' : World} {base B n : Nat} {b : Bk} {v1 v2 v3 : Value} {k : Int} {x : Cv}
theorem built47 (R : Int) : Try.prog.built 60 [(0, eU R)] = some (rA R (.slice none 0 0) (.slice none 0 0) (.slice none 0 0)) := by kernel_rfl
set_option maxHeartbeats 4000000 in
set_option maxRecDepth 100000 in
theorem rnew_any {R : Int} (hR : Word R) : Calls Try.prog 7 #[eU R] w fun e w' => if 1 ≤ R ∧ R ≤ 1048576 then (∃ C, e = .returned (.tuple #[ptr C, eI 0]) ∧ Rw w.heap.size w' C ⟨R, [], []⟩ ∧ Below w.heap.size w w') else (e = .returned (.tuple #[.pointer none, eI 240]) ∧ w = w') := by
  by_cases h : 1 ≤ R ∧ R ≤ 1048576
  · simp only [if_pos h]
    have h1 : ¬ R < 1 := by omega
    have h2 : ¬ 1048576 < R := by omega
    have hb := built47 R
    go_enter Try.func7, Try.ntmps7
    go_wp2_with (first
      | (refine wl_box 60 rfl rfl rfl ?_; intro w3 X3 T3))
    go_ret2
    exact ⟨_, rfl, ⟨_, _, _, X3, Nat.le_refl _, World.ownsRow_nil _ _ _ _, World.ownsRow_nil _ _ _ _, World.ownsRow_nil _ _ _ _, fun g e => by cases e⟩, T3⟩
  · simp only [if_neg h]
    by_cases h1 : R < 1
    · go_enter Try.func7, Try.ntmps7
      go_wp2
      go_ret2
      exact ⟨rfl, rfl⟩
    · have h2 : 1048576 < R := by omega
      go_enter Try.func7, Try.ntmps7
      go_wp2
      go_ret2
      exact ⟨rfl, rfl⟩
theorem rwith_any (h : R0 base w B b v1 v2 v3) (hn : b.L.length ≤ 400 ∧ b.G.length ≤ 400) : Calls Try.prog 27 #[ptr B, eI k, .agg (cA x)] w fun e w' => ∃ C, e = .returned (ptr C) ∧ Rw w.heap.size w' C (b.note k x) ∧ Below w.heap.size w w' := by
  by_cases hz : x = zC
  · have e : b.note k x = b := if_pos hz
    rw [e]
    exact rwith_zero h hn hz
  · have e : b.note k x = ⟨b.R, insK b.L k x, b.G⟩ := by unfold Bk.note; rw [if_neg hz]
    rw [e]
    exact rwith_more h h.box.lt hn hz
theorem ins_all (b : Bk) (k : Int) (x : Cv) : List.Perm (⟨b.R, insK b.L k x, b.G⟩ : Bk).all (x :: b.all) := by
  unfold Bk.all
  exact (List.Perm.append_left _ ((insK_perm b.L k x).map _)).trans List.perm_middle
theorem rmay (x : Cv) (hx : x.word) (W : World) : Calls Try.prog 25 #[.agg (cA x)] W fun e w' => e = .returned (.bool (mB x)) ∧ Below W.heap.size W w' := kMay_any x.f x.l x.r W hx.1 hx.2.1 hx.2.2
/-- What 'with' makes of it, asked whether it can be kept. -/
theorem rk_note {C m : Nat} {W : World} (hR : Rw m W C (b.note k x)) (hz : x ≠ zC) (hF : b.Fit n) (hn : n ≤ 300) (hx : x.word) {q : Bool} (hq : kB (x :: b.all) b.R = q) : Calls Try.prog 28 #[ptr C] W fun e w' => e = .returned (.bool q) ∧ Below W.heap.size W w' := by
  have e : b.note k x = ⟨b.R, insK b.L k x, b.G⟩ := by unfold Bk.note; rw [if_neg hz]
  rw [e] at hR
  obtain ⟨u1, u2, u3, h⟩ := hR
  have hfew := hF.few
  have hp := ins_all b k x
  have hl := insK_len b.L k x
  have := rkept_any h ⟨by simp only [hl]; omega, by show b.G.length ≤ 400; omega⟩ (fun c hc => by
    rcases List.mem_cons.1 (hp.mem_iff.1 hc) with rfl | hc
    · exact hx
    · exact hF.words c hc) hF.rateW
  rw [kB_perm hp] at this
  rw [← hq]
  exact this
set_option maxHeartbeats 4000000 in
set_option maxRecDepth 100000 in
theorem rfits_any (h : R0 base w B b v1 v2 v3) (hF : b.Fit n) (hn : n ≤ 300) (hx : x.word) {q : Bool} (hq : b.fits x = q) : Calls Try.prog 11 #[ptr B, .agg (cA x)] w fun e w' => e = .returned (.bool q) ∧ Below w.heap.size w w' := by
  have hMy := rmay x hx
  have hfew := hF.few
  have hnn : b.L.length ≤ 400 ∧ b.G.length ≤ 400 := by omega
  cases hm : mB x with
  | false =>
    obtain rfl : q = false := by rw [← hq]; unfold Bk.fits; rw [hm]; rfl
    simp only [hm] at hMy
    have hu := undef_ne
    clear hq
    go_enter Try.func11, Try.ntmps11
    go_wp2_with (first
      | (refine wl_box 25 rfl rfl rfl ?_; intro w1 X1 T1)
      | (refine wl_run (xl_load 25 X1 rfl rfl Try.underlying25 rfl size25 (by omega : 0 + 3 ≤ 3) (cA_all _)) rfl ?_)
      | (go_at_call 25; (with_reducible refine (hMy _).mono ?_); rintro e w2 ⟨rfl, T2⟩; have X2 := X1.below T2; have S2 := ups T1 T2 T1.size; clear hMy; go_big_wp2_with fail; go_ret; exact ⟨rfl, S2⟩))
  | true =>
    simp only [hm] at hMy
    by_cases hz : x = zC
    · obtain rfl : q = true := by rw [← hq]; unfold Bk.fits; rw [hm, hz, kB_zero, hF.kept]; rfl
      have hzd := Lib.hid (decide_eq_true hz)
      clear hz hq hm
      go_enter Try.func11, Try.ntmps11
      go_wp2_with (first
        | (refine wl_box 25 rfl rfl rfl ?_; intro w1 X1 T1)
        | (refine wl_run (xl_load 25 X1 rfl rfl Try.underlying25 rfl size25 (by omega : 0 + 3 ≤ 3) (cA_all _)) rfl ?_)
        | (go_at_call 25; (with_reducible refine (hMy _).mono ?_); rintro e w2 ⟨rfl, T2⟩; have X2 := X1.below T2; have S2 := ups T1 T2 T1.size)
        | (refine wl_run (xl_load 25 X2 rfl rfl Try.underlying25 rfl size25 (by omega : 0 + 3 ≤ 3) (cA_all _)) rfl ?_)
        | (refine wl_run (xl_build0 25 built25 rfl) rfl ?_)
        | (refine wl_run (v := .bool true) ((xl_eq25 (p := x) (q := zC) rfl rfl rfl).trans (by rw [hzd.out])) rfl ?_))
      go_ret
      exact ⟨rfl, S2⟩
    · have hzd := Lib.hid (decide_eq_false hz)
      have hkq : kB (x :: b.all) b.R = q := by rw [← hq]; unfold Bk.fits; rw [hm]; rfl
      have hWi := fun W (hW : Below w.heap.size w W) => rwith_any (k := -1) (x := x) (h.below hW) hnn
      have hKe := fun W C m (hR : Rw m W C (b.note (-1) x)) => rk_note hR hz hF hn hx hkq
      have hKh := Lib.hid hKe
      clear hq hm hKe hkq
      go_enter Try.func11, Try.ntmps11
      go_wp2_with (first
        | (refine wl_box 25 rfl rfl rfl ?_; intro w1 X1 T1)
        | (refine wl_run (xl_load 25 X1 rfl rfl Try.underlying25 rfl size25 (by omega : 0 + 3 ≤ 3) (cA_all _)) rfl ?_)
        | (go_at_call 25; (with_reducible refine (hMy _).mono ?_); rintro e w2 ⟨rfl, T2⟩; have X2 := X1.below T2; have S2 := ups T1 T2 T1.size; have hW2 := hWi _ S2)
        | (refine wl_run (xl_load 25 X2 rfl rfl Try.underlying25 rfl size25 (by omega : 0 + 3 ≤ 3) (cA_all _)) rfl ?_)
        | (refine wl_run (xl_build0 25 built25 rfl) rfl ?_)
        | (refine wl_run (v := .bool false) ((xl_eq25 (p := x) (q := zC) rfl rfl rfl).trans (by rw [hzd.out])) rfl ?_)
        | (go_at_call 27; (with_reducible refine hW2.mono ?_); rintro e w3 ⟨C, rfl, H3, T3⟩; have hK3 := hKh.out _ _ _ H3)
        | (go_at_call 28; (with_reducible refine hK3.mono ?_); rintro e w4 ⟨rfl, T4⟩))
      go_ret
      exact ⟨rfl, ups (ups S2 T3 S2.size) T4 (ups S2 T3 S2.size).size⟩
end
end Go.Proofs.Ytjbpaapglamilaa.H
