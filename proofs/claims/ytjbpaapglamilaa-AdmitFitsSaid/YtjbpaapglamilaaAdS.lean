/- The document's book: a curve is put. Condition: words, and how much there is. -/
import Derived.Test.YtjbpaapglamilaaAdT
namespace Go.Proofs.Ytjbpaapglamilaa.H
open Go.ChangeShapes Go.WideShapes Go.Deep Go.RowKit W
set_option linter.unusedVariables false
set_option linter.unusedSimpArgs false
section
variable {w w' : World} {base B n : Nat} {b : Bk} {v1 v2 v3 : Value} {k : Int} {x : Cv}
set_option maxHeartbeats 4000000 in
set_option maxRecDepth 100000 in
theorem rput_any (h : R0 base w B b v1 v2 v3) (hF : b.Fit n) (hn : n ≤ 300) (hx : x.word) : Calls Try.prog 8 #[ptr B, eI k, .agg (cA x)] w fun e w' => ∃ C, e = .returned (.tuple #[ptr C, eI (b.putE k x)]) ∧ ((C = B ∧ b.put k x = b) ∨ Rw w.heap.size w' C (b.put k x)) ∧ Below w.heap.size w w' := by
  have hMy := rmay x hx
  have hfew := hF.few
  have hnn : b.L.length ≤ 400 ∧ b.G.length ≤ 400 := by omega
  have hAt := fun W (hW : Below w.heap.size w W) => rat_any (h.below hW) hnn.1 k
  have hWi := fun W (hW : Below w.heap.size w W) => rwith_any (k := k) (x := x) (h.below hW) hnn
  cases hm : mB x with
  | false =>
    have he : b.putE k x = 30 := by unfold Bk.putE; rw [hm]; rfl
    have hp := put_no he (by decide)
    rw [he]
    simp only [hm] at hMy
    have hph := Lib.hid hp
    clear he hp hAt hWi
    go_enter Try.func8, Try.ntmps8
    go_wp2_with (first
      | (refine wl_box 25 rfl rfl rfl ?_; intro w1 X1 T1)
      | (refine wl_run (xl_load 25 X1 rfl rfl Try.underlying25 rfl size25 (by omega : 0 + 3 ≤ 3) (cA_all _)) rfl ?_)
      | (go_at_call 25; (with_reducible refine (hMy _).mono ?_); rintro e w2 ⟨rfl, T2⟩; have X2 := X1.below T2; have S2 := ups T1 T2 T1.size; clear hMy; have hu := undef_ne; go_big_wp2_with fail; go_ret2; exact ⟨_, rfl, .inl ⟨rfl, hph.out⟩, S2⟩))
  | true =>
    simp only [hm] at hMy
    cases hh : b.has k with
    | true =>
      have he : b.putE k x = 80 := putE_twice hm hh
      have hp := put_no he (by decide)
      rw [he]
      have hph := Lib.hid hp
      simp only [hh] at hAt
      clear he hp hWi
      go_enter Try.func8, Try.ntmps8
      go_wp2_with (first
        | (refine wl_box 25 rfl rfl rfl ?_; intro w1 X1 T1)
        | (refine wl_run (xl_load 25 X1 rfl rfl Try.underlying25 rfl size25 (by omega : 0 + 3 ≤ 3) (cA_all _)) rfl ?_)
        | (go_at_call 25; (with_reducible refine (hMy _).mono ?_); rintro e w2 ⟨rfl, T2⟩; have X2 := X1.below T2; have S2 := ups T1 T2 T1.size; have hA2 := hAt _ S2)
        | (go_at_call 26; (with_reducible refine hA2.mono ?_); rintro e w3 ⟨⟨r, rfl, hr⟩, rfl⟩; have hr0 : 0 ≤ r := (by rcases hr with ⟨q, _⟩ | ⟨_, i, q, _⟩; cases q; omega); clear hr))
      go_ret2
      exact ⟨_, rfl, .inl ⟨rfl, hph.out⟩, S2⟩
    | false =>
      simp only [hh] at hAt
      by_cases hz : x = zC
      · have hk0 : kB (x :: b.all) b.R = true := by rw [hz, kB_zero]; exact hF.kept
        have he : b.putE k x = 0 := putE_ok hm hh hk0
        have hp : b.put k x = b.note k x := put_ok he rfl
        rw [he, hp]
        have hzd := Lib.hid (decide_eq_true hz)
        clear he hp hz hk0 hm
        go_enter Try.func8, Try.ntmps8
        go_wp2_with (first
          | (refine wl_box 25 rfl rfl rfl ?_; intro w1 X1 T1)
          | (refine wl_run (xl_load 25 X1 rfl rfl Try.underlying25 rfl size25 (by omega : 0 + 3 ≤ 3) (cA_all _)) rfl ?_)
          | (go_at_call 25; (with_reducible refine (hMy _).mono ?_); rintro e w2 ⟨rfl, T2⟩; have X2 := X1.below T2; have S2 := ups T1 T2 T1.size; have hA2 := hAt _ S2)
          | (go_at_call 26; (with_reducible refine hA2.mono ?_); rintro e w3 ⟨⟨r, rfl, hr⟩, rfl⟩; have hr0 : ¬ 0 ≤ r := (by rcases hr with ⟨_, q⟩ | ⟨q, _⟩; omega; cases q); clear hr)
          | (refine wl_run (xl_load 25 X2 rfl rfl Try.underlying25 rfl size25 (by omega : 0 + 3 ≤ 3) (cA_all _)) rfl ?_; have hW2 := hWi _ S2)
          | (go_at_call 27; (with_reducible refine hW2.mono ?_); rintro e w4 ⟨C, rfl, H4, T4⟩; have X4 := X2.below T4)
          | (refine wl_run (xl_load 25 X4 rfl rfl Try.underlying25 rfl size25 (by omega : 0 + 3 ≤ 3) (cA_all _)) rfl ?_)
          | (refine wl_run (xl_build0 25 built25 rfl) rfl ?_)
          | (refine wl_run (v := .bool false) ((xl_ne25 (p := x) (q := zC) rfl rfl rfl).trans (by rw [hzd.out]; rfl)) rfl ?_))
        go_ret2
        exact ⟨_, rfl, .inr (H4.mono S2.size), ups S2 T4 S2.size⟩
      · have hzd := Lib.hid (decide_eq_false hz)
        cases hk0 : kB (x :: b.all) b.R with
        | false =>
          have he : b.putE k x = 170 := putE_no hm hh hk0
          have hp := put_no he (by decide)
          rw [he]
          have hph := Lib.hid hp
          have hKe := Lib.hid (fun W C m (hR : Rw m W C (b.note k x)) => rk_note hR hz hF hn hx hk0)
          clear he hp hk0 hm
          go_enter Try.func8, Try.ntmps8
          go_wp2_with (first
            | (refine wl_box 25 rfl rfl rfl ?_; intro w1 X1 T1)
            | (refine wl_run (xl_load 25 X1 rfl rfl Try.underlying25 rfl size25 (by omega : 0 + 3 ≤ 3) (cA_all _)) rfl ?_)
            | (go_at_call 25; (with_reducible refine (hMy _).mono ?_); rintro e w2 ⟨rfl, T2⟩; have X2 := X1.below T2; have S2 := ups T1 T2 T1.size; have hA2 := hAt _ S2)
            | (go_at_call 26; (with_reducible refine hA2.mono ?_); rintro e w3 ⟨⟨r, rfl, hr⟩, rfl⟩; have hr0 : ¬ 0 ≤ r := (by rcases hr with ⟨_, q⟩ | ⟨q, _⟩; omega; cases q); clear hr)
            | (refine wl_run (xl_load 25 X2 rfl rfl Try.underlying25 rfl size25 (by omega : 0 + 3 ≤ 3) (cA_all _)) rfl ?_; have hW2 := hWi _ S2)
            | (go_at_call 27; (with_reducible refine hW2.mono ?_); rintro e w4 ⟨C, rfl, H4, T4⟩; have X4 := X2.below T4; have hK4 := hKe.out _ _ _ H4)
            | (refine wl_run (xl_load 25 X4 rfl rfl Try.underlying25 rfl size25 (by omega : 0 + 3 ≤ 3) (cA_all _)) rfl ?_)
            | (refine wl_run (xl_build0 25 built25 rfl) rfl ?_)
            | (refine wl_run (v := .bool true) ((xl_ne25 (p := x) (q := zC) rfl rfl rfl).trans (by rw [hzd.out]; rfl)) rfl ?_)
            | (go_at_call 28; (with_reducible refine hK4.mono ?_); rintro e w5 ⟨rfl, T5⟩))
          go_ret2
          exact ⟨_, rfl, .inl ⟨rfl, hph.out⟩, ups (ups S2 T4 S2.size) T5 (ups S2 T4 S2.size).size⟩
        | true =>
          have he : b.putE k x = 0 := putE_ok hm hh hk0
          have hp : b.put k x = b.note k x := put_ok he rfl
          rw [he, hp]
          have hKe := Lib.hid (fun W C m (hR : Rw m W C (b.note k x)) => rk_note hR hz hF hn hx hk0)
          clear he hp hk0 hm
          go_enter Try.func8, Try.ntmps8
          go_wp2_with (first
            | (refine wl_box 25 rfl rfl rfl ?_; intro w1 X1 T1)
            | (refine wl_run (xl_load 25 X1 rfl rfl Try.underlying25 rfl size25 (by omega : 0 + 3 ≤ 3) (cA_all _)) rfl ?_)
            | (go_at_call 25; (with_reducible refine (hMy _).mono ?_); rintro e w2 ⟨rfl, T2⟩; have X2 := X1.below T2; have S2 := ups T1 T2 T1.size; have hA2 := hAt _ S2)
            | (go_at_call 26; (with_reducible refine hA2.mono ?_); rintro e w3 ⟨⟨r, rfl, hr⟩, rfl⟩; have hr0 : ¬ 0 ≤ r := (by rcases hr with ⟨_, q⟩ | ⟨q, _⟩; omega; cases q); clear hr)
            | (refine wl_run (xl_load 25 X2 rfl rfl Try.underlying25 rfl size25 (by omega : 0 + 3 ≤ 3) (cA_all _)) rfl ?_; have hW2 := hWi _ S2)
            | (go_at_call 27; (with_reducible refine hW2.mono ?_); rintro e w4 ⟨C, rfl, H4, T4⟩; have X4 := X2.below T4; have hK4 := hKe.out _ _ _ H4)
            | (refine wl_run (xl_load 25 X4 rfl rfl Try.underlying25 rfl size25 (by omega : 0 + 3 ≤ 3) (cA_all _)) rfl ?_)
            | (refine wl_run (xl_build0 25 built25 rfl) rfl ?_)
            | (refine wl_run (v := .bool true) ((xl_ne25 (p := x) (q := zC) rfl rfl rfl).trans (by rw [hzd.out]; rfl)) rfl ?_)
            | (go_at_call 28; (with_reducible refine hK4.mono ?_); rintro e w5 ⟨rfl, T5⟩; have H5 := H4.below T5))
          go_ret2
          exact ⟨_, rfl, .inr (H5.mono S2.size), ups (ups S2 T4 S2.size) T5 (ups S2 T4 S2.size).size⟩
end
/-! ### Both -/
section
variable {V w w' : World} {χ χ' : Nat → Nat} {t n m Rb B d : Nat} {b r : Bk} {k : Int} {x : Cv}
/-- The document's book, its blocks of colour 2. -/
def Rc (w : World) (χ : Nat → Nat) (B : Nat) (b : Bk) : Prop := ∃ v1 v2 v3, R0 0 w B b v1 v2 v3 ∧ χ B = 2 ∧ (∀ g, v1.ownBlock = some g → χ g = 2) ∧ (∀ g, v2.ownBlock = some g → χ g = 2) ∧ (∀ g, v3.ownBlock = some g → χ g = 2)
theorem Rc.off {S : Nat → Prop} (h : Rc w χ B b) (ho : Off S w w') (hn : ∀ k, χ k = 2 → ¬ S k) (hc : ∀ k, k < w.heap.size → χ' k = χ k) : Rc w' χ' B b := by
  obtain ⟨v1, v2, v3, h0, c0, c1, c2, c3⟩ := h
  exact ⟨v1, v2, v3, ⟨ho.box h0.box (hn _ c0), Nat.zero_le _, ho.owns h0.r1 (fun g e => hn g (c1 g e)), ho.owns h0.r2 (fun g e => hn g (c2 g e)), ho.owns h0.r3 (fun g e => hn g (c3 g e)), h0.apart⟩, (hc _ h0.box.lt).trans c0, fun g e => (hc g (h0.r1.lt g e).2).trans (c1 g e), fun g e => (hc g (h0.r2.lt g e).2).trans (c2 g e), fun g e => (hc g (h0.r3.lt g e).2).trans (c3 g e)⟩
theorem Rc.below (h : Rc w χ B b) (hb : Below w.heap.size w w') : Rc w' χ B b := h.off (S := fun _ => False) (Off.of hb) (fun _ _ h => h) (fun _ _ => rfl)
theorem Rc.other (h : Rc w χ B b) (k : Col χ χ' d w w') (hd : 2 ≠ d) : Rc w' χ' B b :=
  h.off (S := fun b => χ b = d) ⟨k.os, k.tape, k.output, k.size, fun i hi hn => k.block i hi hn⟩ (fun b e g => hd (e.symm.trans g)) k.col
theorem Rc.new (h : Rc w χ B b) (hb : Below w.heap.size w w') (d : Nat) : Rc w' (recol χ w.heap.size d) B b := h.off (S := fun _ => False) (Off.of hb) (fun _ _ h => h) (fun _ hk => recol_lt hk)
theorem Rc.made (h : Rw w.heap.size w' B b) : Rc w' (recol χ w.heap.size 2) B b := by
  obtain ⟨v1, v2, v3, h0⟩ := h
  exact ⟨v1, v2, v3, h0.mono (Nat.zero_le _), recol_ge h0.hi, fun g e => recol_ge (h0.r1.lt g e).1, fun g e => recol_ge (h0.r2.lt g e).1, fun g e => recol_ge (h0.r3.lt g e).1⟩
/-- A book and the document's. -/
def Bd (V w : World) (t n : Nat) (b : Bk) (B m : Nat) (r : Bk) : Prop := ∃ χ, Fr V χ w ∧ Bo w χ 1 t n b ∧ Rc w χ B r ∧ r.Fit m
theorem Bd.world (h : Bd V w t n b B m r) : Below V.heap.size V w := by obtain ⟨χ, hf, _⟩ := h; exact hf.world
theorem Bd.fit (h : Bd V w t n b B m r) : b.Fit n := by obtain ⟨χ, _, h, _⟩ := h; exact h.2
theorem Bd.below (h : Bd V w t n b B m r) (hb : Below w.heap.size w w') : Bd V w' t n b B m r := by
  obtain ⟨χ, hf, h1, h2, h3⟩ := h
  exact ⟨χ, hf.below hb, h1.below hb, h2.below hb, h3⟩
theorem bd_new {R : Int} (h1 : Bn V w t 0 ⟨R, [], []⟩) (h2 : Rw w.heap.size w' B ⟨R, [], []⟩) (hb : Below w.heap.size w w') : Bd V w' t 0 ⟨R, [], []⟩ B 0 ⟨R, [], []⟩ := by
  obtain ⟨χ, hf, h1⟩ := h1
  exact ⟨recol χ w.heap.size 2, hf.next (Col.new (c := 2) hb 2) (by decide), h1.new hb 2, Rc.made h2, h1.2⟩
theorem bd_put (h : Bd V w t n b B m r) (hn : n ≤ 200) (hk : I64 k) (hx : x.word) : Calls Try.prog 9 #[ptr t, eI k, .agg (cA x)] w fun e w' => e = .returned (eI (b.putE k x)) ∧ Bd V w' t (n + 1) (b.put k x) B m r := by
  obtain ⟨χ, hf, h1, h2, h3⟩ := h
  refine (put_any h1 hn hk hx).mono ?_
  rintro e w' ⟨e1, χ', hT, hC⟩
  exact ⟨e1, χ', hf.next hC (by decide), hT, h2.other hC (by decide), h3⟩
theorem bd_rput (h : Bd V w t n b B m r) (hm : m ≤ 200) (hk : I64 k) (hx : x.word) : Calls Try.prog 8 #[ptr B, eI k, .agg (cA x)] w fun e w' => ∃ C, e = .returned (.tuple #[ptr C, eI (r.putE k x)]) ∧ Bd V w' t n b C (m + 1) (r.put k x) := by
  obtain ⟨χ, hf, h1, h2, h3⟩ := h
  obtain ⟨v1, v2, v3, h0, _⟩ := id h2
  refine (rput_any h0 h3 (by omega) hx).mono ?_
  rintro e w' ⟨C, rfl, hC, T⟩
  refine ⟨C, rfl, recol χ w.heap.size 2, hf.next (Col.new (c := 2) T 2) (by decide), h1.new T 2, ?_, Bk.put_fit h3 hk hx⟩
  rcases hC with ⟨rfl, e⟩ | hC
  · rw [e]; exact h2.new T 2
  · exact Rc.made hC
theorem bd_fits (h : Bd V w t n b B m r) (hn : n ≤ 200) (hx : x.word) {q : Bool} (hq : b.fits x = q) : Calls Try.prog 10 #[ptr t, .agg (cA x)] w fun e w' => e = .returned (.bool q) ∧ Below w.heap.size w w' := by
  subst hq
  obtain ⟨χ, hf, h1, _⟩ := h
  exact fits_any h1 hn hx
theorem bd_rfits (h : Bd V w t n b B m r) (hm : m ≤ 200) (hx : x.word) {q : Bool} (hq : r.fits x = q) : Calls Try.prog 11 #[ptr B, .agg (cA x)] w fun e w' => e = .returned (.bool q) ∧ Below w.heap.size w w' := by
  obtain ⟨χ, hf, h1, ⟨v1, v2, v3, h0, _⟩, h3⟩ := h
  exact rfits_any h0 h3 (by omega) hx hq
end
end Go.Proofs.Ytjbpaapglamilaa.H
