/- When curves are late first, and whether they can be kept: the program's own answers. No condition but words, how many curves there are, and what the sort is said to do. -/
import Derived.Test.YtmhmoebdojkbpaaLaN
namespace Go.Proofs.Ytmhmoebdojkbpaa
open Go.RowKit Go.Shelf Go.Maps W
set_option linter.unusedVariables false
attribute [local go_sem] Oper.semAt_some
def LtI (w : World) (xs : List Cv) (rate : Int) (pre : List (Int × Int)) (W : World) : Prop :=
  ((∀ t, 0 ≤ t → t ≤ Cov pre → ¬ lateAt xs rate t) ∧ Boxed W w.heap.size 23 (eU rate) ∧ Boxed W (w.heap.size + 1) 23 (eU 0)) ∧ Below w.heap.size w W
def LtX (w : World) (xs : List Cv) (rate : Int) (c : Code) (pre : List (Int × Int)) (W : World) : Prop :=
  c = .ret ∧ ∃ t, IsLate xs rate t ∧ Boxed W (w.heap.size + 1) 23 (eU t) ∧ Below w.heap.size w W
theorem LtI.own (w : World) (xs : List Cv) (rate : Int) : AbidesAll (w.heap.size + 3) (LtI w xs rate) := by
  rintro s X Y row ⟨⟨h1, h3, h4⟩, h6⟩ hg hr
  exact ⟨⟨h1, bturn h3 hg hr (by omega), bturn h4 hg hr (by omega)⟩, h6.grown hg h6.size (fun k e => by have := hr k e; omega)⟩
theorem LtX.own (w : World) (xs : List Cv) (rate : Int) (c : Code) : AbidesAll (w.heap.size + 3) (LtX w xs rate c) := by
  rintro s X Y row ⟨h1, t, h2, h4, h6⟩ hg hr
  exact ⟨h1, t, h2, bturn h4 hg hr (by omega), h6.grown hg h6.size (fun k e => by have := hr k e; omega)⟩
set_option maxRecDepth 100000 in
set_option maxHeartbeats 4000000 in
theorem lateP_of (m : Nat) (hsort : SortU m) (xs : List CW) (hxl : xs.length ≤ 400) (hxm : xs.length + 1 ≤ m) (rate : Int) (hr : Word rate) (a : Option Addr) (k c : Nat) (w : World) (h : IsCvs w a k c (unW xs)) :
    Calls Try.prog 15 #[.slice a k c, eU rate] w fun e w' => (∃ t, IsLate (unW xs) rate t ∧ e = .returned (eU t)) ∧ Below w.heap.size w w' := by
  have hg : Good (unW (cntW xs)) := by rw [unW_cnt]; exact good_cnt (unW_words xs)
  have hyl : (unW (cntW xs)).length ≤ xs.length := by unfold unW; rw [List.length_map]; exact List.length_filter_le _ _
  have hyn : (unW (cntW xs)).length ≤ 1000 := by omega
  refine (callsIn_wide (n := 12)).1 ?_
  refine callsIn_of_wp_marks Try.func15 rfl trivial ?_ rfl
  simp only [Try.ntmps15, List.size_toArray, List.length_cons, List.length_nil, Nat.reduceAdd, Nat.reduceSub, Array.replicate_succ, Array.replicate_zero, List.push_toArray, List.append_toArray, List.nil_append, List.cons_append]
  gi_wp2_with (refine ⟨trivial, ?_⟩; gi_at_call 36; (refine (callsIn_wide.2 (stretches_any _ _ _ _)).mono ?_); rintro e w' ⟨rfl, rfl⟩)
  have b1 := Boxed.new w 23 (eU rate)
  have b2 := Boxed.new (w.alloc (.cells #[eU rate] 23)) 23 (eU 0)
  have b5 := Boxed.new ((w.alloc (.cells #[eU rate] 23)).alloc (.cells #[eU 0] 23)) 22 (.slice a k c)
  replace b1 := (b1.alloc (.cells #[eU 0] 23)).alloc (.cells #[.slice a k c] 22)
  replace b2 := b2.alloc (.cells #[.slice a k c] 22)
  simp only [World.size_alloc] at b1 b2 b5
  have hB0 : Below w.heap.size w (((w.alloc (.cells #[eU rate] 23)).alloc (.cells #[eU 0] 23)).alloc (.cells #[.slice a k c] 22)) := (((Below.refl _ w).alloc (Nat.le_refl _) _).alloc (by simp) _).alloc (by simp; omega) _
  have hsz : (((w.alloc (.cells #[eU rate] 23)).alloc (.cells #[eU 0] 23)).alloc (.cells #[.slice a k c] 22)).heap.size = w.heap.size + 3 := by simp
  obtain ⟨W0, hW0⟩ : ∃ W0, (((w.alloc (.cells #[eU rate] 23)).alloc (.cells #[eU 0] 23)).alloc (.cells #[.slice a k c] 22)) = W0 := ⟨_, rfl⟩
  rw [hW0] at b1 b2 b5 hB0 hsz ⊢
  clear hW0
  have hseq := stretches_go m hsort 11 (by omega) xs hxl hxm a k c (w.heap.size + 1 + 1) w.heap.size w W0 h hB0 (by omega) b5.cell
  have hys : sW (unW (cntW xs)) = sW (unW xs) := funext fun t => by rw [unW_cnt, cnt_sum]
  have hysh := Lib.hid hys
  clear hys
  generalize unW (cntW xs) = ys at *
  have hla : Hid (∀ rate t, lateAt ys rate t ↔ lateAt (unW xs) rate t) := Lib.hid fun rate t => by unfold lateAt; rw [hysh.out]
  have hz0 : ∀ t, 0 ≤ t → t ≤ Cov [] → ¬ lateAt (unW xs) rate t := fun t h0 h1 => by
    have : t = 0 := by simp [Cov] at h1; omega
    subst this; exact not_late_zero (unW_words xs) rate
  refine loopC (by omega) (gf := 52) (lb := #[.pointer (some ⟨w.heap.size + 1 + 1, 0, none⟩)]) rfl (enters_of Try.func52 (by kernel_rfl) rfl) (n₀ := w.heap.size) (by omega) hseq (fun _ => rfl)
    (LtI w (unW xs) rate) (LtX w (unW xs) rate) (by rw [hsz]; exact LtI.own w _ rate) (fun c => by rw [hsz]; exact LtX.own w _ rate c)
    ⟨⟨hz0, b1, b2⟩, hB0⟩
    (fun x a' W => ∃ Bx, w.heap.size + 3 ≤ Bx ∧ Box W Bx #[eU x.1, eU x.2, eU (slF ys x.1), eU (hiW (sW ys x.1)), eU (loW (sW ys x.1))] 66 ∧ a' = { tmps := #[.slice a k c, eU rate, undef, .pointer (some ⟨w.heap.size, 0, none⟩), .pointer (some ⟨w.heap.size + 1, 0, none⟩), .pointer (some ⟨Bx, 0, none⟩), undef, undef, .slice a k c, .func (.func 52) #[] #[.pointer (some ⟨w.heap.size + 1 + 1, 0, none⟩)], strV ys x.1 x.2, undef, undef, undef, undef, undef, undef, undef, undef], defers := [] })
    (fun x a' _ X Y row hs hg hr => by obtain ⟨Bx, h1, h2, h3⟩ := hs; exact ⟨Bx, h1, box_own Bx 66 _ () X Y row h2 hg (fun r e => (hr r e).2), h3⟩)
    ?assign ?body ?done ?stop
  case assign =>
    rintro l0 pre x W K hzW ⟨⟨h1, h3, h4⟩, h6⟩ hK
    unfold strV
    gi_wp2
    exact hK _ _ (Mid.alloc W h6.size _) ⟨⟨h1, h3.alloc _, h4.alloc _⟩, h6.alloc h6.size _⟩ ⟨W.heap.size, by omega, Box.new W 66 _, rfl⟩
  case stop =>
    rintro D c pre W hD _ ⟨rfl, t, hL, h4, h6⟩ hK
    have hp4 : Boxed (W.putObj D (.deferred none)) (w.heap.size + 1) 23 (eU t) := (World.putObj_heap_other (by omega)).trans h4
    have c4 := hp4.cell
    have hbl : Below w.heap.size w (W.putObj D (.deferred none)) := h6.trans (belowK_b (w := w) (Nat.le_refl _) W D _ _ (by omega) hK rfl rfl)
    clear h4 hseq b1 b2 b5 hz0
    gi_wp2
    refine ⟨by simp, .inl ⟨_, _, rfl, run_takeDeferred hK, ?_⟩⟩
    exact ⟨eU t, by simp [results, Try.results15, go_sem, c4], ⟨t, hL, rfl⟩, hbl⟩
  case done =>
    rintro D zs W hD hcov ⟨⟨h1, h3, h4⟩, h6⟩ hK
    rw [hcov] at h1
    have hL : IsLate (unW xs) rate 9223372036854775808 := .inl ⟨rfl, fun t t0 t1 => h1 t t0 (by omega)⟩
    have c4 := h4.cell
    have f4 := h4.frozen
    have hKf : (W.setCell ⟨w.heap.size + 1, 0, none⟩ (eU 9223372036854775808)).heap[D]? = some (.deferred (some [])) :=
      (Below.heap_setCell _ _ _ D (by show D ≠ w.heap.size + 1; omega)).trans hK
    have g4 : Boxed (W.setCell ⟨w.heap.size + 1, 0, none⟩ (eU 9223372036854775808)) (w.heap.size + 1) 23 (eU 9223372036854775808) := h4.set _
    have hb2 : Below w.heap.size w (W.setCell ⟨w.heap.size + 1, 0, none⟩ (eU 9223372036854775808)) := h6.setCell (p := ⟨w.heap.size + 1, 0, none⟩) (by simp) _
    have hDn : D ≠ w.heap.size + 1 ∧ w.heap.size ≤ D := by omega
    clear hseq b1 b2 b5 hcov h4 h3 h1 hz0
    gi_wp2
    generalize (W.setCell ⟨w.heap.size + 1, 0, none⟩ (eU 9223372036854775808)) = X at *
    have hp4 : Boxed (X.putObj D (.deferred none)) (w.heap.size + 1) 23 (eU 9223372036854775808) := (World.putObj_heap_other (Ne.symm hDn.1)).trans g4
    have k4 := hp4.cell
    refine ⟨by simp, .inl ⟨_, _, rfl, run_takeDeferred hKf, ?_⟩⟩
    exact ⟨eU 9223372036854775808, by simp [results, Try.results15, go_sem, k4], ⟨_, hL, rfl⟩, hb2.trans (belowK_b (w := w) (Nat.le_refl _) X D _ _ hDn.2 hKf rfl rfl)⟩
  case body =>
    rintro l0 pre ⟨F, kx⟩ a' W hzW ⟨⟨h1, h3, h4⟩, h6⟩ ⟨Bx, hBx, bX, rfl⟩ ⟨hcov, hF0, hFk, hkl, hclr⟩
    dsimp only at bX hcov hF0 hFk hkl hclr
    rw [← hcov] at h1
    have hnF : ¬ lateAt ys rate F := fun hl => h1 F hF0 (Int.le_refl _) ((hla.out _ _).1 hl)
    have cS := fun w => late_sum hg hyn hF0 hFk hkl hclr hr hnF w
    have eC : Cov (pre ++ [(F, kx)]) = kx := Cov_snoc _ _
    unfold strV at cS
    obtain ⟨p0, p1, p2, p3, p4, p5⟩ := Fv.of_box bX
    have cR := h3.cell
    have hzr := h3.lt
    cases hb : laB ys rate F kx with
    | false =>
      have hno := la_no hg hF0 hclr hnF hb
      have ht : laT ys rate F kx = 0 := by unfold laT; rw [hb]; rfl
      rw [hb, ht] at cS
      have fin : ∀ (w3 : World), Below W.heap.size W w3 → Mid w.heap.size W0.heap.size W w3 ∧ LtI w (unW xs) rate (pre ++ [(F, kx)]) w3 := fun w3 hb3 => by
        refine ⟨Mid.of_below hb3 h6.size, ⟨fun t t0 t1 => ?_, Boxed.below h3 hb3, Boxed.below h4 hb3⟩, h6.trans (hb3.mono h6.size)⟩
        rw [eC] at t1
        by_cases htF : t ≤ F
        · exact h1 t t0 htF
        · exact fun hl => hno t (by omega) t1 ((hla.out _ _).2 hl)
      have hfin := Lib.hid fin
      generalize slF ys F = sg at cS bX p3
      generalize hiW (sW ys F) = h0' at cS bX p4
      generalize loW (sW ys F) = l0' at cS bX p5
      clear fin eC hla hysh hcov hF0 hFk hkl h1 hno hb ht hnF hclr hz0
      gi_wp2_with (refine ⟨trivial, ?_⟩; gi_at_call 37; (refine (CallsIn.inRound l0 (callsIn_wide.2 (cS _))).mono ?_); rintro e w3 ⟨rfl, hb3⟩)
      exact hfin.out w3 hb3
    | true =>
      obtain ⟨y1, y2, y3, y4⟩ := la_yes hg hF0 hclr hnF hb
      rw [hb] at cS
      generalize laT ys rate F kx = tl at cS y1 y2 y3 y4
      have hL : IsLate (unW xs) rate tl := .inr ⟨by omega, by omega, (hla.out _ _).1 y3, fun t t0 t1 => by
        by_cases htF : t ≤ F
        · exact h1 t t0 htF
        · exact fun hl => y4 t (by omega) t1 ((hla.out _ _).2 hl)⟩
      have fin : ∀ (w3 : World), Below W.heap.size W w3 → Mid w.heap.size W0.heap.size W (w3.setCell ⟨w.heap.size + 1, 0, none⟩ (eU tl)) ∧ LtX w (unW xs) rate .ret (pre ++ [(F, kx)]) (w3.setCell ⟨w.heap.size + 1, 0, none⟩ (eU tl)) := fun w3 hb3 => by
        have q4 := Boxed.below h4 hb3
        exact ⟨(Mid.of_below hb3 h6.size).trans (Mid.put w3 (by omega) (by omega) 0 _), rfl, tl, hL, q4.set _, (h6.trans (hb3.mono h6.size)).setCell (p := ⟨w.heap.size + 1, 0, none⟩) (by simp) _⟩
      have hfin := Lib.hid fin
      generalize slF ys F = sg at cS bX p3
      generalize hiW (sW ys F) = h0' at cS bX p4
      generalize loW (sW ys F) = l0' at cS bX p5
      clear fin eC hla hysh hcov hF0 hFk hkl h1 hb hnF hclr hz0 y1 y2 y3 y4 hL
      gi_wp2_with (refine ⟨trivial, ?_⟩; gi_at_call 37; (refine (CallsIn.inRound l0 (callsIn_wide.2 (cS _))).mono ?_); rintro e w3 ⟨rfl, hb3⟩; have c4 := (Boxed.below h4 hb3).cell; have f4 := (Boxed.below h4 hb3).frozen)
      exact hfin.out w3 hb3
theorem lateP_any (m : Nat) (hsort : SortU m) (xs : List Cv) (hx : ∀ c ∈ xs, c.word) (hxl : xs.length ≤ 400) (hxm : xs.length + 1 ≤ m) (rate n : Int) (hr : Word rate) (a : Option Addr) (k c : Nat) (w : World) (h : IsCvs w a k c xs) (hn : IsLate xs rate n) :
    Calls Try.prog 15 #[.slice a k c, eU rate] w fun e w' => e = .returned (eU n) ∧ Below w.heap.size w w' := by
  obtain ⟨ys, rfl⟩ := unW_ex hx
  refine (lateP_of m hsort ys (by simpa [unW] using hxl) (by simpa [unW] using hxm) rate hr a k c w h).mono ?_
  rintro e w' ⟨⟨t, ht, rfl⟩, hb⟩
  rw [ht.unique hn]; exact ⟨rfl, hb⟩
set_option maxHeartbeats 1000000 in
theorem keptP_any (m : Nat) (hsort : SortU m) (xs : List Cv) (hx : ∀ c ∈ xs, c.word) (hxl : xs.length ≤ 400) (hxm : xs.length + 1 ≤ m) (rate : Int) (bb : Bool) (hr : Word rate) (a : Option Addr) (k c : Nat) (w : World) (h : IsCvs w a k c xs) (hb : bb = true ↔ kept xs rate) :
    Calls Try.prog 17 #[.slice a k c, eU rate] w fun e w' => e = .returned (.bool bb) ∧ Below w.heap.size w w' := by
  obtain ⟨n, hn⟩ := late_ex xs rate
  have cL := lateP_any m hsort xs hx hxl hxm rate n hr a k c w h hn
  have hki := kept_iff hn
  have hbb : (n == 9223372036854775808) = bb := by
    by_cases e : n = 9223372036854775808
    · have : bb = true := hb.2 (hki.2 e)
      rw [this]; simpa using e
    · have : ¬ bb = true := fun h => e (hki.1 (hb.1 h))
      have h2 : bb = false := by simpa using this
      rw [h2]; simpa using e
  clear hki hb hn
  go_enter Try.func17, Try.ntmps17
  go_wp2_with (go_at_call 15; (with_reducible refine cL.mono ?_); rintro e w1 ⟨rfl, hb1⟩)
  go_ret
  exact ⟨by rw [← hbb]; first | rfl | simp, hb1⟩
end Go.Proofs.Ytmhmoebdojkbpaa
