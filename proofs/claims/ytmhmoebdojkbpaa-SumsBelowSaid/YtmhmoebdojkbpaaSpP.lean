/- What is spare: the program's own answer. No condition but words, how many curves there are, and what the sort is said to do. -/
import Derived.Test.YtmhmoebdojkbpaaSpM
namespace Go.Proofs.Ytmhmoebdojkbpaa
open Go.RowKit Go.Shelf Go.Maps W
set_option linter.unusedVariables false
attribute [local go_sem] Oper.semAt_some
def SprI (w : World) (xs : List Cv) (rate : Int) (pre : List (Int × Int)) (W : World) : Prop :=
  ((∃ q, Boxed W (w.heap.size + 1 + 1 + 1) 23 (eU q) ∧ SpQ xs rate (Cov pre) q) ∧ Boxed W w.heap.size 23 (eU rate) ∧ Boxed W (w.heap.size + 1) 23 (eU 0) ∧ Boxed W (w.heap.size + 1 + 1) 4 (.bool false)) ∧ Below w.heap.size w W
def SprX (w : World) (xs : List Cv) (rate : Int) (c : Code) (pre : List (Int × Int)) (W : World) : Prop :=
  c = .ret ∧ (∃ t, 0 ≤ t ∧ t < 9223372036854775808 ∧ lateAt xs rate t) ∧ Boxed W (w.heap.size + 1) 23 (eU 0) ∧ Boxed W (w.heap.size + 1 + 1) 4 (.bool false) ∧ Below w.heap.size w W
theorem bturn {X Y : World} {b B : Nat} {t : TypeId} {v : Value} {row : Option Nat} (h : Boxed X b t v) (hg : X.grownBy Y row) (hr : ∀ r, row = some r → B ≤ r) (hb : b < B) : Boxed Y b t v := h.kept hg (fun e => by have := hr b e.symm; omega)
theorem SprI.own (w : World) (xs : List Cv) (rate : Int) : AbidesAll (w.heap.size + 5) (SprI w xs rate) := by
  rintro s X Y row ⟨⟨⟨q, h1, h2⟩, h3, h4, h5⟩, h6⟩ hg hr
  exact ⟨⟨⟨q, bturn h1 hg hr (by omega), h2⟩, bturn h3 hg hr (by omega), bturn h4 hg hr (by omega), bturn h5 hg hr (by omega)⟩, h6.grown hg h6.size (fun k e => by have := hr k e; omega)⟩
theorem SprX.own (w : World) (xs : List Cv) (rate : Int) (c : Code) : AbidesAll (w.heap.size + 5) (SprX w xs rate c) := by
  rintro s X Y row ⟨h1, h2, h4, h5, h6⟩ hg hr
  exact ⟨h1, h2, bturn h4 hg hr (by omega), bturn h5 hg hr (by omega), h6.grown hg h6.size (fun k e => by have := hr k e; omega)⟩
set_option maxRecDepth 100000 in
set_option maxHeartbeats 4000000 in
theorem spareP_of (m : Nat) (hsort : SortU m) (xs : List CW) (hxl : xs.length ≤ 400) (hxm : xs.length + 1 ≤ m) (rate : Int) (hr : Word rate) (a : Option Addr) (k c : Nat) (w : World) (h : IsCvs w a k c (unW xs)) :
    Calls Try.prog 19 #[.slice a k c, eU rate] w fun e w' => ((∃ q, IsSpare (unW xs) rate q ∧ e = .returned (.tuple #[eU q, .bool true])) ∨ (¬ kept (unW xs) rate ∧ e = .returned (.tuple #[eU 0, .bool false]))) ∧ Below w.heap.size w w' := by
  have hg : Good (unW (cntW xs)) := by rw [unW_cnt]; exact good_cnt (unW_words xs)
  have hyl : (unW (cntW xs)).length ≤ xs.length := by unfold unW; rw [List.length_map]; exact List.length_filter_le _ _
  have hyn : (unW (cntW xs)).length ≤ 1000 := by omega
  refine (callsIn_wide (n := 12)).1 ?_
  refine callsIn_of_wp_marks Try.func19 rfl trivial ?_ rfl
  simp only [Try.ntmps19, List.size_toArray, List.length_cons, List.length_nil, Nat.reduceAdd, Nat.reduceSub, Array.replicate_succ, Array.replicate_zero, List.push_toArray, List.append_toArray, List.nil_append, List.cons_append]
  gi_wp2_with (refine ⟨trivial, ?_⟩; gi_at_call 36; (refine (callsIn_wide.2 (stretches_any _ _ _ _)).mono ?_); rintro e w' ⟨rfl, rfl⟩)
  have b1 := Boxed.new w 23 (eU rate)
  have b2 := Boxed.new (w.alloc (.cells #[eU rate] 23)) 23 (eU 0)
  have b3 := Boxed.new ((w.alloc (.cells #[eU rate] 23)).alloc (.cells #[eU 0] 23)) 4 (.bool false)
  have b4 := Boxed.new (((w.alloc (.cells #[eU rate] 23)).alloc (.cells #[eU 0] 23)).alloc (.cells #[.bool false] 4)) 23 (eU 1048576)
  have b5 := Boxed.new ((((w.alloc (.cells #[eU rate] 23)).alloc (.cells #[eU 0] 23)).alloc (.cells #[.bool false] 4)).alloc (.cells #[eU 1048576] 23)) 22 (.slice a k c)
  replace b1 := (((b1.alloc (.cells #[eU 0] 23)).alloc (.cells #[.bool false] 4)).alloc (.cells #[eU 1048576] 23)).alloc (.cells #[.slice a k c] 22)
  replace b2 := ((b2.alloc (.cells #[.bool false] 4)).alloc (.cells #[eU 1048576] 23)).alloc (.cells #[.slice a k c] 22)
  replace b3 := (b3.alloc (.cells #[eU 1048576] 23)).alloc (.cells #[.slice a k c] 22)
  replace b4 := b4.alloc (.cells #[.slice a k c] 22)
  simp only [World.size_alloc] at b1 b2 b3 b4 b5
  have hB0 : Below w.heap.size w (((((w.alloc (.cells #[eU rate] 23)).alloc (.cells #[eU 0] 23)).alloc (.cells #[.bool false] 4)).alloc (.cells #[eU 1048576] 23)).alloc (.cells #[.slice a k c] 22)) := (((((Below.refl _ w).alloc (Nat.le_refl _) _).alloc (by simp) _).alloc (by simp; omega) _).alloc (by simp; omega) _).alloc (by simp; omega) _
  have hsz : (((((w.alloc (.cells #[eU rate] 23)).alloc (.cells #[eU 0] 23)).alloc (.cells #[.bool false] 4)).alloc (.cells #[eU 1048576] 23)).alloc (.cells #[.slice a k c] 22)).heap.size = w.heap.size + 5 := by simp
  obtain ⟨W0, hW0⟩ : ∃ W0, (((((w.alloc (.cells #[eU rate] 23)).alloc (.cells #[eU 0] 23)).alloc (.cells #[.bool false] 4)).alloc (.cells #[eU 1048576] 23)).alloc (.cells #[.slice a k c] 22)) = W0 := ⟨_, rfl⟩
  rw [hW0] at b1 b2 b3 b4 b5 hB0 hsz ⊢
  clear hW0
  have hseq := stretches_go m hsort 11 (by omega) xs hxl hxm a k c (w.heap.size + 1 + 1 + 1 + 1) w.heap.size w W0 h hB0 (by omega) b5.cell
  have hys : sW (unW (cntW xs)) = sW (unW xs) := funext fun t => by rw [unW_cnt, cnt_sum]
  have hct : unW (cntW xs) = cnt (unW xs) := unW_cnt xs
  have hysh := Lib.hid hys
  have hcth := Lib.hid hct
  clear hys hct
  generalize unW (cntW xs) = ys at *
  refine loopC (by omega) (gf := 52) (lb := #[.pointer (some ⟨w.heap.size + 1 + 1 + 1 + 1, 0, none⟩)]) rfl (enters_of Try.func52 (by kernel_rfl) rfl) (n₀ := w.heap.size) (by omega) hseq (fun _ => rfl)
    (SprI w (unW xs) rate) (SprX w (unW xs) rate) (by rw [hsz]; exact SprI.own w _ rate) (fun c => by rw [hsz]; exact SprX.own w _ rate c)
    ⟨⟨⟨_, b4, SpQ.start (unW_words xs) rate⟩, b1, b2, b3⟩, hB0⟩
    (fun x a' W => ∃ Bx, w.heap.size + 5 ≤ Bx ∧ Box W Bx #[eU x.1, eU x.2, eU (slF ys x.1), eU (hiW (sW ys x.1)), eU (loW (sW ys x.1))] 66 ∧ a' = { tmps := #[.slice a k c, eU rate, undef, .pointer (some ⟨w.heap.size, 0, none⟩), .pointer (some ⟨w.heap.size + 1, 0, none⟩), .pointer (some ⟨w.heap.size + 1 + 1, 0, none⟩), .pointer (some ⟨w.heap.size + 1 + 1 + 1, 0, none⟩), .pointer (some ⟨Bx, 0, none⟩), undef, undef, .slice a k c, .func (.func 52) #[] #[.pointer (some ⟨w.heap.size + 1 + 1 + 1 + 1, 0, none⟩)], strV ys x.1 x.2, undef, undef, undef, undef, undef, undef, undef, undef, undef, undef, undef, undef], defers := [] })
    (fun x a' _ X Y row hs hg hr => by obtain ⟨Bx, h1, h2, h3⟩ := hs; exact ⟨Bx, h1, box_own Bx 66 _ () X Y row h2 hg (fun r e => (hr r e).2), h3⟩)
    ?assign ?body ?done ?stop
  case assign =>
    rintro l0 pre x W K hzW ⟨⟨⟨q, h1, h2⟩, h3, h4, h5⟩, h6⟩ hK
    unfold strV
    gi_wp2
    exact hK _ _ (Mid.alloc W h6.size _) ⟨⟨⟨q, h1.alloc _, h2⟩, h3.alloc _, h4.alloc _, h5.alloc _⟩, h6.alloc h6.size _⟩ ⟨W.heap.size, by omega, Box.new W 66 _, rfl⟩
  case stop =>
    rintro D c pre W hD _ ⟨rfl, ⟨t, t0, t1, t2⟩, h4, h5, h6⟩ hK
    have hnk : ¬ kept (unW xs) rate := fun hk => hk t t0 t1 t2
    have hp4 : Boxed (W.putObj D (.deferred none)) (w.heap.size + 1) 23 (eU 0) := (World.putObj_heap_other (by omega)).trans h4
    have hp5 : Boxed (W.putObj D (.deferred none)) (w.heap.size + 1 + 1) 4 (.bool false) := (World.putObj_heap_other (by omega)).trans h5
    have c4 := hp4.cell
    have c5 := hp5.cell
    have hbl : Below w.heap.size w (W.putObj D (.deferred none)) := h6.trans (belowK_b (w := w) (Nat.le_refl _) W D _ _ (by omega) hK rfl rfl)
    clear t2 h4 h5 hseq b1 b2 b3 b4 b5
    gi_wp2
    refine ⟨by simp, .inl ⟨_, _, rfl, run_takeDeferred hK, ?_⟩⟩
    exact ⟨.tuple #[eU 0, .bool false], by simp [results, Try.results19, go_sem, c4, c5], .inr ⟨hnk, rfl⟩, hbl⟩
  case done =>
    rintro D zs W hD hcov ⟨⟨⟨q, h1, h2⟩, h3, h4, h5⟩, h6⟩ hK
    rw [hcov] at h2
    have hsp := h2.done
    have c1 := h1.cell
    have c4 := h4.cell
    have f4 := h4.frozen
    have c5 := h5.cell
    have f5 := h5.frozen
    have hKf : ∀ u : Value, ((W.setCell ⟨w.heap.size + 1, 0, none⟩ u).setCell ⟨w.heap.size + 1 + 1, 0, none⟩ (.bool true)).heap[D]? = some (.deferred (some [])) := fun u =>
      (Below.heap_setCell _ _ _ D (by show D ≠ w.heap.size + 1 + 1; omega)).trans ((Below.heap_setCell _ _ _ D (by show D ≠ w.heap.size + 1; omega)).trans hK)
    have g4 : Boxed ((W.setCell ⟨w.heap.size + 1, 0, none⟩ (eU q)).setCell ⟨w.heap.size + 1 + 1, 0, none⟩ (.bool true)) (w.heap.size + 1) 23 (eU q) := (h4.set _).other (by omega) _
    have g5 : Boxed ((W.setCell ⟨w.heap.size + 1, 0, none⟩ (eU q)).setCell ⟨w.heap.size + 1 + 1, 0, none⟩ (.bool true)) (w.heap.size + 1 + 1) 4 (.bool true) := (h5.other (by omega) _).set _
    have hb2 : Below w.heap.size w ((W.setCell ⟨w.heap.size + 1, 0, none⟩ (eU q)).setCell ⟨w.heap.size + 1 + 1, 0, none⟩ (.bool true)) := (h6.setCell (p := ⟨w.heap.size + 1, 0, none⟩) (by simp) _).setCell (p := ⟨w.heap.size + 1 + 1, 0, none⟩) (by simp; omega) _
    have hKq := hKf (eU q)
    have hDn : D ≠ w.heap.size + 1 ∧ D ≠ w.heap.size + 1 + 1 ∧ w.heap.size ≤ D := by omega
    clear hseq b1 b2 b3 b4 b5 h2 hcov h4 h5 h3 h1 hKf
    gi_wp2
    generalize ((W.setCell ⟨w.heap.size + 1, 0, none⟩ (eU q)).setCell ⟨w.heap.size + 1 + 1, 0, none⟩ (.bool true)) = X at *
    have hp4 : Boxed (X.putObj D (.deferred none)) (w.heap.size + 1) 23 (eU q) := (World.putObj_heap_other (Ne.symm hDn.1)).trans g4
    have hp5 : Boxed (X.putObj D (.deferred none)) (w.heap.size + 1 + 1) 4 (.bool true) := (World.putObj_heap_other (Ne.symm hDn.2.1)).trans g5
    have k4 := hp4.cell
    have k5 := hp5.cell
    refine ⟨by simp, .inl ⟨_, _, rfl, run_takeDeferred hKq, ?_⟩⟩
    exact ⟨.tuple #[eU q, .bool true], by simp [results, Try.results19, go_sem, k4, k5], .inl ⟨q, hsp, rfl⟩, hb2.trans (belowK_b (w := w) (Nat.le_refl _) X D _ _ hDn.2.2 hKq rfl rfl)⟩
  case body =>
    rintro l0 pre ⟨F, kx⟩ a' W hzW ⟨⟨⟨q, h1, h2⟩, h3, h4, h5⟩, h6⟩ ⟨Bx, hBx, bX, rfl⟩ ⟨hcov, hF0, hFk, hkl, hclr⟩
    dsimp only at bX hcov hF0 hFk hkl hclr
    have cS := fun w => spare_sum hg hyn hF0 hFk hkl hclr hr w
    have eC : Cov (pre ++ [(F, kx)]) = kx := Cov_snoc _ _
    rw [← hcov] at h2
    rw [hcth.out] at hclr
    unfold strV spQ spB at cS
    rw [hysh.out] at cS bX
    obtain ⟨p0, p1, p2, p3, p4, p5⟩ := Fv.of_box bX
    have cR := h3.cell
    have hzr := h3.lt
    by_cases hle : sW (unW xs) kx ≤ rate * kx
    · have hst := h2.step hF0 hFk hclr hle
      simp only [if_pos hle, decide_eq_true hle] at cS
      generalize (rate * kx - sW (unW xs) kx) / kx = p at cS hst
      generalize slF ys F = sg at cS bX p3
      generalize hiW (sW (unW xs) F) = h0' at cS bX p4
      generalize loW (sW (unW xs) F) = l0' at cS bX p5
      have fin : ∀ (w3 : World), Below W.heap.size W w3 → Mid w.heap.size W0.heap.size W (w3.setCell ⟨w.heap.size + 1 + 1 + 1, 0, none⟩ (eU (min q p))) ∧ SprI w (unW xs) rate (pre ++ [(F, kx)]) (w3.setCell ⟨w.heap.size + 1 + 1 + 1, 0, none⟩ (eU (min q p))) := fun w3 hb3 => by
        have q1 := Boxed.below h1 hb3
        have q3 := Boxed.below h3 hb3
        have q4 := Boxed.below h4 hb3
        have q5 := Boxed.below h5 hb3
        refine ⟨(Mid.of_below hb3 h6.size).trans (Mid.put w3 (by omega) (by omega) 0 _), ⟨⟨min q p, q1.set _, by rw [eC]; exact hst⟩, q3.other (by omega) _, q4.other (by omega) _, q5.other (by omega) _⟩, (h6.trans (hb3.mono h6.size)).setCell (p := ⟨w.heap.size + 1 + 1 + 1, 0, none⟩) (by simp; omega) _⟩
      have hfin := Lib.hid fin
      clear fin hst h2 eC hclr hle hysh hcth hcov hF0 hFk hkl
      have z1 := h1.lt
      rcases Int.lt_trichotomy q p with hc | hc | hc
      · have e1 : min q p = q := by omega
        rw [e1] at hfin
        gi_wp2_with (refine ⟨trivial, ?_⟩; gi_at_call 39; (refine (CallsIn.inRound l0 (callsIn_wide.2 (cS _))).mono ?_); rintro e w3 ⟨rfl, hb3⟩; have c1 := (Boxed.below h1 hb3).cell; have f1 := (Boxed.below h1 hb3).frozen)
        exact hfin.out w3 hb3
      · subst hc
        rw [Int.min_self] at hfin
        gi_wp2_with (refine ⟨trivial, ?_⟩; gi_at_call 39; (refine (CallsIn.inRound l0 (callsIn_wide.2 (cS _))).mono ?_); rintro e w3 ⟨rfl, hb3⟩; have c1 := (Boxed.below h1 hb3).cell; have f1 := (Boxed.below h1 hb3).frozen)
        exact hfin.out w3 hb3
      · have e1 : min q p = p := by omega
        rw [e1] at hfin
        gi_wp2_with (refine ⟨trivial, ?_⟩; gi_at_call 39; (refine (CallsIn.inRound l0 (callsIn_wide.2 (cS _))).mono ?_); rintro e w3 ⟨rfl, hb3⟩; have c1 := (Boxed.below h1 hb3).cell; have f1 := (Boxed.below h1 hb3).frozen)
        exact hfin.out w3 hb3
    · have hlt : lateAt (unW xs) rate kx := by unfold lateAt; omega
      simp only [if_neg hle, decide_eq_false hle] at cS
      generalize slF ys F = sg at cS bX p3
      generalize hiW (sW (unW xs) F) = h0' at cS bX p4
      generalize loW (sW (unW xs) F) = l0' at cS bX p5
      have fin : ∀ (w3 : World), Below W.heap.size W w3 → Mid w.heap.size W0.heap.size W ((w3.setCell ⟨w.heap.size + 1, 0, none⟩ (eU 0)).setCell ⟨w.heap.size + 1 + 1, 0, none⟩ (.bool false)) ∧ SprX w (unW xs) rate .ret (pre ++ [(F, kx)]) ((w3.setCell ⟨w.heap.size + 1, 0, none⟩ (eU 0)).setCell ⟨w.heap.size + 1 + 1, 0, none⟩ (.bool false)) := fun w3 hb3 => by
        have q4 := Boxed.below h4 hb3
        have q5 := Boxed.below h5 hb3
        refine ⟨((Mid.of_below hb3 h6.size).trans (Mid.put w3 (by omega) (by omega) 0 _)).trans (Mid.put _ (by omega) (by omega) 0 _), rfl, ⟨kx, by omega, by omega, hlt⟩, (q4.set _).other (by omega) _, (q5.other (by omega) _).set _, ((h6.trans (hb3.mono h6.size)).setCell (p := ⟨w.heap.size + 1, 0, none⟩) (by simp) _).setCell (p := ⟨w.heap.size + 1 + 1, 0, none⟩) (by simp; omega) _⟩
      have hfin := Lib.hid fin
      clear fin h2 eC hclr hle hysh hcth hlt hcov hF0 hFk hkl
      gi_wp2_with (refine ⟨trivial, ?_⟩; gi_at_call 39; (refine (CallsIn.inRound l0 (callsIn_wide.2 (cS _))).mono ?_); rintro e w3 ⟨rfl, hb3⟩; have c4 := (Boxed.below h4 hb3).cell; have f4 := (Boxed.below h4 hb3).frozen; have c5 := (Boxed.below h5 hb3).cell; have f5 := (Boxed.below h5 hb3).frozen)
      exact hfin.out w3 hb3
end Go.Proofs.Ytmhmoebdojkbpaa
