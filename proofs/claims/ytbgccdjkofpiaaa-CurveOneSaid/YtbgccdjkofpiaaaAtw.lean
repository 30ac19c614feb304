/- What a curve has at a tick, gone over by its pieces. No condition but that words are words. -/
import Derived.Test.YtbgccdjkofpiaaaSte
namespace Go.Proofs.Ytbgccdjkofpiaaa
open Go.RowKit Go.Shelf W
set_option linter.unusedVariables false
attribute [local go_sem] Oper.semAt_some
/-- Where a piece begins; how long it is; what it has by the tick t; what the first ones have. -/
def fro (l : Int) : Bool → Int
  | false => 0
  | true => l
def lng (l : Int) : Bool → Int
  | false => l
  | true => 18446744073709551615
def grA (f l r t : Int) (x : Bool) : Int := rT (slo f r x) (min (rM t (fro l x)) (lng l x))
def atF (f l r t : Int) (pre : List Bool) : Int := pre.foldl (fun s x => rP s (grA f l r t x)) 0
theorem atF_snoc (f l r t : Int) (pre : List Bool) (x : Bool) : atF f l r t (pre ++ [x]) = rP (atF f l r t pre) (grA f l r t x) := by simp [atF]
theorem rM_word {a b : Int} (ha : Word a) (hb : Word b) : Word (rM a b) := by
  unfold rM; split
  · unfold Word; omega
  · exact stp_word (by omega)
theorem rT_word {a b : Int} (ha : Word a) (hb : Word b) : Word (rT a b) := stp_word (Int.mul_nonneg ha.1 hb.1)
theorem rP_word {a b : Int} (ha : Word a) (hb : Word b) : Word (rP a b) := stp_word (by unfold Word at *; omega)
theorem min_word {a b : Int} (ha : Word a) (hb : Word b) : Word (min a b) := by unfold Word at *; omega
theorem slo_word {f r : Int} (hf : Word f) (hr : Word r) (x : Bool) : Word (slo f r x) := by cases x; exact hf; exact hr
theorem fro_word {l : Int} (hl : Word l) (x : Bool) : Word (fro l x) := by cases x; exact ⟨by simp [fro], by simp [fro]⟩; exact hl
theorem lng_word {l : Int} (hl : Word l) (x : Bool) : Word (lng l x) := by cases x; exact hl; exact ⟨by simp [lng], by simp [lng]⟩
theorem grA_word {f l r t : Int} (hf : Word f) (hl : Word l) (hr : Word r) (ht : Word t) (x : Bool) : Word (grA f l r t x) := rT_word (slo_word hf hr x) (min_word (rM_word ht (fro_word hl x)) (lng_word hl x))
theorem atF_word {f l r t : Int} (hf : Word f) (hl : Word l) (hr : Word r) (ht : Word t) (pre : List Bool) : Word (atF f l r t pre) := by
  unfold atF
  suffices h : ∀ (pre : List Bool) s, Word s → Word (pre.foldl (fun s x => rP s (grA f l r t x)) s) from h pre 0 ⟨by omega, by omega⟩
  intro pre
  induction pre with
  | nil => intro s hs; exact hs
  | cons x xs ih => intro s hs; exact ih _ (rP_word hs (grA_word hf hl hr ht x))
theorem pieceV_eq (f l r : Int) (x : Bool) : pieceV f l r x = .agg #[.int .u64 (slo f r x), .int .u64 (fro l x), .int .u64 (lng l x)] := by cases x <;> rfl
set_option maxRecDepth 100000 in
set_option maxHeartbeats 4000000 in
theorem at_of (f l r t : Int) (w : World) (hf : Word f) (hl' : Word l) (hr' : Word r) (ht : Word t) :
    Calls Try.prog 23 #[.agg #[.int .u64 f, .int .u64 l, .int .u64 r], .int .u64 t] w fun e w' => e = .returned (.int .u64 (atF f l r t (ps l))) ∧ Below w.heap.size w w' := by
  refine (callsIn_wide (n := 3)).1 ?_
  refine callsIn_of_wp_marks Try.func23 rfl trivial ?_ rfl
  simp only [Try.ntmps23, List.size_toArray, List.length_cons, List.length_nil, Nat.reduceAdd, Nat.reduceSub, Array.replicate_succ, Array.replicate_zero, List.push_toArray, List.append_toArray, List.nil_append, List.cons_append]
  gi_wp2_with (refine ⟨trivial, ?_⟩; gi_at_call 35; (refine (callsIn_wide.2 (pieces_any _ _ _ _)).mono ?_); rintro e w' ⟨rfl, rfl⟩)
  have bT := ((Boxed.new (w.alloc (.cells #[.int .u64 f, .int .u64 l, .int .u64 r] 24)) 22 (.int .u64 t)).alloc (.cells #[.int .u64 0] 22)).alloc (.cells #[.int .u64 f, .int .u64 l, .int .u64 r] 24)
  have bS := (Boxed.new ((w.alloc (.cells #[.int .u64 f, .int .u64 l, .int .u64 r] 24)).alloc (.cells #[.int .u64 t] 22)) 22 (.int .u64 0)).alloc (.cells #[.int .u64 f, .int .u64 l, .int .u64 r] 24)
  have bC := Tri.new (((w.alloc (.cells #[.int .u64 f, .int .u64 l, .int .u64 r] 24)).alloc (.cells #[.int .u64 t] 22)).alloc (.cells #[.int .u64 0] 22)) f l r 24
  simp only [World.size_alloc] at bT bS bC
  have hB0 : Below w.heap.size w ((((w.alloc (.cells #[.int .u64 f, .int .u64 l, .int .u64 r] 24)).alloc (.cells #[.int .u64 t] 22)).alloc (.cells #[.int .u64 0] 22)).alloc (.cells #[.int .u64 f, .int .u64 l, .int .u64 r] 24)) := ((((Below.refl _ w).alloc (Nat.le_refl _) _).alloc (by simp) _).alloc (by simp; omega) _).alloc (by simp; omega) _
  have hsz : ((((w.alloc (.cells #[.int .u64 f, .int .u64 l, .int .u64 r] 24)).alloc (.cells #[.int .u64 t] 22)).alloc (.cells #[.int .u64 0] 22)).alloc (.cells #[.int .u64 f, .int .u64 l, .int .u64 r] 24)).heap.size = w.heap.size + 4 := by simp
  obtain ⟨W0, hW0⟩ : ∃ W0, ((((w.alloc (.cells #[.int .u64 f, .int .u64 l, .int .u64 r] 24)).alloc (.cells #[.int .u64 t] 22)).alloc (.cells #[.int .u64 0] 22)).alloc (.cells #[.int .u64 f, .int .u64 l, .int .u64 r] 24)) = W0 := ⟨_, rfl⟩
  rw [hW0] at bT bS bC hB0 hsz ⊢
  clear hW0
  refine wpIn_rangeFunc_ownH rfl (by omega) (gf := 50) (lb := #[.pointer (some ⟨w.heap.size + 1 + 1 + 1, 0, none⟩)]) rfl trivial (enters_of Try.func50 (by kernel_rfl) rfl)
    (pieces_stops 2 (by omega) (w.heap.size + 1 + 1 + 1) f l r W0 bC) KeepsAt.trans (KeepsAt.putObj (by omega)) (Below.refl _ _) (fun _ => rfl)
    (fun pre W => (Boxed W (w.heap.size + 1 + 1) 22 (.int .u64 (atF f l r t pre)) ∧ Boxed W (w.heap.size + 1) 22 (.int .u64 t)) ∧ Below w.heap.size w W ∧ w.heap.size + 4 ≤ W.heap.size)
    (fun _ _ _ => False)
    (OwnFrom.and (OwnFrom.and (Go.Own.from (boxed_own _ _ _) _) (Go.Own.from (boxed_own _ _ (fun _ => .int .u64 t)) _)) (OwnFrom.and (ownFrom_below (Nat.le_refl _) (by omega)) (fun _ _ _ _ hs hg _ => Nat.le_trans hs hg.size)))
    (fun _ _ _ _ _ hs _ _ => hs)
    ⟨⟨bS, bT⟩, hB0, by omega⟩
    (fun x a' W => ∃ Bx, w.heap.size + 1 + 1 + 1 < Bx ∧ Box W Bx #[.int .u64 (slo f r x), .int .u64 (fro l x), .int .u64 (lng l x)] 50 ∧ a' = { tmps := #[.agg #[.int .u64 f, .int .u64 l, .int .u64 r], .int .u64 t, .pointer (some ⟨w.heap.size, 0, none⟩), .pointer (some ⟨w.heap.size + 1, 0, none⟩), .int .u64 0, .pointer (some ⟨w.heap.size + 1 + 1, 0, none⟩), .pointer (some ⟨Bx, 0, none⟩), .agg #[.int .u64 f, .int .u64 l, .int .u64 r], .func (.func 50) #[] #[.pointer (some ⟨w.heap.size + 1 + 1 + 1, 0, none⟩)], .agg #[.int .u64 (slo f r x), .int .u64 (fro l x), .int .u64 (lng l x)], undef, undef, undef, undef, undef, undef, undef, undef, undef], defers := [] })
    (fun x a' _ X Y row hs hg hr => by obtain ⟨Bx, h1, h2, h3⟩ := hs; exact ⟨Bx, h1, box_own Bx 50 _ () X Y row h2 hg (fun r e => (hr r e).2), h3⟩)
    ?assign ?body ?done ?stop
  case assign =>
    rintro l0 pre x W K ⟨⟨bS1, bT1⟩, hB1, hz1⟩ hK
    rw [pieceV_eq]
    gi_wp2
    exact hK _ _ ((KeepsOthers.alloc _ _).from _) (KeepsAt.alloc W (by omega) _) ⟨⟨bS1.alloc _, bT1.alloc _⟩, hB1.alloc hB1.size _, by simp; omega⟩ ⟨W.heap.size, by omega, Box.new W 50 _, rfl⟩
  case done =>
    rintro D zs W hD rfl ⟨⟨bS1, bT1⟩, hB1, hz1⟩ hK
    have cS := bS1.cell
    gi_wp2
    refine ⟨by simp, .inl ⟨_, _, rfl, run_takeDeferred hK, ?_⟩⟩
    exact ⟨_, results_tmp rfl _ _ _, rfl, hB1.trans (belowK_b (w := w) (Nat.le_refl _) W D _ _ (by omega) hK rfl rfl)⟩
  case stop =>
    rintro D c pre W _ _ h _
    exact h.elim
  case body =>
    rintro l0 pre x a' W hl ⟨rr, hr⟩ ⟨⟨bS1, bT1⟩, hB1, hz1⟩ ⟨Bx, hBx, bX, rfl⟩ hlt
    have hS := atF_snoc f l r t pre x
    have hmw := atF_word hf hl' hr' ht pre
    have hgw := grA_word hf hl' hr' ht x
    have cM := fun w => rMinus'_any t (fro l x) w ht (fro_word hl' x)
    have cG := fun w => grains_any (slo f r x) (fro l x) (lng l x) (rM t (fro l x)) w (slo_word hf hr' x) (lng_word hl' x) (rM_word ht (fro_word hl' x))
    have cP := fun w => rPlus'_any (atF f l r t pre) (grA f l r t x) w hmw hgw
    have eg : rT (slo f r x) (min (rM t (fro l x)) (lng l x)) = grA f l r t x := rfl
    rw [eg] at cG
    clear eg hmw hgw
    rw [← hS] at cP
    obtain ⟨q, eq⟩ : ∃ q, atF f l r t (pre ++ [x]) = q := ⟨_, rfl⟩
    have hfin : ∀ {W' : World}, Boxed W' (w.heap.size + 1 + 1) 22 (.int .u64 q) → Boxed W' (w.heap.size + 1 + 1) 22 (.int .u64 (atF f l r t (pre ++ [x]))) := fun h => by rw [eq]; exact h
    rw [eq] at cP
    clear eq hS
    obtain ⟨m, em⟩ : ∃ m, atF f l r t pre = m := ⟨_, rfl⟩
    obtain ⟨g, eg⟩ : ∃ g, grA f l r t x = g := ⟨_, rfl⟩
    obtain ⟨d, ed⟩ : ∃ d, rM t (fro l x) = d := ⟨_, rfl⟩
    obtain ⟨s, es⟩ : ∃ s, slo f r x = s := ⟨_, rfl⟩
    obtain ⟨o, eo⟩ : ∃ o, fro l x = o := ⟨_, rfl⟩
    obtain ⟨n, en⟩ : ∃ n, lng l x = n := ⟨_, rfl⟩
    rw [em, eg] at cP
    rw [ed, eg, es, eo, en] at cG
    rw [ed, eo] at cM
    rw [em] at bS1
    rw [es, eo, en] at bX ⊢
    clear em eg ed es eo en
    obtain ⟨x0, x1, x2, x3⟩ := bX.tri
    have cS := bS1.cell
    have fS := bS1.frozen
    have cT := bT1.cell
    have hwS := bS1.lt
    have hwT := bT1.lt
    gi_wp2
    refine round_held (S := (fun w' => w'.cell? ⟨w.heap.size + 1, 0, none⟩ = some (.int .u64 t) ∧ w'.cell? ⟨Bx, 0, none⟩ = some (.int .u64 s) ∧ w'.cell? ⟨Bx, 1, none⟩ = some (.int .u64 o) ∧ w'.cell? ⟨Bx, 2, none⟩ = some (.int .u64 n))) (by kernel_rfl) (by kernel_rfl) (by rintro ⟨a, w, h⟩; exact h) ⟨cT, x1, x2, x3⟩ (fun hHeld => ?_)
    refine wpAnyH_take (i := 1) (v := ?_) (by simp only [List.getElem?_toArray, List.getElem?_cons_zero, List.getElem?_cons_succ]; rfl) (by kernel_rfl) (by kernel_rfl) (by kernel_rfl) (by exact fun _ _ _ h => h) (Or.inl ⟨by rfl, ?_⟩) (by assumption) ?_
    rotate_left
    · (intro w hSw; (try dsimp only at hSw); go_simp; (try with_reducible rfl))
    try simp only [Act.put, List.setIfInBounds_toArray, List.set_cons_zero, List.set_cons_succ]
    refine wpAnyH_take (i := 2) (v := ?_) (by simp only [List.getElem?_toArray, List.getElem?_cons_zero, List.getElem?_cons_succ]; rfl) (by kernel_rfl) (by kernel_rfl) (by kernel_rfl) (by exact fun _ _ _ h => h) (Or.inl ⟨by rfl, ?_⟩) (by assumption) ?_
    rotate_left
    · (intro w hSw; (try dsimp only at hSw); go_simp; (try with_reducible rfl))
    try simp only [Act.put, List.setIfInBounds_toArray, List.set_cons_zero, List.set_cons_succ]
    refine wpAnyH_take (i := 3) (v := ?_) (by simp only [List.getElem?_toArray, List.getElem?_cons_zero, List.getElem?_cons_succ]; rfl) (by kernel_rfl) (by kernel_rfl) (by kernel_rfl) (by exact fun _ _ _ h => h) (Or.inl ⟨by rfl, ?_⟩) (by assumption) ?_
    rotate_left
    · (intro w hSw; (try dsimp only at hSw); go_simp; (try with_reducible rfl))
    try simp only [Act.put, List.setIfInBounds_toArray, List.set_cons_zero, List.set_cons_succ]
    refine wpAnyH_take (i := 4) (v := ?_) (by simp only [List.getElem?_toArray, List.getElem?_cons_zero, List.getElem?_cons_succ]; rfl) (by kernel_rfl) (by kernel_rfl) (by kernel_rfl) (by exact fun _ _ _ h => h) (Or.inl ⟨by rfl, ?_⟩) (by assumption) ?_
    rotate_left
    · (intro w hSw; (try dsimp only at hSw); go_simp; (try with_reducible rfl))
    try simp only [Act.put, List.setIfInBounds_toArray, List.set_cons_zero, List.set_cons_succ]
    refine wpAnyH_ready (rs := [0, 5]) (by kernel_rfl) (by simp) ?_
    refine AllReadyH.cons (by simp only [List.getElem?_toArray, List.getElem?_cons_zero]; rfl) (fun K hK => ?_) ?_
    · go_simp
      refine hK.out _ _ ⟨cT, x1, x2, x3⟩ (fun hHeld => ?_)
      clear hK K
      try simp only [Act.put, List.setIfInBounds_toArray, List.set_cons_zero, List.set_cons_succ]
      refine wpAnyH_ready (rs := [5]) (by kernel_rfl) (by simp) ?_
      refine AllReadyH.cons (by simp only [List.getElem?_toArray, List.getElem?_cons_zero, List.getElem?_cons_succ]; rfl) (fun K hK => ?_) AllReadyH.nil
      go_simp
      go_at_call 33
      (with_reducible refine (cM _).mono ?_)
      rintro e w1 ⟨rfl, hb1⟩
      have E1 := undrew hb1
      have cS1 := (Boxed.below bS1 E1).cell
      have fS1 := (Boxed.below bS1 E1).frozen
      have hH1 : (fun w' => w'.cell? ⟨w.heap.size + 1, 0, none⟩ = some (.int .u64 t) ∧ w'.cell? ⟨Bx, 0, none⟩ = some (.int .u64 s) ∧ w'.cell? ⟨Bx, 1, none⟩ = some (.int .u64 o) ∧ w'.cell? ⟨Bx, 2, none⟩ = some (.int .u64 n)) w1 := ⟨(Boxed.below bT1 E1).cell, ((bX.below E1).tri).2.1, ((bX.below E1).tri).2.2.1, ((bX.below E1).tri).2.2.2⟩
      refine hK.out _ _ hH1 (fun hHeld => ?_)
      clear hK K
      try simp only [Act.put, List.setIfInBounds_toArray, List.set_cons_zero, List.set_cons_succ]
      refine wpAnyH_ready (rs := [6]) (by kernel_rfl) (by simp) ?_
      refine AllReadyH.cons (by simp only [List.getElem?_toArray, List.getElem?_cons_zero, List.getElem?_cons_succ]; rfl) (fun K hK => ?_) AllReadyH.nil
      go_simp
      go_at_call 36
      (with_reducible refine (cG _).mono ?_)
      rintro e w2 ⟨rfl, hb2⟩
      have E2 := up E1 hb2 E1.size
      have cS2 := (Boxed.below bS1 E2).cell
      have fS2 := (Boxed.below bS1 E2).frozen
      have hH2 : (fun w' => w'.cell? ⟨w.heap.size + 1, 0, none⟩ = some (.int .u64 t) ∧ w'.cell? ⟨Bx, 0, none⟩ = some (.int .u64 s) ∧ w'.cell? ⟨Bx, 1, none⟩ = some (.int .u64 o) ∧ w'.cell? ⟨Bx, 2, none⟩ = some (.int .u64 n)) w2 := ⟨(Boxed.below bT1 E2).cell, ((bX.below E2).tri).2.1, ((bX.below E2).tri).2.2.1, ((bX.below E2).tri).2.2.2⟩
      refine hK.out _ _ hH2 (fun hHeld => ?_)
      clear hK K
      try simp only [Act.put, List.setIfInBounds_toArray, List.set_cons_zero, List.set_cons_succ]
      refine wpAnyH_ready (rs := [7]) (by kernel_rfl) (by simp) ?_
      refine AllReadyH.cons (by simp only [List.getElem?_toArray, List.getElem?_cons_zero, List.getElem?_cons_succ]; rfl) (fun K hK => ?_) AllReadyH.nil
      go_simp
      go_at_call 30
      (with_reducible refine (cP _).mono ?_)
      rintro e w3 ⟨rfl, hb3⟩
      have E3 := up E2 hb3 E2.size
      have cS3 := (Boxed.below bS1 E3).cell
      have fS3 := (Boxed.below bS1 E3).frozen
      have hH3 : (fun w' => w'.cell? ⟨w.heap.size + 1, 0, none⟩ = some (.int .u64 t) ∧ w'.cell? ⟨Bx, 0, none⟩ = some (.int .u64 s) ∧ w'.cell? ⟨Bx, 1, none⟩ = some (.int .u64 o) ∧ w'.cell? ⟨Bx, 2, none⟩ = some (.int .u64 n)) w3 := ⟨(Boxed.below bT1 E3).cell, ((bX.below E3).tri).2.1, ((bX.below E3).tri).2.2.1, ((bX.below E3).tri).2.2.2⟩
      refine hK.out _ _ hH3 (fun hHeld => ?_)
      clear hK K
      try simp only [Act.put, List.setIfInBounds_toArray, List.set_cons_zero, List.set_cons_succ]
      refine wpAnyH_ready (rs := [8]) (by kernel_rfl) (by simp) ?_
      refine AllReadyH.cons (by simp only [List.getElem?_toArray, List.getElem?_cons_zero, List.getElem?_cons_succ]; rfl) (fun K hK => ?_) AllReadyH.nil
      go_simp
      refine hK.out _ _ (by simpa [World.cell?_setCell_far, show w.heap.size + 1 + 1 ≠ Bx by omega] using hH3) (fun hHeld => ?_)
      clear hK K
      try simp only [Act.put, List.setIfInBounds_toArray, List.set_cons_zero, List.set_cons_succ]
      refine wpAnyH_done (by kernel_rfl) ?_ _
      exact ⟨(Below.keeps E3 _).trans ((KeepsOthers.setCell _ _ _).from _), KeepsAt.trans (KeepsAt.below (by omega) E3) (KeepsAt.setCell _ (by omega) _), ⟨hfin ((Boxed.below bS1 E3).set _), (Boxed.below bT1 E3).other (by omega) _⟩, (hB1.trans (E3.mono hB1.size)).setCell (p := ⟨w.heap.size + 1 + 1, 0, none⟩) (by simp; omega) _, by have := E3.size; simp [World.setCell]; omega⟩
    refine AllReadyH.cons (by simp only [List.getElem?_toArray, List.getElem?_cons_zero, List.getElem?_cons_succ]; rfl) (fun K hK => ?_) AllReadyH.nil
    go_simp
    go_at_call 33
    (with_reducible refine (cM _).mono ?_)
    rintro e w1 ⟨rfl, hb1⟩
    have E1 := undrew hb1
    have cS1 := (Boxed.below bS1 E1).cell
    have fS1 := (Boxed.below bS1 E1).frozen
    have hH1 : (fun w' => w'.cell? ⟨w.heap.size + 1, 0, none⟩ = some (.int .u64 t) ∧ w'.cell? ⟨Bx, 0, none⟩ = some (.int .u64 s) ∧ w'.cell? ⟨Bx, 1, none⟩ = some (.int .u64 o) ∧ w'.cell? ⟨Bx, 2, none⟩ = some (.int .u64 n)) w1 := ⟨(Boxed.below bT1 E1).cell, ((bX.below E1).tri).2.1, ((bX.below E1).tri).2.2.1, ((bX.below E1).tri).2.2.2⟩
    refine hK.out _ _ hH1 (fun hHeld => ?_)
    clear hK K
    try simp only [Act.put, List.setIfInBounds_toArray, List.set_cons_zero, List.set_cons_succ]
    refine wpAnyH_ready (rs := [0, 6]) (by kernel_rfl) (by simp) ?_
    refine AllReadyH.cons (by simp only [List.getElem?_toArray, List.getElem?_cons_zero]; rfl) (fun K hK => ?_) ?_
    · go_simp
      refine hK.out _ _ hH1 (fun hHeld => ?_)
      clear hK K
      try simp only [Act.put, List.setIfInBounds_toArray, List.set_cons_zero, List.set_cons_succ]
      refine wpAnyH_ready (rs := [6]) (by kernel_rfl) (by simp) ?_
      refine AllReadyH.cons (by simp only [List.getElem?_toArray, List.getElem?_cons_zero, List.getElem?_cons_succ]; rfl) (fun K hK => ?_) AllReadyH.nil
      go_simp
      go_at_call 36
      (with_reducible refine (cG _).mono ?_)
      rintro e w2 ⟨rfl, hb2⟩
      have E2 := up E1 hb2 E1.size
      have cS2 := (Boxed.below bS1 E2).cell
      have fS2 := (Boxed.below bS1 E2).frozen
      have hH2 : (fun w' => w'.cell? ⟨w.heap.size + 1, 0, none⟩ = some (.int .u64 t) ∧ w'.cell? ⟨Bx, 0, none⟩ = some (.int .u64 s) ∧ w'.cell? ⟨Bx, 1, none⟩ = some (.int .u64 o) ∧ w'.cell? ⟨Bx, 2, none⟩ = some (.int .u64 n)) w2 := ⟨(Boxed.below bT1 E2).cell, ((bX.below E2).tri).2.1, ((bX.below E2).tri).2.2.1, ((bX.below E2).tri).2.2.2⟩
      refine hK.out _ _ hH2 (fun hHeld => ?_)
      clear hK K
      try simp only [Act.put, List.setIfInBounds_toArray, List.set_cons_zero, List.set_cons_succ]
      refine wpAnyH_ready (rs := [7]) (by kernel_rfl) (by simp) ?_
      refine AllReadyH.cons (by simp only [List.getElem?_toArray, List.getElem?_cons_zero, List.getElem?_cons_succ]; rfl) (fun K hK => ?_) AllReadyH.nil
      go_simp
      go_at_call 30
      (with_reducible refine (cP _).mono ?_)
      rintro e w3 ⟨rfl, hb3⟩
      have E3 := up E2 hb3 E2.size
      have cS3 := (Boxed.below bS1 E3).cell
      have fS3 := (Boxed.below bS1 E3).frozen
      have hH3 : (fun w' => w'.cell? ⟨w.heap.size + 1, 0, none⟩ = some (.int .u64 t) ∧ w'.cell? ⟨Bx, 0, none⟩ = some (.int .u64 s) ∧ w'.cell? ⟨Bx, 1, none⟩ = some (.int .u64 o) ∧ w'.cell? ⟨Bx, 2, none⟩ = some (.int .u64 n)) w3 := ⟨(Boxed.below bT1 E3).cell, ((bX.below E3).tri).2.1, ((bX.below E3).tri).2.2.1, ((bX.below E3).tri).2.2.2⟩
      refine hK.out _ _ hH3 (fun hHeld => ?_)
      clear hK K
      try simp only [Act.put, List.setIfInBounds_toArray, List.set_cons_zero, List.set_cons_succ]
      refine wpAnyH_ready (rs := [8]) (by kernel_rfl) (by simp) ?_
      refine AllReadyH.cons (by simp only [List.getElem?_toArray, List.getElem?_cons_zero, List.getElem?_cons_succ]; rfl) (fun K hK => ?_) AllReadyH.nil
      go_simp
      refine hK.out _ _ (by simpa [World.cell?_setCell_far, show w.heap.size + 1 + 1 ≠ Bx by omega] using hH3) (fun hHeld => ?_)
      clear hK K
      try simp only [Act.put, List.setIfInBounds_toArray, List.set_cons_zero, List.set_cons_succ]
      refine wpAnyH_done (by kernel_rfl) ?_ _
      exact ⟨(Below.keeps E3 _).trans ((KeepsOthers.setCell _ _ _).from _), KeepsAt.trans (KeepsAt.below (by omega) E3) (KeepsAt.setCell _ (by omega) _), ⟨hfin ((Boxed.below bS1 E3).set _), (Boxed.below bT1 E3).other (by omega) _⟩, (hB1.trans (E3.mono hB1.size)).setCell (p := ⟨w.heap.size + 1 + 1, 0, none⟩) (by simp; omega) _, by have := E3.size; simp [World.setCell]; omega⟩
    refine AllReadyH.cons (by simp only [List.getElem?_toArray, List.getElem?_cons_zero, List.getElem?_cons_succ]; rfl) (fun K hK => ?_) AllReadyH.nil
    go_simp
    go_at_call 36
    (with_reducible refine (cG _).mono ?_)
    rintro e w2 ⟨rfl, hb2⟩
    have E2 := up E1 hb2 E1.size
    have cS2 := (Boxed.below bS1 E2).cell
    have fS2 := (Boxed.below bS1 E2).frozen
    have hH2 : (fun w' => w'.cell? ⟨w.heap.size + 1, 0, none⟩ = some (.int .u64 t) ∧ w'.cell? ⟨Bx, 0, none⟩ = some (.int .u64 s) ∧ w'.cell? ⟨Bx, 1, none⟩ = some (.int .u64 o) ∧ w'.cell? ⟨Bx, 2, none⟩ = some (.int .u64 n)) w2 := ⟨(Boxed.below bT1 E2).cell, ((bX.below E2).tri).2.1, ((bX.below E2).tri).2.2.1, ((bX.below E2).tri).2.2.2⟩
    refine hK.out _ _ hH2 (fun hHeld => ?_)
    clear hK K
    try simp only [Act.put, List.setIfInBounds_toArray, List.set_cons_zero, List.set_cons_succ]
    refine wpAnyH_ready (rs := [0]) (by kernel_rfl) (by simp) ?_
    refine AllReadyH.cons (by simp only [List.getElem?_toArray, List.getElem?_cons_zero]; rfl) (fun K hK => ?_) AllReadyH.nil
    go_simp
    refine hK.out _ _ hH2 (fun hHeld => ?_)
    clear hK K
    try simp only [Act.put, List.setIfInBounds_toArray, List.set_cons_zero, List.set_cons_succ]
    refine wpAnyH_ready (rs := [7]) (by kernel_rfl) (by simp) ?_
    refine AllReadyH.cons (by simp only [List.getElem?_toArray, List.getElem?_cons_zero, List.getElem?_cons_succ]; rfl) (fun K hK => ?_) AllReadyH.nil
    go_simp
    go_at_call 30
    (with_reducible refine (cP _).mono ?_)
    rintro e w3 ⟨rfl, hb3⟩
    have E3 := up E2 hb3 E2.size
    have cS3 := (Boxed.below bS1 E3).cell
    have fS3 := (Boxed.below bS1 E3).frozen
    have hH3 : (fun w' => w'.cell? ⟨w.heap.size + 1, 0, none⟩ = some (.int .u64 t) ∧ w'.cell? ⟨Bx, 0, none⟩ = some (.int .u64 s) ∧ w'.cell? ⟨Bx, 1, none⟩ = some (.int .u64 o) ∧ w'.cell? ⟨Bx, 2, none⟩ = some (.int .u64 n)) w3 := ⟨(Boxed.below bT1 E3).cell, ((bX.below E3).tri).2.1, ((bX.below E3).tri).2.2.1, ((bX.below E3).tri).2.2.2⟩
    refine hK.out _ _ hH3 (fun hHeld => ?_)
    clear hK K
    try simp only [Act.put, List.setIfInBounds_toArray, List.set_cons_zero, List.set_cons_succ]
    refine wpAnyH_ready (rs := [8]) (by kernel_rfl) (by simp) ?_
    refine AllReadyH.cons (by simp only [List.getElem?_toArray, List.getElem?_cons_zero, List.getElem?_cons_succ]; rfl) (fun K hK => ?_) AllReadyH.nil
    go_simp
    refine hK.out _ _ (by simpa [World.cell?_setCell_far, show w.heap.size + 1 + 1 ≠ Bx by omega] using hH3) (fun hHeld => ?_)
    clear hK K
    try simp only [Act.put, List.setIfInBounds_toArray, List.set_cons_zero, List.set_cons_succ]
    refine wpAnyH_done (by kernel_rfl) ?_ _
    exact ⟨(Below.keeps E3 _).trans ((KeepsOthers.setCell _ _ _).from _), KeepsAt.trans (KeepsAt.below (by omega) E3) (KeepsAt.setCell _ (by omega) _), ⟨hfin ((Boxed.below bS1 E3).set _), (Boxed.below bT1 E3).other (by omega) _⟩, (hB1.trans (E3.mono hB1.size)).setCell (p := ⟨w.heap.size + 1 + 1, 0, none⟩) (by simp; omega) _, by have := E3.size; simp [World.setCell]; omega⟩
end Go.Proofs.Ytbgccdjkofpiaaa
