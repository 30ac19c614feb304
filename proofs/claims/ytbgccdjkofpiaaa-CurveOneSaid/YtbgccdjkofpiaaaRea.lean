/- When a curve reaches an amount, gone over by its pieces. No condition but that words are words. -/
import Derived.Test.YtbgccdjkofpiaaaAtw
import Derived.Test.YtbgccdjkofpiaaaDownUp
namespace Go.Proofs.Ytbgccdjkofpiaaa
open Go.RowKit Go.Shelf W
set_option linter.unusedVariables false
attribute [local go_sem] Oper.semAt_some
/-- What a whole piece has; what the first ones have; where, from those on, the amount is reached. -/
def grW (f l r : Int) (x : Bool) : Int := rT (slo f r x) (min (lng l x) (lng l x))
def hadF (f l r : Int) (pre : List Bool) : Int := pre.foldl (fun s x => rP s (grW f l r x)) 0
theorem hadF_snoc (f l r : Int) (pre : List Bool) (x : Bool) : hadF f l r (pre ++ [x]) = rP (hadF f l r pre) (grW f l r x) := by simp [hadF]
def hitW (f l r y had : Int) (x : Bool) : Int := min (min (fro l x) 9223372036854775808 + qU (y - had) 1 (slo f r x)) 9223372036854775808
def rcF (f l r y : Int) : Int → List Bool → Int
  | _, [] => 9223372036854775808
  | had, x :: xs => if y ≤ rP had (grW f l r x) then hitW f l r y had x else rcF f l r y (rP had (grW f l r x)) xs
theorem grW_word {f l r : Int} (hf : Word f) (hl : Word l) (hr : Word r) (x : Bool) : Word (grW f l r x) := rT_word (slo_word hf hr x) (min_word (lng_word hl x) (lng_word hl x))
theorem hadF_word {f l r : Int} (hf : Word f) (hl : Word l) (hr : Word r) (pre : List Bool) : Word (hadF f l r pre) := by
  unfold hadF
  suffices h : ∀ (pre : List Bool) s, Word s → Word (pre.foldl (fun s x => rP s (grW f l r x)) s) from h pre 0 ⟨by omega, by omega⟩
  intro pre
  induction pre with
  | nil => intro s hs; exact hs
  | cons x xs ih => intro s hs; exact ih _ (rP_word hs (grW_word hf hl hr x))
theorem qU_nn {a b c : Int} (ha : 0 ≤ a) (hb : 0 ≤ b) (hc : 0 ≤ c) : 0 ≤ qU a b c := by
  unfold qU; split
  · omega
  · exact stp_nn (Int.ediv_nonneg (by have := Int.mul_nonneg ha hb; omega) hc)
theorem qU_cap (a b c : Int) : qU a b c ≤ 4611686018427387904 := by
  unfold qU; split
  · omega
  · exact stp_le _
theorem reach_zero (f l r : Int) (w : World) :
    Calls Try.prog 25 #[.agg #[.int .u64 f, .int .u64 l, .int .u64 r], .int .u64 0] w fun e w' => e = .returned (.int .u64 0) ∧ Below w.heap.size w w' := by
  go_enter Try.func25, Try.ntmps25
  go_wp2
  exact bodyPost_ret (v := .int .u64 0) (by simp [results, Try.results25, go_sem]) rfl ⟨rfl, up3 w _ _ _⟩
set_option maxRecDepth 100000 in
set_option maxHeartbeats 4000000 in
theorem reach_of (f l r y : Int) (w : World) (hf : Word f) (hl' : Word l) (hr' : Word r) (hy : Word y) (y0 : 0 < y) :
    Calls Try.prog 25 #[.agg #[.int .u64 f, .int .u64 l, .int .u64 r], .int .u64 y] w fun e w' => e = .returned (.int .u64 (rcF f l r y 0 (ps l))) ∧ Below w.heap.size w w' := by
  have hyz : (y == 0) = false := by simp; omega
  refine (callsIn_wide (n := 3)).1 ?_
  refine callsIn_of_wp_marks Try.func25 rfl trivial ?_ rfl
  simp only [Try.ntmps25, List.size_toArray, List.length_cons, List.length_nil, Nat.reduceAdd, Nat.reduceSub, Array.replicate_succ, Array.replicate_zero, List.push_toArray, List.append_toArray, List.nil_append, List.cons_append]
  gi_wp2_with (refine ⟨trivial, ?_⟩; gi_at_call 35; (refine (callsIn_wide.2 (pieces_any _ _ _ _)).mono ?_); rintro e w' ⟨rfl, rfl⟩)
  have bY := (((Boxed.new (w.alloc (.cells #[.int .u64 f, .int .u64 l, .int .u64 r] 24)) 22 (.int .u64 y)).alloc (.cells #[.int .u64 0] 22)).alloc (.cells #[.int .u64 0] 22)).alloc (.cells #[.int .u64 f, .int .u64 l, .int .u64 r] 24)
  have bR := ((Boxed.new ((w.alloc (.cells #[.int .u64 f, .int .u64 l, .int .u64 r] 24)).alloc (.cells #[.int .u64 y] 22)) 22 (.int .u64 0)).alloc (.cells #[.int .u64 0] 22)).alloc (.cells #[.int .u64 f, .int .u64 l, .int .u64 r] 24)
  have bS := (Boxed.new (((w.alloc (.cells #[.int .u64 f, .int .u64 l, .int .u64 r] 24)).alloc (.cells #[.int .u64 y] 22)).alloc (.cells #[.int .u64 0] 22)) 22 (.int .u64 0)).alloc (.cells #[.int .u64 f, .int .u64 l, .int .u64 r] 24)
  have bC := Tri.new ((((w.alloc (.cells #[.int .u64 f, .int .u64 l, .int .u64 r] 24)).alloc (.cells #[.int .u64 y] 22)).alloc (.cells #[.int .u64 0] 22)).alloc (.cells #[.int .u64 0] 22)) f l r 24
  simp only [World.size_alloc] at bY bR bS bC
  have hB0 : Below w.heap.size w (((((w.alloc (.cells #[.int .u64 f, .int .u64 l, .int .u64 r] 24)).alloc (.cells #[.int .u64 y] 22)).alloc (.cells #[.int .u64 0] 22)).alloc (.cells #[.int .u64 0] 22)).alloc (.cells #[.int .u64 f, .int .u64 l, .int .u64 r] 24)) := (((((Below.refl _ w).alloc (Nat.le_refl _) _).alloc (by simp) _).alloc (by simp; omega) _).alloc (by simp; omega) _).alloc (by simp; omega) _
  have hsz : (((((w.alloc (.cells #[.int .u64 f, .int .u64 l, .int .u64 r] 24)).alloc (.cells #[.int .u64 y] 22)).alloc (.cells #[.int .u64 0] 22)).alloc (.cells #[.int .u64 0] 22)).alloc (.cells #[.int .u64 f, .int .u64 l, .int .u64 r] 24)).heap.size = w.heap.size + 5 := by simp
  obtain ⟨W0, hW0⟩ : ∃ W0, (((((w.alloc (.cells #[.int .u64 f, .int .u64 l, .int .u64 r] 24)).alloc (.cells #[.int .u64 y] 22)).alloc (.cells #[.int .u64 0] 22)).alloc (.cells #[.int .u64 0] 22)).alloc (.cells #[.int .u64 f, .int .u64 l, .int .u64 r] 24)) = W0 := ⟨_, rfl⟩
  rw [hW0] at bY bR bS bC hB0 hsz ⊢
  clear hW0
  refine wpIn_rangeFunc_ownH rfl (by omega) (gf := 50) (lb := #[.pointer (some ⟨w.heap.size + 1 + 1 + 1 + 1, 0, none⟩)]) rfl trivial (enters_of Try.func50 (by kernel_rfl) rfl)
    (pieces_stops 2 (by omega) (w.heap.size + 1 + 1 + 1 + 1) f l r W0 bC) KeepsAt.trans (KeepsAt.putObj (by omega)) (Below.refl _ _) (fun _ => rfl)
    (fun pre W => ((Boxed W (w.heap.size + 1 + 1 + 1) 22 (.int .u64 (hadF f l r pre)) ∧ Boxed W (w.heap.size + 1) 22 (.int .u64 y)) ∧ Boxed W (w.heap.size + 1 + 1) 22 (.int .u64 0)) ∧ Below w.heap.size w W ∧ w.heap.size + 5 ≤ W.heap.size ∧ (hadF f l r pre < y ∧ ∀ xs, rcF f l r y 0 (pre ++ xs) = rcF f l r y (hadF f l r pre) xs))
    (fun c pre W => (∃ v, Boxed W (w.heap.size + 1 + 1) 22 (.int .u64 v) ∧ c = .ret ∧ ∀ xs, rcF f l r y 0 (pre ++ xs) = v) ∧ Below w.heap.size w W)
    (OwnFrom.and (OwnFrom.and (OwnFrom.and (Go.Own.from (boxed_own _ _ _) _) (Go.Own.from (boxed_own _ _ (fun _ => .int .u64 y)) _)) (Go.Own.from (boxed_own _ _ (fun _ => .int .u64 0)) _)) (OwnFrom.and (ownFrom_below (Nat.le_refl _) (by omega)) (OwnFrom.and (fun _ _ _ _ hs hg _ => Nat.le_trans hs hg.size) (fun _ _ _ _ hs _ _ => hs))))
    (fun c => OwnFrom.and (fun s X Y row hs hg hr => by obtain ⟨v, h1, h2⟩ := hs; exact ⟨v, boxed_own _ 22 (fun (_ : Unit) => .int .u64 v) () X Y row h1 hg (fun r e => (hr r e).2), h2⟩) (ownFrom_below (Nat.le_refl _) (by omega)))
    ⟨⟨⟨bS, bY⟩, bR⟩, hB0, by omega, y0, fun _ => rfl⟩
    (fun x a' W => ∃ Bx, w.heap.size + 1 + 1 + 1 + 1 < Bx ∧ Box W Bx #[.int .u64 (slo f r x), .int .u64 (fro l x), .int .u64 (lng l x)] 50 ∧ a' = { tmps := #[.agg #[.int .u64 f, .int .u64 l, .int .u64 r], .int .u64 y, .pointer (some ⟨w.heap.size, 0, none⟩), .pointer (some ⟨w.heap.size + 1, 0, none⟩), .pointer (some ⟨w.heap.size + 1 + 1, 0, none⟩), .pointer (some ⟨w.heap.size + 1 + 1 + 1, 0, none⟩), .pointer (some ⟨Bx, 0, none⟩), undef, undef, undef, .int .u64 y, .bool false, .agg #[.int .u64 f, .int .u64 l, .int .u64 r], .func (.func 50) #[] #[.pointer (some ⟨w.heap.size + 1 + 1 + 1 + 1, 0, none⟩)], .agg #[.int .u64 (slo f r x), .int .u64 (fro l x), .int .u64 (lng l x)], undef, undef, undef, undef, undef, undef, undef, undef, undef, undef, undef, undef, undef, undef, undef, undef, undef, undef, undef, undef, undef, undef, undef, undef, undef], defers := [] })
    (fun x a' _ X Y row hs hg hr => by obtain ⟨Bx, h1, h2, h3⟩ := hs; exact ⟨Bx, h1, box_own Bx 50 _ () X Y row h2 hg (fun r e => (hr r e).2), h3⟩)
    ?assign ?body ?done ?stop
  case assign =>
    rintro l0 pre x W K ⟨⟨⟨bS1, bY1⟩, bR1⟩, hB1, hz1, hp⟩ hK
    rw [pieceV_eq]
    gi_wp2
    exact hK _ _ ((KeepsOthers.alloc _ _).from _) (KeepsAt.alloc W (by omega) _) ⟨⟨⟨bS1.alloc _, bY1.alloc _⟩, bR1.alloc _⟩, hB1.alloc hB1.size _, by simp; omega, hp⟩ ⟨W.heap.size, by omega, Box.new W 50 _, rfl⟩
  case done =>
    rintro D zs W hD rfl ⟨⟨⟨bS1, bY1⟩, bR1⟩, hB1, hz1, hp⟩ hK
    have cR := bR1.cell
    have fR := bR1.frozen
    have hv := hp.2 []
    rw [List.append_nil] at hv
    clear hp
    gi_wp2
    have hK' := (KeepsOthers.setCell W ⟨w.heap.size + 1 + 1, 0, none⟩ (.int .u64 9223372036854775808)).same D _ hK rfl
    refine ⟨by simp, .inl ⟨_, _, rfl, run_takeDeferred hK', ?_⟩⟩
    have hc5 := cell_kept (World.cell?_setCell_same' W ⟨w.heap.size + 1 + 1, 0, none⟩ (.int .u64 9223372036854775808) (by rw [cR]; rfl)) (grownBy_putObj' _ D (.deferred none)) (fun r e => by cases e; exact ⟨_, hK', rfl⟩)
    refine ⟨.int .u64 9223372036854775808, ?_, by rw [hv]; rfl, (hB1.setCell (p := ⟨w.heap.size + 1 + 1, 0, none⟩) (by simp; omega) _).trans (belowK_b (w := w) (Nat.le_refl _) _ D _ _ (by omega) hK' rfl rfl)⟩
    simp [results, Try.f25, go_sem, hc5]
  case stop =>
    rintro D c pre W hD ⟨_, xs, hpre⟩ ⟨⟨v, bR1, rfl, hp⟩, hB1⟩ hK
    have hv := hp xs
    rw [hpre] at hv
    have cR := bR1.cell
    gi_wp2
    refine ⟨by simp, .inl ⟨_, _, rfl, run_takeDeferred hK, ?_⟩⟩
    have hc5 := cell_kept cR (grownBy_putObj' _ D (.deferred none)) (fun r e => by cases e; exact ⟨_, hK, rfl⟩)
    refine ⟨.int .u64 v, ?_, by rw [hv], hB1.trans (belowK_b (w := w) (Nat.le_refl _) W D _ _ (by omega) hK rfl rfl)⟩
    simp [results, Try.f25, go_sem, hc5]
  case body =>
    rintro l0 pre x a' W hl ⟨rr, hr⟩ ⟨⟨⟨bS1, bY1⟩, bR1⟩, hB1, hz1, hlo, hp⟩ ⟨Bx, hBx, bX, rfl⟩ hlt
    have hS := hadF_snoc f l r pre x
    have hmw := hadF_word hf hl' hr' pre
    have hgw := grW_word hf hl' hr' x
    have sw := slo_word hf hr' x
    have ow := fro_word hl' x
    have cG := fun w => grains_any (slo f r x) (fro l x) (lng l x) (lng l x) w (slo_word hf hr' x) (lng_word hl' x) (lng_word hl' x)
    have cP := fun w => rPlus'_any (hadF f l r pre) (grW f l r x) w hmw hgw
    have eg : rT (slo f r x) (min (lng l x) (lng l x)) = grW f l r x := rfl
    rw [eg] at cG
    clear eg
    have cU := fun w => Up_any (y - hadF f l r pre) 1 (slo f r x) w (by unfold Word at *; omega) ⟨by omega, by omega⟩ sw
    have hu0 := qU_nn (a := y - hadF f l r pre) (b := 1) (c := slo f r x) (by unfold Word at *; omega) (by omega) sw.1
    have hu1 := qU_cap (y - hadF f l r pre) 1 (slo f r x)
    have hw1 : IntKind.u64.wrap (y - hadF f l r pre) = y - hadF f l r pre := IntWalk.u64_in _ (by unfold Word at *; omega)
    -- the two ways out of the round, in plain words
    have hgo : ¬ y ≤ rP (hadF f l r pre) (grW f l r x) → (hadF f l r (pre ++ [x]) < y ∧ ∀ xs, rcF f l r y 0 ((pre ++ [x]) ++ xs) = rcF f l r y (hadF f l r (pre ++ [x])) xs) := fun h => ⟨by rw [hS]; omega, fun xs => by
      rw [List.append_assoc, List.singleton_append, hp (x :: xs), hS]
      show (if _ then _ else _) = _
      rw [if_neg h]⟩
    have hhit : y ≤ rP (hadF f l r pre) (grW f l r x) → ∀ xs, rcF f l r y 0 ((pre ++ [x]) ++ xs) = hitW f l r y (hadF f l r pre) x := fun h xs => by
      rw [List.append_assoc, List.singleton_append, hp (x :: xs)]
      show (if _ then _ else _) = _
      rw [if_pos h]
    rw [hS] at hgo
    obtain ⟨e, ee⟩ : ∃ e, hitW f l r y (hadF f l r pre) x = e := ⟨_, rfl⟩
    have hev := ee.symm
    unfold hitW at hev
    rw [ee] at hhit
    obtain ⟨u, eu⟩ : ∃ u, qU (y - hadF f l r pre) 1 (slo f r x) = u := ⟨_, rfl⟩
    rw [eu] at cU hu0 hu1 hev
    obtain ⟨q, eq⟩ : ∃ q, rP (hadF f l r pre) (grW f l r x) = q := ⟨_, rfl⟩
    rw [eq] at cP hgo hhit
    clear ee eu hS hp
    obtain ⟨m, em⟩ : ∃ m, hadF f l r pre = m := ⟨_, rfl⟩
    obtain ⟨g, eg⟩ : ∃ g, grW f l r x = g := ⟨_, rfl⟩
    obtain ⟨s, es⟩ : ∃ s, slo f r x = s := ⟨_, rfl⟩
    obtain ⟨o, eo⟩ : ∃ o, fro l x = o := ⟨_, rfl⟩
    obtain ⟨n, en⟩ : ∃ n, lng l x = n := ⟨_, rfl⟩
    have hfin : ∀ {W' : World}, Boxed W' (w.heap.size + 1 + 1 + 1) 22 (.int .u64 q) → Boxed W' (w.heap.size + 1 + 1 + 1) 22 (.int .u64 (hadF f l r (pre ++ [x]))) := fun h => by rw [hadF_snoc, eq]; exact h
    have hgo2 : (q < y ∧ ∀ xs, rcF f l r y 0 ((pre ++ [x]) ++ xs) = rcF f l r y q xs) → (hadF f l r (pre ++ [x]) < y ∧ ∀ xs, rcF f l r y 0 ((pre ++ [x]) ++ xs) = rcF f l r y (hadF f l r (pre ++ [x])) xs) := fun h => by rw [hadF_snoc, eq]; exact h
    rw [em] at bS1 cP cU hw1 hlo
    rw [eg] at cP cG
    rw [es, eo, en] at cG
    rw [es] at cU
    rw [eo] at hev ow
    rw [es, eo, en] at bX ⊢
    clear em eg es eo en eq hmw hgw sw
    obtain ⟨x0, x1, x2, x3⟩ := bX.tri
    have cS := bS1.cell
    have fS := bS1.frozen
    have cY := bY1.cell
    have hwS := bS1.lt
    have hwY := bY1.lt
    have hwR := bR1.lt
    gi_wp2
    refine round_held (S := (fun w' => w'.cell? ⟨w.heap.size + 1 + 1 + 1, 0, none⟩ = some (.int .u64 m) ∧ w'.cell? ⟨Bx, 0, none⟩ = some (.int .u64 s) ∧ w'.cell? ⟨Bx, 1, none⟩ = some (.int .u64 o) ∧ w'.cell? ⟨Bx, 2, none⟩ = some (.int .u64 n))) (by kernel_rfl) (by kernel_rfl) (by rintro ⟨a, w, h⟩; exact h) ⟨cS, x1, x2, x3⟩ (fun hHeld => ?_)
    refine wpAnyH_take (i := 0) (v := ?_) (by simp only [List.getElem?_toArray, List.getElem?_cons_zero]; rfl) (by kernel_rfl) (by kernel_rfl) (by kernel_rfl) (by exact fun _ _ _ h => h) (Or.inl ⟨by rfl, ?_⟩) (by assumption) ?_
    rotate_left
    · (intro w hSw; (try dsimp only at hSw); go_simp; (try with_reducible rfl))
    try simp only [Act.put, List.setIfInBounds_toArray, List.set_cons_zero, List.set_cons_succ]
    refine wpAnyH_take (i := 1) (v := ?_) (by simp only [List.getElem?_toArray, List.getElem?_cons_zero, List.getElem?_cons_succ]; rfl) (by kernel_rfl) (by kernel_rfl) (by kernel_rfl) (by exact fun _ _ _ h => h) (Or.inl ⟨by rfl, ?_⟩) (by assumption) ?_
    rotate_left
    · (intro w hSw; (try dsimp only at hSw); go_simp; (try with_reducible rfl))
    try simp only [Act.put, List.setIfInBounds_toArray, List.set_cons_zero, List.set_cons_succ]
    refine wpAnyH_take (i := 2) (v := ?_) (by simp only [List.getElem?_toArray, List.getElem?_cons_zero, List.getElem?_cons_succ]; rfl) (by kernel_rfl) (by kernel_rfl) (by kernel_rfl) (by exact fun _ _ _ h => h) (Or.inl ⟨by rfl, ?_⟩) (by assumption) ?_
    rotate_left
    · (intro w hSw; (try dsimp only at hSw); go_simp; (try with_reducible rfl))
    try simp only [Act.put, List.setIfInBounds_toArray, List.set_cons_zero, List.set_cons_succ]
    refine wpAnyH_take (i := 3) (v := ?_) (by simp only [List.getElem?_toArray, List.getElem?_cons_zero, List.getElem?_cons_succ]; rfl) (by kernel_rfl) (by kernel_rfl) (by kernel_rfl) (by exact fun _ _ _ h => h) (Or.inl ⟨by rfl, ?_⟩) (by assumption) ?_
    rotate_left
    · (intro w hSw; (try dsimp only at hSw); go_simp; (try with_reducible rfl))
    try simp only [Act.put, List.setIfInBounds_toArray, List.set_cons_zero, List.set_cons_succ]
    refine wpAnyH_ready (rs := [4]) (by kernel_rfl) (by simp) ?_
    refine AllReadyH.cons (by simp only [List.getElem?_toArray, List.getElem?_cons_zero, List.getElem?_cons_succ]; rfl) (fun K hK => ?_) AllReadyH.nil
    go_simp
    go_at_call 36
    (with_reducible refine (cG _).mono ?_)
    rintro e w1 ⟨rfl, hb1⟩
    have E1 := undrew hb1
    have hH1 : (fun w' => w'.cell? ⟨w.heap.size + 1 + 1 + 1, 0, none⟩ = some (.int .u64 m) ∧ w'.cell? ⟨Bx, 0, none⟩ = some (.int .u64 s) ∧ w'.cell? ⟨Bx, 1, none⟩ = some (.int .u64 o) ∧ w'.cell? ⟨Bx, 2, none⟩ = some (.int .u64 n)) w1 := ⟨(Boxed.below bS1 E1).cell, ((bX.below E1).tri).2.1, ((bX.below E1).tri).2.2.1, ((bX.below E1).tri).2.2.2⟩
    refine hK.out _ _ hH1 (fun hHeld => ?_)
    clear hK K
    try simp only [Act.put, List.setIfInBounds_toArray, List.set_cons_zero, List.set_cons_succ]
    refine wpAnyH_ready (rs := [5]) (by kernel_rfl) (by simp) ?_
    refine AllReadyH.cons (by simp only [List.getElem?_toArray, List.getElem?_cons_zero, List.getElem?_cons_succ]; rfl) (fun K hK => ?_) AllReadyH.nil
    go_simp
    go_at_call 30
    (with_reducible refine (cP _).mono ?_)
    rintro e w2 ⟨rfl, hb2⟩
    have E2 := up E1 hb2 E1.size
    have hH2 : (fun w' => w'.cell? ⟨w.heap.size + 1 + 1 + 1, 0, none⟩ = some (.int .u64 m) ∧ w'.cell? ⟨Bx, 0, none⟩ = some (.int .u64 s) ∧ w'.cell? ⟨Bx, 1, none⟩ = some (.int .u64 o) ∧ w'.cell? ⟨Bx, 2, none⟩ = some (.int .u64 n)) w2 := ⟨(Boxed.below bS1 E2).cell, ((bX.below E2).tri).2.1, ((bX.below E2).tri).2.2.1, ((bX.below E2).tri).2.2.2⟩
    refine hK.out _ _ hH2 (fun hHeld => ?_)
    clear hK K
    try simp only [Act.put, List.setIfInBounds_toArray, List.set_cons_zero, List.set_cons_succ]
    refine wpAnyH_take (i := 6) (v := ?_) (by simp only [List.getElem?_toArray, List.getElem?_cons_zero, List.getElem?_cons_succ]; rfl) (by kernel_rfl) (by kernel_rfl) (by kernel_rfl) (by exact fun _ _ _ h => h) (Or.inl ⟨by rfl, ?_⟩) (by assumption) ?_
    rotate_left
    · (intro w hSw; (try dsimp only at hSw); go_simp; (try with_reducible rfl))
    try simp only [Act.put, List.setIfInBounds_toArray, List.set_cons_zero, List.set_cons_succ]
    refine wpAnyH_done (by kernel_rfl) ?_ _
    have bS2 := Boxed.below bS1 E2
    have bY2 := Boxed.below bY1 E2
    have bR2 := Boxed.below bR1 E2
    have bX2 := bX.below E2
    obtain ⟨z0, z1, z2, z3⟩ := bX2.tri
    have dS := bS2.cell
    have gS := bS2.frozen
    have dY := bY2.cell
    have dR := bR2.cell
    have gR := bR2.frozen
    clear hb1 hb2 hH1 hH2 x0 x1 x2 x3 cS fS cY hHeld E1
    have hk := Below.keeps E2 W0.heap.size
    have hka := KeepsAt.below (B := w.heap.size + 1 + 1 + 1 + 1) (by omega) E2
    have hB2 := hB1.trans (E2.mono hB1.size)
    have hz2 : w.heap.size + 5 ≤ w2.heap.size := Nat.le_trans hz1 E2.size
    by_cases h : y ≤ q
    · have hh := hhit h
      clear hgo hgo2 hhit hfin
      unfold Word at ow
      rcases Int.lt_or_le o 9223372036854775808 with j | j
      · have m1 : min o 9223372036854775808 = o := by omega
        have m2 : max o 9223372036854775808 = 9223372036854775808 := by omega
        rw [m1] at hev
        have hw2 : IntKind.u64.wrap (o + u) = o + u := IntWalk.u64_in _ (by omega)
        rcases Int.lt_trichotomy (o + u) 9223372036854775808 with k | k | k
        · have n1 : min (o + u) 9223372036854775808 = o + u := by omega
          have n2 : max (o + u) 9223372036854775808 = 9223372036854775808 := by omega
          rw [n1] at hev
          gi_wp2_with (refine ⟨trivial, ?_⟩; gi_at_call 39; (refine (CallsIn.inRound l0 (callsIn_wide.2 (cU _))).mono ?_); rintro e w3 ⟨rfl, hb3⟩; have gR3 := (Boxed.below bR2 hb3).frozen; have dR3 := (Boxed.below bR2 hb3).cell; obtain ⟨y0', y1', y2', y3'⟩ := (bX2.below hb3).tri)
          exact ⟨(hk.trans (Below.keeps hb3 _)).trans ((KeepsOthers.setCell _ _ _).from _), ⟨_, (Boxed.below bR2 hb3).set _, rfl, fun xs => (hh xs).trans hev⟩, (hB2.trans (hb3.mono hB2.size)).setCell (p := ⟨w.heap.size + 1 + 1, 0, none⟩) (by simp; omega) _⟩
        · have n1 : min (o + u) 9223372036854775808 = 9223372036854775808 := by omega
          rw [n1] at hev
          gi_wp2_with (refine ⟨trivial, ?_⟩; gi_at_call 39; (refine (CallsIn.inRound l0 (callsIn_wide.2 (cU _))).mono ?_); rintro e w3 ⟨rfl, hb3⟩; have gR3 := (Boxed.below bR2 hb3).frozen; have dR3 := (Boxed.below bR2 hb3).cell; obtain ⟨y0', y1', y2', y3'⟩ := (bX2.below hb3).tri)
          exact ⟨(hk.trans (Below.keeps hb3 _)).trans ((KeepsOthers.setCell _ _ _).from _), ⟨_, (Boxed.below bR2 hb3).set _, rfl, fun xs => (hh xs).trans hev⟩, (hB2.trans (hb3.mono hB2.size)).setCell (p := ⟨w.heap.size + 1 + 1, 0, none⟩) (by simp; omega) _⟩
        · have n1 : min (o + u) 9223372036854775808 = 9223372036854775808 := by omega
          have n2 : max (o + u) 9223372036854775808 = o + u := by omega
          rw [n1] at hev
          gi_wp2_with (refine ⟨trivial, ?_⟩; gi_at_call 39; (refine (CallsIn.inRound l0 (callsIn_wide.2 (cU _))).mono ?_); rintro e w3 ⟨rfl, hb3⟩; have gR3 := (Boxed.below bR2 hb3).frozen; have dR3 := (Boxed.below bR2 hb3).cell; obtain ⟨y0', y1', y2', y3'⟩ := (bX2.below hb3).tri)
          exact ⟨(hk.trans (Below.keeps hb3 _)).trans ((KeepsOthers.setCell _ _ _).from _), ⟨_, (Boxed.below bR2 hb3).set _, rfl, fun xs => (hh xs).trans hev⟩, (hB2.trans (hb3.mono hB2.size)).setCell (p := ⟨w.heap.size + 1 + 1, 0, none⟩) (by simp; omega) _⟩
      · have m1 : min o 9223372036854775808 = 9223372036854775808 := by omega
        have m2 : max o 9223372036854775808 = o := by omega
        rw [m1] at hev
        have hw2 : IntKind.u64.wrap (9223372036854775808 + u) = 9223372036854775808 + u := IntWalk.u64_in _ (by omega)
        have n1 : min (9223372036854775808 + u) 9223372036854775808 = 9223372036854775808 := by omega
        have n2 : max (9223372036854775808 + u) 9223372036854775808 = 9223372036854775808 + u := by omega
        rw [n1] at hev
        gi_wp2_with (refine ⟨trivial, ?_⟩; gi_at_call 39; (refine (CallsIn.inRound l0 (callsIn_wide.2 (cU _))).mono ?_); rintro e w3 ⟨rfl, hb3⟩; have gR3 := (Boxed.below bR2 hb3).frozen; have dR3 := (Boxed.below bR2 hb3).cell; obtain ⟨y0', y1', y2', y3'⟩ := (bX2.below hb3).tri)
        exact ⟨(hk.trans (Below.keeps hb3 _)).trans ((KeepsOthers.setCell _ _ _).from _), ⟨_, (Boxed.below bR2 hb3).set _, rfl, fun xs => (hh xs).trans hev⟩, (hB2.trans (hb3.mono hB2.size)).setCell (p := ⟨w.heap.size + 1 + 1, 0, none⟩) (by simp; omega) _⟩
    · have hh := hgo (by omega)
      clear hhit hgo
      gi_wp2
      exact ⟨(by rw [← hsz]; exact hk.trans ((KeepsOthers.setCell _ _ _).from _)), hka.trans (KeepsAt.setCell _ (by omega) _), ⟨⟨hfin (bS2.set _), bY2.other (by omega) _⟩, bR2.other (by omega) _⟩, hB2.setCell (p := ⟨w.heap.size + 1 + 1 + 1, 0, none⟩) (by simp; omega) _, by simp [World.setCell]; omega, hgo2 hh⟩
end Go.Proofs.Ytbgccdjkofpiaaa
