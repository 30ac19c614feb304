/- The document's copies of a curve: made; what one has, what all have at a tick. -/
import Derived.Test.YtknpfcnjnpcboaaCpO
import Derived.Test.YtknpfcnjnpcboaaRefB
namespace Go.Proofs.Ytknpfcnjnpcboaa
open Go.RowKit Go.Shelf W
set_option linter.unusedVariables false
set_option maxRecDepth 100000
theorem Cp.new (w : World) (f l r : Int) : Cp w.heap.size (w.alloc (.cells #[eU f, eU l, eU r, .slice none 0 0, .slice none 0 0] 56)) w.heap.size f l r [] [] (.slice none 0 0) (.slice none 0 0) :=
  ⟨Box.new w 56 _, ⟨rfl, .inl ⟨rfl, rfl⟩⟩, ⟨rfl, .inl ⟨rfl, rfl⟩⟩, .inl rfl⟩
set_option maxHeartbeats 1000000 in
theorem c_new_ok (f l r : Int) (w : World)
    (hM : ∀ w, Calls Try.prog 28 #[.agg #[eU f, eU l, eU r]] w fun e w' => e = .returned (.bool true) ∧ Below w.heap.size w w')
    (hB : ∀ w, Calls Try.prog 29 #[.agg #[eU f, eU l, eU r]] w fun e w' => e = .returned (.bool false) ∧ Below w.heap.size w w') :
    Calls Try.prog 9 #[.agg #[eU f, eU l, eU r]] w fun e w' => ∃ B : Nat, e = .returned (.tuple #[.pointer (some ⟨B, 0, none⟩), eI 0]) ∧ w.heap.size ≤ B ∧ Cp B w' B f l r [] [] (.slice none 0 0) (.slice none 0 0) ∧ Below w.heap.size w w' := by
  have BC := Box.new w 24 #[eU f, eU l, eU r]
  have T := up1 w (.cells #[eU f, eU l, eU r] 24)
  obtain ⟨c0, c1, c2⟩ := BC.three
  go_enter Try.func9, Try.ntmps9
  go_wp2_with (first
    | (go_at_call 28; (with_reducible refine (hM _).mono ?_); rintro e w1 ⟨rfl, hb⟩; replace BC := BC.below hb; replace T := up T hb T.size; clear hb c0 c1 c2; obtain ⟨c0, c1, c2⟩ := BC.three)
    | (go_at_call 29; (with_reducible refine (hB _).mono ?_); rintro e w2 ⟨rfl, hb⟩; replace BC := BC.below hb; replace T := up T hb T.size; clear hb c0 c1 c2; obtain ⟨c0, c1, c2⟩ := BC.three))
  go_ret2
  exact ⟨_, rfl, T.size, Cp.new _ _ _ _, T.alloc T.size _⟩
set_option maxHeartbeats 1000000 in
theorem c_new_may (f l r : Int) (w : World)
    (hM : ∀ w, Calls Try.prog 28 #[.agg #[eU f, eU l, eU r]] w fun e w' => e = .returned (.bool false) ∧ Below w.heap.size w w') :
    Calls Try.prog 9 #[.agg #[eU f, eU l, eU r]] w fun e w' => e = .returned (.tuple #[.pointer none, eI 30]) ∧ Below w.heap.size w w' := by
  have BC := Box.new w 24 #[eU f, eU l, eU r]
  have T := up1 w (.cells #[eU f, eU l, eU r] 24)
  obtain ⟨c0, c1, c2⟩ := BC.three
  go_enter Try.func9, Try.ntmps9
  go_wp2_with (first
    | (go_at_call 28; (with_reducible refine (hM _).mono ?_); rintro e w1 ⟨rfl, hb⟩; replace BC := BC.below hb; replace T := up T hb T.size; clear hb c0 c1 c2; obtain ⟨c0, c1, c2⟩ := BC.three))
  go_ret2
  exact ⟨rfl, T⟩
set_option maxHeartbeats 1000000 in
theorem c_new_not (f l r : Int) (w : World)
    (hM : ∀ w, Calls Try.prog 28 #[.agg #[eU f, eU l, eU r]] w fun e w' => e = .returned (.bool true) ∧ Below w.heap.size w w')
    (hB : ∀ w, Calls Try.prog 29 #[.agg #[eU f, eU l, eU r]] w fun e w' => e = .returned (.bool true) ∧ Below w.heap.size w w') :
    Calls Try.prog 9 #[.agg #[eU f, eU l, eU r]] w fun e w' => e = .returned (.tuple #[.pointer none, eI 30]) ∧ Below w.heap.size w w' := by
  have BC := Box.new w 24 #[eU f, eU l, eU r]
  have T := up1 w (.cells #[eU f, eU l, eU r] 24)
  obtain ⟨c0, c1, c2⟩ := BC.three
  go_enter Try.func9, Try.ntmps9
  go_wp2_with (first
    | (go_at_call 28; (with_reducible refine (hM _).mono ?_); rintro e w1 ⟨rfl, hb⟩; replace BC := BC.below hb; replace T := up T hb T.size; clear hb c0 c1 c2; obtain ⟨c0, c1, c2⟩ := BC.three)
    | (go_at_call 29; (with_reducible refine (hB _).mono ?_); rintro e w2 ⟨rfl, hb⟩; replace BC := BC.below hb; replace T := up T hb T.size; clear hb c0 c1 c2; obtain ⟨c0, c1, c2⟩ := BC.three))
  go_ret2
  exact ⟨rfl, T⟩
theorem c_new_any (f l r : Int) (w : World) (hf : Word f) (hl : Word l) (hr : Word r) :
    Calls Try.prog 9 #[.agg #[eU f, eU l, eU r]] w fun e w' =>
      ((CvS f l r ∧ ∃ B : Nat, e = .returned (.tuple #[.pointer (some ⟨B, 0, none⟩), eI 0]) ∧ w.heap.size ≤ B ∧ Cp B w' B f l r [] [] (.slice none 0 0) (.slice none 0 0)) ∨ (¬ CvS f l r ∧ e = .returned (.tuple #[.pointer none, eI 30]))) ∧ Below w.heap.size w w' := by
  have hM := fun w => kMay_any f l r w hf hl hr
  have hB := fun w => bent'_any f l r w
  by_cases m : cMay f l r
  · rw [mayB_cMay.2 m] at hM
    by_cases h : r < f
    · rw [show decide (r < f) = true from decide_eq_true h] at hB
      refine (c_new_not f l r w hM hB).mono ?_
      rintro e w' ⟨rfl, h3⟩
      exact ⟨.inr ⟨fun hc => by have := hc.2.2.2.2; omega, rfl⟩, h3⟩
    · rw [show decide (r < f) = false from decide_eq_false h] at hB
      refine (c_new_ok f l r w hM hB).mono ?_
      rintro e w' ⟨B, rfl, h1, h2, h3⟩
      exact ⟨.inl ⟨⟨hf, hl, hr, m, by omega⟩, B, rfl, h1, h2⟩, h3⟩
  · have m' : mayB f l r = false := by
      cases hh : mayB f l r
      · rfl
      · exact absurd (mayB_cMay.1 hh) m
    rw [m'] at hM
    refine (c_new_may f l r w hM).mono ?_
    rintro e w' ⟨rfl, h3⟩
    exact ⟨.inr ⟨fun hc => m hc.2.2.2.1, rfl⟩, h3⟩
set_option maxHeartbeats 4000000 in
theorem c_one (m : Nat) (B : Nat) (f l r : Int) (xs ys : List Int) (vX vY : Value) (w : World) (k : Nat) (t d x y a b p q : Int) (hk : k < xs.length) (hky : k < ys.length)
    (hx : xs.getD k 0 = x) (hy : ys.getD k 0 = y) (hd : IntKind.u64.wrap (t - x) = d)
    (hW : ∀ w, Calls Try.prog 76 #[.agg #[eU f, eU l, eU r], eU d] w fun e w' => e = .returned (.agg #[eU a, eU b]) ∧ Below w.heap.size w w')
    (hP : ∀ w, Calls Try.prog 75 #[.agg #[eU a, eU b], .agg #[eU 0, eU y]] w fun e w' => e = .returned (.tuple #[.agg #[eU p, eU q], eI 0]) ∧ Below w.heap.size w w')
    (h : Cp m w B f l r xs ys vX vY) :
    Calls Try.prog 69 #[.pointer (some ⟨B, 0, none⟩), .int .i64 k, eU t] w fun e w' => e = .returned (.agg #[eU p, eU q]) ∧ Below w.heap.size w w' := by
  obtain ⟨gX, cX, rfl, hcX, _, hgX⟩ := wOwn_some h.rx (by omega)
  obtain ⟨gY, cY, rfl, hcY, _, hgY⟩ := wOwn_some h.ry (by omega)
  have zX := wOwn_cell h.rx hk
  have zY := wOwn_cell h.ry hky
  rw [hx] at zX
  rw [hy] at zY
  have hBl := h.box.lt
  obtain ⟨c0, c1, c2, c3, c4⟩ := h.cells
  have i1 : (k : Int) < (xs.length : Int) := by omega
  have i2 : (k : Int) < (ys.length : Int) := by omega
  have i3 : (0 : Int) ≤ (k : Int) := by omega
  have i4 : (xs.length : Int) ≤ (cX : Int) := by omega
  have i5 : (ys.length : Int) ≤ (cY : Int) := by omega
  have hK : ∀ w', Below w.heap.size w w' → (w'.cell? ⟨B, 0, none⟩ = some (.int .u64 f) ∧ w'.cell? ⟨B, 1, none⟩ = some (.int .u64 l) ∧ w'.cell? ⟨B, 2, none⟩ = some (.int .u64 r) ∧ w'.cell? ⟨B, 3, none⟩ = some (.slice (some ⟨gX, 0, none⟩) xs.length cX) ∧ w'.cell? ⟨B, 4, none⟩ = some (.slice (some ⟨gY, 0, none⟩) ys.length cY) ∧ w'.cell? ⟨gX, k, none⟩ = some (.int .u64 x) ∧ w'.cell? ⟨gY, k, none⟩ = some (.int .u64 y)) := fun w' T =>
    ⟨(T.cell (p := ⟨B, 0, none⟩) hBl).trans c0, (T.cell (p := ⟨B, 1, none⟩) hBl).trans c1, (T.cell (p := ⟨B, 2, none⟩) hBl).trans c2, (T.cell (p := ⟨B, 3, none⟩) hBl).trans c3, (T.cell (p := ⟨B, 4, none⟩) hBl).trans c4, (T.cell (p := ⟨gX, k, none⟩) hgX).trans zX, (T.cell (p := ⟨gY, k, none⟩) hgY).trans zY⟩
  have O := Own.new w 0 0
  have T := up1 w (.cells #[eU 0, eU 0] 65)
  have hT := T.size
  have hKh := Lib.hid hK
  clear h hK zX zY hgX hgY c0 c1 c2 c3 c4 hBl hx hy
  go_enter Try.func69, Try.ntmps69
  go_upto_region 1 with fail
  go_cut [7, 8] (fun s7 s8 wx => ∃ M : Nat, s7 = .pointer (some ⟨M, 0, none⟩) ∧ s8 = eI 0 ∧ Has wx M p q ∧ Own wx w.heap.size 0 0 ∧ Below w.heap.size w wx)
  case first =>
    obtain ⟨c0, c1, c2, c3, c4, zX, zY⟩ := hKh.out _ T
    go_region_held3 (fun w' => w'.cell? ⟨B, 0, none⟩ = some (.int .u64 f) ∧ w'.cell? ⟨B, 1, none⟩ = some (.int .u64 l) ∧ w'.cell? ⟨B, 2, none⟩ = some (.int .u64 r) ∧ w'.cell? ⟨B, 3, none⟩ = some (.slice (some ⟨gX, 0, none⟩) xs.length cX) ∧ w'.cell? ⟨B, 4, none⟩ = some (.slice (some ⟨gY, 0, none⟩) ys.length cY) ∧ w'.cell? ⟨gX, k, none⟩ = some (.int .u64 x) ∧ w'.cell? ⟨gY, k, none⟩ = some (.int .u64 y))
      (first | exact hKh.out _ T | exact hKh.out _ T.drew | exact hKh.out _ (T.alloc T.size _) | exact hKh.out _ (T.alloc T.size _).drew | exact hKh.out _ ((T.setCell (by exact hN) _).setCell (by exact hN) _) | exact hKh.out _ (((T.alloc T.size _).setCell (by exact T.size) _).setCell (by exact T.size) _) | go_keep)
      (first
        | (go_at_call 76; (with_reducible refine (hW _).mono ?_); rintro e w1 ⟨rfl, hb⟩; (first | replace hb := undrew hb | replace hb := undrewN hb | skip); (first | (replace HN := HN.below hb; replace T := up T hb T.size; replace O := O.below hb) | (replace T := up T hb T.size; replace O := O.below hb) | (have HN := (Own.new2 _ _ 0 0).below hb; have hN : w.heap.size ≤ w.heap.size + 1 := Nat.le_succ _; have hN2 : w.heap.size < w.heap.size + 1 := Nat.lt_succ_self _; replace T := up (T.alloc T.size _) hb (T.alloc T.size _).size; replace O := (O.alloc _).below hb) | (have HN := (Own.new _ 0 0).below hb; have hN := T.size; have hN2 := O.lt; replace T := up (T.alloc T.size _) hb (T.alloc T.size _).size; replace O := (O.alloc _).below hb)); (try (obtain ⟨⟨xN, yN, zN⟩, fN, gN⟩ := id HN)); clear hb)
        | (go_at_call 75; (with_reducible refine (hP _).mono ?_); rintro e w2 ⟨rfl, hb⟩; (first | replace hb := undrew hb | replace hb := undrewN hb | skip); (first | (replace HN := HN.below hb; replace T := up T hb T.size; replace O := O.below hb) | (replace T := up T hb T.size; replace O := O.below hb) | (have HN := (Own.new2 _ _ 0 0).below hb; have hN : w.heap.size ≤ w.heap.size + 1 := Nat.le_succ _; have hN2 : w.heap.size < w.heap.size + 1 := Nat.lt_succ_self _; replace T := up (T.alloc T.size _) hb (T.alloc T.size _).size; replace O := (O.alloc _).below hb) | (have HN := (Own.new _ 0 0).below hb; have hN := T.size; have hN2 := O.lt; replace T := up (T.alloc T.size _) hb (T.alloc T.size _).size; replace O := (O.alloc _).below hb)); (try (obtain ⟨⟨xN, yN, zN⟩, fN, gN⟩ := id HN)); clear hb))
    all_goals go_wp2_with fail
    all_goals go_meet
    all_goals first
      | exact ⟨_, rfl, rfl, Has.new _ _ _, O.alloc _, T.alloc T.size _⟩
      | exact ⟨_, rfl, rfl, (HN.store p q).1, (O.setNe (by exact Nat.ne_of_lt hN2) _).setNe (by exact Nat.ne_of_lt hN2) _, (T.setCell hN _).setCell hN _⟩
  case rest =>
    obtain ⟨M, rfl, rfl, HM, O2, T2⟩ := hcut
    clear T O hW hP
    obtain ⟨_, m0, m1⟩ := id HM
    obtain ⟨⟨_, o0, o1⟩, g0, g1⟩ := id O2
    go_wp2
    obtain ⟨⟨_, r1, r2⟩, _⟩ := O2.store p q
    exact bodyPost_ret (v := .agg #[eU p, eU q]) (by simp [results, Try.results69, go_sem, r1, r2]) rfl ⟨rfl, (T2.setCell (by exact Nat.le_refl _) _).setCell (by exact Nat.le_refl _) _⟩
end Go.Proofs.Ytknpfcnjnpcboaa
