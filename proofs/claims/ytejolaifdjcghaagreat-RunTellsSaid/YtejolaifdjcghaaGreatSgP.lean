/- A run is made, and copied. -/
import Derived.Test.YtejolaifdjcghaaGreatSgK
import Derived.WalkLawsBesides
namespace Go.Proofs.YtejolaifdjcghaaGreat
open Go.RowKit Go.Shelf W
set_option linter.unusedVariables false
set_option maxRecDepth 100000
theorem mayB_cMay {f l r : Int} : mayB f l r = true ↔ cMay f l r := by
  unfold mayB cMay
  rw [decide_eq_true_iff]
theorem SgB.new (w : World) (f l r : Int) (v : Value) (x k : Int) (md : Bool) : SgB (w.alloc (.cells #[eU f, eU l, eU r, eU 0, eU 0, eU r, v, eU x, eI k, .bool md] 71)) w.heap.size f l r v x k md := Box.new w 71 _
set_option maxHeartbeats 4000000 in
theorem sg_new_ok (f l r : Int) (w : World)
    (hB : ∀ w, Calls Tryz.prog 31 #[.agg #[eU f, eU l, eU r]] w fun e w' => e = .returned (.bool false) ∧ Below w.heap.size w w')
    (hM : ∀ w, Calls Tryz.prog 30 #[.agg #[eU f, eU l, eU r]] w fun e w' => e = .returned (.bool true) ∧ Below w.heap.size w w') :
    Calls Tryz.prog 11 #[.agg #[eU f, eU l, eU r]] w fun e w' => ∃ B : Nat, e = .returned (.tuple #[.pointer (some ⟨B, 0, none⟩), eI 0]) ∧ w.heap.size ≤ B ∧ SgB w' B f l r (.slice none 0 0) 0 0 true ∧ Below w.heap.size w w' := by
  have BC := Box.new w 24 #[eU f, eU l, eU r]
  have T := up1 w (.cells #[eU f, eU l, eU r] 24)
  obtain ⟨c0, c1, c2⟩ := BC.three
  go_enter Tryz.func11, Tryz.ntmps11
  go_wp2_with (first
    | (go_at_call 31; (with_reducible refine (hB _).mono ?_); rintro e w1 ⟨rfl, hb⟩; replace BC := BC.below hb; replace T := up T hb T.size; clear hb; clear c0 c1 c2; obtain ⟨c0, c1, c2⟩ := BC.three)
    | (go_at_call 30; (with_reducible refine (hM _).mono ?_); rintro e w2 ⟨rfl, hb⟩; replace BC := BC.below hb; replace T := up T hb T.size; clear hb c0 c1 c2; obtain ⟨c0, c1, c2⟩ := BC.three))
  go_ret2
  exact ⟨_, rfl, T.size, SgB.new _ _ _ _ _ _ _ _, T.alloc T.size _⟩
set_option maxHeartbeats 1000000 in
theorem sg_new_bent (f l r : Int) (w : World)
    (hB : ∀ w, Calls Tryz.prog 31 #[.agg #[eU f, eU l, eU r]] w fun e w' => e = .returned (.bool true) ∧ Below w.heap.size w w') :
    Calls Tryz.prog 11 #[.agg #[eU f, eU l, eU r]] w fun e w' => e = .returned (.tuple #[.pointer none, eI 30]) ∧ Below w.heap.size w w' := by
  have BC := Box.new w 24 #[eU f, eU l, eU r]
  have T := up1 w (.cells #[eU f, eU l, eU r] 24)
  obtain ⟨c0, c1, c2⟩ := BC.three
  go_enter Tryz.func11, Tryz.ntmps11
  go_wp2_with (go_at_call 31; (with_reducible refine (hB _).mono ?_); rintro e w1 ⟨rfl, hb⟩; replace BC := BC.below hb; replace T := up T hb T.size; clear hb)
  go_ret2
  exact ⟨rfl, T⟩
set_option maxHeartbeats 1000000 in
theorem sg_new_may (f l r : Int) (w : World)
    (hB : ∀ w, Calls Tryz.prog 31 #[.agg #[eU f, eU l, eU r]] w fun e w' => e = .returned (.bool false) ∧ Below w.heap.size w w')
    (hM : ∀ w, Calls Tryz.prog 30 #[.agg #[eU f, eU l, eU r]] w fun e w' => e = .returned (.bool false) ∧ Below w.heap.size w w') :
    Calls Tryz.prog 11 #[.agg #[eU f, eU l, eU r]] w fun e w' => e = .returned (.tuple #[.pointer none, eI 30]) ∧ Below w.heap.size w w' := by
  have BC := Box.new w 24 #[eU f, eU l, eU r]
  have T := up1 w (.cells #[eU f, eU l, eU r] 24)
  obtain ⟨c0, c1, c2⟩ := BC.three
  go_enter Tryz.func11, Tryz.ntmps11
  go_wp2_with (first
    | (go_at_call 31; (with_reducible refine (hB _).mono ?_); rintro e w1 ⟨rfl, hb⟩; replace BC := BC.below hb; replace T := up T hb T.size; clear hb; clear c0 c1 c2; obtain ⟨c0, c1, c2⟩ := BC.three)
    | (go_at_call 30; (with_reducible refine (hM _).mono ?_); rintro e w2 ⟨rfl, hb⟩; replace T := up T hb T.size; clear hb))
  go_ret2
  exact ⟨rfl, T⟩
theorem sg_new_any (f l r : Int) (w : World) (hf : Word f) (hl : Word l) (hr : Word r) :
    Calls Tryz.prog 11 #[.agg #[eU f, eU l, eU r]] w fun e w' =>
      ((CvS f l r ∧ ∃ B : Nat, e = .returned (.tuple #[.pointer (some ⟨B, 0, none⟩), eI 0]) ∧ w.heap.size ≤ B ∧ SgB w' B f l r (.slice none 0 0) 0 0 true) ∨ (¬ CvS f l r ∧ e = .returned (.tuple #[.pointer none, eI 30]))) ∧ Below w.heap.size w w' := by
  have hB := fun w => bent_any f l r w
  have hM := fun w => may_any f l r w hf hl hr
  by_cases h : r < f
  · rw [show decide (r < f) = true from decide_eq_true h] at hB
    refine (sg_new_bent f l r w hB).mono ?_
    rintro e w' ⟨rfl, h3⟩
    exact ⟨.inr ⟨fun hc => by have := hc.2.2.2.2; omega, rfl⟩, h3⟩
  · rw [show decide (r < f) = false from decide_eq_false h] at hB
    by_cases m : cMay f l r
    · rw [mayB_cMay.2 m] at hM
      refine (sg_new_ok f l r w hB hM).mono ?_
      rintro e w' ⟨B, rfl, h1, h2, h3⟩
      exact ⟨.inl ⟨⟨hf, hl, hr, m, by omega⟩, B, rfl, h1, h2⟩, h3⟩
    · have m' : mayB f l r = false := by
        cases hh : mayB f l r
        · rfl
        · exact absurd (mayB_cMay.1 hh) m
      rw [m'] at hM
      refine (sg_new_may f l r w hB hM).mono ?_
      rintro e w' ⟨rfl, h3⟩
      exact ⟨.inr ⟨fun hc => m hc.2.2.2.1, rfl⟩, h3⟩
theorem RowAt.flat {w : World} {g o cap : Nat} {K : List (Int × Int)} (h : RowAt w g o cap K) : ∀ i v, (flat K)[i]? = some v → w.cell? ((⟨g, o, none⟩ : Addr).add i) = some v := fun i v hi => by
  obtain ⟨cur, hg, h1, h2, h3, h4⟩ := h
  rw [Addr.add_lit, cell_of_row w g (o + i) cur 136 (0, 0) hg]
  rw [← h4, List.getElem?_take] at hi
  split at hi
  · rw [List.getElem?_drop] at hi
    simpa using hi
  · cases hi
/-- All of a row onto an empty slice without room. -/
theorem run_append_all (w : World) (ty : TypeId) (ht : Tryz.prog.underlying 69 = some (.slice 136)) (b : Addr) (g o cap : Nat) (K : List (Int × Int)) (hR : RowAt w g o cap K) (h0 : 0 < K.length) (hn : K.length ≤ 1000) :
    ∃ cap' w', (Builtin.append_ #[69, 69] ty #[.slice (some b) 0 0, .slice (some ⟨g, o, none⟩) K.length cap]).run Tryz.prog w = .ok (.slice (some ⟨w.heap.size, 0, none⟩) K.length cap') w' ∧ RowAt w' w.heap.size 0 cap' K ∧ Below w.heap.size w w' := by
  obtain ⟨i, hi, hz0, hz1, hz2⟩ := b_info
  have zc : ∀ q, (Builtin.zeroCells (Value.cells (.agg #[.int .u64 0, .int .u64 0])) q).size = q * 2 := fun q => by rw [size_zeroCells]; rfl
  have hr := run_append_grow (P := Tryz.prog) w 69 ty 136 i _ ht hi hz0 b 0 0 [] (by simp) (by simp) ⟨g, o, none⟩ K.length cap (flat K) (by rw [flat_len, hz1]) hR.flat (by omega) (by omega) (growslice_fits (by omega) (by rw [hz2]; omega))
  simp only [Nat.zero_add] at hr
  have hge := grownCap_ge w K.length 0 136
  refine ⟨_, _, hr, ⟨_, heap_alloc_new w.drew _, hge, grownCap_le_maxLen w K.length 0 136 (by unfold maxLen; omega), ?_, ?_⟩, (Below.refl _ w).drew.alloc (Nat.le_refl _) _⟩
  · simp only [Array.size_append, List.size_toArray, zc, flat_len, List.length_nil]
    omega
  · rw [List.drop_zero]
    simp only [Array.toList_append]
    rw [List.nil_append]
    exact List.take_left' (by rw [flat_len])
theorem wpList_append_all {w : World} {ops : Array Oper} {rest : List Oper} {o : Oper} {a : Act} {Q : Exit → Act → World → Prop} (hgd : o.guard = none) (s x : Operand)
    (ho : o.op = .call { callee := .builtin .append, args := #[s, x], argTypes := #[69, 69] }) (b : Addr) (g off cap : Nat) (K : List (Int × Int)) (hs : a.eval s = .slice (some b) 0 0) (hx : a.eval x = .slice (some ⟨g, off, none⟩) K.length cap)
    (hR : RowAt w g off cap K) (h0 : 0 < K.length) (hn : K.length ≤ 1000)
    (h : ∀ cap' w', RowAt w' w.heap.size 0 cap' K → Below w.heap.size w w' → wpList Tryz.prog ops Q rest (a.put o.dst (.slice (some ⟨w.heap.size, 0, none⟩) K.length cap')) w') : wpList Tryz.prog ops Q (o :: rest) a w := by
  refine wpList_plain hgd fun K' hK => ?_
  obtain ⟨cap', w', hr, h1, h2⟩ := run_append_all w o.type Tryz.underlying69 b g off cap K hR h0 hn
  unfold Oper.wp execOp
  simp only [ho, resolve, invoke, builtin, Sem.run_bind, Sem.run_pure, Result.andThen_ok, List.map_toArray, List.map_cons, List.map_nil, hs, hx, hr]
  exact hK _ _ (h cap' w' h1 h2)
theorem clone_nil (w : World) : Calls Tryz.prog 126 #[.slice none 0 0] w fun e w' => e = .returned (.slice none 0 0) ∧ w = w' := by
  have hE := Lib.run_eql_slice_nil (P := Tryz.prog) w 69 136 none 0 0 0 0 Tryz.underlying69
  simp only [Option.isNone_none] at hE
  go_enter Tryz.func126, Tryz.ntmps126
  go_wp2
  go_ret
  exact ⟨rfl, rfl⟩
set_option maxHeartbeats 1000000 in
theorem clone_row (g o cap : Nat) (K : List (Int × Int)) (w : World) (hR : RowAt w g o cap K) (h0 : 0 < K.length) (hn : K.length ≤ 1000) :
    Calls Tryz.prog 126 #[.slice (some ⟨g, o, none⟩) K.length cap] w fun e w' => (∃ g' cap', e = .returned (.slice (some ⟨g', 0, none⟩) K.length cap') ∧ w.heap.size ≤ g' ∧ RowAt w' g' 0 cap' K) ∧ Below w.heap.size w w' := by
  have hR1 := hR.below (up1 w (.cells #[] 136))
  have T := up1 w (.cells #[] 136)
  clear hR
  have hE := Lib.run_eql_slice_nil (P := Tryz.prog) w 69 136 (some ⟨g, o, none⟩) K.length cap 0 0 Tryz.underlying69
  simp only [Option.isNone_some] at hE
  go_enter Tryz.func126, Tryz.ntmps126
  go_wp2_with (at_builtin; refine wpList_append_all rfl _ _ rfl ⟨w.heap.size, 0, none⟩ g o cap K rfl rfl hR1 h0 hn ?_; intro cap' w' hR2 hb)
  go_ret
  exact ⟨⟨_, _, rfl, by omega, by simpa using hR2⟩, up T hb T.size⟩
theorem KeptAt.mono {w : World} {m m' : Nat} {v : Value} {K : List (Int × Int)} (h : KeptAt w m v K) (hm : m' ≤ m) : KeptAt w m' v K := by
  rcases h with h | ⟨g, o, cap, rfl, h1, h2⟩
  · exact .inl h
  · exact .inr ⟨g, o, cap, rfl, Nat.le_trans hm h1, h2⟩
theorem sg_copy_nil (w : World) : Calls Tryz.prog 125 #[.pointer none] w fun e w' => e = .returned (.pointer none) ∧ w = w' := by
  go_enter Tryz.func125, Tryz.ntmps125
  go_wp2
  go_ret
  exact ⟨rfl, rfl⟩
set_option maxHeartbeats 2000000 in
theorem sg_copy_any (m B : Nat) (f l r : Int) (v : Value) (x k : Int) (md : Bool) (K : List (Int × Int)) (w : World) (h : SgB w B f l r v x k md) (hR : KeptAt w m v K) (h0 : K = [] → v = .slice none 0 0) (hn : K.length ≤ 1000) :
    Calls Tryz.prog 125 #[.pointer (some ⟨B, 0, none⟩)] w fun e w' => (e = .returned (.pointer (some ⟨w.heap.size, 0, none⟩)) ∧ ∃ u, SgB w' w.heap.size f l r u x k md ∧ KeptAt w' w.heap.size u K ∧ (K = [] → u = .slice none 0 0)) ∧ Below w.heap.size w w' := by
  have hC : ∀ w', Below w.heap.size w w' → Calls Tryz.prog 126 #[v] w' fun e w'' => (∃ u, e = .returned u ∧ KeptAt w'' w'.heap.size u K ∧ (K = [] → u = .slice none 0 0)) ∧ Below w'.heap.size w' w'' := fun w' hb => by
    rcases K with _ | ⟨a, K2⟩
    · rw [h0 rfl]
      refine (clone_nil w').mono ?_
      rintro e w'' ⟨rfl, rfl⟩
      exact ⟨⟨_, rfl, .inl ⟨rfl, rfl⟩, fun _ => rfl⟩, Below.refl _ _⟩
    · rcases hR.below hb with ⟨_, e⟩ | ⟨g, o, cap, rfl, _, hRow⟩
      · cases e
      · refine (clone_row g o cap (a :: K2) w' hRow (by simp) hn).mono ?_
        rintro e w'' ⟨⟨g', cap', rfl, h1, h2⟩, h3⟩
        exact ⟨⟨_, rfl, .inr ⟨g', 0, cap', rfl, h1, h2⟩, fun e => by cases e⟩, h3⟩
  obtain ⟨ad, cap, rfl, _⟩ := hR.len
  obtain ⟨c0, c1, c2, c3, c4, c5, c6, c7, c8, c9⟩ := h.cells
  have SN := SgB.new w f l r (.slice ad K.length cap) x k md
  have T := up1 w (.cells #[eU f, eU l, eU r, eU 0, eU 0, eU r, .slice ad K.length cap, eU x, eI k, .bool md] 71)
  have hlt := h.lt
  have hC1 := hC _ T
  have c6a : (w.alloc (.cells #[.int .u64 f, .int .u64 l, .int .u64 r, .int .u64 0, .int .u64 0, .int .u64 r, .slice ad K.length cap, .int .u64 x, .int .i64 k, .bool md] 71)).cell? ⟨B, 6, none⟩ = some (.slice ad K.length cap) := (h.below T).cells.2.2.2.2.2.2.1
  clear hC hR h0 h
  go_enter Tryz.func125, Tryz.ntmps125
  go_wp2_with (go_at_call 126; (with_reducible refine hC1.mono ?_); rintro e w1 ⟨⟨u, rfl, hu, hu0⟩, hb⟩; obtain ⟨ad2, cap2, rfl, _⟩ := hu.len; replace SN := SN.below hb; replace T := up T hb T.size; clear hb; have f6 := Box.thaw SN 6; have d6 := SN.cells.2.2.2.2.2.2.1)
  go_ret
  refine ⟨⟨rfl, _, Box.set SN 6 _, (hu.of fun g hg => ?_).mono (by simp), hu0⟩, T.setCell (Nat.le_refl _) _⟩
  have := (hu.lt g hg).1
  simp at this
  exact Below.heap_setCell _ _ _ g (by show g ≠ w.heap.size; omega)
end Go.Proofs.YtejolaifdjcghaaGreat
