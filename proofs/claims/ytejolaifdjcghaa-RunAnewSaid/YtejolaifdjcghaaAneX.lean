/- What a run has, started anew, is never more than it was; started from what it has, it has just that there: the walk of the statement. -/
import Derived.Test.YtejolaifdjcghaaDueX
namespace Go.Proofs.Ytejolaifdjcghaa
open Go.RowKit Go.Shelf W
set_option linter.unusedVariables false
set_option maxRecDepth 100000
namespace W
/-- More copies have no more. -/
theorem lst_more {F L R q x x' v v' : Int} {A A' : List (Int × Int)} (h : IsLst (fun k => hv F L R k (max q x)) A v) (h' : IsLst (fun k => hv F L R k (max q x')) A' v') (hs : ∀ c ∈ A, c ∈ A') (hx : x ≤ q) (hx' : x' ≤ q) : stp v' ≤ stp v := by
  obtain ⟨_, c, hc, e⟩ := h
  obtain ⟨h1, _⟩ := h'
  have e : hv F L R c (max q x) = v := e
  have h1 : v' ≤ hv F L R c (max q x') := h1 c (hs c hc)
  rw [show max q x = q by omega] at e
  rw [show max q x' = q by omega] at h1
  exact stp_mono (by omega)
/-- A copy that starts from what is had: it has just that there. -/
theorem lst_on {F L R q x v v' : Int} {A A' : List (Int × Int)} (hL : 0 ≤ L) (h : IsLst (fun k => hv F L R k (max q x)) A v) (hA : A' = A ++ [(q, min (stp v) 4611686018427387904)]) (hx : x ≤ q) (h' : IsLst (fun k => hv F L R k (max q q)) A' v') : stp v' = stp v := by
  obtain ⟨h1, c, hc, e⟩ := h
  obtain ⟨g1, c', hc', e'⟩ := h'
  have e : hv F L R c (max q x) = v := e
  have e' : hv F L R c' (max q q) = v' := e'
  rw [show max q x = q by omega] at e
  rw [Int.max_self] at e'
  have g2 : v' ≤ hv F L R c (max q q) := g1 c (by rw [hA]; simp [hc])
  rw [Int.max_self, e] at g2
  have hn : hv F L R (q, min (stp v) 4611686018427387904) q = stp v := by
    unfold hv
    dsimp only
    rw [Int.sub_self, cW_zero hL, Int.add_zero]
    have := stp_le v
    omega
  have o1 := stp_or v; have o2 := stp_or v'
  rw [hA] at hc'
  rcases List.mem_append.1 hc' with h | h
  · have h2 : v ≤ hv F L R c' (max q x) := h1 c' h
    rw [show max q x = q by omega] at h2
    omega
  · have h : c' = (q, min (stp v) 4611686018427387904) := by simpa using h
    rw [h, hn] at e'
    omega
/-- More copies reach it no earlier. -/
theorem rch_more {F L R y x x' m m' : Int} {A A' : List (Int × Int)} (h : IsRch F L R y x A m) (h' : IsRch F L R y x' A' m') (hs : ∀ c ∈ A, c ∈ A') (hx : x ≤ x') : m ≤ m' := by
  obtain ⟨h1, h2, h3⟩ := h
  obtain ⟨g1, g2, g3⟩ := h'
  rcases Int.lt_or_le m' 9223372036854775808 with c | c
  · exact (h3 m' (by omega) c).1 fun k hk => (g3 m' g1 c).2 (Int.le_refl _) k (hs k hk)
  · omega
end W
/-- A run and two copies of it, apart from each other; some starts more on each copy. -/
def Tri3 (W0 W : World) (B0 B1 B2 : Nat) (f l r : Int) (X Y X1 Y1 X2 Y2 : Nat → Int) (n n1 n2 : Nat) : Prop :=
  ∃ S0 S1 S2 : Nat → Prop, Ru W S0 B0 f l r X Y n ∧ Ru W S1 B1 f l r X1 Y1 n1 ∧ Ru W S2 B2 f l r X2 Y2 n2 ∧
    (∀ k, S0 k → ¬ S1 k) ∧ (∀ k, S0 k → ¬ S2 k) ∧ (∀ k, S1 k → ¬ S2 k) ∧ (∀ k, S0 k ∨ S1 k ∨ S2 k → W0.heap.size ≤ k ∧ k < W.heap.size) ∧ Below W0.heap.size W0 W
section
variable {W0 W W' : World} {B0 B1 B2 n n1 n2 : Nat} {f l r : Int} {X Y X1 Y1 X2 Y2 : Nat → Int}
theorem Tri3.below (h : Tri3 W0 W B0 B1 B2 f l r X Y X1 Y1 X2 Y2 n n1 n2) (hb : Below W.heap.size W W') : Tri3 W0 W' B0 B1 B2 f l r X Y X1 Y1 X2 Y2 n n1 n2 := by
  obtain ⟨S0, S1, S2, h0, h1, h2, d1, d2, d3, hs, T⟩ := h
  have := hb.size
  exact ⟨S0, S1, S2, h0.below hb, h1.below hb, h2.below hb, d1, d2, d3, fun k hk => by have := hs k hk; omega, up T hb T.size⟩
theorem Tri3.base (h : Tri3 W0 W B0 B1 B2 f l r X Y X1 Y1 X2 Y2 n n1 n2) : Below W0.heap.size W0 W := by
  obtain ⟨S0, S1, S2, h0, h1, h2, d1, d2, d3, hs, T⟩ := h
  exact T
theorem Tri3.r0 (h : Tri3 W0 W B0 B1 B2 f l r X Y X1 Y1 X2 Y2 n n1 n2) : ∃ S, Ru W S B0 f l r X Y n := by
  obtain ⟨S0, S1, S2, h0, h1, h2, _⟩ := h
  exact ⟨S0, h0⟩
theorem Tri3.r1 (h : Tri3 W0 W B0 B1 B2 f l r X Y X1 Y1 X2 Y2 n n1 n2) : ∃ S, Ru W S B1 f l r X1 Y1 n1 := by
  obtain ⟨S0, S1, S2, h0, h1, h2, _⟩ := h
  exact ⟨S1, h1⟩
theorem Tri3.r2 (h : Tri3 W0 W B0 B1 B2 f l r X Y X1 Y1 X2 Y2 n n1 n2) : ∃ S, Ru W S B2 f l r X2 Y2 n2 := by
  obtain ⟨S0, S1, S2, h0, h1, h2, _⟩ := h
  exact ⟨S2, h2⟩
theorem Tri3.start1 (h : Tri3 W0 W B0 B1 B2 f l r X Y X1 Y1 X2 Y2 n n1 n2) (hY : ∀ k, 0 ≤ Y1 k) (x y : Int) (hx : Word x) (hy : Word y) (hn : n1 ≤ 800) :
    Calls Try.prog 8 #[.pointer (some ⟨B1, 0, none⟩), eU x, eU y] W fun e W' => e = .returned (.tuple #[]) ∧ Tri3 W0 W' B0 B1 B2 f l r X Y (upd X1 n1 x) (upd Y1 n1 y) X2 Y2 n (n1 + 1) n2 := by
  obtain ⟨S0, S1, S2, h0, h1, h2, d1, d2, d3, hs, T⟩ := h
  refine (ru_next hY x y hx hy hn h1).mono ?_
  rintro e W' ⟨e1, e2, e3⟩
  have z3 := e3.size
  have z0 := T.size
  refine ⟨e1, S0, _, S2, h0.off e3 d1, e2, h2.off e3 (fun k a b => d3 k b a), fun k a b => ?_, d2, fun k a b => ?_, fun k hk => ?_, T.trans (e3.below (fun k _ hk => (hs k (.inr (.inl hk))).1) z0)⟩
  · rcases b with b | b
    · exact d1 k a b
    · have := hs k (.inl a); omega
  · rcases a with a | a
    · exact d3 k a b
    · have := hs k (.inr (.inr b)); omega
  · rcases hk with hk | (hk | hk) | hk
    · have := hs k (.inl hk); omega
    · have := hs k (.inr (.inl hk)); omega
    · omega
    · have := hs k (.inr (.inr hk)); omega
theorem Tri3.start2 (h : Tri3 W0 W B0 B1 B2 f l r X Y X1 Y1 X2 Y2 n n1 n2) (hY : ∀ k, 0 ≤ Y2 k) (x y : Int) (hx : Word x) (hy : Word y) (hn : n2 ≤ 800) :
    Calls Try.prog 8 #[.pointer (some ⟨B2, 0, none⟩), eU x, eU y] W fun e W' => e = .returned (.tuple #[]) ∧ Tri3 W0 W' B0 B1 B2 f l r X Y X1 Y1 (upd X2 n2 x) (upd Y2 n2 y) n n1 (n2 + 1) := by
  obtain ⟨S0, S1, S2, h0, h1, h2, d1, d2, d3, hs, T⟩ := h
  refine (ru_next hY x y hx hy hn h2).mono ?_
  rintro e W' ⟨e1, e2, e3⟩
  have z3 := e3.size
  have z0 := T.size
  refine ⟨e1, S0, S1, _, h0.off e3 d2, h1.off e3 d3, e2, d1, fun k a b => ?_, fun k a b => ?_, fun k hk => ?_, T.trans (e3.below (fun k _ hk => (hs k (.inr (.inr hk))).1) z0)⟩
  · rcases b with b | b
    · exact d2 k a b
    · have := hs k (.inl a); omega
  · rcases b with b | b
    · exact d3 k a b
    · have := hs k (.inr (.inl a)); omega
  · rcases hk with hk | hk | hk | hk
    · have := hs k (.inl hk); omega
    · have := hs k (.inr (.inl hk)); omega
    · have := hs k (.inr (.inr hk)); omega
    · omega
/-- The first copy; both. -/
theorem copy1 {S : Nat → Prop} (h : Ru W S B0 f l r X Y n) (hn : n ≤ 800) : Calls Try.prog 16 #[.pointer (some ⟨B0, 0, none⟩)] W fun e W' => ∃ B1 : Nat, e = .returned (.pointer (some ⟨B1, 0, none⟩)) ∧ (Ru W' S B0 f l r X Y n ∧ Ru W' (fun k => W.heap.size ≤ k ∧ k < W'.heap.size) B1 f l r X Y n ∧ Below W.heap.size W W') := by
  refine (ru_copy S B0 n W hn h).mono ?_
  rintro e W' ⟨⟨B1, e1, e2⟩, hb⟩
  exact ⟨B1, e1, h.below hb, e2, hb⟩
theorem copy2 {S : Nat → Prop} {V : World} (hS : ∀ k, S k → W0.heap.size ≤ k ∧ k < V.heap.size) (T : Below W0.heap.size W0 V) (h : Ru W S B0 f l r X Y n ∧ Ru W (fun k => V.heap.size ≤ k ∧ k < W.heap.size) B1 f l r X Y n ∧ Below V.heap.size V W) (hn : n ≤ 800) :
    Calls Try.prog 16 #[.pointer (some ⟨B0, 0, none⟩)] W fun e W' => ∃ B2 : Nat, e = .returned (.pointer (some ⟨B2, 0, none⟩)) ∧ Tri3 W0 W' B0 B1 B2 f l r X Y X Y X Y n n n := by
  obtain ⟨h0, h1, hV⟩ := h
  refine (ru_copy S B0 n W hn h0).mono ?_
  rintro e W' ⟨⟨B2, e1, e2⟩, hb⟩
  have z1 := T.size; have z2 := hV.size; have z3 := hb.size
  refine ⟨B2, e1, S, _, _, h0.below hb, h1.below hb, e2, fun k a b => by have := hS k a; omega, fun k a b => by have := hS k a; omega, fun k a b => by omega, fun k hk => ?_, up T (up hV hb hV.size) T.size⟩
  rcases hk with hk | hk | hk
  · have := hS k hk; omega
  · omega
  · omega
end
theorem box_four {W : World} {B : Nat} {t : TypeId} {a b c d : Int} (h : Box W B #[eU a, eU b, eU c, eU d] t) :
    W.cell? ⟨B, 0, none⟩ = some (.int .u64 a) ∧ W.cell? ⟨B, 1, none⟩ = some (.int .u64 b) ∧ W.cell? ⟨B, 2, none⟩ = some (.int .u64 c) ∧ W.cell? ⟨B, 3, none⟩ = some (.int .u64 d) :=
  ⟨h.cell 0, h.cell 1, h.cell 2, h.cell 3⟩
section
variable (f l r : Int) (a : Option Addr) (n c : Nat) (ax ay at_ aN t : Int) (w : World)
set_option maxHeartbeats 2000000 in
theorem ane_no (hS : ∀ w', Below w.heap.size w w' → Calls Try.prog 18 #[.agg #[eU f, eU l, eU r], .slice a n c] w' fun e w'' => e = .returned (.pointer none) ∧ Below w'.heap.size w' w'') :
    Calls Try.prog 6 #[.agg #[eU f, eU l, eU r], .slice a n c, .agg #[eU ax, eU ay, eU at_, eU aN], eU t] w fun e w' => e = .returned (.bool true) ∧ Below w.heap.size w w' := by
  have BC := (Box.new w 27 #[eU f, eU l, eU r]).alloc (.cells #[eU ax, eU ay, eU at_, eU aN] 24)
  have T := up2 w (.cells #[eU f, eU l, eU r] 27) (.cells #[eU ax, eU ay, eU at_, eU aN] 24)
  go_enter Try.func6, Try.ntmps6
  go_wp2_with (first
    | (go_at_call 17; (with_reducible refine (awake_any _).mono ?_); rintro e w1 ⟨rfl, hb⟩; replace BC := BC.below hb; replace T := up T hb T.size; clear hb; obtain ⟨c0, c1, c2⟩ := BC.three)
    | (go_at_call 18; (with_reducible refine (hS _ T).mono ?_); rintro e w2 ⟨rfl, hb⟩; replace T := up T hb T.size; clear hb))
  go_ret
  exact ⟨rfl, T⟩
set_option maxHeartbeats 4000000 in
theorem ane_out (hS : ∀ w', Below w.heap.size w w' → Calls Try.prog 18 #[.agg #[eU f, eU l, eU r], .slice a n c] w' fun e w'' => (∃ B : Nat, e = .returned (.pointer (some ⟨B, 0, none⟩))) ∧ Below w'.heap.size w' w'') (h : n = 0 ∨ (0 < n ∧ (4611686018427387904 ≤ ax ∨ (¬ 4611686018427387904 ≤ ax ∧ 4611686018427387904 ≤ t)))) :
    Calls Try.prog 6 #[.agg #[eU f, eU l, eU r], .slice a n c, .agg #[eU ax, eU ay, eU at_, eU aN], eU t] w fun e w' => e = .returned (.bool true) ∧ Below w.heap.size w w' := by
  have BC := (Box.new w 27 #[eU f, eU l, eU r]).alloc (.cells #[eU ax, eU ay, eU at_, eU aN] 24)
  have BA := Box.new (w.alloc (.cells #[eU f, eU l, eU r] 27)) 24 #[eU ax, eU ay, eU at_, eU aN]
  simp only [World.size_alloc] at BA
  have T := up2 w (.cells #[eU f, eU l, eU r] 27) (.cells #[eU ax, eU ay, eU at_, eU aN] 24)
  rcases h with rfl | ⟨h0, h⟩
  · go_enter Try.func6, Try.ntmps6
    go_wp2_with (first
      | (go_at_call 17; (with_reducible refine (awake_any _).mono ?_); rintro e w1 ⟨rfl, hb⟩; replace BC := BC.below hb; replace T := up T hb T.size; clear hb; obtain ⟨c0, c1, c2⟩ := BC.three)
      | (go_at_call 18; (with_reducible refine (hS _ T).mono ?_); rintro e w2 ⟨⟨B, rfl⟩, hb⟩; replace T := up T hb T.size; clear hb))
    go_ret
    exact ⟨rfl, T⟩
  · have hn : ((n : Int) == 0) = false := by simp only [beq_eq_false_iff_ne]; omega
    clear h0
    rcases h with h1 | ⟨h1, h2⟩
    all_goals
      go_enter Try.func6, Try.ntmps6
      go_wp2_with (first
        | (go_at_call 17; (with_reducible refine (awake_any _).mono ?_); rintro e w1 ⟨rfl, hb⟩; replace BC := BC.below hb; replace BA := BA.below hb; replace T := up T hb T.size; clear hb; obtain ⟨c0, c1, c2⟩ := BC.three)
        | (go_at_call 18; (with_reducible refine (hS _ T).mono ?_); rintro e w2 ⟨⟨B, rfl⟩, hb⟩; replace BA := BA.below hb; replace T := up T hb T.size; clear hb; obtain ⟨a0, a1, a2, a3⟩ := box_four BA))
      go_ret
      exact ⟨rfl, T⟩
set_option maxHeartbeats 8000000 in
theorem ane_run (P0 : World → World → Nat → Prop) (P1 : World → World → Nat → Nat → Prop) (T0 T1 T2 : World → World → Nat → Nat → Nat → Prop) (x q last zx z1 z2 m1 m2 o1 u0 u1 v0 : Int)
    (b0 : ∀ W0 W A, P0 W0 W A → Below W0.heap.size W0 W) (b1 : ∀ W0 W A B, P1 W0 W A B → Below W0.heap.size W0 W) (b2 : ∀ W0 W A B C, T0 W0 W A B C → Below W0.heap.size W0 W) (b3 : ∀ W0 W A B C, T1 W0 W A B C → Below W0.heap.size W0 W) (b4 : ∀ W0 W A B C, T2 W0 W A B C → Below W0.heap.size W0 W)
    (t2 : ∀ W0 W W' A B C, T2 W0 W A B C → Below W.heap.size W W' → T2 W0 W' A B C)
    (hn : ((n : Int) == 0) = false) (hn2 : (n : Int) ≤ 40) (h1 : ¬ 4611686018427387904 ≤ ax) (h2 : ¬ 4611686018427387904 ≤ t) (hx : max ax last = x) (hq : max t x = q)
    (hS : ∀ w', Below w.heap.size w w' → Calls Try.prog 18 #[.agg #[eU f, eU l, eU r], .slice a n c] w' fun e w'' => ∃ A : Nat, e = .returned (.pointer (some ⟨A, 0, none⟩)) ∧ P0 w' w'' A)
    (hL : ∀ W0 W A, P0 W0 W A → Calls Try.prog 9 #[.pointer (some ⟨A, 0, none⟩)] W fun e W' => e = .returned (.tuple #[eU last, .bool true]) ∧ P0 W0 W' A)
    (hC1 : ∀ W0 W A, P0 W0 W A → Calls Try.prog 16 #[.pointer (some ⟨A, 0, none⟩)] W fun e W' => ∃ B : Nat, e = .returned (.pointer (some ⟨B, 0, none⟩)) ∧ P1 W0 W' A B)
    (hC2 : ∀ W0 W A B, P1 W0 W A B → Calls Try.prog 16 #[.pointer (some ⟨A, 0, none⟩)] W fun e W' => ∃ C : Nat, e = .returned (.pointer (some ⟨C, 0, none⟩)) ∧ T0 W0 W' A B C)
    (hS1 : ∀ W0 W A B C, T0 W0 W A B C → Calls Try.prog 8 #[.pointer (some ⟨B, 0, none⟩), eU ax, eU ay] W fun e W' => e = .returned (.tuple #[]) ∧ T1 W0 W' A B C)
    (hX : ∀ W0 W A B C, T1 W0 W A B C → Calls Try.prog 13 #[.pointer (some ⟨A, 0, none⟩), eU x] W fun e W' => e = .returned (eU zx) ∧ T1 W0 W' A B C)
    (hS2 : ∀ W0 W A B C, T1 W0 W A B C → Calls Try.prog 8 #[.pointer (some ⟨C, 0, none⟩), eU x, eU zx] W fun e W' => e = .returned (.tuple #[]) ∧ T2 W0 W' A B C)
    (hM1 : ∀ W0 W A B C, T2 W0 W A B C → Calls Try.prog 13 #[.pointer (some ⟨B, 0, none⟩), eU q] W fun e W' => e = .returned (eU m1) ∧ Below W.heap.size W W')
    (hZ1 : ∀ W0 W A B C, T2 W0 W A B C → Calls Try.prog 13 #[.pointer (some ⟨A, 0, none⟩), eU q] W fun e W' => e = .returned (eU z1) ∧ Below W.heap.size W W')
    (hM2 : ∀ W0 W A B C, T2 W0 W A B C → Calls Try.prog 14 #[.pointer (some ⟨B, 0, none⟩), eU q] W fun e W' => e = .returned (eU m2) ∧ Below W.heap.size W W')
    (hZ2 : ∀ W0 W A B C, T2 W0 W A B C → Calls Try.prog 14 #[.pointer (some ⟨A, 0, none⟩), eU q] W fun e W' => e = .returned (eU z2) ∧ Below W.heap.size W W')
    (hO1 : ∀ W0 W A B C, T2 W0 W A B C → Calls Try.prog 13 #[.pointer (some ⟨C, 0, none⟩), eU x] W fun e W' => e = .returned (eU zx) ∧ Below W.heap.size W W')
    (hZx : ∀ W0 W A B C, T2 W0 W A B C → Calls Try.prog 13 #[.pointer (some ⟨A, 0, none⟩), eU x] W fun e W' => e = .returned (eU zx) ∧ Below W.heap.size W W')
    (hO2 : ∀ W0 W A B C, T2 W0 W A B C → Calls Try.prog 13 #[.pointer (some ⟨C, 0, none⟩), eU q] W fun e W' => e = .returned (eU o1) ∧ Below W.heap.size W W')
    (hN1 : ∀ W0 W A B C, T2 W0 W A B C → Calls Try.prog 15 #[.pointer (some ⟨B, 0, none⟩)] W fun e W' => e = .returned (eI ((n : Int) + 1)) ∧ Below W.heap.size W W')
    (hN0 : ∀ W0 W A B C, T2 W0 W A B C → Calls Try.prog 15 #[.pointer (some ⟨A, 0, none⟩)] W fun e W' => e = .returned (eI (n : Int)) ∧ Below W.heap.size W W')
    (hU1 : ∀ W0 W A B C, T2 W0 W A B C → Calls Try.prog 10 #[.pointer (some ⟨B, 0, none⟩), eU aN] W fun e W' => e = .returned (eU u1) ∧ Below W.heap.size W W')
    (hU0 : ∀ W0 W A B C, T2 W0 W A B C → Calls Try.prog 10 #[.pointer (some ⟨A, 0, none⟩), eU aN] W fun e W' => e = .returned (eU u0) ∧ Below W.heap.size W W')
    (g1 : ¬ z1 < m1) (g2 : ¬ z2 < m2) (g3 : ¬ z1 < o1) (hv0 : min u0 9223372036854775808 = v0) (g4 : v0 ≤ u1) :
    Calls Try.prog 6 #[.agg #[eU f, eU l, eU r], .slice a n c, .agg #[eU ax, eU ay, eU at_, eU aN], eU t] w fun e w' => e = .returned (.bool true) ∧ Below w.heap.size w w' := by
  have BC := (Box.new w 27 #[eU f, eU l, eU r]).alloc (.cells #[eU ax, eU ay, eU at_, eU aN] 24)
  have BA := Box.new (w.alloc (.cells #[eU f, eU l, eU r] 27)) 24 #[eU ax, eU ay, eU at_, eU aN]
  simp only [World.size_alloc] at BA
  have T := up2 w (.cells #[eU f, eU l, eU r] 27) (.cells #[eU ax, eU ay, eU at_, eU aN] 24)
  have hwr : IntKind.i64.wrap ((n : Int) + 1) = (n : Int) + 1 := i64_same _ ⟨by omega, by omega⟩
  have t2h := Lib.hid t2
  have b4h := Lib.hid b4
  clear t2 b4
  go_enter Try.func6, Try.ntmps6
  go_upto_region 14 with (first
    | (go_at_call 17; (with_reducible refine (awake_any _).mono ?_); rintro e w1 ⟨rfl, hb⟩; replace BC := BC.below hb; replace BA := BA.below hb; replace T := up T hb T.size; clear hb; obtain ⟨c0, c1, c2⟩ := BC.three; have BAh := Lib.hid BA; clear BA BC)
    | (go_at_call 18; (with_reducible refine (hS _ T).mono ?_); rintro e w2 ⟨A, rfl, D0⟩; clear c0 c1 c2; obtain ⟨a0, a1, a2, a3⟩ := box_four (Box.below BAh.out (b0 _ _ _ D0)))
    | (go_at_call 9; (with_reducible refine (hL _ _ _ D0).mono ?_); rintro e w3 ⟨rfl, D0'⟩; clear D0; have D0 := D0'; clear D0'; clear a0 a1 a2 a3; obtain ⟨a0, a1, a2, a3⟩ := box_four (Box.below BAh.out (b0 _ _ _ D0)))
    | (go_at_call 16; (with_reducible refine (hC1 _ _ _ D0).mono ?_); rintro e w4 ⟨B, rfl, D1⟩; clear D0; clear a0 a1 a2 a3; obtain ⟨a0, a1, a2, a3⟩ := box_four (Box.below BAh.out (b1 _ _ _ _ D1)))
    | (go_at_call 16; (with_reducible refine (hC2 _ _ _ _ D1).mono ?_); rintro e w5 ⟨C, rfl, D2⟩; clear D1; clear a0 a1 a2 a3; obtain ⟨a0, a1, a2, a3⟩ := box_four (Box.below BAh.out (b2 _ _ _ _ _ D2)))
    | (go_at_call 8; (with_reducible refine (hS1 _ _ _ _ _ D2).mono ?_); rintro e w6 ⟨rfl, D3⟩; clear D2; clear a0 a1 a2 a3; obtain ⟨a0, a1, a2, a3⟩ := box_four (Box.below BAh.out (b3 _ _ _ _ _ D3)))
    | (go_at_call 13; (with_reducible refine (hX _ _ _ _ _ D3).mono ?_); rintro e w7 ⟨rfl, D3'⟩; clear D3; have D3 := D3'; clear D3')
    | (go_at_call 8; (with_reducible refine (hS2 _ _ _ _ _ D3).mono ?_); rintro e w8 ⟨rfl, D4⟩; clear D3)
    | (go_at_call 13; (with_reducible refine (hM1 _ _ _ _ _ D4).mono ?_); rintro e w9 ⟨rfl, hb⟩; replace D4 := t2h.out _ _ _ _ _ _ D4 hb; clear hb)
    | (go_at_call 13; (with_reducible refine (hZ1 _ _ _ _ _ D4).mono ?_); rintro e w9 ⟨rfl, hb⟩; replace D4 := t2h.out _ _ _ _ _ _ D4 hb; clear hb)
    | (go_at_call 14; (with_reducible refine (hM2 _ _ _ _ _ D4).mono ?_); rintro e w9 ⟨rfl, hb⟩; replace D4 := t2h.out _ _ _ _ _ _ D4 hb; clear hb)
    | (go_at_call 14; (with_reducible refine (hZ2 _ _ _ _ _ D4).mono ?_); rintro e w9 ⟨rfl, hb⟩; replace D4 := t2h.out _ _ _ _ _ _ D4 hb; clear hb)
    | (go_at_call 13; (with_reducible refine (hO1 _ _ _ _ _ D4).mono ?_); rintro e w9 ⟨rfl, hb⟩; replace D4 := t2h.out _ _ _ _ _ _ D4 hb; clear hb)
    | (go_at_call 13; (with_reducible refine (hZx _ _ _ _ _ D4).mono ?_); rintro e w9 ⟨rfl, hb⟩; replace D4 := t2h.out _ _ _ _ _ _ D4 hb; clear hb)
    | (go_at_call 13; (with_reducible refine (hO2 _ _ _ _ _ D4).mono ?_); rintro e w9 ⟨rfl, hb⟩; replace D4 := t2h.out _ _ _ _ _ _ D4 hb; clear hb))
  have a3 := (box_four (Box.below BAh.out (b4h.out _ _ _ _ _ D4))).2.2.2
  go_region_held3 (fun w' => w'.cell? ⟨w.heap.size + 1, 3, none⟩ = some (.int .u64 aN))
    (first | exact a3 | exact (box_four (Box.below BAh.out (b4h.out _ _ _ _ _ D4))).2.2.2)
    (first
      | (go_at_call 15; (with_reducible refine (hN1 _ _ _ _ _ (by first | exact D4 | exact t2h.out _ _ _ _ _ _ D4 (Below.refl _ _).drew)).mono ?_); rintro e w10 ⟨rfl, hb⟩; (first | replace hb := undrew hb | replace hb := undrewN hb | skip); replace D4 := t2h.out _ _ _ _ _ _ D4 hb; clear hb)
      | (go_at_call 15; (with_reducible refine (hN0 _ _ _ _ _ (by first | exact D4 | exact t2h.out _ _ _ _ _ _ D4 (Below.refl _ _).drew)).mono ?_); rintro e w10 ⟨rfl, hb⟩; (first | replace hb := undrew hb | replace hb := undrewN hb | skip); replace D4 := t2h.out _ _ _ _ _ _ D4 hb; clear hb)
      | (go_at_call 10; (with_reducible refine (hU1 _ _ _ _ _ (by first | exact D4 | exact t2h.out _ _ _ _ _ _ D4 (Below.refl _ _).drew)).mono ?_); rintro e w10 ⟨rfl, hb⟩; (first | replace hb := undrew hb | replace hb := undrewN hb | skip); replace D4 := t2h.out _ _ _ _ _ _ D4 hb; clear hb)
      | (go_at_call 10; (with_reducible refine (hU0 _ _ _ _ _ (by first | exact D4 | exact t2h.out _ _ _ _ _ _ D4 (Below.refl _ _).drew)).mono ?_); rintro e w10 ⟨rfl, hb⟩; (first | replace hb := undrew hb | replace hb := undrewN hb | skip); replace D4 := t2h.out _ _ _ _ _ _ D4 hb; clear hb))
  all_goals go_wp2
  all_goals go_ret
  all_goals exact ⟨by first | rfl | simp, up T (b4h.out _ _ _ _ _ D4) T.size⟩
end
set_option maxHeartbeats 1000000 in
theorem RunAnew_walk (f l r : Int) (a : Option Addr) (n c : Nat) (xs : Nat → Ac) (ax ay at_ aN t : Int) (w : World) (hf : Word f) (hl : Word l) (hr : Word r) (hI : IsAcs w a n c xs) (hw : ∀ i, (xs i).word) (hcm : c ≤ maxLen) (hnn : a = none → n = 0 ∧ c = 0) (hax : Word ax) (hay : Word ay) (hat : Word at_) (haN : Word aN) (ht : Word t) :
    Calls Try.prog 6 #[.agg #[eU f, eU l, eU r], .slice a n c, .agg #[eU ax, eU ay, eU at_, eU aN], eU t] w fun e w' => e = .returned (.bool true) ∧ Below w.heap.size w w' := by
  have hS := fun w' (T : Below w.heap.size w w') => started_any f l r a n c xs w' hf hl hr hw (hI.below T)
  by_cases hc : CvR f l r ∧ n ≤ 40
  · have hS2 : ∀ w', Below w.heap.size w w' → Calls Try.prog 18 #[.agg #[eU f, eU l, eU r], .slice a n c] w' fun e w'' => ∃ B : Nat, e = .returned (.pointer (some ⟨B, 0, none⟩)) ∧ ((∃ S, (∀ k, S k → w'.heap.size ≤ k ∧ k < w''.heap.size) ∧ Ru w'' S B f l r (fun i => (xs i).x) (fun i => (xs i).y) n) ∧ Below w'.heap.size w' w'') := fun w' T => (hS w' T).mono fun e w'' h => by
      obtain ⟨h1, h2⟩ := h
      rcases h1 with ⟨_, B, e1, e3⟩ | ⟨h1, _⟩
      · exact ⟨B, e1, ⟨_, fun _ h => h, e3⟩, h2⟩
      · exact absurd hc h1
    by_cases hz : n = 0 ∨ (0 < n ∧ (4611686018427387904 ≤ ax ∨ (¬ 4611686018427387904 ≤ ax ∧ 4611686018427387904 ≤ t)))
    · exact ane_out f l r a n c ax ay at_ aN t w (fun w' T => (hS2 w' T).mono fun e w'' h => by obtain ⟨B, e1, _, h2⟩ := h; exact ⟨⟨B, e1⟩, h2⟩) hz
    · have hn : 0 < n := by omega
      have hn0 : ((n : Int) == 0) = false := by simp only [beq_eq_false_iff_ne]; omega
      obtain ⟨X, hX⟩ : ∃ X : Nat → Int, X = fun i => (xs i).x := ⟨_, rfl⟩
      obtain ⟨Y, hYe⟩ : ∃ Y : Nat → Int, Y = fun i => (xs i).y := ⟨_, rfl⟩
      rw [← hX, ← hYe] at hS2
      have hY : ∀ k, 0 ≤ Y k := fun k => by rw [hYe]; exact (hw k).2.1.1
      obtain ⟨hcv, hn40⟩ := hc
      obtain ⟨_, _, _, hm⟩ := id hcv
      have hx0 := xS_nn X n
      have hx1 := xS_never X n
      obtain ⟨x, hx⟩ : ∃ x, max ax (xS X n) = x := ⟨_, rfl⟩
      obtain ⟨q, hq⟩ : ∃ q, max t x = q := ⟨_, rfl⟩
      have wx : Word x := by unfold Word at *; omega
      have wq : Word q := by unfold Word at *; omega
      have e1 : xS (upd X n ax) (n + 1) = x := by rw [xS_upd1]; omega
      have e2 : xS (upd X n x) (n + 1) = x := by rw [xS_upd1]; omega
      have l0 : ∀ (X Y : Nat → Int) n, 0 < n → 0 < (allL X Y n).length := fun X Y n h => by simp [allL]; exact h
      have hall := W.allL_le (X := X) (Y := Y) (n := n) hY
      obtain ⟨vx, kx⟩ := lst_ex (fun k => hv f l r k (max x (xS X n))) (l0 X Y n hn)
      have zx0 : 0 ≤ stp vx := by
        obtain ⟨_, c, hc, e⟩ := kx
        have e : hv f l r c (max x (xS X n)) = vx := e
        have hcc := hall c hc
        have := cW_nn hf.1 hr.1 hl.1 (show 0 ≤ max x (xS X n) - c.1 by omega)
        refine stp_nn ?_
        rw [← e]
        unfold hv
        omega
      have zx1 := stp_le vx
      have wz : Word (stp vx) := ⟨zx0, by omega⟩
      have hY1 := upd_nn (n := n) hY hay.1
      have hY2 := upd_nn (n := n) hY zx0
      obtain ⟨v1, k1⟩ := lst_ex (fun k => hv f l r k (max q (xS X n))) (l0 X Y n hn)
      obtain ⟨v2, k2⟩ := lst_ex (fun k => hv (eF f r) (eL f l r) r k (max q (xS X n))) (l0 X Y n hn)
      obtain ⟨m1, j1⟩ := lst_ex (fun k => hv f l r k (max q (xS (upd X n ax) (n + 1)))) (l0 (upd X n ax) (upd Y n ay) (n + 1) (by omega))
      obtain ⟨m2, j2⟩ := lst_ex (fun k => hv (eF f r) (eL f l r) r k (max q (xS (upd X n ax) (n + 1)))) (l0 (upd X n ax) (upd Y n ay) (n + 1) (by omega))
      obtain ⟨o0, i0⟩ := lst_ex (fun k => hv f l r k (max x (xS (upd X n x) (n + 1)))) (l0 (upd X n x) (upd Y n (stp vx)) (n + 1) (by omega))
      obtain ⟨o1, i1⟩ := lst_ex (fun k => hv f l r k (max q (xS (upd X n x) (n + 1)))) (l0 (upd X n x) (upd Y n (stp vx)) (n + 1) (by omega))
      obtain ⟨u0, r0⟩ := rch_ex (F := f) (L := l) (R := r) (y := aN) hf hl hr hx1 _ (l0 X Y n hn) hall
      obtain ⟨u1, r1⟩ := rch_ex (F := f) (L := l) (R := r) (y := aN) hf hl hr (xS_never (upd X n ax) (n + 1)) _ (l0 (upd X n ax) (upd Y n ay) (n + 1) (by omega)) (W.allL_le hY1)
      have s1 : ∀ c ∈ allL X Y n, c ∈ allL (upd X n ax) (upd Y n ay) (n + 1) := fun c hc => by rw [allL_upd]; exact List.mem_append.2 (.inl hc)
      have s2 : ∀ c ∈ allL X Y n, c ∈ allL (upd X n x) (upd Y n (stp vx)) (n + 1) := fun c hc => by rw [allL_upd]; exact List.mem_append.2 (.inl hc)
      have g1 : stp m1 ≤ stp v1 := by
        rw [e1] at j1
        exact lst_more k1 j1 s1 (by omega) (by omega)
      have g2 : stp m2 ≤ stp v2 := by
        rw [e1] at j2
        exact lst_more k2 j2 s1 (by omega) (by omega)
      have g3 : stp o1 ≤ stp v1 := by
        rw [e2] at i1
        exact lst_more k1 i1 s2 (by omega) (by omega)
      have g5 : stp o0 = stp vx := by
        rw [e2] at i0
        refine lst_on hl.1 kx ?_ (by omega) i0
        rw [allL_upd, show max (min x 9223372036854775808) (xS X n) = x by omega]
      have g4 : u0 ≤ u1 := by
        rw [e1] at r1
        exact rch_more r0 r1 s1 (by omega)
      have ru0 := r0.2.1
      exact ane_run f l r a n c ax ay at_ aN t w
        (fun W0 W A => (∃ S, (∀ k, S k → W0.heap.size ≤ k ∧ k < W.heap.size) ∧ Ru W S A f l r X Y n) ∧ Below W0.heap.size W0 W)
        (fun W0 W A B => ∃ S, ∃ V : World, (∀ k, S k → W0.heap.size ≤ k ∧ k < V.heap.size) ∧ Below W0.heap.size W0 V ∧ (Ru W S A f l r X Y n ∧ Ru W (fun k => V.heap.size ≤ k ∧ k < W.heap.size) B f l r X Y n ∧ Below V.heap.size V W))
        (fun W0 W A B C => Tri3 W0 W A B C f l r X Y X Y X Y n n n)
        (fun W0 W A B C => Tri3 W0 W A B C f l r X Y (upd X n ax) (upd Y n ay) X Y n (n + 1) n)
        (fun W0 W A B C => Tri3 W0 W A B C f l r X Y (upd X n ax) (upd Y n ay) (upd X n x) (upd Y n (stp vx)) n (n + 1) (n + 1))
        x q (xS X n) (stp vx) (stp v1) (stp v2) (stp m1) (stp m2) (stp o1) u0 u1 u0
        (fun W0 W A h => h.2) (fun W0 W A B ⟨S, V, h1, h2, h3, h4, h5⟩ => up h2 h5 h2.size) (fun W0 W A B C h => h.base) (fun W0 W A B C h => h.base) (fun W0 W A B C h => h.base) (fun W0 W W' A B C h hb => h.below hb)
        hn0 (by omega) (by omega) (by omega) hx hq hS2
        (fun W0 W A ⟨⟨S, h1, h2⟩, h3⟩ => (ru_last S A n W hn h2).mono fun e w' h => ⟨h.1, by rw [← h.2]; exact ⟨⟨S, h1, h2⟩, h3⟩⟩)
        (fun W0 W A ⟨⟨S, h1, h2⟩, h3⟩ => (copy1 h2 (by omega)).mono fun e w' ⟨B, g1, g2⟩ => ⟨B, g1, S, W, h1, h3, g2⟩)
        (fun W0 W A B ⟨S, V, h1, h2, h3⟩ => copy2 h1 h2 h3 (by omega))
        (fun W0 W A B C h => h.start1 hY ax ay hax hay (by omega))
        (fun W0 W A B C h => by
          obtain ⟨S, g⟩ := h.r0
          exact (ru_at hY S A n x vx W hn (by omega) wx kx g).mono fun e w' q => ⟨q.1, h.below q.2⟩)
        (fun W0 W A B C h => h.start2 hY x (stp vx) wx wz (by omega))
        (fun W0 W A B C h => by obtain ⟨S, g⟩ := h.r1; exact ru_at hY1 S B (n + 1) q m1 W (by omega) (by omega) wq j1 g)
        (fun W0 W A B C h => by obtain ⟨S, g⟩ := h.r0; exact ru_at hY S A n q v1 W hn (by omega) wq k1 g)
        (fun W0 W A B C h => by obtain ⟨S, g⟩ := h.r1; exact ru_ahead hY1 S B (n + 1) q m2 W (by omega) (by omega) wq j2 g)
        (fun W0 W A B C h => by obtain ⟨S, g⟩ := h.r0; exact ru_ahead hY S A n q v2 W hn (by omega) wq k2 g)
        (fun W0 W A B C h => by obtain ⟨S, g⟩ := h.r2; rw [← g5]; exact ru_at hY2 S C (n + 1) x o0 W (by omega) (by omega) wx i0 g)
        (fun W0 W A B C h => by obtain ⟨S, g⟩ := h.r0; exact ru_at hY S A n x vx W hn (by omega) wx kx g)
        (fun W0 W A B C h => by obtain ⟨S, g⟩ := h.r2; exact ru_at hY2 S C (n + 1) q o1 W (by omega) (by omega) wq i1 g)
        (fun W0 W A B C h => by
          obtain ⟨S, g⟩ := h.r1
          have := quietly (ru_many S B (n + 1) W g)
          rwa [show ((n + 1 : Nat) : Int) = (n : Int) + 1 by omega] at this)
        (fun W0 W A B C h => by obtain ⟨S, g⟩ := h.r0; exact quietly (ru_many S A n W g))
        (fun W0 W A B C h => by obtain ⟨S, g⟩ := h.r1; exact ru_reach hY1 S B (n + 1) aN u1 W (by omega) (by omega) haN r1 g)
        (fun W0 W A B C h => by obtain ⟨S, g⟩ := h.r0; exact ru_reach hY S A n aN u0 W hn (by omega) haN r0 g)
        (by omega) (by omega) (by omega) (by omega) g4
  · exact ane_no f l r a n c ax ay at_ aN t w fun w' T => (hS w' T).mono fun e w'' h => by
      obtain ⟨h1, h2⟩ := h
      rcases h1 with ⟨h1, _⟩ | ⟨_, h1⟩
      · exact absurd h1 hc
      · exact ⟨h1, h2⟩
end Go.Proofs.Ytejolaifdjcghaa
