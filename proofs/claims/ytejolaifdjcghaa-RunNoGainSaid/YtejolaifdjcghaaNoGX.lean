/- Copies that start from at most what is had gain nothing over the first one: the walk of the statement. -/
import Derived.Test.YtejolaifdjcghaaDueX
namespace Go.Proofs.Ytejolaifdjcghaa
open Go.RowKit Go.Shelf W
set_option linter.unusedVariables false
set_option maxRecDepth 100000
section
variable (f l r : Int) (a : Option Addr) (n c : Nat) (xs : Nat → Ac) (s : Int) (w : World)
set_option maxHeartbeats 2000000 in
theorem nog_no (hN : ∀ w', Below w.heap.size w w' → Calls Try.prog 20 #[.agg #[eU f, eU l, eU r]] w' fun e w'' => e = .returned (.pointer none) ∧ Below w'.heap.size w' w'') :
    Calls Try.prog 7 #[.agg #[eU f, eU l, eU r], .slice a n c, eU s] w fun e w' => e = .returned (.bool true) ∧ Below w.heap.size w w' := by
  have BC := Box.new w 27 #[eU f, eU l, eU r]
  have T := up1 w (.cells #[eU f, eU l, eU r] 27)
  go_enter Try.func7, Try.ntmps7
  go_wp2_with (first
    | (go_at_call 17; (with_reducible refine (awake_any _).mono ?_); rintro e w1 ⟨rfl, hb⟩; replace BC := BC.below hb; replace T := up T hb T.size; clear hb; obtain ⟨c0, c1, c2⟩ := BC.three)
    | (go_at_call 20; (with_reducible refine (hN _ T).mono ?_); rintro e w2 ⟨rfl, hb⟩; replace T := up T hb T.size; clear hb))
  go_ret
  exact ⟨rfl, T⟩
set_option maxHeartbeats 4000000 in
theorem nog_out (hI : IsAcs w a n c xs) (hN : ∀ w', Below w.heap.size w w' → Calls Try.prog 20 #[.agg #[eU f, eU l, eU r]] w' fun e w'' => (∃ B : Nat, e = .returned (.pointer (some ⟨B, 0, none⟩))) ∧ Below w'.heap.size w' w'')
    (h : n = 0 ∨ (0 < n ∧ ((40 : Int) < (n : Int) ∨ (¬ (40 : Int) < (n : Int) ∧ (4611686018427387904 ≤ s ∨ (¬ 4611686018427387904 ≤ s ∧ 4611686018427387904 ≤ (xs 0).x)))))) :
    Calls Try.prog 7 #[.agg #[eU f, eU l, eU r], .slice a n c, eU s] w fun e w' => e = .returned (.bool true) ∧ Below w.heap.size w w' := by
  have BC := Box.new w 27 #[eU f, eU l, eU r]
  have T := up1 w (.cells #[eU f, eU l, eU r] 27)
  rcases h with rfl | ⟨h0, h1 | ⟨h1, h2 | ⟨h2, h3⟩⟩⟩
  · go_enter Try.func7, Try.ntmps7
    go_wp2_with (first
      | (go_at_call 17; (with_reducible refine (awake_any _).mono ?_); rintro e w1 ⟨rfl, hb⟩; replace BC := BC.below hb; replace T := up T hb T.size; clear hb; obtain ⟨c0, c1, c2⟩ := BC.three)
      | (go_at_call 20; (with_reducible refine (hN _ T).mono ?_); rintro e w2 ⟨⟨B, rfl⟩, hb⟩; replace T := up T hb T.size; clear hb))
    go_ret
    exact ⟨rfl, T⟩
  · have hn : ((n : Int) == 0) = false := by simp only [beq_eq_false_iff_ne]; omega
    clear h0 hI
    go_enter Try.func7, Try.ntmps7
    go_wp2_with (first
      | (go_at_call 17; (with_reducible refine (awake_any _).mono ?_); rintro e w1 ⟨rfl, hb⟩; replace BC := BC.below hb; replace T := up T hb T.size; clear hb; obtain ⟨c0, c1, c2⟩ := BC.three)
      | (go_at_call 20; (with_reducible refine (hN _ T).mono ?_); rintro e w2 ⟨⟨B, rfl⟩, hb⟩; replace T := up T hb T.size; clear hb))
    go_ret
    exact ⟨rfl, T⟩
  · have hn : ((n : Int) == 0) = false := by simp only [beq_eq_false_iff_ne]; omega
    clear h0 hI
    go_enter Try.func7, Try.ntmps7
    go_wp2_with (first
      | (go_at_call 17; (with_reducible refine (awake_any _).mono ?_); rintro e w1 ⟨rfl, hb⟩; replace BC := BC.below hb; replace T := up T hb T.size; clear hb; obtain ⟨c0, c1, c2⟩ := BC.three)
      | (go_at_call 20; (with_reducible refine (hN _ T).mono ?_); rintro e w2 ⟨⟨B, rfl⟩, hb⟩; replace T := up T hb T.size; clear hb))
    go_ret
    exact ⟨rfl, T⟩
  · have hn : ((n : Int) == 0) = false := by simp only [beq_eq_false_iff_ne]; omega
    have hnc := hI.1
    have k1 : (n : Int) ≤ (c : Int) := by omega
    have k2 : (0 : Int) < (n : Int) := by omega
    obtain ⟨b, o, rfl, hR⟩ : ∃ b o, a = some ⟨b, o, none⟩ ∧ AcRow w b o n xs := by
      rcases hI.2 with h | h
      · omega
      · exact h
    clear hI
    have hRh := Lib.hid hR
    have hz : (0 : Nat) < n := h0
    clear hR h0
    go_enter Try.func7, Try.ntmps7
    go_wp2_with (first
      | (go_at_call 17; (with_reducible refine (awake_any _).mono ?_); rintro e w1 ⟨rfl, hb⟩; replace BC := BC.below hb; replace T := up T hb T.size; clear hb; obtain ⟨c0, c1, c2⟩ := BC.three)
      | (go_at_call 20; (with_reducible refine (hN _ T).mono ?_); rintro e w2 ⟨⟨B, rfl⟩, hb⟩; replace T := up T hb T.size; clear hb; obtain ⟨x1, _, _, _⟩ := (hRh.out.below T).2 0 hz; simp only [Nat.zero_mul, Nat.add_zero] at x1))
    go_ret
    exact ⟨rfl, T⟩
end
namespace W
/-- A run behind a first start at x0, from y0 on, has at most what that copy has. -/
theorem nog_num {F L R x0 y0 q x v : Int} {A : List (Int × Int)} (hc : (x0, y0) ∈ A) (h0 : x0 ≤ q) (hx : x ≤ q) (hy : 0 ≤ y0) (hF : 0 ≤ F) (hR : 0 ≤ R) (hL : 0 ≤ L) (hv' : IsLst (fun k => hv F L R k (max q x)) A v) : stp v ≤ rP (stp y0) (cAt F L R (q - x0)) := by
  obtain ⟨h1, _⟩ := hv'
  have h1 : v ≤ hv F L R (x0, y0) (max q x) := h1 _ hc
  rw [show max q x = q by omega] at h1
  have nn := cW_nn hF hR hL (show 0 ≤ q - x0 by omega)
  unfold rP cAt
  unfold hv at h1
  dsimp only at h1
  have e1 := stp_or v; have e2 := stp_or y0; have e3 := stp_or (cW F L R (q - x0)); have e4 := stp_or (stp y0 + stp (cW F L R (q - x0)))
  omega
end W
/-- The run of the loop: so many starts, the first one known; all of it lies behind a base. -/
def Ng (W0 W : World) (B : Nat) (f l r x0 y0 : Int) (k : Nat) : Prop :=
  ∃ (S : Nat → Prop) (X Y : Nat → Int), Ru W S B f l r X Y k ∧ (∀ j, S j → W0.heap.size ≤ j ∧ j < W.heap.size) ∧ (∀ j, 0 ≤ Y j) ∧ 0 < k ∧ xS X 1 = x0 ∧ min (Y 0) 4611686018427387904 = y0 ∧ Below W0.heap.size W0 W
def N0 (W0 W : World) (B : Nat) (f l r : Int) : Prop :=
  ∃ (X Y : Nat → Int), Ru W (fun j => W0.heap.size ≤ j ∧ j < W.heap.size) B f l r X Y 0 ∧ (∀ j, 0 ≤ Y j) ∧ Below W0.heap.size W0 W
section
variable {W0 W W' : World} {B k : Nat} {f l r x0 y0 : Int}
theorem Ng.below (h : Ng W0 W B f l r x0 y0 k) (hb : Below W.heap.size W W') : Ng W0 W' B f l r x0 y0 k := by
  obtain ⟨S, X, Y, h1, h2, h3, h4, h5, h6, T⟩ := h
  have := hb.size
  exact ⟨S, X, Y, h1.below hb, fun j hj => by have := h2 j hj; omega, h3, h4, h5, h6, up T hb T.size⟩
theorem Ng.base (h : Ng W0 W B f l r x0 y0 k) : Below W0.heap.size W0 W := by
  obtain ⟨S, X, Y, h1, h2, h3, h4, h5, h6, T⟩ := h
  exact T
theorem N0.base (h : N0 W0 W B f l r) : Below W0.heap.size W0 W := by
  obtain ⟨X, Y, h1, h2, T⟩ := h
  exact T
theorem N0.below (h : N0 W0 W B f l r) (hb : Below W.heap.size W W') : N0 W0 W' B f l r := by
  obtain ⟨X, Y, h1, h2, T⟩ := h
  have := hb.size
  exact ⟨X, Y, (h1.below hb).mono (fun j hj => by omega), h2, up T hb T.size⟩
theorem Ng.last (h : Ng W0 W B f l r x0 y0 k) : ∃ x, (x0 ≤ x ∧ 0 ≤ x ∧ x ≤ 9223372036854775808) ∧ (k = 1 → x = x0) ∧ Calls Try.prog 9 #[.pointer (some ⟨B, 0, none⟩)] W fun e W' => e = .returned (.tuple #[eU x, .bool true]) ∧ Ng W0 W' B f l r x0 y0 k := by
  have h' := h
  obtain ⟨S, X, Y, h1, h2, h3, h4, h5, h6, T⟩ := h
  refine ⟨xS X k, ⟨by rw [← h5]; exact xS_le X (by omega), xS_nn _ _, xS_never _ _⟩, fun e => by rw [e]; exact h5, (ru_last S B k W h4 h1).mono fun e w' h => ⟨h.1, by rw [← h.2]; exact h'⟩⟩
theorem Ng.first (h : Ng W0 W B f l r x0 y0 1) : Calls Try.prog 9 #[.pointer (some ⟨B, 0, none⟩)] W fun e W' => e = .returned (.tuple #[eU x0, .bool true]) ∧ Ng W0 W' B f l r x0 y0 1 := by
  obtain ⟨x, _, h2, h3⟩ := h.last
  rwa [h2 rfl] at h3
theorem Ng.at (h : Ng W0 W B f l r x0 y0 k) (q : Int) (hq : Word q) (hk : k ≤ 800) (hF : 0 ≤ f) (hR : 0 ≤ r) (hL : 0 ≤ l) : ∃ z, (0 ≤ z ∧ z ≤ 4611686018427387904) ∧ ∀ W', Below W.heap.size W W' → Calls Try.prog 13 #[.pointer (some ⟨B, 0, none⟩), eU q] W' fun e W'' => e = .returned (eU z) ∧ Below W'.heap.size W' W'' := by
  obtain ⟨S, X, Y, h1, h2, h3, h4, h5, h6, T⟩ := h
  have hlen : 0 < (allL X Y k).length := by simp [allL]; exact h4
  obtain ⟨z, hz⟩ := lst_ex (fun c => hv f l r c (max q (xS X k))) hlen
  refine ⟨stp z, ⟨?_, stp_le z⟩, fun W' hb => ru_at h3 S B k q z W' h4 hk hq hz (h1.below hb)⟩
  obtain ⟨_, c, hc, e⟩ := hz
  have e : hv f l r c (max q (xS X k)) = z := e
  have hcc := Ytejolaifdjcghaa.W.allL_le h3 c hc
  have := cW_nn hF hR hL (show 0 ≤ max q (xS X k) - c.1 by omega)
  refine stp_nn ?_
  rw [← e]
  unfold hv
  omega
theorem Ng.at1 (h : Ng W0 W B f l r x0 y0 1) (hq : Word x0) (hL : 0 ≤ l) : Calls Try.prog 13 #[.pointer (some ⟨B, 0, none⟩), eU x0] W fun e W' => e = .returned (eU y0) ∧ Ng W0 W' B f l r x0 y0 1 := by
  have h' := h
  obtain ⟨S, X, Y, h1, h2, h3, h4, h5, h6, T⟩ := h
  have hz : IsLst (fun c => hv f l r c (max x0 (xS X 1))) (allL X Y 1) y0 := by
    have e : allL X Y 1 = [(x0, y0)] := by
      simp [allL, List.range_succ, cpy, h5, h6]
    have e2 : hv f l r (x0, y0) (max x0 (xS X 1)) = y0 := by
      rw [h5, Int.max_self]
      unfold hv
      dsimp only
      rw [Int.sub_self, cW_zero hL, Int.add_zero]
    rw [e]
    exact ⟨fun c hc => by simp at hc; subst hc; exact Int.le_of_eq e2.symm, (x0, y0), by simp, e2⟩
  have := ru_at h3 S B 1 x0 y0 W h4 (by omega) hq hz h1
  rw [show stp y0 = y0 by have := stp_or y0; have := h3 0; omega] at this
  exact this.mono fun e w' h => ⟨h.1, h'.below h.2⟩
theorem Ng.start (h : Ng W0 W B f l r x0 y0 k) (x y : Int) (hx : Word x) (hy : Word y) (hk : k ≤ 800) : Calls Try.prog 8 #[.pointer (some ⟨B, 0, none⟩), eU x, eU y] W fun e W' => e = .returned (.tuple #[]) ∧ Ng W0 W' B f l r x0 y0 (k + 1) := by
  obtain ⟨S, X, Y, h1, h2, h3, h4, h5, h6, T⟩ := h
  refine (ru_next h3 x y hx hy hk h1).mono ?_
  rintro e W' ⟨e1, e2, e3⟩
  have := e3.size
  have := T.size
  refine ⟨e1, _, _, _, e2, fun j hj => ?_, upd_nn h3 hy.1, by omega, ?_, by rw [upd_lt h4]; exact h6, T.trans (e3.below (fun j _ hj => (h2 j hj).1) T.size)⟩
  · rcases hj with hj | hj
    · have := h2 j hj; omega
    · omega
  · rw [← h5]
    exact xS_congr fun i hi => upd_lt (by omega)
theorem N0.start (h : N0 W0 W B f l r) (x y : Int) (hx : Word x) (hy : Word y) (e0 : min x 9223372036854775808 = x0) (e1 : min y 4611686018427387904 = y0) : Calls Try.prog 8 #[.pointer (some ⟨B, 0, none⟩), eU x, eU y] W fun e W' => e = .returned (.tuple #[]) ∧ Ng W0 W' B f l r x0 y0 1 := by
  obtain ⟨X, Y, h1, h3, T⟩ := h
  refine (ru_next h3 x y hx hy (by omega) h1).mono ?_
  rintro e W' ⟨e1', e2, e3⟩
  have := e3.size
  have := T.size
  refine ⟨e1', _, _, _, e2, fun j hj => ?_, upd_nn h3 hy.1, by omega, ?_, by rw [upd_at]; exact e1, T.trans (e3.below (fun j _ hj => hj.1) T.size)⟩
  · rcases hj with hj | hj <;> omega
  · rw [xS_upd1]
    show max _ (0 : Int) = _
    have := hx.1
    omega
/-- All that is had, at last. -/
theorem Ng.fin (h : Ng W0 W B f l r x0 y0 k) (s : Int) (hs : 0 ≤ s) (hk : k ≤ 800) (hF : 0 ≤ f) (hR : 0 ≤ r) (hL : 0 ≤ l) (hx0 : 0 ≤ x0) (hx : x0 + s < 18446744073709551616) :
    ∃ (x z : Int) (R : World → Prop), (x0 ≤ x ∧ x ≤ 9223372036854775808) ∧ z ≤ rP y0 (cAt f l r (max (x0 + s) x - x0)) ∧ R W ∧ (∀ W W', R W → Below W.heap.size W W' → R W') ∧
      (∀ W, R W → Calls Try.prog 9 #[.pointer (some ⟨B, 0, none⟩)] W fun e W' => e = .returned (.tuple #[eU x, .bool true]) ∧ W = W') ∧
      (∀ W, R W → Calls Try.prog 13 #[.pointer (some ⟨B, 0, none⟩), eU (max (x0 + s) x)] W fun e W' => e = .returned (eU z) ∧ Below W.heap.size W W') := by
  obtain ⟨S, X, Y, h1, h2, h3, h4, h5, h6, T⟩ := h
  have hlen : 0 < (allL X Y k).length := by simp [allL]; exact h4
  obtain ⟨z, hz⟩ := lst_ex (fun c => hv f l r c (max (max (x0 + s) (xS X k)) (xS X k))) hlen
  have hx1 := xS_never X k
  have hx2 : x0 ≤ xS X k := by rw [← h5]; exact xS_le X (by omega)
  have hm : (x0, y0) ∈ allL X Y k := by
    have := mem_allL (X := X) (Y := Y) h4
    unfold cpy at this
    rwa [h5, h6] at this
  have hy0 : 0 ≤ y0 ∧ y0 ≤ 4611686018427387904 := by have := h3 0; omega
  have hle := nog_num hm (show x0 ≤ max (x0 + s) (xS X k) by omega) (show xS X k ≤ max (x0 + s) (xS X k) by omega) hy0.1 hF hR hL hz
  rw [show stp y0 = y0 by have := stp_or y0; omega] at hle
  exact ⟨xS X k, stp z, fun W => Ru W S B f l r X Y k, ⟨hx2, hx1⟩, hle, h1, fun W W' h hb => h.below hb, fun W h => ru_last S B k W h4 h, fun W h => ru_at h3 S B k _ z W h4 hk ⟨by omega, by omega⟩ hz h⟩
end
set_option maxHeartbeats 8000000 in
theorem nog_run (f l r : Int) (b o : Nat) (n c : Nat) (xs : Nat → Ac) (s x0 y0 : Int) (w : World) (hf : Word f) (hl : Word l) (hr : Word r) (hR : AcRow w b o n xs) (hw : ∀ i, (xs i).word)
    (h0 : 0 < n) (hnc : n ≤ c) (h1 : ¬ (40 : Int) < (n : Int)) (h2 : ¬ 4611686018427387904 ≤ s) (hs : 0 ≤ s) (h3 : ¬ 4611686018427387904 ≤ (xs 0).x) (hx0 : min (xs 0).x 9223372036854775808 = x0) (hy0 : min (xs 0).y 4611686018427387904 = y0)
    (hN : ∀ w', Below w.heap.size w w' → Calls Try.prog 20 #[.agg #[eU f, eU l, eU r]] w' fun e w'' => ∃ B : Nat, e = .returned (.pointer (some ⟨B, 0, none⟩)) ∧ N0 w' w'' B f l r) :
    Calls Try.prog 7 #[.agg #[eU f, eU l, eU r], .slice (some ⟨b, o, none⟩) n c, eU s] w fun e w' => e = .returned (.bool true) ∧ Below w.heap.size w w' := by
  have BC := Box.new w 27 #[eU f, eU l, eU r]
  have T := up1 w (.cells #[eU f, eU l, eU r] 27)
  have hn : ((n : Int) == 0) = false := by simp only [beq_eq_false_iff_ne]; omega
  have k1 : (n : Int) ≤ (c : Int) := by omega
  have k2 : (0 : Int) < (n : Int) := by omega
  have w0 : Word (xs 0).x := (hw 0).1
  have hx00 : x0 = (xs 0).x := by omega
  have wx0 : Word x0 := by rw [hx00]; exact w0
  have xlt : x0 < 4611686018427387904 := by omega
  have wy0 : Word y0 := by have := (hw 0).2.1; unfold Word at *; omega
  have hSt0 := fun (W0 W : World) (B : Nat) (h : N0 W0 W B f l r) => h.start (xs 0).x (xs 0).y (hw 0).1 (hw 0).2.1 hx0 hy0
  have hL1 := fun (W0 W : World) (B : Nat) (h : Ng W0 W B f l r x0 y0 1) => h.first
  have hA1 := fun (W0 W : World) (B : Nat) (h : Ng W0 W B f l r x0 y0 1) => h.at1 wx0 hl.1
  have hcell : ∀ (k : Nat) w', k < n → Below w.heap.size w w' → w'.cell? ⟨b, o + k * 4, none⟩ = some (.int .u64 (xs k).x) ∧ w'.cell? ⟨b, o + k * 4 + 1, none⟩ = some (.int .u64 (xs k).y) := fun k w' hk T => by
    obtain ⟨x1, x2, _, _⟩ := (hR.below T).2 k hk
    exact ⟨x1, x2⟩
  have hcell0 : ∀ w', Below w.heap.size w w' → w'.cell? ⟨b, o, none⟩ = some (.int .u64 (xs 0).x) ∧ w'.cell? ⟨b, o + 1, none⟩ = some (.int .u64 (xs 0).y) := fun w' T => by
    have := hcell 0 w' h0 T
    simpa using this
  have hce := Lib.hid hcell
  have hce0 := Lib.hid hcell0
  have hwh := Lib.hid hw
  have hfh := Lib.hid hf
  have hlh := Lib.hid hl
  have hrh := Lib.hid hr
  clear hcell hcell0 hR hw hx0 hy0 hx00 w0 hf hl hr
  go_enter Try.func7, Try.ntmps7
  go_upto_region 6 with (first
    | (go_at_call 17; (with_reducible refine (awake_any _).mono ?_); rintro e w1 ⟨rfl, hb⟩; replace BC := BC.below hb; replace T := up T hb T.size; clear hb; obtain ⟨c0, c1, c2⟩ := BC.three)
    | (go_at_call 20; (with_reducible refine (hN _ T).mono ?_); rintro e w2 ⟨B, rfl, N⟩; obtain ⟨x1, x2⟩ := hce0.out w2 (up T N.base T.size); clear c0 c1 c2))
  have hTn : ∀ W, Below w1.heap.size w1 W → Below w.heap.size w W := fun W q => up T q T.size
  have hTh := Lib.hid hTn
  have Nh := Lib.hid N
  clear hTn hN N
  go_region_held3 (fun w' => w'.cell? ⟨b, o, none⟩ = some (.int .u64 (xs 0).x) ∧ w'.cell? ⟨b, o + 1, none⟩ = some (.int .u64 (xs 0).y))
    (first | exact ⟨x1, x2⟩ | exact hce0.out _ (hTh.out _ NG.base))
    (first | (go_at_call 8; refine (hSt0 _ _ B (by first | exact Nh.out | exact Nh.out.below (Below.refl _ _).drew)).mono ?_; rintro e w3 ⟨rfl, NG⟩))
  clear x1 x2
  go_wp2_with (first
    | (go_at_call 9; (with_reducible refine (hL1 _ _ _ NG).mono ?_); rintro e w4 ⟨rfl, NG'⟩; clear NG; have NG := NG'; clear NG')
    | (go_at_call 13; (with_reducible refine (hA1 _ _ _ NG).mono ?_); rintro e w5 ⟨rfl, NG'⟩; clear NG; have NG := NG'; clear NG'))
  have BCh := Lib.hid BC
  clear BC T Nh hSt0 hL1 hA1
  go_loopw [11] (fun s11 wr => ∃ k : Nat, s11 = .int .i64 k ∧ 0 < k ∧ k ≤ n ∧ Ng w1 wr B f l r x0 y0 k) (fun s11 _ => n - (intOf s11).toNat)
  case atStart => exact ⟨1, rfl, by omega, by omega, NG⟩
  case round =>
    clear NG
    rename World => WO
    obtain ⟨k, rfl, hk0, hk, NG⟩ := hrel
    by_cases hlt : k < n
    · have i1 : (k : Int) < (n : Int) := by omega
      have i2 : (0 : Int) ≤ (k : Int) := by omega
      obtain ⟨xk, hxk, _, hL⟩ := NG.last
      obtain ⟨x1, x2⟩ := hce.out k WO hlt (hTh.out _ NG.base)
      obtain ⟨q, hq⟩ : ∃ q, max (xs k).x xk = q := ⟨_, rfl⟩
      have wq : Word q := by
        have := (hwh.out k).1
        unfold Word at *
        omega
      have hqh := Lib.hid hq
      have wqh := Lib.hid wq
      clear wq
      go_upto_region 14 with (go_at_call 9; (with_reducible refine hL.mono ?_); rintro e w4 ⟨rfl, NG'⟩; clear NG hL; have NG := NG'; clear NG'; clear x1 x2; obtain ⟨x1, x2⟩ := hce.out k w4 hlt (hTh.out _ NG.base))
      obtain ⟨z, hz, hA⟩ := NG.at q wqh.out (by omega) hfh.out.1 hrh.out.1 hlh.out.1
      obtain ⟨m, hm⟩ : ∃ m, min (xs k).y z = m := ⟨_, rfl⟩
      have wm : Word m := by
        have := (hwh.out k).2.1
        unfold Word at *
        omega
      have wmh := Lib.hid wm
      clear wm hz hxk
      go_region_held3 (fun w' => w'.cell? ⟨b, o + k * 4 + 1, none⟩ = some (.int .u64 (xs k).y))
        (first | exact x2 | exact (hce.out k _ hlt (hTh.out _ NG.base)).2 | exact (hce.out k _ hlt (hTh.out _ NG2.base)).2)
        (first
          | (go_at_call 13; (with_reducible refine (hA _ (by first | exact Below.refl _ _ | exact (Below.refl _ _).drew)).mono ?_); rintro e w5 ⟨rfl, hb⟩; (first | replace hb := undrew hb | replace hb := undrewN hb | skip); replace NG := NG.below hb; clear hb)
          | (go_at_call 8; refine (Ng.start (by first | exact NG | exact NG.below (Below.refl _ _).drew) q m wqh.out wmh.out (by omega)).mono ?_; rintro e w6 ⟨rfl, NG2⟩))
      all_goals go_wp2
      all_goals go_roundw
      case rel => exact ⟨k + 1, by go_num, by omega, by omega, NG2⟩
      case measure => simp [intOf]; omega
    · obtain rfl : k = n := by omega
      have i1 : ¬ (k : Int) < (k : Int) := by omega
      obtain ⟨x, z, R, hx, hz, hR, hRb, hL, hA⟩ := NG.fin s hs (by omega) hfh.out.1 hrh.out.1 hlh.out.1 wx0.1 (by omega)
      have T := hTh.out _ NG.base
      have BC := Box.below BCh.out NG.base
      obtain ⟨q, hq⟩ : ∃ q, max (x0 + s) x = q := ⟨_, rfl⟩
      rw [hq] at hz hA
      have hq0 : x0 ≤ q ∧ q ≤ 9223372036854775808 := by omega
      have e1 : IntKind.u64.wrap (x0 + s) = x0 + s := u64_id _ ⟨by have := wx0.1; omega, by omega⟩
      have e2 : IntKind.u64.wrap (q - x0) = q - x0 := u64_id _ ⟨by omega, by have := wx0.1; omega⟩
      have hC := fun w => At_any f l r (q - x0) w hfh.out hlh.out hrh.out ⟨by omega, by have := wx0.1; omega⟩
      have cb : Word (cAt f l r (q - x0)) := by
        have := stp_or (cW f l r (q - x0))
        have := cW_nn hfh.out.1 hrh.out.1 hlh.out.1 (show 0 ≤ q - x0 by omega)
        unfold cAt Word
        omega
      have hP := fun w => rPlus'_any y0 (cAt f l r (q - x0)) w wy0 cb
      clear NG hx hq0 cb
      go_upto_region 17 with (go_at_call 9; (with_reducible refine (hL _ hR).mono ?_); rintro e w4 ⟨rfl, rfl⟩)
      obtain ⟨c0, c1, c2⟩ := BC.three
      go_region_held3 (fun w' => w'.cell? ⟨w.heap.size, 0, none⟩ = some (.int .u64 f) ∧ w'.cell? ⟨w.heap.size, 1, none⟩ = some (.int .u64 l) ∧ w'.cell? ⟨w.heap.size, 2, none⟩ = some (.int .u64 r))
        (first | exact ⟨c0, c1, c2⟩ | exact BC.three)
        (first
          | (go_at_call 13; (with_reducible refine (hA _ (by first | exact hR | exact hRb _ _ hR (Below.refl _ _).drew)).mono ?_); rintro e w5 ⟨rfl, hb⟩; (first | replace hb := undrew hb | replace hb := undrewN hb | skip); replace hR := hRb _ _ hR hb; replace BC := BC.below hb; replace T := up T hb T.size; clear hb)
          | (go_at_call 19; (with_reducible refine (hC _).mono ?_); rintro e w6 ⟨rfl, hb⟩; (first | replace hb := undrew hb | replace hb := undrewN hb | skip); replace hR := hRb _ _ hR hb; replace BC := BC.below hb; replace T := up T hb T.size; clear hb)
          | (go_at_call 21; (with_reducible refine (hP _).mono ?_); rintro e w7 ⟨rfl, hb⟩; (first | replace hb := undrew hb | replace hb := undrewN hb | skip); replace hR := hRb _ _ hR hb; replace BC := BC.below hb; replace T := up T hb T.size; clear hb))
      all_goals go_wp2
      all_goals go_ret
      all_goals exact ⟨rfl, T⟩
theorem RunNoGain_walk (f l r : Int) (a : Option Addr) (n c : Nat) (xs : Nat → Ac) (s : Int) (w : World) (hf : Word f) (hl : Word l) (hr : Word r) (hI : IsAcs w a n c xs) (hw : ∀ i, (xs i).word) (hcm : c ≤ maxLen) (hnn : a = none → n = 0 ∧ c = 0) (hs : Word s) :
    Calls Try.prog 7 #[.agg #[eU f, eU l, eU r], .slice a n c, eU s] w fun e w' => e = .returned (.bool true) ∧ Below w.heap.size w w' := by
  have hN := fun w => ru_new f l r (fun _ => 0) (fun _ => 0) w hf hl hr
  by_cases hcv : CvR f l r
  · have hN2 : ∀ w', Below w.heap.size w w' → Calls Try.prog 20 #[.agg #[eU f, eU l, eU r]] w' fun e w'' => ∃ B : Nat, e = .returned (.pointer (some ⟨B, 0, none⟩)) ∧ N0 w' w'' B f l r := fun w' T => (hN w').mono fun e w'' h => by
      obtain ⟨h1, h2⟩ := h
      rcases h1 with ⟨_, B, e1, e2⟩ | ⟨h1, _⟩
      · exact ⟨B, e1, _, _, e2, fun _ => Int.le_refl _, h2⟩
      · exact absurd hcv h1
    by_cases hout : n = 0 ∨ (0 < n ∧ ((40 : Int) < (n : Int) ∨ (¬ (40 : Int) < (n : Int) ∧ (4611686018427387904 ≤ s ∨ (¬ 4611686018427387904 ≤ s ∧ 4611686018427387904 ≤ (xs 0).x)))))
    · exact nog_out f l r a n c xs s w hI (fun w' T => (hN2 w' T).mono fun e w'' h => by obtain ⟨B, e1, h2⟩ := h; exact ⟨⟨B, e1⟩, h2.base⟩) hout
    · have h0 : 0 < n := by omega
      obtain ⟨b, o, rfl, hR⟩ : ∃ b o, a = some ⟨b, o, none⟩ ∧ AcRow w b o n xs := by
        rcases hI.2 with h | h
        · omega
        · exact h
      exact nog_run f l r b o n c xs s _ _ w hf hl hr hR hw h0 hI.1 (by omega) (by omega) hs.1 (by omega) rfl rfl hN2
  · exact nog_no f l r a n c s w fun w' T => (hN w').mono fun e w'' h => by
      obtain ⟨h1, h2⟩ := h
      rcases h1 with ⟨h1, _⟩ | ⟨_, h1⟩
      · exact absurd h1 hcv
      · exact ⟨h1, h2⟩
end Go.Proofs.Ytejolaifdjcghaa
