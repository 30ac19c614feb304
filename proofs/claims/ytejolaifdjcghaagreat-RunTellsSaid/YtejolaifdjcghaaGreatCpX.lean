/- The document's copies, behind so many starts: all calls. -/
import Derived.Test.YtejolaifdjcghaaGreatCpR
import Derived.Test.YtejolaifdjcghaaGreatRch
namespace Go.Proofs.YtejolaifdjcghaaGreat
open Go.RowKit Go.Shelf W
set_option linter.unusedVariables false
set_option maxRecDepth 100000
namespace W
def xsL (X : Nat → Int) (n : Nat) : List Int := (List.range n).map (fun k => xS X (k + 1))
def ysL (Y : Nat → Int) (n : Nat) : List Int := (List.range n).map (fun k => min (Y k) 4611686018427387904)
theorem xsL_len (X : Nat → Int) (n : Nat) : (xsL X n).length = n := by simp [xsL]
theorem ysL_len (X : Nat → Int) (n : Nat) : (ysL X n).length = n := by simp [ysL]
theorem xsL_succ (X : Nat → Int) (n : Nat) : xsL X (n + 1) = xsL X n ++ [xS X (n + 1)] := by simp [xsL, List.range_succ]
theorem ysL_succ (Y : Nat → Int) (n : Nat) : ysL Y (n + 1) = ysL Y n ++ [min (Y n) 4611686018427387904] := by simp [ysL, List.range_succ]
theorem xsL_at (X : Nat → Int) {n k : Nat} (h : k < n) : (xsL X n).getD k 0 = xS X (k + 1) := by simp [xsL, List.getD, h]
theorem ysL_at (Y : Nat → Int) {n k : Nat} (h : k < n) : (ysL Y n).getD k 0 = min (Y k) 4611686018427387904 := by simp [ysL, List.getD, h]
end W
theorem Cp.last {X : Nat → Int} (n : Nat) : lastOf (xsL X n) = xS X n := by
  unfold lastOf
  rw [xsL_len]
  rcases Nat.eq_zero_or_pos n with h | h
  · subst h; rfl
  · rw [xsL_at X (by omega), show n - 1 + 1 = n by omega]
/-- Block B holds the document's copies of a curve behind n starts; all lies at m or behind. -/
def Rc (w : World) (m B : Nat) (f l r : Int) (X Y : Nat → Int) (n : Nat) : Prop := ∃ vX vY, Cp m w B f l r (xsL X n) (ysL Y n) vX vY
theorem Rc.below {W w : World} {m B : Nat} {f l r : Int} {X Y : Nat → Int} {n : Nat} (h : Rc W m B f l r X Y n) (hb : Below W.heap.size W w) : Rc w m B f l r X Y n := by
  obtain ⟨vX, vY, h⟩ := h
  exact ⟨vX, vY, h.below hb⟩
theorem Rc.drew {W : World} {m B : Nat} {f l r : Int} {X Y : Nat → Int} {n : Nat} (h : Rc W m B f l r X Y n) : Rc W.drew m B f l r X Y n := h.below (Below.refl _ _).drew
theorem Rc.lt {W : World} {m B : Nat} {f l r : Int} {X Y : Nat → Int} {n : Nat} (h : Rc W m B f l r X Y n) : B < W.heap.size := by
  obtain ⟨vX, vY, h⟩ := h
  exact h.box.lt
theorem Rc.len {W : World} {m B : Nat} {f l r : Int} {X Y : Nat → Int} {n : Nat} (h : Rc W m B f l r X Y n) : ∃ a cap, W.cell? ⟨B, 3, none⟩ = some (.slice a n cap) := by
  obtain ⟨vX, vY, h⟩ := h
  obtain ⟨a, cap, rfl, _⟩ := wOwn_len h.rx
  have := h.cells.2.2.2.1
  rw [xsL_len] at this
  exact ⟨a, cap, this⟩
/-- What leaves all boxes but those of two other types leaves it. -/
theorem Rc.keep {W w : World} {m B : Nat} {f l r : Int} {X Y : Nat → Int} {n : Nat} (h : Rc W m B f l r X Y n) (hk : ∀ k u t, Box W k u t → t ≠ 136 → t ≠ 71 → Box w k u t) : Rc w m B f l r X Y n := by
  obtain ⟨vX, vY, h⟩ := h
  have row : ∀ {v : Value} {n : Nat} {xs : List Value}, W.ownsRow m 22 1 v n xs → w.ownsRow m 22 1 v n xs := fun {v n xs} q => by
    refine ⟨q.1, q.2.imp id fun ⟨g, cap, cur, e, h1, h2, h3⟩ => ⟨g, cap, cur, e, h1, ?_, h3⟩⟩
    exact hk g cur 22 h2 (by decide) (by decide)
  exact ⟨vX, vY, hk _ _ _ h.box (by decide) (by decide), row h.rx, row h.ry, h.ne⟩
section
variable {f l r : Int} {X Y : Nat → Int} (hf : 0 ≤ f ∧ f ≤ 1048576) (hl : Word l) (hr : 0 ≤ r ∧ r ≤ 1048576) (hY : ∀ k, 0 ≤ Y k)
theorem rc_last (m B n : Nat) (w : World) (hn : n ≤ 1000) (h : Rc w m B f l r X Y n) : Calls Tryz.prog 32 #[.pointer (some ⟨B, 0, none⟩)] w fun e w' => e = .returned (eU (xS X n)) ∧ Below w.heap.size w w' := by
  obtain ⟨vX, vY, h⟩ := h
  have := c_last m B f l r _ _ vX vY w (by rw [xsL_len]; omega) h
  rwa [Cp.last] at this
theorem rc_start (m B n : Nat) (w : World) (hn : n ≤ 900) (hmB : m ≤ B) (h : Rc w m B f l r X Y n) :
    Calls Tryz.prog 28 #[.pointer (some ⟨B, 0, none⟩), eU (X n), eU (Y n)] w fun e w' => e = .returned (.tuple #[]) ∧ Rc w' m B f l r X Y (n + 1) ∧ Below m w w' ∧ ∀ k u t, Box w k u t → t ≠ 22 → t ≠ 63 → Box w' k u t := by
  have hlt := h.lt
  obtain ⟨vX, vY, h⟩ := h
  refine (c_start m B f l r (X n) (Y n) _ _ (xS X (n + 1)) (xsL X n) (ysL Y n) vX vY w (by rw [xsL_len]; omega) (by rw [ysL_len]; omega) (by omega) hmB rfl (by rw [Cp.last, xS_succ]) rfl h).mono ?_
  rintro e w' ⟨rfl, ⟨uX, uY, h1⟩, h2, h3⟩
  refine ⟨rfl, ⟨uX, uY, ?_⟩, h2, h3⟩
  rw [xsL_succ, ysL_succ]
  exact h1
include hf hl hr hY
theorem cpy_big {t : Int} (ht : Word t) (k : Nat) (hx : xS X (k + 1) ≤ t) : 0 ≤ hv f l r (cpy X Y k) t ∧ hv f l r (cpy X Y k) t < 170141183460469231731687303715884105728 :=
  hv_big hf hl.1 hr ht (by have := xS_nn X (k + 1); have := xS_never X (k + 1); show Word (xS X (k + 1)); unfold Word; omega) (by have := hY k; show Word (min (Y k) 4611686018427387904); unfold Word; omega) hx
theorem rc_plus (k : Nat) (t : Int) (w : World) (ht : Word t) (hx : xS X (k + 1) ≤ t) :
    Calls Tryz.prog 57 #[.agg #[eU (hiW (cW f l r (t - xS X (k + 1)))), eU (loW (cW f l r (t - xS X (k + 1))))], .agg #[eU 0, eU (min (Y k) 4611686018427387904)]] w fun e w' => e = .returned (.tuple #[.agg #[eU (hiW (hv f l r (cpy X Y k) t)), eU (loW (hv f l r (cpy X Y k) t))], eI 0]) ∧ Below w.heap.size w w' := by
  obtain ⟨v0, v1⟩ := cpy_big hf hl hr hY ht k hx
  have hxn := xS_nn X (k + 1)
  have hd : Word (t - xS X (k + 1)) := ⟨by omega, by have := ht.2; omega⟩
  have hYk := hY k
  have hyw : Word (min (Y k) 4611686018427387904) := ⟨by omega, by omega⟩
  have hcn := cW_nn (F := f) (L := l) (R := r) hf.1 hr.1 hl.1 hd.1
  have e : hv f l r (cpy X Y k) t = min (Y k) 4611686018427387904 + cW f l r (t - xS X (k + 1)) := rfl
  have hP := rPlus_any (hiW (cW f l r (t - xS X (k + 1)))) (loW (cW f l r (t - xS X (k + 1)))) 0 (min (Y k) 4611686018427387904) w (hiW_word ⟨hcn, by omega⟩) (loW_word _) ⟨by omega, by omega⟩ hyw
  obtain ⟨p1, p2, p3⟩ := @pOk (hiW (cW f l r (t - xS X (k + 1)))) (loW (cW f l r (t - xS X (k + 1)))) 0 (min (Y k) 4611686018427387904) (hiW (hv f l r (cpy X Y k) t)) (loW (hv f l r (cpy X Y k) t)) (by rw [V_hl, V_hl, e]; unfold V; omega) (loW_word _) (hiW_word ⟨v0, by omega⟩)
  rw [p1, p2, p3] at hP
  exact hP
theorem rc_one (m B n k : Nat) (t : Int) (w : World) (ht : Word t) (hx : xS X n ≤ t) (hk : k < n) (h : Rc w m B f l r X Y n) :
    Calls Tryz.prog 49 #[.pointer (some ⟨B, 0, none⟩), .int .i64 k, eU t] w fun e w' => e = .returned (.agg #[eU (hiW (hv f l r (cpy X Y k) t)), eU (loW (hv f l r (cpy X Y k) t))]) ∧ Below w.heap.size w w' := by
  obtain ⟨vX, vY, h⟩ := h
  have hxk : xS X (k + 1) ≤ t := Int.le_trans (xS_le X (by omega)) hx
  have hxn := xS_nn X (k + 1)
  have hd : Word (t - xS X (k + 1)) := ⟨by omega, by have := ht.2; omega⟩
  exact c_one m B f l r _ _ vX vY w k t (t - xS X (k + 1)) (xS X (k + 1)) (min (Y k) 4611686018427387904) _ _ _ _ (by rw [xsL_len]; exact hk) (by rw [ysL_len]; exact hk) (xsL_at X hk) (ysL_at Y hk) (u64_id _ hd) (fun w => kWide_any f l r _ w ⟨hf.1, by omega⟩ hl ⟨hr.1, by omega⟩ hd) (fun w => rc_plus hf hl hr hY k t w ht hxk) h
theorem rc_at (m B n : Nat) (t v : Int) (w : World) (ht : Word t) (hn : 0 < n) (hn2 : n ≤ 1000) (hv' : IsLst (fun k => hv f l r k (max t (xS X n))) (allL X Y n) v) (h : Rc w m B f l r X Y n) :
    Calls Tryz.prog 33 #[.pointer (some ⟨B, 0, none⟩), eU t] w fun e w' => e = .returned (eU (stp v)) ∧ Below w.heap.size w w' := by
  have hx0 := xS_nn X n
  have hx1 := xS_never X n
  have hm : Word (max t (xS X n)) := by have := ht.1; have := ht.2; unfold Word; omega
  obtain ⟨q, hmm⟩ : ∃ q, max t (xS X n) = q := ⟨_, rfl⟩
  have hxm : xS X n ≤ q := by omega
  rw [hmm] at hm hv'
  have hb : ∀ k, k < n → 0 ≤ hv f l r (cpy X Y k) q ∧ hv f l r (cpy X Y k) q < 170141183460469231731687303715884105728 := fun k hk => cpy_big hf hl hr hY hm k (Int.le_trans (xS_le X (by omega)) hxm)
  have e : v = minV (fun k => hv f l r (cpy X Y k) q) (n - 1) := by
    obtain ⟨l1, c, hc, l2⟩ := hv'
    have l2 : hv f l r c q = v := l2
    obtain ⟨k, hk, rfl⟩ := allL_mem hc
    obtain ⟨j, hj, ej⟩ := minV_ex (fun k => hv f l r (cpy X Y k) q) (n - 1)
    have h2 : _ ≤ hv f l r (cpy X Y k) q := minV_le (fun k => hv f l r (cpy X Y k) q) (show k ≤ n - 1 by omega)
    have h1 : v ≤ hv f l r (cpy X Y j) q := l1 _ (mem_allL (show j < n by omega))
    have ej : _ = hv f l r (cpy X Y j) q := ej
    omega
  rw [e]
  obtain ⟨j, hj, ej⟩ := minV_ex (fun k => hv f l r (cpy X Y k) q) (n - 1)
  have hbj := hb j (by omega)
  have ej : minV (fun k => hv f l r (cpy X Y k) q) (n - 1) = hv f l r (cpy X Y j) q := ej
  rw [← ej] at hbj
  obtain ⟨a, cap, c3⟩ := h.len
  refine c_at B n t (xS X n) q _ a cap w hn c3 hmm (rc_last m B n w hn2 h) (fun w' T => c_wide B n q (fun k => hv f l r (cpy X Y k) q) (fun w => Rc w m B f l r X Y n) (fun w w' h hb => h.below hb) (fun w h => h.len) (fun k w hk h => rc_one hf hl hr hY m B n k q w hm hxm hk h) (fun k hk => ⟨(hb k hk).1, by have := (hb k hk).2; omega⟩) hn hn2 w' (h.below T)) (fun w => ?_)
  have := rStop_any (hiW (minV (fun k => hv f l r (cpy X Y k) q) (n - 1))) (loW (minV (fun k => hv f l r (cpy X Y k) q) (n - 1))) w (hiW_word ⟨hbj.1, by omega⟩) (loW_word _)
  rw [V_hl] at this
  exact this
theorem rc_reach (m B n : Nat) (y v : Int) (w : World) (hn : 0 < n) (hn2 : n ≤ 1000) (hv' : IsRch f l r y (xS X n) (allL X Y n) v) (h : Rc w m B f l r X Y n) :
    Calls Tryz.prog 34 #[.pointer (some ⟨B, 0, none⟩), eU y] w fun e w' => e = .returned (eU v) ∧ Below w.heap.size w w' := by
  have hx0 := xS_nn X n
  have hx1 := xS_never X n
  obtain ⟨a, cap, c3⟩ := h.len
  have hlen : 0 < (allL X Y n).length := by simp [allL]; exact hn
  have hA : ∀ t, ∃ z, IsLst (fun k => hv f l r k (max t (xS X n))) (allL X Y n) z := fun t => lst_ex _ hlen
  let A : Int → Int := fun t => stp (Classical.choose (hA t))
  have hAs : ∀ t, ∃ z, IsLst (fun k => hv f l r k (max t (xS X n))) (allL X Y n) z ∧ A t = stp z := fun t => ⟨_, Classical.choose_spec (hA t), rfl⟩
  have hAc := fun t w' (ht : Word t) (T : Below w.heap.size w w') => rc_at hf hl hr hY m B n t _ w' ht hn hn2 (Classical.choose_spec (hA t)) (h.below T)
  have hAt : ∀ t y, xS X n ≤ t → ((∀ k ∈ allL X Y n, y ≤ stp (hv f l r k t)) ↔ y ≤ A t) := fun t y ht => by
    obtain ⟨z, ⟨p1, c, hc, p2⟩, e⟩ := hAs t
    rw [show max t (xS X n) = t by omega] at p1 p2
    have p2 : hv f l r c t = z := p2
    rw [e]
    constructor
    · intro q
      rw [← p2]
      exact q c hc
    · intro q k hk
      exact Int.le_trans q (stp_mono (p1 k hk))
  have hall := allL_le (X := X) (n := n) hY
  obtain ⟨g1, g2, g3⟩ := hv'
  rcases Int.lt_or_le (A 9223372036854775807) y with hlt | hle
  · have e : 9223372036854775808 = v := by
      rcases Int.lt_or_le v 9223372036854775808 with c | c
      · exfalso
        have h1 := (g3 9223372036854775807 (by omega) (by omega)).2 (by omega)
        have := (hAt 9223372036854775807 y (by omega)).1 h1
        omega
      · omega
    rw [← e]
    exact c_reach_far B n y _ a cap w hn c3 hlt (hAc _ w ⟨by omega, by omega⟩ (Below.refl _ _))
  · refine (c_reach B n (xS X n) y 0 A a cap w hn c3 hx0 hx1 hle (fun t w' ht T => hAc t w' ⟨by omega, by omega⟩ T) (fun w' T => rc_last m B n w' hn2 (h.below T))).mono ?_
    rintro e w' ⟨⟨z, rfl, z1, z2, z3⟩, T⟩
    refine ⟨?_, T⟩
    have e : z = v := by
      rcases z3 with ⟨z3, z4⟩ | ⟨z3, z4, z5⟩
      · omega
      · have h1 := (g3 z z1 z3).1 ((hAt z y z1).2 z4)
        rcases z5 with z5 | z5
        · omega
        · rcases Int.lt_or_le v z with c | c
          · exfalso
            have h2 := (g3 (z - 1) (by omega) (by omega)).2 (by omega)
            have := (hAt (z - 1) y (by omega)).1 h2
            omega
          · omega
    rw [e]
end
end Go.Proofs.YtejolaifdjcghaaGreat
