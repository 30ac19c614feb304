/- A run behind so many starts, as an object: all its calls. -/
import Derived.Test.YtejolaifdjcghaaGreatSgR
namespace Go.Proofs.YtejolaifdjcghaaGreat
open Go.RowKit Go.Shelf W
set_option linter.unusedVariables false
set_option maxRecDepth 100000
theorem sg_at_of (B : Nat) (f l r : Int) (a : Option Addr) (n c : Nat) (x k t z : Int) (md : Bool) (w : World) (h : SgB w B f l r (.slice a n c) x k md) (hn : 0 < n)
    (hL : Calls Tryz.prog 107 #[.pointer (some ⟨B, 0, none⟩), .agg #[eU f, eU l, eU r], eU t] w fun e w' => e = .returned (eU z) ∧ Below w.heap.size w w') :
    Calls Tryz.prog 100 #[.pointer (some ⟨B, 0, none⟩), eU t] w fun e w' => e = .returned (eU z) ∧ Below w.heap.size w w' := by
  have hS := sg_kept_any B f l r a n c x k md w h
  have hn0 : ((n : Int) == 0) = false := by simp only [beq_eq_false_iff_ne]; omega
  obtain ⟨c0, c1, c2, c3, c4, c5, c6, c7, c8, c9⟩ := h.cells
  clear h
  go_enter Tryz.func100, Tryz.ntmps100
  go_wp2_with (first
    | (go_at_call 106; (with_reducible refine hS.mono ?_); rintro e w1 ⟨rfl, rfl⟩)
    | (go_at_call 107; (with_reducible refine hL.mono ?_); rintro e w1 ⟨rfl, T⟩))
  go_ret
  exact ⟨rfl, T⟩
theorem sg_line_of (B : Nat) (f l r : Int) (a : Option Addr) (n c : Nat) (x k t z : Int) (md : Bool) (w : World) (h : SgB w B f l r (.slice a n c) x k md) (hn : 0 < n)
    (hL : Calls Tryz.prog 107 #[.pointer (some ⟨B, 0, none⟩), .agg #[eU 0, eU 0, eU r], eU t] w fun e w' => e = .returned (eU z) ∧ Below w.heap.size w w') :
    Calls Tryz.prog 123 #[.pointer (some ⟨B, 0, none⟩), eU t] w fun e w' => e = .returned (eU z) ∧ Below w.heap.size w w' := by
  have hS := sg_kept_any B f l r a n c x k md w h
  have hn0 : ((n : Int) == 0) = false := by simp only [beq_eq_false_iff_ne]; omega
  obtain ⟨c0, c1, c2, c3, c4, c5, c6, c7, c8, c9⟩ := h.cells
  clear h
  go_enter Tryz.func123, Tryz.ntmps123
  go_wp2_with (first
    | (go_at_call 106; (with_reducible refine hS.mono ?_); rintro e w1 ⟨rfl, rfl⟩)
    | (go_at_call 107; (with_reducible refine hL.mono ?_); rintro e w1 ⟨rfl, T⟩))
  go_ret
  exact ⟨rfl, T⟩
theorem sg_reach_of (B : Nat) (f l r : Int) (a : Option Addr) (n c : Nat) (x k t z : Int) (md : Bool) (w : World) (h : SgB w B f l r (.slice a n c) x k md) (hn : 0 < n)
    (hL : Calls Tryz.prog 109 #[.pointer (some ⟨B, 0, none⟩), .agg #[eU f, eU l, eU r], eU t] w fun e w' => e = .returned (eU z) ∧ Below w.heap.size w w') :
    Calls Tryz.prog 102 #[.pointer (some ⟨B, 0, none⟩), eU t] w fun e w' => e = .returned (eU z) ∧ Below w.heap.size w w' := by
  have hS := sg_kept_any B f l r a n c x k md w h
  have hn0 : ((n : Int) == 0) = false := by simp only [beq_eq_false_iff_ne]; omega
  obtain ⟨c0, c1, c2, c3, c4, c5, c6, c7, c8, c9⟩ := h.cells
  clear h
  go_enter Tryz.func102, Tryz.ntmps102
  go_wp2_with (first
    | (go_at_call 106; (with_reducible refine hS.mono ?_); rintro e w1 ⟨rfl, rfl⟩)
    | (go_at_call 109; (with_reducible refine hL.mono ?_); rintro e w1 ⟨rfl, T⟩))
  go_ret
  exact ⟨rfl, T⟩
theorem sg_ahead_of (B : Nat) (f l r : Int) (a : Option Addr) (n c : Nat) (x k t z : Int) (md : Bool) (w : World) (h : SgB w B f l r (.slice a n c) x k md) (hn : 0 < n)
    (hL : Calls Tryz.prog 109 #[.pointer (some ⟨B, 0, none⟩), .agg #[eU 0, eU 0, eU r], eU t] w fun e w' => e = .returned (eU z) ∧ Below w.heap.size w w') :
    Calls Tryz.prog 124 #[.pointer (some ⟨B, 0, none⟩), eU t] w fun e w' => e = .returned (eU z) ∧ Below w.heap.size w w' := by
  have hS := sg_kept_any B f l r a n c x k md w h
  have hn0 : ((n : Int) == 0) = false := by simp only [beq_eq_false_iff_ne]; omega
  obtain ⟨c0, c1, c2, c3, c4, c5, c6, c7, c8, c9⟩ := h.cells
  clear h
  go_enter Tryz.func124, Tryz.ntmps124
  go_wp2_with (first
    | (go_at_call 106; (with_reducible refine hS.mono ?_); rintro e w1 ⟨rfl, rfl⟩)
    | (go_at_call 109; (with_reducible refine hL.mono ?_); rintro e w1 ⟨rfl, T⟩))
  go_ret
  exact ⟨rfl, T⟩
/-- Block B holds a run of a curve behind n starts; those in K are kept; all lies at m or behind. -/
def Rg (w : World) (m B : Nat) (f l r : Int) (X Y : Nat → Int) (n : Nat) (K : List (Int × Int)) : Prop :=
  KeptOk f l r X Y n K ∧ ∃ v, SgB w B f l r v (xS X n) n true ∧ KeptAt w m v K ∧ (K = [] → v = .slice none 0 0)
section
variable {w W : World} {m B : Nat} {f l r : Int} {X Y : Nat → Int} {n : Nat} {K : List (Int × Int)}
theorem Rg.below (h : Rg W m B f l r X Y n K) (hb : Below W.heap.size W w) : Rg w m B f l r X Y n K := by
  obtain ⟨h1, v, h2, h3, h4⟩ := h
  exact ⟨h1, v, h2.below hb, h3.below hb, h4⟩
theorem Rg.drew (h : Rg W m B f l r X Y n K) : Rg W.drew m B f l r X Y n K := h.below (Below.refl _ _).drew
theorem Rg.lt (h : Rg W m B f l r X Y n K) : B < W.heap.size := by
  obtain ⟨h1, v, h2, h3, h4⟩ := h
  exact h2.lt
/-- What leaves all boxes but those of two other types leaves it. -/
theorem Rg.keep {t1 t2 : TypeId} (h : Rg W m B f l r X Y n K) (hk : ∀ k u t, Box W k u t → t ≠ t1 → t ≠ t2 → Box w k u t) (h1 : 71 ≠ t1) (h2 : 71 ≠ t2) (h3 : 136 ≠ t1) (h4 : 136 ≠ t2) : Rg w m B f l r X Y n K := by
  obtain ⟨a, v, b, c, d⟩ := h
  refine ⟨a, v, hk _ _ _ b h1 h2, c.of fun g hg => ?_, d⟩
  rcases c with ⟨rfl, _⟩ | ⟨g', o, cap, rfl, _, cur, hc, _⟩
  · cases hg
  · obtain rfl : g' = g := by simpa [Value.ownBlock] using hg
    have : Box W g' cur 136 := hc
    exact (hk _ _ _ this h3 h4).trans hc.symm
theorem Rg.words (h : Rg W m B f l r X Y n K) : ∀ k ∈ K, 0 ≤ k.1 ∧ k.1 ≤ xS X n ∧ 0 ≤ k.2 ∧ k.2 ≤ 4611686018427387904 := h.1.good.1
end
section
variable {f l r : Int} {X Y : Nat → Int} (hc : CvS f l r) (hY : ∀ k, 0 ≤ Y k)
theorem rg_starts (m B n : Nat) (K : List (Int × Int)) (w : World) (h : Rg w m B f l r X Y n K) : Calls Tryz.prog 104 #[.pointer (some ⟨B, 0, none⟩)] w fun e w' => e = .returned (eI n) ∧ w = w' := by
  obtain ⟨h1, v, h2, h3, h4⟩ := h
  exact sg_starts_any B _ _ _ v _ _ _ w h2
theorem rg_kept (m B n : Nat) (K : List (Int × Int)) (w : World) (h : Rg w m B f l r X Y n K) : Calls Tryz.prog 106 #[.pointer (some ⟨B, 0, none⟩)] w fun e w' => e = .returned (eI K.length) ∧ w = w' := by
  obtain ⟨h1, v, h2, h3, h4⟩ := h
  obtain ⟨a, c, rfl, _⟩ := h3.len
  exact sg_kept_any B _ _ _ a _ c _ _ _ w h2
theorem rg_last (m B n : Nat) (K : List (Int × Int)) (w : World) (hn : 0 < n) (h : Rg w m B f l r X Y n K) : Calls Tryz.prog 101 #[.pointer (some ⟨B, 0, none⟩)] w fun e w' => e = .returned (.tuple #[eU (xS X n), .bool true]) ∧ w = w' := by
  obtain ⟨h1, v, h2, h3, h4⟩ := h
  exact sg_last_any B _ _ _ v _ _ _ w h2 (by simp only [beq_eq_false_iff_ne]; omega)
theorem rg_last0 (m B : Nat) (K : List (Int × Int)) (w : World) (h : Rg w m B f l r X Y 0 K) : Calls Tryz.prog 101 #[.pointer (some ⟨B, 0, none⟩)] w fun e w' => e = .returned (.tuple #[eU 0, .bool false]) ∧ w = w' :=
  sg_last_none _ w (rg_starts m B 0 K w h)
theorem rg_kept0 (m B : Nat) (K : List (Int × Int)) (w : World) (h : Rg w m B f l r X Y 0 K) : Calls Tryz.prog 106 #[.pointer (some ⟨B, 0, none⟩)] w fun e w' => e = .returned (eI 0) ∧ w = w' := by
  have := rg_kept m B 0 K w h
  rw [h.1.nil rfl] at this
  exact this
include hc hY
theorem rg_at (m B n : Nat) (K : List (Int × Int)) (t v : Int) (w : World) (hn : 0 < n) (hn2 : n ≤ 800) (ht : Word t) (hv' : IsLst (fun k => hv f l r k (max t (xS X n))) (allL X Y n) v) (h : Rg w m B f l r X Y n K) :
    Calls Tryz.prog 100 #[.pointer (some ⟨B, 0, none⟩), eU t] w fun e w' => e = .returned (eU (stp v)) ∧ Below w.heap.size w w' := by
  obtain ⟨hf, hl, hr, hm, hfr⟩ := id hc
  obtain ⟨hf1, hr1, hl1, _⟩ := id hm
  obtain ⟨h1, u, h2, h3, h4⟩ := h
  have hp := h1.pos hn
  have hlen := h1.len
  obtain ⟨g, o, cap, rfl, hmg, hR⟩ := h3.some hp
  have hg := h1.good
  obtain ⟨z, hz⟩ := lst_ex (fun k => hv f l r k (max t (xS X n))) (A := K) hp
  have e := (hz.cover h1.sub (h1.beats hc hY (by omega))).unique hv'
  subst e
  exact sg_at_of B f l r _ _ _ _ _ t _ true w h2 hp (sg_least B g o cap K f l r f l r (xS X n) n t _ _ true w h2 hR hp (by omega) rfl ht ⟨xS_nn _ _, xS_never _ _⟩ hf ⟨hl.1, hl1⟩ hr hg.1
    (fun i j hi hj hij => by
      rcases Nat.lt_or_ge i j with h | h
      · exact (hg.lt hi hj h).1
      · obtain rfl : i = j := by omega
        exact Int.le_refl _)
    (fun i hi j hj => hg.least hf.1 hr.1 hl.1 (by omega) hi hj) hz)
theorem rg_line (m B n : Nat) (K : List (Int × Int)) (t v : Int) (w : World) (hn : 0 < n) (hn2 : n ≤ 800) (ht : Word t) (hv' : IsLst (fun k => hv 0 0 r k (max t (xS X n))) (allL X Y n) v) (h : Rg w m B f l r X Y n K) :
    Calls Tryz.prog 123 #[.pointer (some ⟨B, 0, none⟩), eU t] w fun e w' => e = .returned (eU (stp v)) ∧ Below w.heap.size w w' := by
  obtain ⟨hf, hl, hr, hm, hfr⟩ := id hc
  obtain ⟨hf1, hr1, hl1, _⟩ := id hm
  obtain ⟨h1, u, h2, h3, h4⟩ := h
  have hp := h1.pos hn
  have hlen := h1.len
  obtain ⟨g, o, cap, rfl, hmg, hR⟩ := h3.some hp
  have hg := h1.good
  obtain ⟨z, hz⟩ := lst_ex (fun k => hv 0 0 r k (max t (xS X n))) (A := K) hp
  have e := (hz.cover h1.sub (h1.beatsL hY (by omega))).unique hv'
  subst e
  have z0 : Word 0 := ⟨by omega, by omega⟩
  exact sg_line_of B f l r _ _ _ _ _ t _ true w h2 hp (sg_least B g o cap K f l r 0 0 r (xS X n) n t _ _ true w h2 hR hp (by omega) rfl ht ⟨xS_nn _ _, xS_never _ _⟩ z0 ⟨by omega, by omega⟩ hr hg.1
    (fun i j hi hj hij => by
      rcases Nat.lt_or_ge i j with h | h
      · exact (hg.lt hi hj h).1
      · obtain rfl : i = j := by omega
        exact Int.le_refl _)
    (fun i hi j hj => by
      have hin : i = K.length := by
        rcases Nat.lt_or_ge i K.length with h | h
        · obtain ⟨h5, h6⟩ := hi.2.2 i (Nat.le_refl _) h
          have := (hg.get h).2.1
          omega
        · have := hi.1; omega
      obtain ⟨q, hq, hw, hle⟩ := hg.leastL (t := max t (xS X n)) hin hj
      have := (hg.get hq).2.1
      have := (hg.get hj).2.1
      exact ⟨q, hq, hw, by rw [hv_straight (by omega), hv_straight (by omega)]; exact hle⟩) hz)
theorem rg_reach (m B n : Nat) (K : List (Int × Int)) (y v : Int) (w : World) (hn : 0 < n) (hn2 : n ≤ 800) (hy : Word y) (hv' : IsRch f l r y (xS X n) (allL X Y n) v) (h : Rg w m B f l r X Y n K) :
    Calls Tryz.prog 102 #[.pointer (some ⟨B, 0, none⟩), eU y] w fun e w' => e = .returned (eU v) ∧ Below w.heap.size w w' := by
  obtain ⟨hf, hl, hr, hm, hfr⟩ := id hc
  obtain ⟨h1, u, h2, h3, h4⟩ := h
  have hp := h1.pos hn
  have hlen := h1.len
  obtain ⟨g, o, cap, rfl, hmg, hR⟩ := h3.some hp
  have hg := h1.good
  have hA : 0 < (allL X Y n).length := by simp [allL]; exact hn
  rcases Int.lt_or_le 4611686018427387904 y with hy2 | hy2
  · have e := (rch_far hA (xS_never _ _) hy2).unique hv'
    subst e
    exact sg_reach_of B f l r _ _ _ _ _ y _ true w h2 hp (latest_far B f l r f l r 0 0 y (.slice none 0 0) true w hy2)
  · obtain ⟨z, hz⟩ := all_ex' (F := f) (L := l) (R := r) hf hl hr (xS_never X n) hy2 K hg.1
    have e := (h1.rch (x := 0) (fun t ht => h1.beats hc hY ht) hy2 hz).unique hv'
    subst e
    exact sg_reach_of B f l r _ _ _ _ _ y _ true w h2 hp (sg_latest B g o cap K f l r f l r (xS X n) n y _ true w h2 hR hp (by omega) hy hy2 ⟨xS_nn _ _, xS_never _ _⟩ hf hr hm hl.1 hg.1
      (fun i j hi hj hij => by
        have := hg.turnY hf.1 hr.1 (y := K[i].2) hi hj hij 0 (by omega)
        omega)
      (fun i hi t ht hw j hj => hg.latest hf.1 hr.1 hl.1 ht hi hw hj) hz)
theorem rg_ahead (m B n : Nat) (K : List (Int × Int)) (y v : Int) (w : World) (hn : 0 < n) (hn2 : n ≤ 800) (hy : Word y) (hv' : IsRch 0 0 r y (xS X n) (allL X Y n) v) (h : Rg w m B f l r X Y n K) :
    Calls Tryz.prog 124 #[.pointer (some ⟨B, 0, none⟩), eU y] w fun e w' => e = .returned (eU v) ∧ Below w.heap.size w w' := by
  obtain ⟨hf, hl, hr, hm, hfr⟩ := id hc
  obtain ⟨hf1, hr1, hl1, _⟩ := id hm
  obtain ⟨h1, u, h2, h3, h4⟩ := h
  have hp := h1.pos hn
  have hlen := h1.len
  obtain ⟨g, o, cap, rfl, hmg, hR⟩ := h3.some hp
  have hg := h1.good
  have z0 : Word 0 := ⟨by omega, by omega⟩
  have hA : 0 < (allL X Y n).length := by simp [allL]; exact hn
  rcases Int.lt_or_le 4611686018427387904 y with hy2 | hy2
  · have e := (rch_far hA (xS_never _ _) hy2).unique hv'
    subst e
    exact sg_ahead_of B f l r _ _ _ _ _ y _ true w h2 hp (latest_far B f l r 0 0 r 0 0 y (.slice none 0 0) true w hy2)
  · obtain ⟨z, hz⟩ := all_ex' (F := 0) (L := 0) (R := r) z0 z0 hr (xS_never X n) hy2 K hg.1
    have e := (h1.rch (x := 0) (fun t ht => h1.beatsL hY ht) hy2 hz).unique hv'
    subst e
    exact sg_ahead_of B f l r _ _ _ _ _ y _ true w h2 hp (sg_latest B g o cap K f l r 0 0 r (xS X n) n y _ true w h2 hR hp (by omega) hy hy2 ⟨xS_nn _ _, xS_never _ _⟩ z0 hr ⟨by omega, hr1, by omega, .inl ⟨rfl, rfl⟩⟩ (by omega) hg.1
      (fun i j hi hj hij => by
        have := hg.turnY hf.1 hr.1 (y := K[i].2) hi hj hij 0 (by omega)
        omega)
      (fun i hi t ht hw j hj => by
        have hi' : IsTurn (fun j => ∃ hj : j < K.length, y ≤ K[j].2) K.length i := ⟨hi.1, fun j h1 ⟨h2, h3⟩ => hi.2.1 j h1 ⟨h2, by omega⟩, fun j h1 h2 => by
          obtain ⟨h3, h4⟩ := hi.2.2 j h1 h2
          exact ⟨h3, by omega⟩⟩
        rw [hv_straight (by have := (hg.get hj).2.1; omega)]
        exact hg.latestL hr.1 ht hi' (fun q hq hwq => by
          have h5 := hw q hq hwq
          rwa [hv_straight (by have := (hg.get hq).2.1; omega)] at h5) hj) hz)
theorem rg_start (m B n : Nat) (K : List (Int × Int)) (w : World) (hn2 : n ≤ 800) (hmB : m ≤ B) (hX : Word (X n)) (hYw : Word (Y n)) (h : Rg w m B f l r X Y n K) :
    Calls Tryz.prog 103 #[.pointer (some ⟨B, 0, none⟩), eU (X n), eU (Y n)] w fun e w' => e = .returned (.tuple #[]) ∧ (∃ K', Rg w' m B f l r X Y (n + 1) K') ∧ Below m w w' ∧ ∀ k u t, Box w k u t → t ≠ 136 → t ≠ 71 → Box w' k u t := by
  obtain ⟨h1, v, h2, h3, h4⟩ := h
  have hlt := h2.lt
  have hlen := h1.len
  refine (sg_start m B K f l r (xS X n) n (X n) (Y n) _ _ (xS X (n + 1)) v w (by omega) h2 h3 (by omega) hc ⟨xS_nn _ _, xS_never _ _⟩ hX hYw rfl (by rw [xS_succ]; omega) rfl (i64_id _ ⟨by omega, by omega⟩) h1.good.1).mono ?_
  rintro e w' ⟨rfl, ⟨v', K', a1, a2, a3, a4⟩, F⟩
  have hk := h1.start hc hY a3
  have hBr := h3.ne h2 (by decide)
  refine ⟨rfl, ⟨K', hk, v', by rw [show ((n + 1 : Nat) : Int) = (n : Int) + 1 by omega]; exact a1, a2, fun e => by have := hk.pos (by omega); rw [e] at this; simp at this⟩, F.below hmB (by omega) (fun g hg => (h3.lt g hg).1), fun k u t hb t1 t2 => F.box hb (fun e => ?_) (fun e => h3.ne hb t1 e.symm)⟩
  subst e
  have e1 : w.heap[k]? = _ := hb
  rw [show w.heap[k]? = _ from h2] at e1
  cases e1
  exact t2 rfl
omit hY in
theorem rg_new (X Y : Nat → Int) (w : World) :
    Calls Tryz.prog 11 #[.agg #[eU f, eU l, eU r]] w fun e w' => (∃ B : Nat, e = .returned (.tuple #[.pointer (some ⟨B, 0, none⟩), eI 0]) ∧ w.heap.size ≤ B ∧ Rg w' w.heap.size B f l r X Y 0 []) ∧ Below w.heap.size w w' := by
  refine (sg_new_any f l r w hc.1 hc.2.1 hc.2.2.1).mono ?_
  rintro e w' ⟨h1, h2⟩
  rcases h1 with ⟨_, B, rfl, h3, h4⟩ | ⟨h1, _⟩
  · exact ⟨⟨B, rfl, h3, KeptOk.new f l r X Y, _, h4, .inl ⟨rfl, rfl⟩, fun _ => rfl⟩, h2⟩
  · exact absurd hc h1
omit hc hY in
theorem rg_new_not (w : World) (hf : Word f) (hl : Word l) (hr : Word r) (h : ¬ CvS f l r) : Calls Tryz.prog 11 #[.agg #[eU f, eU l, eU r]] w fun e w' => e = .returned (.tuple #[.pointer none, eI 30]) ∧ Below w.heap.size w w' := by
  refine (sg_new_any f l r w hf hl hr).mono ?_
  rintro e w' ⟨h1, h2⟩
  rcases h1 with ⟨h3, _⟩ | ⟨_, h3⟩
  · exact absurd h3 h
  · exact ⟨h3, h2⟩
omit hc hY in
theorem rg_copy (m B n : Nat) (K : List (Int × Int)) (w : World) (hn2 : n ≤ 800) (h : Rg w m B f l r X Y n K) :
    Calls Tryz.prog 125 #[.pointer (some ⟨B, 0, none⟩)] w fun e w' => (e = .returned (.pointer (some ⟨w.heap.size, 0, none⟩)) ∧ Rg w' w.heap.size w.heap.size f l r X Y n K) ∧ Below w.heap.size w w' := by
  obtain ⟨h1, v, h2, h3, h4⟩ := h
  have hlen := h1.len
  refine (sg_copy_any m B f l r v _ _ true K w h2 h3 h4 (by omega)).mono ?_
  rintro e w' ⟨⟨rfl, u, a1, a2, a3⟩, h5⟩
  exact ⟨⟨rfl, h1, u, a1, a2, a3⟩, h5⟩
end
end Go.Proofs.YtejolaifdjcghaaGreat
