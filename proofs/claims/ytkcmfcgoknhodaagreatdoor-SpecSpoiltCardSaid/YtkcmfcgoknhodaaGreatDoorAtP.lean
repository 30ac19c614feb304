/- What curves have together at a tick: the walk of the program's own sum. -/
import Derived.Test.YtkcmfcgoknhodaaGreatDoorAtS
namespace Go.Proofs.YtkcmfcgoknhodaaGreatDoor
open Go.RowKit Go.Shelf W
set_option linter.unusedVariables false
attribute [local go_sem] Oper.semAt_some
theorem wrapU {x : Int} (h : Word x) : IntKind.u64.wrap x = x := by unfold Word at h; simp [IntKind.wrap, IntKind.bits, IntKind.signed]; omega
theorem two_new (w : World) (x y : Int) : ∀ j u, [eU x, eU y][j]? = some u → (w.alloc (.cells #[eU x, eU y] 22)).cell? ((⟨w.heap.size, 0, none⟩ : Addr).add j) = some u := by
  intro j u hj
  have hb : (w.alloc (.cells #[eU x, eU y] 22)).heap[w.heap.size]? = some (.cells #[eU x, eU y] 22 (0, 0)) := World.alloc_heap_new w _
  exact World.news_of_block hb j u (by simpa using hj)
theorem two_at (w : World) (B : Nat) (hB : w.heap.size = B) (x y : Int) : ∀ j u, [eU x, eU y][j]? = some u → (w.alloc (.cells #[eU x, eU y] 22)).cell? ((⟨B, 0, none⟩ : Addr).add j) = some u := by
  subst hB; exact two_new w x y
/-- Between two rounds. -/
def AtI (w : World) (t : Int) (pre : List CW) (W : World) : Prop :=
  (∃ v u, Two w.heap.size (w.heap.size + 5) (w.heap.size + 1 + 1) (w.heap.size + 1 + 1 + 1) (slL (unW pre)) (tkL t (unW pre)) v u W) ∧ (Boxed W w.heap.size 22 (eU t) ∧ Box W (w.heap.size + 1) #[eU 0, eU 0] 38) ∧ Below w.heap.size w W ∧ w.heap.size + 5 ≤ W.heap.size
theorem AtI.own (w : World) (t : Int) (B : Nat) (hB : w.heap.size ≤ B) : OwnFrom B (AtI w t) := by
  rintro s X Y row ⟨⟨v, u, h2⟩, ⟨hb, hx⟩, hw, hz⟩ hg hr
  have hne : ∀ {b : Nat} {cs : Array Value} {ty : TypeId}, Box X b cs ty → some b ≠ row := fun hb' e => by
    obtain ⟨_, o, ho, hc⟩ := hr _ e.symm
    rw [show X.heap[_]? = _ from hb'] at ho; cases ho; cases hc
  exact ⟨⟨v, u, h2.kept hg (fun r e => (hr r e).2)⟩, ⟨hb.kept hg (hne (cs := #[eU t]) (ty := 22) hb), (hg.block _ hx.lt (hne hx)).trans hx⟩, hw.grown hg hw.size (fun k e => Nat.le_trans hB (hr k e).1), Nat.le_trans hz hg.size⟩
set_option maxRecDepth 100000 in
set_option maxHeartbeats 4000000 in
theorem atSum_of (xs : List CW) (t : Int) (a : Option Addr) (k c : Nat) (w : World) (ht : Word t) (hn : xs.length ≤ 1000) (h : IsCvs w a k c (unW xs)) :
    Calls Tryz.prog 13 #[.slice a k c, eU t] w fun e w' => e = .returned (.agg #[eU (sW (unW xs) t / 18446744073709551616), eU (sW (unW xs) t % 18446744073709551616)]) ∧ Below w.heap.size w w' := by
  obtain ⟨i0, hi, hz0, hz1, hz2⟩ := info_parts infoU
  have hmx : ∀ k, k ≤ 5000 → k ≤ maxLen := fun k hk => Nat.le_trans hk (by decide)
  refine (callsIn_wide (n := 3)).1 ?_
  refine callsIn_of_wp_marks Tryz.func13 rfl trivial ?_ rfl
  simp only [Tryz.ntmps13, List.size_toArray, List.length_cons, List.length_nil, Nat.reduceAdd, Nat.reduceSub, Array.replicate_succ, Array.replicate_zero, List.push_toArray, List.append_toArray, List.nil_append, List.cons_append]
  gi_wp2_with (refine ⟨trivial, ?_⟩; gi_at_call 25; (refine (callsIn_wide.2 (counted_any _ _ _ _)).mono ?_); rintro e w' ⟨rfl, rfl⟩)
  have b1 := Boxed.new w 22 (eU t)
  have b2 := Box.new (w.alloc (.cells #[eU t] 22)) 38 #[eU 0, eU 0]
  have b3 := Boxed.new ((w.alloc (.cells #[eU t] 22)).alloc (.cells #[eU 0, eU 0] 38)) 59 (.slice none 0 0)
  have b4 := Boxed.new (((w.alloc (.cells #[eU t] 22)).alloc (.cells #[eU 0, eU 0] 38)).alloc (.cells #[.slice none 0 0] 59)) 59 (.slice none 0 0)
  have b5 := Boxed.new ((((w.alloc (.cells #[eU t] 22)).alloc (.cells #[eU 0, eU 0] 38)).alloc (.cells #[.slice none 0 0] 59)).alloc (.cells #[.slice none 0 0] 59)) 40 (.slice a k c)
  replace b1 := (((b1.alloc (.cells #[eU 0, eU 0] 38)).alloc (.cells #[.slice none 0 0] 59)).alloc (.cells #[.slice none 0 0] 59)).alloc (.cells #[.slice a k c] 40)
  replace b2 := ((b2.alloc (.cells #[.slice none 0 0] 59)).alloc (.cells #[.slice none 0 0] 59)).alloc (.cells #[.slice a k c] 40)
  replace b3 := (b3.alloc (.cells #[.slice none 0 0] 59)).alloc (.cells #[.slice a k c] 40)
  replace b4 := b4.alloc (.cells #[.slice a k c] 40)
  simp only [World.size_alloc] at b1 b2 b3 b4 b5
  have hB0 : Below w.heap.size w (((((w.alloc (.cells #[eU t] 22)).alloc (.cells #[eU 0, eU 0] 38)).alloc (.cells #[.slice none 0 0] 59)).alloc (.cells #[.slice none 0 0] 59)).alloc (.cells #[.slice a k c] 40)) := (((((Below.refl _ w).alloc (Nat.le_refl _) _).alloc (by simp) _).alloc (by simp; omega) _).alloc (by simp; omega) _).alloc (by simp; omega) _
  have hsz : (((((w.alloc (.cells #[eU t] 22)).alloc (.cells #[eU 0, eU 0] 38)).alloc (.cells #[.slice none 0 0] 59)).alloc (.cells #[.slice none 0 0] 59)).alloc (.cells #[.slice a k c] 40)).heap.size = w.heap.size + 5 := by simp
  obtain ⟨W0, hW0⟩ : ∃ W0, (((((w.alloc (.cells #[eU t] 22)).alloc (.cells #[eU 0, eU 0] 38)).alloc (.cells #[.slice none 0 0] 59)).alloc (.cells #[.slice none 0 0] 59)).alloc (.cells #[.slice a k c] 40)) = W0 := ⟨_, rfl⟩
  rw [hW0] at b1 b2 b3 b4 b5 hB0 hsz ⊢
  clear hW0
  have hseq := counted_go 2 (by omega) xs a k c (w.heap.size + 1 + 1 + 1 + 1) w W0 hn h hB0 (by omega) b5.cell
  refine wpIn_rangeFunc_ownH rfl (by omega) (gf := 43) (lb := #[.pointer (some ⟨w.heap.size + 1 + 1 + 1 + 1, 0, none⟩)]) rfl trivial (enters_of Tryz.func43 (by kernel_rfl) rfl)
    hseq belowK_t (belowK_b (by omega)) (Below.refl _ _) (fun _ => rfl)
    (AtI w t)
    (fun _ _ _ => False)
    (AtI.own w t _ (by omega))
    (fun _ _ _ _ _ hs _ _ => hs)
    ⟨⟨_, _, b3, b4, World.ownsRow_nil _ _ _ _, World.ownsRow_nil _ _ _ _, .inl rfl, (fun _ e => by cases e), (fun _ e => by cases e)⟩, ⟨b1, b2⟩, hB0, by omega⟩
    (fun x a' W => ∃ Bx, w.heap.size + 5 ≤ Bx ∧ Box W Bx #[eU x.1.f, eU x.1.l, eU x.1.r] 24 ∧ a' = { tmps := #[.slice a k c, eU t, undef, .pointer (some ⟨w.heap.size, 0, none⟩), .pointer (some ⟨w.heap.size + 1, 0, none⟩), .pointer (some ⟨w.heap.size + 1 + 1, 0, none⟩), .pointer (some ⟨w.heap.size + 1 + 1 + 1, 0, none⟩), .pointer (some ⟨Bx, 0, none⟩), undef, undef, undef, .slice a k c, .func (.func 43) #[] #[.pointer (some ⟨w.heap.size + 1 + 1 + 1 + 1, 0, none⟩)], cvV x.1, undef, undef, undef, undef, undef, undef, undef, undef, undef, undef, undef, undef, undef, undef, undef, undef, undef, undef, undef, undef, undef, undef, undef, undef, undef], defers := [] })
    (fun x a' _ X Y row hs hg hr => by obtain ⟨Bx, h1, h2, h3⟩ := hs; exact ⟨Bx, h1, box_own Bx 24 _ () X Y row h2 hg (fun r e => (hr r e).2), h3⟩)
    ?assign ?body ?done ?stop
  case assign =>
    rintro l0 pre x W K ⟨⟨v, u, h2⟩, ⟨hb, hx2⟩, hw, hz⟩ hK
    unfold cvV
    gi_wp2
    exact hK _ _ ((KeepsOthers.alloc _ _).from _) ((Below.refl _ W).alloc hw.size _) ⟨⟨v, u, h2.alloc _⟩, ⟨hb.alloc _, hx2.alloc _⟩, hw.alloc hw.size _, by simp; omega⟩ ⟨W.heap.size, by omega, Box.new W 24 _, rfl⟩
  case done =>
    rintro D zs W hD rfl ⟨⟨v, u, h2⟩, ⟨hb, hx2⟩, hw, hz⟩ hK
    have hwd : ∀ c ∈ unW xs, c.word := unW_words xs
    have e1 := dot_sum (xs := cnt (unW xs)) (t := t) (cnt_may _)
    rw [cnt_sum, ← unW_cnt] at e1
    have l1 := slL_len (unW (cntW xs))
    have l2 := tkL_len t (unW (cntW xs))
    have l3 : (unW (cntW xs)).length ≤ 1000 := by
      unfold unW cntW; rw [List.length_map]; exact Nat.le_trans (List.length_filter_le _ _) hn
    have hsW := sW_le hwd ht
    have hs0 := sW_nn hwd ht.1
    have hs2 : sW (unW xs) t < 340282366920938463463374607431768211456 := by
      have : ((unW xs).length : Int) ≤ 1000 := by unfold unW; rw [List.length_map]; omega
      have := Int.mul_le_mul_of_nonneg_right this (show (0 : Int) ≤ 19342813113834066795298816 by omega)
      omega
    have e2 := S_dot (slL (unW (cntW xs))) (tkL t (unW (cntW xs))) (2 * (unW (cntW xs)).length) l1 l2
    rw [e1] at e2
    have w1 := slL_word (unW_words (cntW xs))
    have w2 := tkL_word ht (unW_words (cntW xs))
    generalize slL (unW (cntW xs)) = sl at *
    generalize tkL t (unW (cntW xs)) = tk at *
    obtain ⟨m, hm⟩ : ∃ m, (unW (cntW xs)).length = m := ⟨_, rfl⟩
    rw [hm] at l1 l2 l3 e2
    have cV := h2.bv.cell
    have cU := h2.bu.cell
    have hdot : ∀ (ad bd : Option Addr) (ca cb : Nat) (X : World), Row X ad sl.length (fun i => sl.getD i 0) → Row X bd tk.length (fun i => tk.getD i 0) →
        Calls Tryz.prog 26 #[.slice ad sl.length ca, .slice bd tk.length cb] X fun e w' => e = .returned (.tuple #[.agg #[eU (sW (unW xs) t / 18446744073709551616), eU (sW (unW xs) t % 18446744073709551616)], .int .i64 0]) ∧ Below X.heap.size X w' := fun ad bd ca cb X r1 r2 => by
      refine (Dot_any (fun i => sl.getD i 0) (fun i => tk.getD i 0) ad bd sl.length ca tk.length cb X (by omega) (by omega) (fun j hj => by simp only [List.getD, List.getElem?_eq_getElem hj]; exact w1 _ (List.getElem_mem hj)) (fun j hj => by simp only [List.getD, List.getElem?_eq_getElem hj]; exact w2 _ (List.getElem_mem hj)) r1 r2).mono ?_
      rintro e w' ⟨rfl, hb'⟩
      refine ⟨?_, hb'⟩
      rw [l1, l2, Nat.min_self, e2]
      obtain ⟨a1, a2, a3⟩ := s_ok hs2
      rw [a1, a2, a3]
    have hrow : ∀ {v : Value} {zs : List Int}, W.ownsRow w.heap.size 22 1 v zs.length (zs.map eU) → ∃ ad ca, v = .slice ad zs.length ca ∧ Row W ad zs.length (fun i => zs.getD i 0) := fun {v zs} h => by
      by_cases h0 : 0 < zs.length
      · obtain ⟨g, cap, rfl, _, _, hg⟩ := owns_some h h0
        exact ⟨_, _, rfl, .inr ⟨g, 0, rfl, hg, fun j hj => by rw [Nat.zero_add]; exact owns_cell h hj⟩⟩
      · have hz : zs.length = 0 := by omega
        rcases h.2 with ⟨rfl, _⟩ | ⟨g, cap, cur, rfl, _⟩
        · exact ⟨none, 0, by rw [hz], .inl hz⟩
        · exact ⟨_, _, rfl, .inl hz⟩
    obtain ⟨ad, ca, rfl, r1⟩ := hrow h2.rv
    obtain ⟨bd, cb, rfl, r2⟩ := hrow h2.ru
    have cD := hdot ad bd ca cb W r1 r2
    clear hdot hrow w1 w2 e1 e2 hsW hs0 hs2 l1 l2 l3
    have hx0 := hx2.lt
    gi_wp2_with (refine ⟨trivial, ?_⟩; gi_at_call 26; (refine (callsIn_wide.2 cD).mono ?_); rintro e w3 ⟨rfl, hb3⟩; have hx3 := hx2.below hb3; obtain ⟨z3, y0, y1⟩ := hx3.has; have f0 := hx3.frz 0; have f1 := hx3.frz 1; have n3 : w.heap.size + 1 ≠ w3.heap.size := Nat.ne_of_lt z3; have n4 : w3.heap.size ≠ w.heap.size + 1 := Nat.ne_of_gt z3)
    obtain ⟨hi1, ehi⟩ : ∃ q, sW (unW xs) t / 18446744073709551616 = q := ⟨_, rfl⟩
    obtain ⟨lo1, elo⟩ : ∃ q, sW (unW xs) t % 18446744073709551616 = q := ⟨_, rfl⟩
    rw [ehi, elo]
    have hDW : D < W.heap.size := (Array.getElem?_eq_some_iff.1 hK).1
    have hK3 := (hb3.block D hDW).trans hK
    have hx4 := ((hx3.store2 (eU hi1) (eU lo1)).alloc (.cells #[eU hi1, eU lo1] 38))
    have hD1 : D ≠ w.heap.size + 1 := by omega
    have hK4 : (((w3.setCell ⟨w.heap.size + 1, 0, none⟩ (eU hi1)).setCell ⟨w.heap.size + 1, 1, none⟩ (eU lo1)).alloc (.cells #[eU hi1, eU lo1] 38)).heap[D]? = some (.deferred (some [])) := by
      refine (Below.heap_alloc _ _ D (by simp [World.setCell]; exact Nat.lt_of_lt_of_le hDW hb3.size)).trans ?_
      exact (Below.heap_setCell _ _ _ D hD1).trans ((Below.heap_setCell _ _ _ D hD1).trans hK3)
    have hbl : Below w.heap.size w (((w3.setCell ⟨w.heap.size + 1, 0, none⟩ (eU hi1)).setCell ⟨w.heap.size + 1, 1, none⟩ (eU lo1)).alloc (.cells #[eU hi1, eU lo1] 38)) := by
      refine Below.alloc ?_ ?_ _
      · exact ((hw.trans (hb3.mono hw.size)).setCell (p := ⟨w.heap.size + 1, 0, none⟩) (Nat.le_succ _) _).setCell (p := ⟨w.heap.size + 1, 1, none⟩) (Nat.le_succ _) _
      · simp [World.setCell]; exact Nat.le_trans hw.size hb3.size
    obtain ⟨X, hX⟩ : ∃ X, (((w3.setCell ⟨w.heap.size + 1, 0, none⟩ (eU hi1)).setCell ⟨w.heap.size + 1, 1, none⟩ (eU lo1)).alloc (.cells #[eU hi1, eU lo1] 38)) = X := ⟨_, rfl⟩
    rw [hX] at hx4 hK4 hbl ⊢
    clear hX
    have hx5 : Box (X.putObj D (.deferred none)) (w.heap.size + 1) #[eU hi1, eU lo1] 38 := (World.putObj_heap_other (Ne.symm hD1)).trans hx4
    obtain ⟨_, c0, c1⟩ := hx5.has
    refine ⟨by simp, .inl ⟨_, _, rfl, run_takeDeferred hK4, ?_⟩⟩
    exact ⟨.agg #[eU hi1, eU lo1], by simp [results, Tryz.results13, go_sem, c0, c1], rfl, hbl.trans (belowK_b (w := w) (Nat.le_refl _) X D _ _ (by omega) hK4 rfl rfl)⟩
  case stop =>
    rintro D c pre W _ _ h _
    exact h.elim
  case body =>
    rintro l0 pre ⟨⟨f, ll, r⟩, hcw⟩ a' W hl ⟨rr, hr⟩ ⟨⟨v, u, h2⟩, ⟨hb, hx2⟩, hw, hz⟩ ⟨Bx, hBx, bX, rfl⟩ hlt
    dsimp only at bX
    obtain ⟨x0, x1, x2, x3⟩ := bX.tri
    have cV := h2.bv.cell
    have cU := h2.bu.cell
    have fV := h2.bv.frozen
    have fU := h2.bu.frozen
    have cT := hb.cell
    obtain ⟨m, em⟩ : ∃ m, min t ll = m := ⟨_, rfl⟩
    have hmw : Word m ∧ Word (t - m) ∧ m ≤ t ∧ 0 ≤ m := by
      obtain ⟨_, q2, _⟩ := hcw
      unfold Word at *; dsimp only at q2; omega
    have hs1 := slL_snoc (unW pre) ⟨f, ll, r⟩
    have hs2 := tkL_snoc t (unW pre) ⟨f, ll, r⟩
    dsimp only at hs1 hs2
    rw [em] at hs2
    have eu : unW (pre ++ [⟨⟨f, ll, r⟩, hcw⟩]) = unW pre ++ [⟨f, ll, r⟩] := by simp [unW]
    have hpl : (unW pre).length = pre.length := by simp [unW]
    have hl1 := slL_len (unW pre)
    have hl2 := tkL_len t (unW pre)
    have hlx : (slL (unW pre)).length ≤ 2000 := by omega
    have hlt2 : (tkL t (unW pre)).length ≤ 2000 := by omega
    have fin : ∀ (v' u' : Value) (W' : World), Two w.heap.size (w.heap.size + 5) (w.heap.size + 1 + 1) (w.heap.size + 1 + 1 + 1) (slL (unW pre) ++ [f, r]) (tkL t (unW pre) ++ [m, t - m]) v' u' W' → Boxed W' w.heap.size 22 (eU t) → Box W' (w.heap.size + 1) #[eU 0, eU 0] 38 → Below w.heap.size W W' → AtI w t (pre ++ [⟨⟨f, ll, r⟩, hcw⟩]) W' := fun v' u' W' a1 a2 a3 a4 => by
      refine ⟨⟨v', u', ?_⟩, ⟨a2, a3⟩, hw.trans a4, Nat.le_trans hz a4.size⟩
      rw [eu, hs1, hs2]; exact a1
    have hfin := Lib.hid fin
    clear fin hs1 hs2 eu hl1 hl2 hpl hlt
    generalize slL (unW pre) = sl at h2 hfin hlx
    generalize tkL t (unW pre) = tk at h2 hfin hlt2
    have q1 : w.heap.size + 1 + 1 ≠ w.heap.size + 1 + 1 + 1 := by omega
    have q2 : w.heap.size + 1 + 1 + 1 ≠ w.heap.size + 1 + 1 := by omega
    have q3 : w.heap.size ≤ w.heap.size + 1 + 1 := by omega
    have q4 : w.heap.size ≤ w.heap.size + 1 + 1 + 1 := by omega
    have q5 : w.heap.size < w.heap.size + 5 := by omega
    have q6 : w.heap.size + 1 < w.heap.size + 5 := by omega
    have q7 : w.heap.size + 1 + 1 ≠ w.heap.size := by omega
    have q8 : w.heap.size + 1 + 1 ≠ w.heap.size + 1 := by omega
    have q9 : w.heap.size + 1 + 1 + 1 ≠ w.heap.size := by omega
    have q10 : w.heap.size + 1 + 1 + 1 ≠ w.heap.size + 1 := by omega
    have k1 : sl.length + 2 ≤ 5000 := by omega
    have k2 : (sl.length + 2) * 8 ≤ 140737488355328 := by omega
    have k3 : tk.length + 2 ≤ 5000 := by omega
    have k4 : (tk.length + 2) * 8 ≤ 140737488355328 := by omega
    rcases Int.lt_trichotomy t ll with hc | hc | hc
    · obtain rfl : m = t := by omega
      rw [Int.sub_self] at hfin
      gi_wp2_with (first | (gi_at_builtin; refine app_lies _ rfl _ _ 59 rfl w.heap.size 22 i0 (.int .u64 0) 1 8 Tryz.underlying59 hi hz0 hz1 hz2 rfl (by decide) _ _ _ rfl (h2.rv.alloc _) ⟨W.heap.size, 0, none⟩ 2 2 [eU f, eU r] rfl rfl (two_new _ _ _) (by simp [Value.oneCell']) (by decide) (hmx _ k1) k2 (by have := hw.size; simp; omega) ?_; intro g1 cap1 w1 hown1 hgrow1 hlie1; obtain ⟨h3, hv1, hu1, hk1, hB1⟩ := h2.appended (news := [f, r]) (q := 2) rfl q1 hw.size hz q3 hown1 hgrow1 hlie1; obtain ⟨hb10, hb1⟩ := h2.boxed hb q5 q7 hgrow1 (.slice (some ⟨g1, 0, none⟩) (sl.length + 2) cap1); have hx21 := h2.box hx2 q6 q8 hgrow1 (.slice (some ⟨g1, 0, none⟩) (sl.length + 2) cap1); have cV1 := hv1.cell; have fV1 := hv1.frozen; have cU1 := hu1.cell; have fU1 := hu1.frozen; have cT1 := hb10.cell) | (gi_at_builtin; refine app_lies _ rfl _ _ 59 rfl w.heap.size 22 i0 (.int .u64 0) 1 8 Tryz.underlying59 hi hz0 hz1 hz2 rfl (by decide) _ _ _ rfl (h3.ru.alloc _) ⟨w1.heap.size, 0, none⟩ 2 2 [eU m, eU 0] rfl rfl (two_at _ _ (by simp [World.setCell]) _ _) (by simp [Value.oneCell']) (by decide) (hmx _ k3) k4 (Nat.le_trans (Nat.le_trans hw.size hB1.size) (up1 _ _).size) ?_; intro g2 cap2 w2 hown2 hgrow2 hlie2; obtain ⟨h4, hv2, hu2, hk2, hB2⟩ := h3.flip.appended (news := [m, 0]) (q := 2) rfl q2 (Nat.le_trans hw.size hB1.size) (Nat.le_trans hz hB1.size) q4 hown2 hgrow2 hlie2; obtain ⟨hb20, hb2⟩ := h3.flip.boxed hb1 q5 q9 hgrow2 (.slice (some ⟨g2, 0, none⟩) (tk.length + 2) cap2); have hx22 := h3.flip.box hx21 q6 q10 hgrow2 (.slice (some ⟨g2, 0, none⟩) (tk.length + 2) cap2); have cV2 := hv2.cell; have fV2 := hv2.frozen))
      exact ⟨(hk1.trans hk2).from _, hB1.trans hB2, hfin.out _ _ _ h4.flip hb2 hx22 (hB1.trans hB2)⟩
    · obtain rfl : m = t := by omega
      rw [Int.sub_self] at hfin
      subst hc
      gi_wp2_with (first | (gi_at_builtin; refine app_lies _ rfl _ _ 59 rfl w.heap.size 22 i0 (.int .u64 0) 1 8 Tryz.underlying59 hi hz0 hz1 hz2 rfl (by decide) _ _ _ rfl (h2.rv.alloc _) ⟨W.heap.size, 0, none⟩ 2 2 [eU f, eU r] rfl rfl (two_new _ _ _) (by simp [Value.oneCell']) (by decide) (hmx _ k1) k2 (by have := hw.size; simp; omega) ?_; intro g1 cap1 w1 hown1 hgrow1 hlie1; obtain ⟨h3, hv1, hu1, hk1, hB1⟩ := h2.appended (news := [f, r]) (q := 2) rfl q1 hw.size hz q3 hown1 hgrow1 hlie1; obtain ⟨hb10, hb1⟩ := h2.boxed hb q5 q7 hgrow1 (.slice (some ⟨g1, 0, none⟩) (sl.length + 2) cap1); have hx21 := h2.box hx2 q6 q8 hgrow1 (.slice (some ⟨g1, 0, none⟩) (sl.length + 2) cap1); have cV1 := hv1.cell; have fV1 := hv1.frozen; have cU1 := hu1.cell; have fU1 := hu1.frozen; have cT1 := hb10.cell) | (gi_at_builtin; refine app_lies _ rfl _ _ 59 rfl w.heap.size 22 i0 (.int .u64 0) 1 8 Tryz.underlying59 hi hz0 hz1 hz2 rfl (by decide) _ _ _ rfl (h3.ru.alloc _) ⟨w1.heap.size, 0, none⟩ 2 2 [eU m, eU 0] rfl rfl (two_at _ _ (by simp [World.setCell]) _ _) (by simp [Value.oneCell']) (by decide) (hmx _ k3) k4 (Nat.le_trans (Nat.le_trans hw.size hB1.size) (up1 _ _).size) ?_; intro g2 cap2 w2 hown2 hgrow2 hlie2; obtain ⟨h4, hv2, hu2, hk2, hB2⟩ := h3.flip.appended (news := [m, 0]) (q := 2) rfl q2 (Nat.le_trans hw.size hB1.size) (Nat.le_trans hz hB1.size) q4 hown2 hgrow2 hlie2; obtain ⟨hb20, hb2⟩ := h3.flip.boxed hb1 q5 q9 hgrow2 (.slice (some ⟨g2, 0, none⟩) (tk.length + 2) cap2); have hx22 := h3.flip.box hx21 q6 q10 hgrow2 (.slice (some ⟨g2, 0, none⟩) (tk.length + 2) cap2); have cV2 := hv2.cell; have fV2 := hv2.frozen))
      exact ⟨(hk1.trans hk2).from _, hB1.trans hB2, hfin.out _ _ _ h4.flip hb2 hx22 (hB1.trans hB2)⟩
    · obtain rfl : m = ll := by omega
      obtain ⟨s, es⟩ : ∃ s, t - m = s := ⟨_, rfl⟩
      rw [es] at hfin
      have hsub : IntKind.u64.wrap s = s := wrapU (by obtain ⟨_, q, _⟩ := hmw; rw [es] at q; exact q)
      gi_wp2_with (first | (gi_at_builtin; refine app_lies _ rfl _ _ 59 rfl w.heap.size 22 i0 (.int .u64 0) 1 8 Tryz.underlying59 hi hz0 hz1 hz2 rfl (by decide) _ _ _ rfl (h2.rv.alloc _) ⟨W.heap.size, 0, none⟩ 2 2 [eU f, eU r] rfl rfl (two_new _ _ _) (by simp [Value.oneCell']) (by decide) (hmx _ k1) k2 (by have := hw.size; simp; omega) ?_; intro g1 cap1 w1 hown1 hgrow1 hlie1; obtain ⟨h3, hv1, hu1, hk1, hB1⟩ := h2.appended (news := [f, r]) (q := 2) rfl q1 hw.size hz q3 hown1 hgrow1 hlie1; obtain ⟨hb10, hb1⟩ := h2.boxed hb q5 q7 hgrow1 (.slice (some ⟨g1, 0, none⟩) (sl.length + 2) cap1); have hx21 := h2.box hx2 q6 q8 hgrow1 (.slice (some ⟨g1, 0, none⟩) (sl.length + 2) cap1); have cV1 := hv1.cell; have fV1 := hv1.frozen; have cU1 := hu1.cell; have fU1 := hu1.frozen; have cT1 := hb10.cell) | (gi_at_builtin; refine app_lies _ rfl _ _ 59 rfl w.heap.size 22 i0 (.int .u64 0) 1 8 Tryz.underlying59 hi hz0 hz1 hz2 rfl (by decide) _ _ _ rfl (h3.ru.alloc _) ⟨w1.heap.size, 0, none⟩ 2 2 [eU m, eU s] rfl rfl (two_at _ _ (by simp [World.setCell]) _ _) (by simp [Value.oneCell']) (by decide) (hmx _ k3) k4 (Nat.le_trans (Nat.le_trans hw.size hB1.size) (up1 _ _).size) ?_; intro g2 cap2 w2 hown2 hgrow2 hlie2; obtain ⟨h4, hv2, hu2, hk2, hB2⟩ := h3.flip.appended (news := [m, s]) (q := 2) rfl q2 (Nat.le_trans hw.size hB1.size) (Nat.le_trans hz hB1.size) q4 hown2 hgrow2 hlie2; obtain ⟨hb20, hb2⟩ := h3.flip.boxed hb1 q5 q9 hgrow2 (.slice (some ⟨g2, 0, none⟩) (tk.length + 2) cap2); have hx22 := h3.flip.box hx21 q6 q10 hgrow2 (.slice (some ⟨g2, 0, none⟩) (tk.length + 2) cap2); have cV2 := hv2.cell; have fV2 := hv2.frozen))
      exact ⟨(hk1.trans hk2).from _, hB1.trans hB2, hfin.out _ _ _ h4.flip hb2 hx22 (hB1.trans hB2)⟩
theorem atSum_any (xs : List Cv) (t : Int) (a : Option Addr) (k c : Nat) (w : World) (hx : ∀ c ∈ xs, c.word) (ht : Word t) (hn : xs.length ≤ 1000) (h : IsCvs w a k c xs) :
    Calls Tryz.prog 13 #[.slice a k c, eU t] w fun e w' => e = .returned (.agg #[eU (sW xs t / 18446744073709551616), eU (sW xs t % 18446744073709551616)]) ∧ Below w.heap.size w w' := by
  obtain ⟨ys, rfl⟩ := unW_ex hx
  exact atSum_of ys t a k c w ht (by simpa [unW] using hn) h
end Go.Proofs.YtkcmfcgoknhodaaGreatDoor
