import Derived.Test.YtmhmoebdojkbpaaAwk
import Derived.Test.YtmhmoebdojkbpaaPdq
import Derived.Deep.AppendLies
import Derived.Deep.RegionHeld3
import Derived.Deep.DeepCutAuto
import Derived.Deep.CutBlock
/- Below: what the statement asks, in plain numbers. -/
namespace Go.Proofs.Ytmhmoebdojkbpaa
open Go.RowKit Go.Shelf W
set_option linter.unusedVariables false
namespace W
/-- Two curves that have the same at all ticks are one. -/
theorem cW_one {f l r f' l' r' : Int} (hf : Word f) (hl : Word l) (hr : Word r) (hf' : Word f') (hl' : Word l') (hr' : Word r') (m : cMay f l r) (m' : cMay f' l' r')
    (h : ∀ t, 0 ≤ t → t < 9223372036854775808 → cW f l r t = cW f' l' r' t) : f = f' ∧ l = l' ∧ r = r' := by
  unfold cMay at m m'
  unfold Word at *
  have step : ∀ t, 0 ≤ t → t < 4611686018427387904 → (if t < l then f else r) = (if t < l' then f' else r') := fun t t0 t1 => by
    have h0 := h t t0 (by omega)
    have h1 := h (t + 1) (by omega) (by omega)
    rw [cW_succ, cW_succ] at h1
    omega
  have sR := step 2199023255552 (by omega) (by omega)
  rw [if_neg (by omega), if_neg (by omega)] at sR
  have s0 := step 0 (by omega) (by omega)
  have sl := step l (by omega) (by omega)
  have sl' := step l' (by omega) (by omega)
  rw [if_neg (by omega)] at sl
  rw [if_neg (show ¬ l' < l' by omega)] at sl'
  rcases Int.lt_trichotomy l l' with q | q | q
  · rw [if_pos q] at sl
    omega
  · subst q
    rcases Int.lt_or_le 0 l with z | z
    · rw [if_pos z, if_pos z] at s0
      omega
    · omega
  · rw [if_pos q] at sl'
    omega
end W
theorem below_one {a b : Cv} (wa : a.word) (wb : b.word) (h1 : isBelow a b) (h2 : isBelow b a) : a = b := by
  obtain ⟨f, l, r⟩ := a
  obtain ⟨f', l', r'⟩ := b
  obtain ⟨e1, e2, e3⟩ := cW_one (f := f) (l := l) (r := r) (f' := f') (l' := l') (r' := r') wa.1 wa.2.1 wa.2.2 wb.1 wb.2.1 wb.2.2 h1.1 h1.2.1 (fun t t0 t1 => Int.le_antisymm (h1.2.2 t t0 t1) (h2.2.2 t t0 t1))
  subst e1 e2 e3
  rfl
theorem below_trans {a b c : Cv} (h1 : isBelow a b) (h2 : isBelow b c) : isBelow a c := ⟨h1.1, h2.2.1, fun t t0 t1 => Int.le_trans (h1.2.2 t t0 t1) (h2.2.2 t t0 t1)⟩
theorem below_self {a : Cv} (m : a.may) : isBelow a a := ⟨m, m, fun t t0 t1 => Int.le_refl _⟩
theorem sW_single {a : Cv} (m : a.may) (t : Int) : sW [a] t = cW a.f a.l a.r t := by
  simp only [sW, oneW, m, if_true]
  omega
theorem below_sum {a b : Cv} (h : isBelow a b) {t : Int} (t0 : 0 ≤ t) (t1 : t < 9223372036854775808) : sW [a] t ≤ sW [b] t := by
  rw [sW_single h.1, sW_single h.2.1]
  exact h.2.2 t t0 t1
theorem below_kept {a b : Cv} {xs : List Cv} {rate : Int} (h : isBelow a b) (k : kept (xs ++ [b]) rate) : kept (xs ++ [a]) rate :=
  kept_of_le (fun t t0 t1 => by rw [sW_append, sW_append]; have := below_sum h t0 t1; omega) k
theorem not_below {a b : Cv} (wa : a.word) (wb : b.word) (ma : a.may) (mb : b.may) (h : ¬ isBelow a b) : sW [b] a.l < sW [a] a.l ∨ sW [b] b.l < sW [a] b.l ∨ sW [b] 9223372036854775807 < sW [a] 9223372036854775807 := by
  rcases Int.lt_or_le (sW [b] a.l) (sW [a] a.l) with q | q1
  · exact .inl q
  rcases Int.lt_or_le (sW [b] b.l) (sW [a] b.l) with q | q2
  · exact .inr (.inl q)
  rcases Int.lt_or_le (sW [b] 9223372036854775807) (sW [a] 9223372036854775807) with q | q3
  · exact .inr (.inr q)
  rw [sW_single ma, sW_single mb] at q1 q2 q3
  exact absurd (below_corners wa wb ma mb q1 q2 q3) h
end Go.Proofs.Ytmhmoebdojkbpaa

/- Below: the statement's walk, case by case. -/
namespace Go.Proofs.Ytmhmoebdojkbpaa
open Go.RowKit Go.Shelf W
set_option linter.unusedVariables false
set_option maxRecDepth 100000
/-- Three curves lie in three blocks. -/
def ABC (z : Nat) (A B C : Cv) (w : World) : Prop := Box w z #[eU A.f, eU A.l, eU A.r] 31 ∧ Box w (z + 1) #[eU B.f, eU B.l, eU B.r] 31 ∧ Box w (z + 2) #[eU C.f, eU C.l, eU C.r] 31
theorem ABC.new (w : World) (A B C : Cv) : ABC w.heap.size A B C (((w.alloc (.cells #[eU A.f, eU A.l, eU A.r] 31)).alloc (.cells #[eU B.f, eU B.l, eU B.r] 31)).alloc (.cells #[eU C.f, eU C.l, eU C.r] 31)) := by
  have h2 := (Box.new (w.alloc (.cells #[eU A.f, eU A.l, eU A.r] 31)) 31 #[eU B.f, eU B.l, eU B.r]).alloc (.cells #[eU C.f, eU C.l, eU C.r] 31)
  have h3 := Box.new ((w.alloc (.cells #[eU A.f, eU A.l, eU A.r] 31)).alloc (.cells #[eU B.f, eU B.l, eU B.r] 31)) 31 #[eU C.f, eU C.l, eU C.r]
  simp only [World.size_alloc] at h2 h3
  exact ⟨((Box.new w 31 _).alloc _).alloc _, h2, h3⟩
theorem ABC.below {z : Nat} {A B C : Cv} {W w : World} (h : ABC z A B C W) (hb : Below W.heap.size W w) : ABC z A B C w := ⟨h.1.below hb, h.2.1.below hb, h.2.2.below hb⟩
abbrev AbcC (z : Nat) (A B C : Cv) (w : World) : Prop :=
  (w.cell? ⟨z, 0, none⟩ = some (.int .u64 A.f) ∧ w.cell? ⟨z, 1, none⟩ = some (.int .u64 A.l) ∧ w.cell? ⟨z, 2, none⟩ = some (.int .u64 A.r)) ∧
  (w.cell? ⟨z + 1, 0, none⟩ = some (.int .u64 B.f) ∧ w.cell? ⟨z + 1, 1, none⟩ = some (.int .u64 B.l) ∧ w.cell? ⟨z + 1, 2, none⟩ = some (.int .u64 B.r)) ∧
  (w.cell? ⟨z + 1 + 1, 0, none⟩ = some (.int .u64 C.f) ∧ w.cell? ⟨z + 1 + 1, 1, none⟩ = some (.int .u64 C.l) ∧ w.cell? ⟨z + 1 + 1, 2, none⟩ = some (.int .u64 C.r))
theorem ABC.cells {z : Nat} {A B C : Cv} {w : World} (h : ABC z A B C w) : AbcC z A B C w :=
  ⟨h.1.tri.2, h.2.1.tri.2, h.2.2.tri.2⟩
section
variable (f l r f1 l1 r1 f2 l2 r2 : Int) (a : Option Addr) (n c : Nat) (rate t : Int) (w : World)
set_option maxHeartbeats 2000000 in
theorem bw_long (h : (20 < n) ∨ (n ≤ 20 ∧ 9223372036854775808 ≤ t)) (hA : ∀ w, Calls Try.prog 23 #[] w fun e w' => e = .returned (.bool true) ∧ Below w.heap.size w w') :
    Calls Try.prog 8 #[.agg #[eU f, eU l, eU r], .agg #[eU f1, eU l1, eU r1], .agg #[eU f2, eU l2, eU r2], .slice a n c, eU rate, eU t] w fun e w' => e = .returned (.bool true) ∧ Below w.heap.size w w' := by
  have T := up3 w (.cells #[eU f, eU l, eU r] 31) (.cells #[eU f1, eU l1, eU r1] 31) (.cells #[eU f2, eU l2, eU r2] 31)
  rcases h with h | ⟨h, h2⟩
  · have h' : (20 : Int) < (n : Int) := by omega
    go_enter Try.func8, Try.ntmps8
    go_wp2_with (go_at_call 23; (with_reducible refine (hA _).mono ?_); rintro e w1 ⟨rfl, hb⟩; replace T := up T hb T.size; clear hb)
    go_ret
    exact ⟨rfl, T⟩
  · have h' : ¬ (20 : Int) < (n : Int) := by omega
    go_enter Try.func8, Try.ntmps8
    go_wp2_with (go_at_call 23; (with_reducible refine (hA _).mono ?_); rintro e w1 ⟨rfl, hb⟩; replace T := up T hb T.size; clear hb)
    go_ret
    exact ⟨rfl, T⟩
set_option maxHeartbeats 4000000 in
theorem bw_no (ma mb mc bb : Bool) (h1 : n ≤ 20) (h2 : t < 9223372036854775808) (hm : ¬ (ma = true ∧ mb = true ∧ mc = true)) (hb : bb = true → ma = true ∧ mb = true)
    (hA : ∀ w, Calls Try.prog 23 #[] w fun e w' => e = .returned (.bool true) ∧ Below w.heap.size w w')
    (hMa : ∀ w, Calls Try.prog 25 #[.agg #[eU f, eU l, eU r]] w fun e w' => e = .returned (.bool ma) ∧ Below w.heap.size w w')
    (hMb : ∀ w, Calls Try.prog 25 #[.agg #[eU f1, eU l1, eU r1]] w fun e w' => e = .returned (.bool mb) ∧ Below w.heap.size w w')
    (hMc : ∀ w, Calls Try.prog 25 #[.agg #[eU f2, eU l2, eU r2]] w fun e w' => e = .returned (.bool mc) ∧ Below w.heap.size w w')
    (hB : ∀ w, Calls Try.prog 21 #[.agg #[eU f, eU l, eU r], .agg #[eU f1, eU l1, eU r1]] w fun e w' => e = .returned (.bool bb) ∧ Below w.heap.size w w') :
    Calls Try.prog 8 #[.agg #[eU f, eU l, eU r], .agg #[eU f1, eU l1, eU r1], .agg #[eU f2, eU l2, eU r2], .slice a n c, eU rate, eU t] w fun e w' => e = .returned (.bool true) ∧ Below w.heap.size w w' := by
  have T := up3 w (.cells #[eU f, eU l, eU r] 31) (.cells #[eU f1, eU l1, eU r1] 31) (.cells #[eU f2, eU l2, eU r2] 31)
  have H3 := ABC.new w ⟨f, l, r⟩ ⟨f1, l1, r1⟩ ⟨f2, l2, r2⟩
  have h' : ¬ (20 : Int) < (n : Int) := by omega
  have h'' : ¬ (9223372036854775808 : Int) ≤ t := by omega
  clear h1 h2
  cases ma <;> cases mb <;> cases mc
  all_goals first
    | (exfalso; exact hm ⟨rfl, rfl, rfl⟩)
    | skip
  all_goals cases bb
  all_goals first
    | (exfalso; exact absurd (hb rfl).1 (by decide))
    | (exfalso; exact absurd (hb rfl).2 (by decide))
    | skip
  all_goals clear hm hb
  all_goals
    go_enter Try.func8, Try.ntmps8
    go_wp2_with (first
      | (go_at_call 23; (with_reducible refine (hA _).mono ?_); rintro e w1 ⟨rfl, hb⟩; replace T := up T hb (by have := T.size; simp at this ⊢; omega); replace H3 := H3.below hb; clear hb; obtain ⟨⟨a0, a1, a2⟩, ⟨b0, b1, b2⟩, c0, c1, c2⟩ := H3.cells; dsimp only at a0 a1 a2 b0 b1 b2 c0 c1 c2)
      | (go_at_call 25; (with_reducible refine (hMa _).mono ?_); rintro e w2 ⟨rfl, hb⟩; replace T := up T hb T.size; replace H3 := H3.below hb; clear hb; obtain ⟨⟨a0, a1, a2⟩, ⟨b0, b1, b2⟩, c0, c1, c2⟩ := H3.cells; dsimp only at a0 a1 a2 b0 b1 b2 c0 c1 c2)
      | (go_at_call 25; (with_reducible refine (hMb _).mono ?_); rintro e w2 ⟨rfl, hb⟩; replace T := up T hb T.size; replace H3 := H3.below hb; clear hb; obtain ⟨⟨a0, a1, a2⟩, ⟨b0, b1, b2⟩, c0, c1, c2⟩ := H3.cells; dsimp only at a0 a1 a2 b0 b1 b2 c0 c1 c2)
      | (go_at_call 25; (with_reducible refine (hMc _).mono ?_); rintro e w2 ⟨rfl, hb⟩; replace T := up T hb T.size; replace H3 := H3.below hb; clear hb; obtain ⟨⟨a0, a1, a2⟩, ⟨b0, b1, b2⟩, c0, c1, c2⟩ := H3.cells; dsimp only at a0 a1 a2 b0 b1 b2 c0 c1 c2)
      | (go_at_call 21; (with_reducible refine (hB _).mono ?_); rintro e w2 ⟨rfl, hb⟩; replace T := up T hb T.size; replace H3 := H3.below hb; clear hb; obtain ⟨⟨a0, a1, a2⟩, ⟨b0, b1, b2⟩, c0, c1, c2⟩ := H3.cells; dsimp only at a0 a1 a2 b0 b1 b2 c0 c1 c2))
    go_ret
    exact ⟨rfl, T⟩
end
end Go.Proofs.Ytmhmoebdojkbpaa

/- Below: a list appended to an empty one, and a curve to that: at a step of a region that draws its order, all worlds told by letters. -/
namespace Go.Proofs.Ytmhmoebdojkbpaa
open Go.RowKit Go.Shelf W
set_option linter.unusedVariables false
theorem box_name {K : Act → World → Prop} {a : Act} {W : World} {o : Obj} (h : ∀ W', W.alloc o = W' → K a W') : K a (W.alloc o) := h _ rfl
theorem own0 {w : World} {m g : Nat} (h : Box w g #[] 31) (hm : m ≤ g) : w.ownsRow m 31 3 (.slice (some ⟨g, 0, none⟩) 0 0) 0 [] :=
  ⟨rfl, .inr ⟨g, 0, #[], rfl, hm, h, Nat.le_refl _, by decide, rfl, rfl⟩⟩
theorem grown_box {w w' : World} {row : Option Nat} {B : Nat} {u : Array Value} {t : TypeId} (hg : w.grownBy w' row) (b : Box w B u t) (h : row ≠ some B) : Box w' B u t := (hg.block B b.lt (fun e => h e.symm)).trans b
theorem CvRow.flat {w : World} {b o : Nat} {xs : List Cv} (h : CvRow w b o xs) : ∀ j u, (cvC xs)[j]? = some u → w.cell? ((⟨b, o, none⟩ : Addr).add j) = some u := by
  intro j u hu
  have hadd : ∀ j, (⟨b, o, none⟩ : Addr).add j = ⟨b, o + j, none⟩ := fun j => by unfold Addr.add; split <;> simp_all
  have hj : j < xs.length * 3 := by
    have := (List.getElem?_eq_some_iff.1 hu).1
    rw [cvC_length] at this
    exact this
  obtain ⟨i, q, e, hq⟩ : ∃ i q, j = i * 3 + q ∧ q < 3 := ⟨j / 3, j % 3, by omega, by omega⟩
  have hi : i < xs.length := by omega
  obtain ⟨g0, g1, g2⟩ := cvC_get xs i hi
  obtain ⟨c0, c1, c2⟩ := h.2 i hi
  rw [hadd]
  subst e
  rcases q with _ | _ | _ | q
  · rw [Nat.add_zero] at hu ⊢
    rw [g0] at hu
    cases hu
    exact c0
  · rw [Nat.zero_add] at hu ⊢
    rw [g1] at hu
    cases hu
    rw [← Nat.add_assoc]
    exact c1
  · rw [show 0 + 1 + 1 = 2 from rfl] at hu ⊢
    rw [g2] at hu
    cases hu
    rw [← Nat.add_assoc]
    exact c2
  · omega
theorem run_app_l (w : World) (ty : TypeId) (m g0 : Nat) (hg : Box w g0 #[] 31) (hm0 : m ≤ g0) (ad : Option Addr) (n c : Nat) (xs : List Cv) (hI : IsCvs w ad n c xs) (hn : n ≤ 20) (hm : ad = none ∨ ∃ b, ad = some b) :
    ∃ v w', (Builtin.append_ #[22, 22] ty #[.slice (some ⟨g0, 0, none⟩) 0 0, .slice ad n c]).run Try.prog w = .ok v w' ∧ w'.ownsRow m 31 3 v n (cvC xs) ∧ w.grownBy w' (some g0) := by
  obtain ⟨i0, hi, hz0, hz1, hz2⟩ := info_parts infoC
  obtain ⟨rfl, h1, h2⟩ := hI
  have hw := hg.lt
  rcases hm with rfl | ⟨b, rfl⟩
  · have e : xs = [] := by
      rcases h2 with h2 | ⟨b, o, e, _⟩
      · exact List.length_eq_zero_iff.1 h2
      · cases e
    subst e
    refine ⟨.slice (some ⟨g0, 0, none⟩) 0 0, w, ?_, own0 hg hm0, World.grownBy.refl _ _⟩
    simp [Builtin.append_, run_underlying Try.underlying22, sizeOf, typeInfo, hi, Builtin.lenOf, Builtin.firstCells, storeCells]
  · have hf : ∀ j u, (cvC xs)[j]? = some u → w.cell? (b.add j) = some u := by
      rcases h2 with h2 | ⟨b', o, e, h2⟩
      · have e : xs = [] := List.length_eq_zero_iff.1 h2
        subst e
        intro j u hu
        simp [cvC] at hu
      · cases e
        exact h2.flat
    obtain ⟨v, w', hr, h3, h4, _, _⟩ := run_append_own_at w m 22 ty 31 i0 _ 3 24 Try.underlying22 hi hz0 hz1 hz2 rfl (by decide) (.slice (some ⟨g0, 0, none⟩) 0 0) 0 [] (own0 hg hm0) b xs.length c (cvC xs) (cvC_length xs) hf (cvC_one xs) (by unfold maxLen; omega) (by omega) (by omega)
    refine ⟨v, w', hr, ?_, h4⟩
    rw [Nat.zero_add, List.nil_append] at h3
    exact h3
theorem step_app_l {w : World} {ops : Array Oper} {o : Oper} {a : Act} {K' : Act → World → Prop} {Q : Exit → Act → World → Prop} {E : Prop} (hw : Region.wanted o (yielded ops a.tmps) = true) (s x : Operand)
    (ho : o.op = .call { callee := .builtin .append, args := #[s, x], argTypes := #[22, 22] }) (m g0 : Nat) (hs : a.eval s = .slice (some ⟨g0, 0, none⟩) 0 0) (hg : Box w g0 #[] 31) (hm0 : m ≤ g0)
    (ad : Option Addr) (n c : Nat) (xs : List Cv) (hx : a.eval x = .slice ad n c) (hI : IsCvs w ad n c xs) (hn : n ≤ 20)
    (h : ∀ v w', w'.ownsRow m 31 3 v n (cvC xs) → w.grownBy w' (some g0) → K' (a.put o.dst v) w') :
    if Region.wanted o (yielded ops a.tmps) = true then Oper.wp Try.prog o a w K' Q else E := by
  rw [if_pos hw]
  obtain ⟨v, w', hr, h1, h2⟩ := run_app_l w o.type m g0 hg hm0 ad n c xs hI hn (by cases ad with | none => exact .inl rfl | some b => exact .inr ⟨b, rfl⟩)
  unfold Oper.wp execOp
  simp only [ho, resolve, invoke, builtin, Sem.run_bind, Sem.run_pure, Result.andThen_ok, List.map_toArray, List.map_cons, List.map_nil, hs, hx, hr]
  exact h v w' h1 h2
theorem three_ones (x y z : Int) : ∀ u ∈ [eU x, eU y, eU z], u.oneCell' = true := by
  intro u hu
  simp at hu
  rcases hu with rfl | rfl | rfl <;> rfl
theorem step_app_e {w : World} {ops : Array Oper} {o : Oper} {a : Act} {K' : Act → World → Prop} {Q : Exit → Act → World → Prop} {E : Prop} (hw : Region.wanted o (yielded ops a.tmps) = true) (s x : Operand)
    (ho : o.op = .call { callee := .builtin .append, args := #[s, x], argTypes := #[22, 22] }) (m : Nat) (v : Value) (n : Nat) (xs : List Cv) (hs : a.eval s = v) (hown : w.ownsRow m 31 3 v n (cvC xs)) (hm : m ≤ w.heap.size)
    (e : Nat) (A : Cv) (hx : a.eval x = .slice (some ⟨e, 0, none⟩) 1 1) (he : Box w e #[eU A.f, eU A.l, eU A.r] 31) (hl : xs.length = n) (hn : n ≤ 20)
    (h : ∀ g cap w', IsCvs w' (some ⟨g, 0, none⟩) (n + 1) cap (xs ++ [A]) → Below m w w' → K' (a.put o.dst (.slice (some ⟨g, 0, none⟩) (n + 1) cap)) w') :
    if Region.wanted o (yielded ops a.tmps) = true then Oper.wp Try.prog o a w K' Q else E := by
  rw [if_pos hw]
  obtain ⟨i0, hi, hz0, hz1, hz2⟩ := info_parts infoC
  obtain ⟨g, cap, w', hr, h1, h2, h3, h4⟩ := run_append_lies w 22 o.type m 31 i0 _ 3 24 Try.underlying22 hi hz0 hz1 hz2 rfl (by decide) v n (cvC xs) hown ⟨e, 0, none⟩ 1 1 [eU A.f, eU A.l, eU A.r] rfl (World.news_of_block he) (three_ones _ _ _) (by decide) (by unfold maxLen; omega) (by omega) hm _ rfl
  unfold Oper.wp execOp
  simp only [ho, resolve, invoke, builtin, Sem.run_bind, Sem.run_pure, Result.andThen_ok, List.map_toArray, List.map_cons, List.map_nil, hs, hx, hr]
  refine h g cap w' ?_ ((Below.refl m w).grown h2 hm (fun k e => (hown.lt k e).1))
  have h5 : w'.ownsRow m 31 3 (.slice (some ⟨g, 0, none⟩) (n + 1) cap) (n + 1) (cvC (xs ++ [A])) := by
    rw [cvC_append]
    exact h1
  have hcap : n + 1 ≤ cap := by
    rcases h5.2 with ⟨e, _⟩ | ⟨g', cap', cur, e, _, _, h6, _⟩
    · cases e
    · cases e
      exact h6
  exact ⟨by simp [hl], hcap, .inr ⟨g, 0, rfl, cvC_row h5⟩⟩
end Go.Proofs.Ytmhmoebdojkbpaa
