/- The document's book: where an Id stands; one curve more; whether all can be kept. No condition but words, and how much there is. -/
import Derived.Test.YtjbpaapglamilaaAdX
namespace Go.Proofs.Ytjbpaapglamilaa.H
open Go.ChangeShapes Go.WideShapes Go.Deep Go.RowKit W
set_option linter.unusedVariables false
set_option linter.unusedSimpArgs false
section
variable {P : Program} {sl el : TypeId} {α : Type} {f : α → List Value} {s : Nat}
/-- A value is a slice of those elements, which lie somewhere. -/
def View (w : World) (f : α → List Value) (u : Value) (Y : List α) : Prop := (u = .slice none 0 0 ∧ Y = []) ∨ ∃ ad c, u = .slice (some ad) Y.length c ∧ ∀ j x, (rowC f Y)[j]? = some x → w.cell? (ad.add j) = some x
theorem add_zero' (g : Nat) : (⟨g, 0, none⟩ : Addr).add 0 = ⟨g, 0, none⟩ := by rw [add_plain]
theorem view_pre {w : World} {m n cap i : Nat} {a : Option Addr} {Y : List α} (hf : Cells f s) (hs : 0 < s) (h : w.ownsRow m el s (.slice a n cap) n (rowC f Y)) (hi : i ≤ n) : View w f (sliced a 0 i cap s) (Y.take i) := by
  have hl : Y.length = n := by
    have := h.1
    rw [rowC_len hf] at this
    exact Nat.eq_of_mul_eq_mul_right hs this
  rcases own_form h with ⟨e, e0⟩ | ⟨g, c', e, hc, _⟩
  · cases e
    have : Y = [] := List.eq_nil_of_length_eq_zero (by omega)
    subst this
    obtain rfl : i = 0 := by omega
    exact .inl ⟨by simp [sliced], by simp⟩
  · cases e
    refine .inr ⟨⟨g, 0, none⟩, cap, ?_, flat_first hf h (Below.refl _ _) i⟩
    rw [List.length_take, hl, Nat.min_eq_left hi]
    unfold sliced
    simp only [Option.map_some, Nat.zero_mul, add_zero', ite_self, Nat.sub_zero]
theorem view_suf {w : World} {m n cap i : Nat} {a : Option Addr} {Y : List α} (hf : Cells f s) (hs : 0 < s) (h : w.ownsRow m el s (.slice a n cap) n (rowC f Y)) (hi : i ≤ n) : View w f (sliced a i n cap s) (Y.drop i) := by
  have hl : Y.length = n := by
    have := h.1
    rw [rowC_len hf] at this
    exact Nat.eq_of_mul_eq_mul_right hs this
  rcases own_form h with ⟨e, e0⟩ | ⟨g, c', e, hc, _⟩
  · cases e
    have : Y = [] := List.eq_nil_of_length_eq_zero (by omega)
    subst this
    obtain rfl : i = 0 := by omega
    exact .inl ⟨by simp [sliced], by simp⟩
  · cases e
    by_cases h1 : cap = i
    · have hd : Y.drop i = [] := List.drop_eq_nil_of_le (by omega)
      refine .inr ⟨⟨g, 0, none⟩, cap - i, ?_, flat_part hf h (Below.refl _ _) i (fun e => absurd hd e)⟩
      rw [List.length_drop, hl]
      unfold sliced
      rw [if_pos h1]
    · refine .inr ⟨⟨g, i * s, none⟩, cap - i, ?_, flat_part hf h (Below.refl _ _) i (fun _ => rfl)⟩
      rw [List.length_drop, hl]
      unfold sliced
      rw [if_neg h1, Option.map_some, add_plain, Nat.zero_add]
theorem step_view (T : RowTy P sl el s) (hf : Cells f s) {w : World} {ops : Array Oper} {o : Oper} {a : Act} {K : Act → World → Prop} {Q : Exit → Act → World → Prop} {E : Prop} (hw : Region.wanted o (yielded ops a.tmps) = true) (q x : Operand)
    (ho : o.op = .call { callee := .builtin .append, args := #[q, x], argTypes := #[sl, sl] })
    (m : Nat) (v u : Value) (X Y : List α) (n k : Nat) (hn : X.length = n) (hk : Y.length = k) (hs : a.eval q = v) (hown : w.ownsRow m el s v n (rowC f X)) (hx : a.eval x = u) (hv : View w f u Y) (hl : n + k ≤ 1000000) (hm : m ≤ w.heap.size)
    (h : ∀ v' w', w'.ownsRow m el s v' (n + k) (rowC f (X ++ Y)) → w.grownBy w' v.ownBlock → K (a.put o.dst v') w') :
    if Region.wanted o (yielded ops a.tmps) = true then Oper.wp P o a w K Q else E := by
  subst hk
  rcases hv with ⟨rfl, rfl⟩ | ⟨ad, c, rfl, hc⟩
  · refine step_nomore T hw q x ho m n v (rowC f X) hs hown hx (h _ _ ?_ (World.grownBy.refl _ _))
    rw [List.append_nil]
    exact hown
  · exact step_more T hf hw q x ho m v X Y n _ hn rfl hs hown ad c hx hc hl hm (fun v' w' h1 h2 _ _ => h v' w' h1 h2)
theorem xl_pre {o : Oper} {a : Act} {w : World} {x y : Operand} {ad : Option Addr} {n cap i s : Nat} (ht : P.underlying sl = some (.slice (P.elem sl))) (hs : ∀ w, (sizeOf (P.elem sl)).run P w = .ok s w) (ho : o.op = .slice sl x none (some y) none) (hx : a.eval x = .slice ad n cap) (hy : a.eval y = .int .i64 (i : Int)) (hi : i ≤ cap) :
    (execOp a.eval o).run P w = .ok (.value (sliced ad 0 i cap s)) w := by
  unfold execOp
  have h := run_slice_h w sl ad n cap ht .i64 (i : Int) (by omega) (by omega)
  simp only [ho, hx, hy, Option.map_none, Option.map_some, run_sliceAt_slice w sl _ _ _ _ ht, Sem.run_bind, h, hs, Result.andThen_ok, Sem.run_pure, Int.toNat_natCast]
theorem xl_suf {o : Oper} {a : Act} {w : World} {x y : Operand} {ad : Option Addr} {n cap i s : Nat} (ht : P.underlying sl = some (.slice (P.elem sl))) (hs : ∀ w, (sizeOf (P.elem sl)).run P w = .ok s w) (ho : o.op = .slice sl x (some y) none none) (hx : a.eval x = .slice ad n cap) (hy : a.eval y = .int .i64 (i : Int)) (hi : i ≤ n) :
    (execOp a.eval o).run P w = .ok (.value (sliced ad i n cap s)) w := by
  unfold execOp
  have h := run_slice_l w sl ad n cap ht .i64 (i : Int) (by omega) (by omega)
  simp only [ho, hx, hy, Option.map_none, Option.map_some, run_sliceAt_slice w sl _ _ _ _ ht, Sem.run_bind, h, hs, Result.andThen_ok, Sem.run_pure, Int.toNat_natCast]
end
set_option maxRecDepth 100000 in
theorem ht44 : Try.prog.underlying 48 = some (.slice (Try.prog.elem 48)) := by kernel_rfl
set_option maxRecDepth 100000 in
theorem ht45 : Try.prog.underlying 23 = some (.slice (Try.prog.elem 23)) := by kernel_rfl
theorem hs44 : ∀ w, (sizeOf (Try.prog.elem 48)).run Try.prog w = .ok 1 w := fun w => by
  rw [show Try.prog.elem 48 = 3 from by kernel_rfl]
  exact Try.sizeOf3 w
theorem hs45 : ∀ w, (sizeOf (Try.prog.elem 23)).run Try.prog w = .ok 3 w := fun w => by
  rw [show Try.prog.elem 23 = 25 from by kernel_rfl]
  exact Try.sizeOf25 w
theorem ins_split : ∀ {L : Lv} {i : Nat} {k : Int} {c : Cv}, (∀ j q, j < i → (idsK L)[j]? = some q → q < k) → (∀ q, (idsK L)[i]? = some q → ¬ q < k) → i ≤ L.length → insK L k c = L.take i ++ (k, c) :: L.drop i
  | [], i, k, c, h1, h2, hi => by
    obtain rfl : i = 0 := by simpa using hi
    rfl
  | p :: L, 0, k, c, h1, h2, hi => by
    have := h2 p.1 rfl
    rw [insK, if_neg this]; rfl
  | p :: L, i + 1, k, c, h1, h2, hi => by
    have := h1 0 p.1 (by omega) rfl
    rw [insK, if_pos this, ins_split (i := i) (fun j q hj hq => h1 (j + 1) q (by omega) (by simpa [idsK] using hq)) (fun q hq => h2 q (by simpa [idsK] using hq)) (by simpa using hi)]
    rfl
section
variable {w w' : World} {base B n : Nat} {b : Bk} {v1 v2 v3 : Value} {k : Int} {x : Cv}
theorem own_i {w : World} {g n cap base i : Nat} {T : List Int} {x : Int} (h : w.ownsRow base 3 1 (.slice (some ⟨g, 0, none⟩) n cap) n (rowC fI T)) (hx : T[i]? = some x) : w.cell? ⟨g, i, none⟩ = some (eI x) := by
  have := own_elem cellsI h i x hx 0 (by omega) (eI x) rfl
  rwa [Nat.mul_one] at this
theorem idx_has {L : Lv} {i : Nat} {k : Int} (h : (idsK L)[i]? = some k) : hasK L k = true := hasK_iff.2 (List.mem_of_getElem? h)
theorem idx_no {L : Lv} {k : Int} (h : ∀ j q, j < L.length → (idsK L)[j]? = some q → q ≠ k) : hasK L k = false := by
  cases e : hasK L k with
  | false => rfl
  | true =>
    obtain ⟨i, hi, e2⟩ := List.getElem_of_mem (hasK_iff.1 e)
    exact absurd e2 (h i _ (by rw [lv_len] at hi; exact hi) (List.getElem?_eq_getElem hi))
set_option maxHeartbeats 4000000 in
set_option maxRecDepth 100000 in
theorem rat_any (h : R0 base w B b v1 v2 v3) (hn : b.L.length ≤ 400) (k : Int) : Calls Try.prog 26 #[ptr B, eI k] w fun e w' => (∃ r : Int, e = .returned (eI r) ∧ ((b.has k = false ∧ r = -1) ∨ (b.has k = true ∧ ∃ i : Nat, r = i ∧ (idsK b.L)[i]? = some k))) ∧ w = w' := by
  have hil := lv_len b.L
  have c1 : w.cell? ⟨B, 1, none⟩ = some v1 := (h.box.cell 1).trans rfl
  have hr1 := h.r1
  obtain ⟨N, hN⟩ : ∃ N, b.L.length = N := ⟨_, rfl⟩
  rw [hN] at hil hr1 hn
  obtain ⟨a, cap, rfl, hc, _⟩ := own_len hr1
  have j1 : (N : Int) ≤ (cap : Int) := by omega
  have hilh := Lib.hid hil
  have hNh := Lib.hid hN
  clear hil hN h
  go_enter Try.func26, Try.ntmps26
  go_upto_region 2 with fail
  go_loopw [5] (fun s5 wr => ∃ i : Nat, s5 = .int .i64 i ∧ i ≤ N ∧ (∀ j q, j < i → (idsK b.L)[j]? = some q → q ≠ k) ∧ wr = w) (fun s5 _ => N - (intOf s5).toNat)
  case atStart => exact ⟨0, rfl, by omega, fun j q hj => (by omega), rfl⟩
  case round =>
    obtain ⟨i, rfl, hi, hlo, rfl⟩ := hrel
    by_cases hlt : i < N
    · have i1 : (i : Int) < (N : Int) := by omega
      have i2 : (0 : Int) ≤ (i : Int) := by omega
      have hw1 : IntKind.i64.wrap ((i : Int) + 1) = (i : Int) + 1 := i64_id (by omega)
      obtain ⟨q, hq⟩ : ∃ q, (idsK b.L)[i]? = some q := ⟨_, List.getElem?_eq_getElem (by rw [hilh.out]; exact hlt)⟩
      obtain ⟨g, cap', e, _⟩ := (own_form hr1).resolve_left (by omega)
      cases e
      have d0 := own_i hr1 hq
      by_cases hqk : q = k
      · have hb : (q == k) = true := by simpa using hqk
        have hb2 := Lib.hid hqk
        have hqh := Lib.hid hq
        clear hqk hq
        go_wp2_with fail
        go_ret
        refine ⟨⟨_, rfl, .inr ⟨?_, i, rfl, ?_⟩⟩, rfl⟩
        · exact idx_has (by rw [← hb2.out]; exact hqh.out)
        · rw [← hb2.out]; exact hqh.out
      · have hb : (q == k) = false := by simpa using hqk
        have hlo2 : ∀ j q, j < i + 1 → (idsK b.L)[j]? = some q → q ≠ k := fun j q' hj hq' => by
          rcases Nat.lt_or_ge j i with h | h
          · exact hlo j q' h hq'
          · obtain rfl : j = i := by omega
            rw [hq] at hq'; cases hq'; exact hqk
        have hloh := Lib.hid hlo2
        clear hlo hlo2 hqk hq
        go_wp2_with fail
        exact ⟨⟨i + 1, rfl, by omega, hloh.out, by first | rfl | trivial⟩, by simp [intOf]; omega⟩
    · have i1 : ¬ (i : Int) < (N : Int) := by omega
      have hloh := Lib.hid hlo
      clear hlo
      go_wp2_with fail
      go_ret
      exact ⟨⟨_, rfl, .inl ⟨idx_no (fun j q hj hq => hloh.out j q (by rw [hNh.out] at hj; omega) hq), rfl⟩⟩, rfl⟩
set_option maxHeartbeats 4000000 in
set_option maxRecDepth 100000 in
theorem rkept_any (h : R0 base w B b v1 v2 v3) (hn : b.L.length ≤ 400 ∧ b.G.length ≤ 400) (hw : ∀ c ∈ b.all, c.word) (hR : Word b.R) : Calls Try.prog 28 #[ptr B] w fun e w' => e = .returned (.bool (kB b.all b.R)) ∧ Below w.heap.size w w' := by
  have hl2 : (cvsK b.L).length = b.L.length := List.length_map _
  have hl2h := Lib.hid hl2
  have hp : List.Perm (cvsK b.L ++ b.G) b.all := List.perm_append_comm
  obtain ⟨q, hq⟩ : ∃ q, kB b.all b.R = q := ⟨_, rfl⟩
  have hKp := fun (a : Option Addr) (k0 c0 : Nat) (W : World) (h : IsCvs W a k0 c0 (cvsK b.L ++ b.G)) => kKept_b (cvsK b.L ++ b.G) b.R q a k0 c0 W (fun c hc => hw c (hp.mem_iff.1 hc)) hR (by rw [List.length_append]; omega) h (by rw [← hq, kB_iff]; exact (kept_perm hp b.R).symm)
  have hKk := Lib.hid hKp
  rw [hq]
  clear hKp hl2 hp hw hq
  go_enter Try.func28, Try.ntmps28
  go_upto_region 1 with fail
  refine wp_region_held_drew (S := fun W => Below w.heap.size w W) (by kernel_rfl) (drew_below w) (fun hHeld => ?_)
  refine wpAnyH_take (i := 1) (v := ?_) (by simp only [List.getElem?_toArray, List.getElem?_cons_zero, List.getElem?_cons_succ]; rfl) (by kernel_rfl) (by kernel_rfl) (by kernel_rfl) (by exact fun _ _ _ h => h) (Or.inl ⟨by rfl, ?_⟩) (by assumption) ?_
  rotate_left
  · (intro w hSw; (try dsimp only at hSw); go_simp; (try with_reducible rfl))
  try simp only [Act.put, List.setIfInBounds_toArray, List.set_cons_zero, List.set_cons_succ]
  refine wpAnyH_take (i := 2) (v := ?_) (by simp only [List.getElem?_toArray, List.getElem?_cons_zero, List.getElem?_cons_succ]; rfl) (by kernel_rfl) (by kernel_rfl) (by kernel_rfl) (by exact fun _ _ _ h => h) (Or.inl ⟨by rfl, ?_⟩) (by assumption) ?_
  rotate_left
  · (intro w hSw; (try dsimp only at hSw); go_simp; (try with_reducible rfl))
  try simp only [Act.put, List.setIfInBounds_toArray, List.set_cons_zero, List.set_cons_succ]
  refine wpAnyH_take (i := 3) (v := ?_) (by simp only [List.getElem?_toArray, List.getElem?_cons_zero, List.getElem?_cons_succ]; rfl) (by kernel_rfl) (by kernel_rfl) (by kernel_rfl) (by exact fun _ _ _ h => h) (Or.inl ⟨by rfl, ?_⟩) (by assumption) ?_
  rotate_left
  · (intro w hSw; (try dsimp only at hSw); go_simp; (try with_reducible rfl))
  try simp only [Act.put, List.setIfInBounds_toArray, List.set_cons_zero, List.set_cons_succ]
  refine wpAnyH_take (i := 6) (v := ?_) (by simp only [List.getElem?_toArray, List.getElem?_cons_zero, List.getElem?_cons_succ]; rfl) (by kernel_rfl) (by kernel_rfl) (by kernel_rfl) (by exact fun _ _ _ h => h) (Or.inl ⟨by rfl, ?_⟩) (by assumption) ?_
  rotate_left
  · (intro w hSw; (try dsimp only at hSw); go_simp; (try with_reducible rfl))
  try simp only [Act.put, List.setIfInBounds_toArray, List.set_cons_zero, List.set_cons_succ]
  refine wpAnyH_take (i := 7) (v := ?_) (by simp only [List.getElem?_toArray, List.getElem?_cons_zero, List.getElem?_cons_succ]; rfl) (by kernel_rfl) (by kernel_rfl) (by kernel_rfl) (by exact fun _ _ _ h => h) (Or.inl ⟨by rfl, ?_⟩) (by assumption) ?_
  rotate_left
  · (intro w hSw; (try dsimp only at hSw); go_simp; (try with_reducible rfl))
  try simp only [Act.put, List.setIfInBounds_toArray, List.set_cons_zero, List.set_cons_succ]
  refine wpAnyH_take (i := 8) (v := ?_) (by simp only [List.getElem?_toArray, List.getElem?_cons_zero, List.getElem?_cons_succ]; rfl) (by kernel_rfl) (by kernel_rfl) (by kernel_rfl) (by exact fun _ _ _ h => h) (Or.inl ⟨by rfl, ?_⟩) (by assumption) ?_
  rotate_left
  · (intro w hSw; (try dsimp only at hSw); go_simp; (try with_reducible rfl))
  try simp only [Act.put, List.setIfInBounds_toArray, List.set_cons_zero, List.set_cons_succ]
  refine wpAnyH_take (i := 11) (v := ?_) (by simp only [List.getElem?_toArray, List.getElem?_cons_zero, List.getElem?_cons_succ]; rfl) (by kernel_rfl) (by kernel_rfl) (by kernel_rfl) (by exact fun _ _ _ h => h) (Or.inl ⟨by rfl, ?_⟩) (by assumption) ?_
  rotate_left
  · (intro w hSw; (try dsimp only at hSw); go_simp; (try with_reducible rfl))
  try simp only [Act.put, List.setIfInBounds_toArray, List.set_cons_zero, List.set_cons_succ]
  refine wpAnyH_take (i := 12) (v := ?_) (by simp only [List.getElem?_toArray, List.getElem?_cons_zero, List.getElem?_cons_succ]; rfl) (by kernel_rfl) (by kernel_rfl) (by kernel_rfl) (by exact fun _ _ _ h => h) (Or.inl ⟨by rfl, ?_⟩) (by assumption) ?_
  rotate_left
  · (intro w hSw; (try dsimp only at hSw); go_simp; (try with_reducible rfl))
  try simp only [Act.put, List.setIfInBounds_toArray, List.set_cons_zero, List.set_cons_succ]
  refine wpAnyH_take (i := 13) (v := ?_) (by simp only [List.getElem?_toArray, List.getElem?_cons_zero, List.getElem?_cons_succ]; rfl) (by kernel_rfl) (by kernel_rfl) (by kernel_rfl) (by exact fun _ _ _ h => h) (Or.inl ⟨by rfl, ?_⟩) (by assumption) ?_
  rotate_left
  · (intro w hSw; (try dsimp only at hSw); go_simp; (try with_reducible rfl))
  try simp only [Act.put, List.setIfInBounds_toArray, List.set_cons_zero, List.set_cons_succ]
  refine wpAnyH_take (i := 4) (v := v2) (by simp only [List.getElem?_toArray, List.getElem?_cons_zero, List.getElem?_cons_succ]; rfl) (by kernel_rfl) (by kernel_rfl) (by kernel_rfl) (by exact fun _ _ _ h => h) (Or.inl ⟨by rfl, fun w hSw => xl_cell 23 (h.box.below hSw) rfl rfl Try.underlying23 rfl rfl⟩) (by assumption) ?_
  try simp only [Act.put, List.setIfInBounds_toArray, List.set_cons_zero, List.set_cons_succ]
  refine wpAnyH_take (i := 9) (v := v3) (by simp only [List.getElem?_toArray, List.getElem?_cons_zero, List.getElem?_cons_succ]; rfl) (by kernel_rfl) (by kernel_rfl) (by kernel_rfl) (by exact fun _ _ _ h => h) (Or.inl ⟨by rfl, fun w hSw => xl_cell 23 (h.box.below hSw) rfl rfl Try.underlying23 rfl rfl⟩) (by assumption) ?_
  try simp only [Act.put, List.setIfInBounds_toArray, List.set_cons_zero, List.set_cons_succ]
  refine wpAnyH_take (i := 14) (v := eU b.R) (by simp only [List.getElem?_toArray, List.getElem?_cons_zero, List.getElem?_cons_succ]; rfl) (by kernel_rfl) (by kernel_rfl) (by kernel_rfl) (by exact fun _ _ _ h => h) (Or.inl ⟨by rfl, fun w hSw => xl_cell 22 (h.box.below hSw) rfl rfl Try.underlying22 rfl rfl⟩) (by assumption) ?_
  try simp only [Act.put, List.setIfInBounds_toArray, List.set_cons_zero, List.set_cons_succ]
  refine wpAnyH_ready (rs := [0]) (by kernel_rfl) (by simp) ?_
  refine AllReadyH.cons (by simp only [List.getElem?_toArray, List.getElem?_cons_zero]; rfl) (fun K hK => ?_) AllReadyH.nil
  refine st_sl0 23 25 rfl rfl Try.underlying23 size25 ?_
  intro w1 X1 T1
  have E1 := own_empty (α := Cv) (s := 3) (f := fC) X1 hHeld.size
  refine hK.out _ _ (ups hHeld T1 hHeld.size) (fun hHeld => ?_)
  clear hK K
  try simp only [Act.put, List.setIfInBounds_toArray, List.set_cons_zero, List.set_cons_succ]
  refine wpAnyH_ready (rs := [5]) (by kernel_rfl) (by simp) ?_
  refine AllReadyH.cons (by simp only [List.getElem?_toArray, List.getElem?_cons_zero, List.getElem?_cons_succ]; rfl) (fun K hK => ?_) AllReadyH.nil
  refine step_joinN rowCv cellsC rfl _ _ rfl w.heap.size 0 _ v2 [] (cvsK b.L) 0 b.L.length rfl hl2h.out rfl E1 rfl (own_mono (own_below h.r2 hHeld) (Nat.zero_le _)) (by omega) hHeld.size ?_
  intro v2' w2 O2 G2 N2
  rw [List.nil_append, Nat.zero_add] at O2
  refine hK.out _ _ (hHeld.grown G2 hHeld.size (fun g e => (E1.lt g e).1)) (fun hHeld => ?_)
  clear hK K
  try simp only [Act.put, List.setIfInBounds_toArray, List.set_cons_zero, List.set_cons_succ]
  refine wpAnyH_ready (rs := [10]) (by kernel_rfl) (by simp) ?_
  refine AllReadyH.cons (by simp only [List.getElem?_toArray, List.getElem?_cons_zero, List.getElem?_cons_succ]; rfl) (fun K hK => ?_) AllReadyH.nil
  refine step_joinN rowCv cellsC rfl _ _ rfl w.heap.size 0 _ v3 (cvsK b.L) b.G b.L.length b.G.length hl2h.out rfl rfl O2 rfl (own_mono (own_below h.r3 hHeld) (Nat.zero_le _)) (by omega) hHeld.size ?_
  intro v3' w3 O3 G3 N3
  obtain ⟨a3, c3, rfl, _⟩ := own_len O3
  have hK3 := hKk.out a3 _ c3 w3 (own_cvs O3)
  refine hK.out _ _ (hHeld.grown G3 hHeld.size (fun g e => (O2.lt g e).1)) (fun hHeld => ?_)
  clear hK K
  try simp only [Act.put, List.setIfInBounds_toArray, List.set_cons_zero, List.set_cons_succ]
  refine wpAnyH_ready (rs := [15]) (by kernel_rfl) (by simp) ?_
  refine AllReadyH.cons (by simp only [List.getElem?_toArray, List.getElem?_cons_zero, List.getElem?_cons_succ]; rfl) (fun K hK => ?_) AllReadyH.nil
  go_simp
  go_at_call 42
  (with_reducible refine hK3.mono ?_)
  rintro e w4 ⟨rfl, T4⟩
  refine hK.out _ _ (ups hHeld T4 hHeld.size) (fun hHeld => ?_)
  clear hK K
  try simp only [Act.put, List.setIfInBounds_toArray, List.set_cons_zero, List.set_cons_succ]
  refine wpAnyH_take (i := 16) (v := ?_) (by simp only [List.getElem?_toArray, List.getElem?_cons_zero, List.getElem?_cons_succ]; rfl) (by kernel_rfl) (by kernel_rfl) (by kernel_rfl) (by exact fun _ _ _ h => h) (Or.inl ⟨by rfl, ?_⟩) (by assumption) ?_
  rotate_left
  · (intro w hSw; (try dsimp only at hSw); go_simp; (try with_reducible rfl))
  try simp only [Act.put, List.setIfInBounds_toArray, List.set_cons_zero, List.set_cons_succ]
  refine wpAnyH_done (by kernel_rfl) ?_ _
  go_wp2_with fail
  go_ret
  exact ⟨rfl, hHeld⟩
end
end Go.Proofs.Ytjbpaapglamilaa.H
