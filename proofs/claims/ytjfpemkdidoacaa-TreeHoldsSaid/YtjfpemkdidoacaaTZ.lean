/- What the tree's call Each goes over: its items, by keys, till the one who asks says no. No condition. -/
import Derived.Test.YtjfpemkdidoacaaRnd
namespace Go.Proofs.Ytjfpemkdidoacaa
open Go.RowKit Go.Shelf
set_option linter.unusedVariables false
set_option linter.unusedSimpArgs false
attribute [local go_sem] Oper.semAt_some
theorem eachT_any (p : Pt) (w : World) : Calls Try.prog 26 #[.pointer p] w fun e w' => e = .returned (.func (.func 52) #[] #[.pointer (some ⟨w.heap.size, 0, none⟩)]) ∧ w' = w.alloc (.cells #[.pointer p] 23) := by
  go_enter Try.func26, Try.ntmps26
  go_wp2
  go_ret
  exact ⟨rfl, rfl⟩
def EaI (J : List It → World → Prop) (n₀ Y l : Nat) (W : World) (pre : List Nx2) (W' : World) : Prop :=
  J (pre.map Prod.snd) W' ∧ Box W' Y #[.func (.yield l) #[] #[]] 84 ∧ Below n₀ W W'
def EaX (Jx : List It → World → Prop) (c : Code) (pre : List Nx2) (W' : World) : Prop := c = .ret ∧ Jx (pre.map Prod.snd) W'
set_option maxRecDepth 100000 in
set_option maxHeartbeats 500000 in
theorem each1T_seq (n Cb n₀ : Nat) (tq p : Pt) (t : Tr) (w : World) (hn : n₀ ≤ w.heap.size) (h6 : 6 ≤ n) (hC : Box w Cb #[.pointer tq] 23)
    (hT : ∀ w1, Below w.heap.size w w1 → Calls Try.prog 45 #[.pointer tq] w1 fun e w' => e = .returned (.pointer p) ∧ w1 = w') (ht : IsTr n₀ w p t) :
    SeqC n 52 #[.pointer (some ⟨Cb, 0, none⟩)] (fun m : It => #[ky m.1, eU m.2]) n₀ (fun ys => ys = t.items) (fun pre => pre ≠ [] ∧ pre <+: t.items) (fun pre x => pre ++ [x] <+: t.items) w := by
  intro l J Jx W hW hJ hJx hY h0
  obtain ⟨L, hL, hLi, hLn⟩ := IsTr.list (IsTr.below (hW.mono hn) ht)
  have hlt : W.heap.size + 1 < W.heap.size + 2 := by omega
  refine callsIn_of_wp_marks Try.func52 rfl trivial ?_ rfl
  simp only [Try.ntmps52, List.size_toArray, List.length_cons, List.length_nil, Nat.reduceAdd, Nat.reduceSub, Array.replicate_succ, Array.replicate_zero, List.push_toArray, List.append_toArray, List.nil_append, List.cons_append]
  have b0 := (hC.below hW).alloc (.cells #[.func (.yield l) #[] #[]] 84)
  have b1 := Box.new W 84 #[.func (.yield l) #[] #[]]
  have T1 := up1 W (.cells #[.func (.yield l) #[] #[]] 84)
  have hT1 := hT _ (upp hW T1)
  have j1 : J [] (W.alloc (.cells #[.func (.yield l) #[] #[]] 84)) := hJ.alloc _ h0
  obtain ⟨W1, hW1⟩ : ∃ v, W.alloc (.cells #[.func (.yield l) #[] #[]] 84) = v := ⟨_, rfl⟩
  have hs1 : W1.heap.size = W.heap.size + 1 := by rw [← hW1]; simp
  rw [hW1] at b0 b1 T1 hT1 j1
  have c0 := b0.cell 0
  have hdd : ∀ k : Nat, (Fence.wide.depth.isSome = true → 1 ≤ k) := fun k h => by cases h
  have b2 := Box.new W1 55 #[.pointer p]
  have T2 := up1 W1 (.cells #[.pointer p] 55)
  have b3 := b1.alloc (.cells #[.pointer p] 55)
  have j2 : J [] (W1.alloc (.cells #[.pointer p] 55)) := (hJ.alloc _ j1)
  obtain ⟨W2, hW2⟩ : ∃ v, W1.alloc (.cells #[.pointer p] 55) = v := ⟨_, rfl⟩
  have hs2 : W2.heap.size = W.heap.size + 2 := by rw [← hW2, World.size_alloc, hs1]
  rw [hW2] at b2 T2 b3 j2
  have hE := each_any p W1
  rw [hW2] at hE
  rw [hs1] at b2 hE
  gi_wp2_with ((try refine ⟨trivial, ?_⟩); (try refine ⟨hdd _, ?_⟩); (first | (gi_at_call 45; (refine (callsIn_wide.2 hT1).mono ?_); rintro e w' ⟨rfl, rfl⟩) | (gi_at_call 53; (refine (callsIn_wide.2 hE).mono ?_); rintro e W2 ⟨rfl, rfl⟩)))
  clear hW1 hW2 hE hT1 b0 b1 c0 j1
  have hL2 : IsLs n₀ W2 p t L := hL.below ((upp T1 T2).mono (Nat.le_trans hn hW.size))
  have hseq := each1_seq (n - 1) (W.heap.size + 1) n₀ p t L W2 (by have := hW.size; omega) b2 hL2
  have hB0 : Below n₀ W W2 := (upp T1 T2).mono (Nat.le_trans hn hW.size)
  have le : W.heap.size ≤ W2.heap.size := by omega
  refine loopC (by omega) (gf := 67) (lb := #[.pointer (some ⟨W.heap.size + 1, 0, none⟩)]) rfl (enters_of Try.func67 (by kernel_rfl) rfl) (n₀ := n₀) (by have := hW.size; omega) hseq (fun _ => rfl)
    (EaI J n₀ W.heap.size l W) (EaX Jx)
    (fun s X Y row hs hg hr => ⟨hJ _ X Y row hs.1 hg (fun r e => Nat.le_trans le (hr r e)), hs.2.1.turn hg hr (by omega), hs.2.2.grown hg (by have := hs.2.2.size; have := hW.size; omega) (fun k e => by have := hr k e; have := hW.size; omega)⟩)
    (fun c s X Y row hs hg hr => ⟨hs.1, hJx _ X Y row hs.2 hg (fun r e => Nat.le_trans le (hr r e))⟩)
    ⟨j2, b3, hB0⟩
    (fun x a' _ => a' = { tmps := #[.func (.yield l) #[] #[], .pointer (some ⟨Cb, 0, none⟩), .pointer (some ⟨W.heap.size, 0, none⟩), .pointer x.1, .pointer tq, .pointer p, .func (.func 67) #[] #[.pointer (some ⟨W.heap.size + 1, 0, none⟩)], .pointer x.1, undef, undef, undef, undef, undef, undef, undef, undef, undef, undef, undef, undef, undef, undef, undef], defers := [] })
    (fun x a' => ownFrom_pure _ _)
    ?assign ?body ?done ?stop
  case assign =>
    rintro l0 pre x W' K hzW hI hK
    gi_wp2
    exact hK _ _ (Mid.refl _ _ _) hI rfl
  case done =>
    rintro D xs W' hD rfl ⟨h1, h2, h3⟩ hK
    gi_wp2
    refine ⟨by simp, .inl ⟨_, _, rfl, run_takeDeferred hK, ?_⟩⟩
    exact ⟨_, results_none rfl _ _ _, ⟨_, rfl⟩, .inl ⟨_, hLi, hJ.put _ h1 (by omega)⟩⟩
  case stop =>
    rintro D c pre W' hD ⟨hp0, hp⟩ ⟨rfl, h1⟩ hK
    gi_wp2
    refine ⟨by simp, .inl ⟨_, _, rfl, run_takeDeferred hK, ?_⟩⟩
    refine ⟨_, results_none rfl _ _ _, ⟨_, rfl⟩, .inr ⟨pre.map Prod.snd, ⟨by simpa using hp0, ?_⟩, hJx.put _ h1 (by omega)⟩⟩
    rw [← hLi]
    exact hp.map _
  case body =>
    rintro l0 pre x a' W' hzW ⟨h1, h2, h3⟩ rfl hpx
    obtain ⟨q, m⟩ := x
    have hmem : (q, m) ∈ L := hpx.subset (by simp)
    obtain ⟨B, r, pl, pr, sx, e1, hBn, hB, hw⟩ := (hLn (q, m) hmem).below h3
    dsimp only at e1
    subst e1
    have hpm : pre.map Prod.snd ++ [m] <+: t.items := by rw [← hLi]; simpa using hpx.map Prod.snd
    have hj : J (pre.map Prod.snd) W'.drew := hJ _ _ _ none h1 ⟨rfl, rfl, rfl, Nat.le_refl _, fun _ _ _ => rfl⟩ (fun r e => by cases e)
    obtain ⟨fn, tmps, assign, body, hy, hR⟩ := YieldAt.anyDepth (n - 1 - 1 - 1) (hY (pre.map Prod.snd) m W'.drew (by show W.heap.size ≤ W'.heap.size; omega) hj hpm)
    have y0 := h2.cell 0
    replace hR := RoundIn.mono (F := Fence.wide) (R' := fun e W3 => ∃ b : Bool, e = .returned (.bool b) ∧ ((b = true ∧ J (pre.map Prod.snd ++ [m]) W3) ∨ (b = false ∧ Jx (pre.map Prod.snd ++ [m]) W3)) ∧ Mid n₀ W.heap.size W'.drew W3) hR (fun e W3 h => h.elim (fun ⟨a1, a2, a3⟩ => ⟨true, a1, .inl ⟨rfl, a2⟩, a3⟩) (fun ⟨a1, a2, a3⟩ => ⟨false, a1, .inr ⟨rfl, a2⟩, a3⟩))
    obtain ⟨c0, c1, c2, c3, c4, c5, c6⟩ := nodC hB
    have hmix := mixed
    have hfin : ∀ W3, Mid n₀ W.heap.size W'.drew W3 → Mid n₀ W2.heap.size W' W3 ∧ Box W3 W.heap.size #[.func (.yield l) #[] #[]] 84 ∧ Below n₀ W W3 := fun W3 hm => by
      have hm0 : Mid n₀ W2.heap.size W' W'.drew := ⟨(Below.refl _ _).drew, fun _ _ _ => rfl⟩
      exact ⟨hm0.trans (hm.later (by omega)), (hm.2 W.heap.size (Nat.le_refl _) h2.lt).trans h2, h3.trans ((Below.refl n₀ W').drew.trans hm.1)⟩
    clear hY hseq hLn hj hmem hT hJ hJx h2 h3
    have hEq : ∀ w : World, (binOp BinOp.eql 84 (.func (.yield l) #[] #[]) .nilFunc).run Try.prog w = .ok (.bool false) w := fun _ => by kernel_rfl
    gi_wp2
    refine round_any hmix (by kernel_rfl) ?_
    refine wpAnyIn_ready (rs := [0]) (by kernel_rfl) (by simp) ?_
    refine AllReadyIn.cons rfl (fun K hK => ?_) AllReadyIn.nil
    go_simp
    refine hK _ _ ?_
    clear hK K
    refine wpAnyIn_ready (rs := [1]) (by kernel_rfl) (by simp) ?_
    refine AllReadyIn.cons rfl (fun K hK => ?_) AllReadyIn.nil
    go_simp
    refine hK _ _ ?_
    clear hK K
    refine wpAnyIn_ready (rs := [2]) (by kernel_rfl) (by simp) ?_
    refine AllReadyIn.cons rfl (fun K hK => ?_) AllReadyIn.nil
    go_simp
    refine hK _ _ ?_
    clear hK K
    refine wpAnyIn_take (i := 4) (v := ?_) rfl rfl (by kernel_rfl) (by kernel_rfl) (by kernel_rfl) (fun _ _ _ h => h) ⟨Or.inl ⟨by rfl, ?_⟩, fun _ => rfl⟩ ?_
    rotate_left
    · (intro w; go_simp; (try with_reducible rfl))
    try simp only [Act.put, List.setIfInBounds_toArray, List.set_cons_zero, List.set_cons_succ]
    refine wpAnyIn_take (i := 5) (v := ?_) rfl rfl (by kernel_rfl) (by kernel_rfl) (by kernel_rfl) (fun _ _ _ h => h) ⟨Or.inl ⟨by rfl, ?_⟩, fun _ => rfl⟩ ?_
    rotate_left
    · (intro w; go_simp; (try with_reducible rfl))
    try simp only [Act.put, List.setIfInBounds_toArray, List.set_cons_zero, List.set_cons_succ]
    refine wpAnyIn_take (i := 6) (v := ?_) rfl rfl (by kernel_rfl) (by kernel_rfl) (by kernel_rfl) (fun _ _ _ h => h) ⟨Or.inl ⟨by rfl, ?_⟩, fun _ => rfl⟩ ?_
    rotate_left
    · (intro w; go_simp; (try with_reducible rfl))
    try simp only [Act.put, List.setIfInBounds_toArray, List.set_cons_zero, List.set_cons_succ]
    refine wpAnyIn_take (i := 8) (v := ?_) rfl rfl (by kernel_rfl) (by kernel_rfl) (by kernel_rfl) (fun _ _ _ h => h) ⟨Or.inl ⟨by rfl, ?_⟩, fun _ => rfl⟩ ?_
    rotate_left
    · (intro w; go_simp; (try with_reducible rfl))
    try simp only [Act.put, List.setIfInBounds_toArray, List.set_cons_zero, List.set_cons_succ]
    refine wpAnyIn_take (i := 9) (v := ?_) rfl rfl (by kernel_rfl) (by kernel_rfl) (by kernel_rfl) (fun _ _ _ h => h) ⟨Or.inl ⟨by rfl, ?_⟩, fun _ => rfl⟩ ?_
    rotate_left
    · (intro w; go_simp; (try with_reducible rfl))
    try simp only [Act.put, List.setIfInBounds_toArray, List.set_cons_zero, List.set_cons_succ]
    refine wpAnyIn_take (i := 10) (v := ?_) rfl rfl (by kernel_rfl) (by kernel_rfl) (by kernel_rfl) (fun _ _ _ h => h) ⟨Or.inl ⟨by rfl, ?_⟩, fun _ => rfl⟩ ?_
    rotate_left
    · (intro w; go_simp; (try with_reducible rfl))
    try simp only [Act.put, List.setIfInBounds_toArray, List.set_cons_zero, List.set_cons_succ]
    refine wpAnyIn_ready (rs := [3, 7, 11]) (by kernel_rfl) (by simp) ?_
    refine AllReadyIn.cons rfl (fun K hK => ?_) ?_
    · go_simp
      refine hK _ _ ?_
      clear hK K
      refine wpAnyIn_ready (rs := [7, 11]) (by kernel_rfl) (by simp) ?_
      refine AllReadyIn.cons rfl (fun K hK => ?_) ?_
      · go_simp
        refine hK _ _ ?_
        clear hK K
        refine wpAnyIn_ready (rs := [11]) (by kernel_rfl) (by simp) ?_
        refine AllReadyIn.cons rfl (fun K hK => ?_) AllReadyIn.nil
        go_simp
        refine hK _ _ ?_
        clear hK K
        refine wpAnyIn_ready (rs := [12]) (by kernel_rfl) (by simp) ?_
        refine AllReadyIn.cons rfl (fun K hK => ?_) AllReadyIn.nil
        go_simp
        refine ⟨hdd _, ?_⟩; refine RoundIn.mono hR ?_; clear hR; rintro e W3 ⟨b, rfl, hJ3, hm3⟩; replace hJ3 := Lib.hid hJ3; (try dsimp only)
        refine hK _ _ ?_
        clear hK K
        refine wpAnyIn_ready (rs := [13]) (by kernel_rfl) (by simp) ?_
        refine AllReadyIn.cons rfl (fun K hK => ?_) AllReadyIn.nil
        go_simp
        refine hK _ _ ?_
        clear hK K
        refine wpAnyIn_ready (rs := [14]) (by kernel_rfl) (by simp) ?_
        refine AllReadyIn.cons rfl (fun K hK => ?_) AllReadyIn.nil
        go_simp
        refine hK _ _ ?_
        clear hK K
        refine wpAnyIn_done (by kernel_rfl) ?_ _
        have hmm := hfin W3 hm3
        rcases hJ3.out with ⟨rfl, hj3⟩ | ⟨rfl, hj3⟩
        · clear hJ3
          gi_wp2
          exact ⟨hmm.1, by simpa using hj3, hmm.2⟩
        · clear hJ3
          gi_wp2
          exact ⟨hmm.1, rfl, by simpa using hj3⟩
      refine AllReadyIn.cons rfl (fun K hK => ?_) AllReadyIn.nil
      go_simp
      refine hK _ _ ?_
      clear hK K
      refine wpAnyIn_ready (rs := [7]) (by kernel_rfl) (by simp) ?_
      refine AllReadyIn.cons rfl (fun K hK => ?_) AllReadyIn.nil
      go_simp
      refine hK _ _ ?_
      clear hK K
      refine wpAnyIn_ready (rs := [12]) (by kernel_rfl) (by simp) ?_
      refine AllReadyIn.cons rfl (fun K hK => ?_) AllReadyIn.nil
      go_simp
      refine ⟨hdd _, ?_⟩; refine RoundIn.mono hR ?_; clear hR; rintro e W3 ⟨b, rfl, hJ3, hm3⟩; replace hJ3 := Lib.hid hJ3; (try dsimp only)
      refine hK _ _ ?_
      clear hK K
      refine wpAnyIn_ready (rs := [13]) (by kernel_rfl) (by simp) ?_
      refine AllReadyIn.cons rfl (fun K hK => ?_) AllReadyIn.nil
      go_simp
      refine hK _ _ ?_
      clear hK K
      refine wpAnyIn_ready (rs := [14]) (by kernel_rfl) (by simp) ?_
      refine AllReadyIn.cons rfl (fun K hK => ?_) AllReadyIn.nil
      go_simp
      refine hK _ _ ?_
      clear hK K
      refine wpAnyIn_done (by kernel_rfl) ?_ _
      have hmm := hfin W3 hm3
      rcases hJ3.out with ⟨rfl, hj3⟩ | ⟨rfl, hj3⟩
      · clear hJ3
        gi_wp2
        exact ⟨hmm.1, by simpa using hj3, hmm.2⟩
      · clear hJ3
        gi_wp2
        exact ⟨hmm.1, rfl, by simpa using hj3⟩
    refine AllReadyIn.cons rfl (fun K hK => ?_) ?_
    · go_simp
      refine hK _ _ ?_
      clear hK K
      refine wpAnyIn_ready (rs := [3, 11]) (by kernel_rfl) (by simp) ?_
      refine AllReadyIn.cons rfl (fun K hK => ?_) ?_
      · go_simp
        refine hK _ _ ?_
        clear hK K
        refine wpAnyIn_ready (rs := [11]) (by kernel_rfl) (by simp) ?_
        refine AllReadyIn.cons rfl (fun K hK => ?_) AllReadyIn.nil
        go_simp
        refine hK _ _ ?_
        clear hK K
        refine wpAnyIn_ready (rs := [12]) (by kernel_rfl) (by simp) ?_
        refine AllReadyIn.cons rfl (fun K hK => ?_) AllReadyIn.nil
        go_simp
        refine ⟨hdd _, ?_⟩; refine RoundIn.mono hR ?_; clear hR; rintro e W3 ⟨b, rfl, hJ3, hm3⟩; replace hJ3 := Lib.hid hJ3; (try dsimp only)
        refine hK _ _ ?_
        clear hK K
        refine wpAnyIn_ready (rs := [13]) (by kernel_rfl) (by simp) ?_
        refine AllReadyIn.cons rfl (fun K hK => ?_) AllReadyIn.nil
        go_simp
        refine hK _ _ ?_
        clear hK K
        refine wpAnyIn_ready (rs := [14]) (by kernel_rfl) (by simp) ?_
        refine AllReadyIn.cons rfl (fun K hK => ?_) AllReadyIn.nil
        go_simp
        refine hK _ _ ?_
        clear hK K
        refine wpAnyIn_done (by kernel_rfl) ?_ _
        have hmm := hfin W3 hm3
        rcases hJ3.out with ⟨rfl, hj3⟩ | ⟨rfl, hj3⟩
        · clear hJ3
          gi_wp2
          exact ⟨hmm.1, by simpa using hj3, hmm.2⟩
        · clear hJ3
          gi_wp2
          exact ⟨hmm.1, rfl, by simpa using hj3⟩
      refine AllReadyIn.cons rfl (fun K hK => ?_) AllReadyIn.nil
      go_simp
      refine hK _ _ ?_
      clear hK K
      refine wpAnyIn_ready (rs := [3]) (by kernel_rfl) (by simp) ?_
      refine AllReadyIn.cons rfl (fun K hK => ?_) AllReadyIn.nil
      go_simp
      refine hK _ _ ?_
      clear hK K
      refine wpAnyIn_ready (rs := [12]) (by kernel_rfl) (by simp) ?_
      refine AllReadyIn.cons rfl (fun K hK => ?_) AllReadyIn.nil
      go_simp
      refine ⟨hdd _, ?_⟩; refine RoundIn.mono hR ?_; clear hR; rintro e W3 ⟨b, rfl, hJ3, hm3⟩; replace hJ3 := Lib.hid hJ3; (try dsimp only)
      refine hK _ _ ?_
      clear hK K
      refine wpAnyIn_ready (rs := [13]) (by kernel_rfl) (by simp) ?_
      refine AllReadyIn.cons rfl (fun K hK => ?_) AllReadyIn.nil
      go_simp
      refine hK _ _ ?_
      clear hK K
      refine wpAnyIn_ready (rs := [14]) (by kernel_rfl) (by simp) ?_
      refine AllReadyIn.cons rfl (fun K hK => ?_) AllReadyIn.nil
      go_simp
      refine hK _ _ ?_
      clear hK K
      refine wpAnyIn_done (by kernel_rfl) ?_ _
      have hmm := hfin W3 hm3
      rcases hJ3.out with ⟨rfl, hj3⟩ | ⟨rfl, hj3⟩
      · clear hJ3
        gi_wp2
        exact ⟨hmm.1, by simpa using hj3, hmm.2⟩
      · clear hJ3
        gi_wp2
        exact ⟨hmm.1, rfl, by simpa using hj3⟩
    refine AllReadyIn.cons rfl (fun K hK => ?_) AllReadyIn.nil
    go_simp
    refine hK _ _ ?_
    clear hK K
    refine wpAnyIn_ready (rs := [3, 7]) (by kernel_rfl) (by simp) ?_
    refine AllReadyIn.cons rfl (fun K hK => ?_) ?_
    · go_simp
      refine hK _ _ ?_
      clear hK K
      refine wpAnyIn_ready (rs := [7]) (by kernel_rfl) (by simp) ?_
      refine AllReadyIn.cons rfl (fun K hK => ?_) AllReadyIn.nil
      go_simp
      refine hK _ _ ?_
      clear hK K
      refine wpAnyIn_ready (rs := [12]) (by kernel_rfl) (by simp) ?_
      refine AllReadyIn.cons rfl (fun K hK => ?_) AllReadyIn.nil
      go_simp
      refine ⟨hdd _, ?_⟩; refine RoundIn.mono hR ?_; clear hR; rintro e W3 ⟨b, rfl, hJ3, hm3⟩; replace hJ3 := Lib.hid hJ3; (try dsimp only)
      refine hK _ _ ?_
      clear hK K
      refine wpAnyIn_ready (rs := [13]) (by kernel_rfl) (by simp) ?_
      refine AllReadyIn.cons rfl (fun K hK => ?_) AllReadyIn.nil
      go_simp
      refine hK _ _ ?_
      clear hK K
      refine wpAnyIn_ready (rs := [14]) (by kernel_rfl) (by simp) ?_
      refine AllReadyIn.cons rfl (fun K hK => ?_) AllReadyIn.nil
      go_simp
      refine hK _ _ ?_
      clear hK K
      refine wpAnyIn_done (by kernel_rfl) ?_ _
      have hmm := hfin W3 hm3
      rcases hJ3.out with ⟨rfl, hj3⟩ | ⟨rfl, hj3⟩
      · clear hJ3
        gi_wp2
        exact ⟨hmm.1, by simpa using hj3, hmm.2⟩
      · clear hJ3
        gi_wp2
        exact ⟨hmm.1, rfl, by simpa using hj3⟩
    refine AllReadyIn.cons rfl (fun K hK => ?_) AllReadyIn.nil
    go_simp
    refine hK _ _ ?_
    clear hK K
    refine wpAnyIn_ready (rs := [3]) (by kernel_rfl) (by simp) ?_
    refine AllReadyIn.cons rfl (fun K hK => ?_) AllReadyIn.nil
    go_simp
    refine hK _ _ ?_
    clear hK K
    refine wpAnyIn_ready (rs := [12]) (by kernel_rfl) (by simp) ?_
    refine AllReadyIn.cons rfl (fun K hK => ?_) AllReadyIn.nil
    go_simp
    refine ⟨hdd _, ?_⟩; refine RoundIn.mono hR ?_; clear hR; rintro e W3 ⟨b, rfl, hJ3, hm3⟩; replace hJ3 := Lib.hid hJ3; (try dsimp only)
    refine hK _ _ ?_
    clear hK K
    refine wpAnyIn_ready (rs := [13]) (by kernel_rfl) (by simp) ?_
    refine AllReadyIn.cons rfl (fun K hK => ?_) AllReadyIn.nil
    go_simp
    refine hK _ _ ?_
    clear hK K
    refine wpAnyIn_ready (rs := [14]) (by kernel_rfl) (by simp) ?_
    refine AllReadyIn.cons rfl (fun K hK => ?_) AllReadyIn.nil
    go_simp
    refine hK _ _ ?_
    clear hK K
    refine wpAnyIn_done (by kernel_rfl) ?_ _
    have hmm := hfin W3 hm3
    rcases hJ3.out with ⟨rfl, hj3⟩ | ⟨rfl, hj3⟩
    · clear hJ3
      gi_wp2
      exact ⟨hmm.1, by simpa using hj3, hmm.2⟩
    · clear hJ3
      gi_wp2
      exact ⟨hmm.1, rfl, by simpa using hj3⟩
end Go.Proofs.Ytjfpemkdidoacaa
