/- What the tree's call rises answers, where keys rise and are as many as there should be. No condition but those. -/
import Derived.Test.YtjfpemkdidoacaaUO
import Derived.Test.YtjfpemkdidoacaaTZ
namespace Go.Proofs.Ytjfpemkdidoacaa
open Go.RowKit Go.Shelf
set_option linter.unusedVariables false
set_option linter.unusedSimpArgs false
attribute [local go_sem] Oper.semAt_some
def lastK (pre : List It) : Ky := match pre.getLast? with | none => (0, 0) | some m => m.1
theorem lastK_snoc (pre : List It) (x : It) : lastK (pre ++ [x]) = x.1 := by simp [lastK]
theorem last_lt {pre : List It} {x : It} {L : List It} (hp : pre ++ [x] <+: L) (hr : Rise L) (hne : pre ≠ []) : kLt (lastK pre) x.1 := by
  obtain ⟨z, hz⟩ := hp
  have h1 : Rise (pre ++ x :: z) := by rw [← hz] at hr; simpa using hr
  have h2 := (rise_node.1 h1).2.2.1
  obtain ⟨m, hm⟩ : ∃ m, pre.getLast? = some m := by
    cases h : pre.getLast? with
    | none => exact absurd (List.getLast?_eq_none_iff.1 h) hne
    | some m => exact ⟨m, rfl⟩
  have : lastK pre = m.1 := by unfold lastK; rw [hm]
  rw [this]
  exact h2 m (List.mem_of_getLast? hm)
def RiI (w : World) (pre : List It) (W : World) : Prop :=
  (Box W w.heap.size #[.bool false] 4 ∧ Box W (w.heap.size + 1) #[eU (lastK pre).1, eI (lastK pre).2] 32 ∧ Box W (w.heap.size + 1 + 1) #[eI (pre.length : Int)] 3) ∧ Below w.heap.size w W
theorem RiI.own (w : World) : AbidesAll (w.heap.size + 4) (RiI w) := by
  rintro s X Y row ⟨⟨h1, h2, h3⟩, h4⟩ hg hr
  exact ⟨⟨h1.turn hg hr (by omega), h2.turn hg hr (by omega), h3.turn hg hr (by omega)⟩, below_turn h4 hg hr (by omega)⟩
set_option maxRecDepth 100000 in
set_option maxHeartbeats 2000000 in
theorem rises_any (Bt : Nat) (p : Pt) (t : Tr) (w : World) (ht : Box w Bt (tree p t.items.length) 57) (hp : Tre w p t) (hR : Rise t.items) (hlen : t.items.length < 4611686018427387904) :
    Calls Try.prog 58 #[.pointer (some ⟨Bt, 0, none⟩)] w fun e w' => e = .returned (.bool true) ∧ Below w.heap.size w w' := by
  have hlen' := Lib.hid hlen
  clear hlen
  refine (callsIn_wide (n := 12)).1 ?_
  refine callsIn_of_wp_marks Try.func58 rfl trivial ?_ rfl
  simp only [Try.ntmps58, List.size_toArray, List.length_cons, List.length_nil, Nat.reduceAdd, Nat.reduceSub, Array.replicate_succ, Array.replicate_zero, List.push_toArray, List.append_toArray, List.nil_append, List.cons_append]
  gi_wp2_with (refine ⟨trivial, ?_⟩; gi_at_call 26; (refine (callsIn_wide.2 (eachT_any _ _)).mono ?_); rintro e w' ⟨rfl, rfl⟩)
  have b1 := ((Box.new w 4 #[.bool false]).alloc (.cells #[eU 0, eI 0] 32)).alloc (.cells #[eI 0] 3)
  have b2 := (Box.new (w.alloc (.cells #[.bool false] 4)) 32 #[eU 0, eI 0]).alloc (.cells #[eI 0] 3)
  have b3 := Box.new ((w.alloc (.cells #[.bool false] 4)).alloc (.cells #[eU 0, eI 0] 32)) 3 #[eI 0]
  have b4 := Box.new (((w.alloc (.cells #[.bool false] 4)).alloc (.cells #[eU 0, eI 0] 32)).alloc (.cells #[eI 0] 3)) 23 #[.pointer (some ⟨Bt, 0, none⟩)]
  replace b1 := b1.alloc (.cells #[.pointer (some ⟨Bt, 0, none⟩)] 23)
  replace b2 := b2.alloc (.cells #[.pointer (some ⟨Bt, 0, none⟩)] 23)
  replace b3 := b3.alloc (.cells #[.pointer (some ⟨Bt, 0, none⟩)] 23)
  simp only [World.size_alloc] at b2 b3 b4
  have hB0 := (up3 w (.cells #[.bool false] 4) (.cells #[eU 0, eI 0] 32) (.cells #[eI 0] 3)).alloc (by simp; omega) (.cells #[.pointer (some ⟨Bt, 0, none⟩)] 23)
  have hsz : ((((w.alloc (.cells #[.bool false] 4)).alloc (.cells #[eU 0, eI 0] 32)).alloc (.cells #[eI 0] 3)).alloc (.cells #[.pointer (some ⟨Bt, 0, none⟩)] 23)).heap.size = w.heap.size + 4 := by simp
  obtain ⟨W0, hW0⟩ : ∃ W0, (((w.alloc (.cells #[.bool false] 4)).alloc (.cells #[eU 0, eI 0] 32)).alloc (.cells #[eI 0] 3)).alloc (.cells #[.pointer (some ⟨Bt, 0, none⟩)] 23) = W0 := ⟨_, rfl⟩
  rw [hW0] at b1 b2 b3 b4 hB0 hsz ⊢
  clear hW0
  have hseq := each1T_seq 11 (w.heap.size + 1 + 1 + 1) w.heap.size (some ⟨Bt, 0, none⟩) p t W0 (by omega) (by omega) b4 (fun w1 h => top_any Bt p _ w1 (ht.below (upp hB0 h))) (IsTr.below hB0 hp)
  refine loopC (by omega) (gf := 52) (lb := #[.pointer (some ⟨w.heap.size + 1 + 1 + 1, 0, none⟩)]) rfl (enters_of Try.func52 (by kernel_rfl) rfl) (n₀ := w.heap.size) (by omega) hseq (fun _ => rfl)
    (RiI w) (fun _ _ _ => False) (by rw [hsz]; exact RiI.own w) (fun c _ _ _ _ h => h.elim) ⟨⟨b1, b2, b3⟩, hB0⟩
    (fun x a' W => ∃ Bx, w.heap.size + 4 ≤ Bx ∧ Box W Bx #[eU x.1.1, eI x.1.2] 32 ∧ a' = { tmps := #[.pointer (some ⟨Bt, 0, none⟩), undef, .pointer (some ⟨w.heap.size, 0, none⟩), .pointer (some ⟨w.heap.size + 1, 0, none⟩), .pointer (some ⟨w.heap.size + 1 + 1, 0, none⟩), .pointer (some ⟨Bx, 0, none⟩), .pointer (some ⟨Bt, 0, none⟩), .func (.func 52) #[] #[.pointer (some ⟨w.heap.size + 1 + 1 + 1, 0, none⟩)], ky x.1, eU x.2, undef, undef, undef, undef, undef, undef, undef, undef, undef, undef, undef, undef, undef, undef, undef, undef, undef], defers := [] })
    (fun x a' _ X Y row hs hg hr => by obtain ⟨Bx, h1, h2, h3⟩ := hs; exact ⟨Bx, h1, box_own Bx 32 _ () X Y row h2 hg (fun r e => (hr r e).2), h3⟩)
    ?assign ?body ?done ?stop
  case assign =>
    rintro l0 pre x W K hzW ⟨⟨h1, h2, h3⟩, h4⟩ hK
    gi_wp2
    exact hK _ _ (Mid.alloc W h4.size _) ⟨⟨h1.alloc _, h2.alloc _, h3.alloc _⟩, h4.alloc h4.size _⟩ ⟨W.heap.size, by omega, Box.new W 32 _, rfl⟩
  case stop =>
    rintro D c pre W hD _ h hK
    exact h.elim
  case done =>
    rintro D xs W hD rfl ⟨⟨h1, h2, h3⟩, h4⟩ hK
    have c3 := h3.cell 0
    have c1 := h1.cell 0
    have f1 := h1.thaw 0
    have t3 := (trC (ht.below h4)).2.2.2
    have heq : ((t.items.length : Int) == (t.items.length : Int)) = true := by simp
    have hmix := mixed
    have hfin : ∀ w1, Below W.heap.size W w1 → Box (w1.setCell ⟨w.heap.size, 0, none⟩ (.bool true)) w.heap.size #[.bool true] 4 ∧ Below w.heap.size w (w1.setCell ⟨w.heap.size, 0, none⟩ (.bool true)) ∧ (w1.setCell ⟨w.heap.size, 0, none⟩ (.bool true)).heap[D]? = some (.deferred (some [])) := fun w1 hb =>
      ⟨(h1.below hb).set 0 _, (h4.trans (hb.mono h4.size)).setCell (p := ⟨w.heap.size, 0, none⟩) (Nat.le_refl _) _, (Below.heap_setCell _ _ _ D (by show D ≠ w.heap.size; omega)).trans ((hb.block D (Array.getElem?_eq_some_iff.1 hK).1).trans hK)⟩
    obtain ⟨qB, qT, qD⟩ := hfin W (Below.refl _ _)
    have hXD : (W.setCell ⟨w.heap.size, 0, none⟩ (.bool true)).drew.heap[D]? = some (.deferred (some [])) := qD
    have c9 : ((W.setCell ⟨w.heap.size, 0, none⟩ (.bool true)).drew.putObj D (.deferred none)).cell? ⟨w.heap.size, 0, none⟩ = some (.bool true) := by
      have hb : Box ((W.setCell ⟨w.heap.size, 0, none⟩ (.bool true)).drew.putObj D (.deferred none)) w.heap.size #[.bool true] 4 := (World.putObj_heap_other (by omega)).trans qB
      exact hb.cell 0
    have hbl : Below w.heap.size w ((W.setCell ⟨w.heap.size, 0, none⟩ (.bool true)).drew.putObj D (.deferred none)) := qT.drew.trans (belowK_b (w := w) (Nat.le_refl _) _ D _ _ (by omega) hXD rfl rfl)
    clear hfin qB qT qD
    clear hseq b1 b2 b3 b4 hB0 hR hp h2 h3
    gi_wp2
    refine wpIn_region_any hmix ?_
    change wpAnyIn _ _ _ _ _ _ _ _ _ (World.drew _)
    refine wpAnyIn_ready (rs := [0, 1]) (by kernel_rfl) (by simp) ?_
    refine AllReadyIn.cons rfl (fun K hK => ?_) ?_
    · go_simp
      refine hK _ _ ?_
      clear hK K
      refine wpAnyIn_ready (rs := [1]) (by kernel_rfl) (by simp) ?_
      refine AllReadyIn.cons rfl (fun K hK => ?_) AllReadyIn.nil
      go_simp
      refine hK _ _ ?_
      clear hK K
      refine wpAnyIn_ready (rs := [2]) (by kernel_rfl) (by simp) ?_
      refine AllReadyIn.cons rfl (fun K hK => ?_) AllReadyIn.nil
      go_simp
      refine hK _ _ ?_
      clear hK K
      refine wpAnyIn_ready (rs := [3]) (by kernel_rfl) (by simp) ?_
      refine AllReadyIn.cons rfl (fun K hK => ?_) AllReadyIn.nil
      go_simp
      refine hK _ _ ?_
      clear hK K
      refine wpAnyIn_ready (rs := [4]) (by kernel_rfl) (by simp) ?_
      refine AllReadyIn.cons rfl (fun K hK => ?_) AllReadyIn.nil
      go_simp
      refine hK _ _ ?_
      clear hK K
      refine wpAnyIn_ready (rs := [5]) (by kernel_rfl) (by simp) ?_
      refine AllReadyIn.cons rfl (fun K hK => ?_) AllReadyIn.nil
      go_simp
      refine hK _ _ ?_
      clear hK K
      refine wpAnyIn_ready (rs := [6]) (by kernel_rfl) (by simp) ?_
      refine AllReadyIn.cons rfl (fun K hK => ?_) AllReadyIn.nil
      go_simp
      refine hK _ _ ?_
      clear hK K
      refine wpAnyIn_done (by kernel_rfl) ?_ _
      gi_wp2
      refine ⟨by simp, .inl ⟨_, _, rfl, run_takeDeferred hXD, ?_⟩⟩
      exact ⟨.bool true, by simp [results, Try.results58, go_sem, c9], rfl, hbl⟩
    refine AllReadyIn.cons rfl (fun K hK => ?_) AllReadyIn.nil
    go_simp
    refine hK _ _ ?_
    clear hK K
    refine wpAnyIn_ready (rs := [0, 2]) (by kernel_rfl) (by simp) ?_
    refine AllReadyIn.cons rfl (fun K hK => ?_) ?_
    · go_simp
      refine hK _ _ ?_
      clear hK K
      refine wpAnyIn_ready (rs := [2]) (by kernel_rfl) (by simp) ?_
      refine AllReadyIn.cons rfl (fun K hK => ?_) AllReadyIn.nil
      go_simp
      refine hK _ _ ?_
      clear hK K
      refine wpAnyIn_ready (rs := [3]) (by kernel_rfl) (by simp) ?_
      refine AllReadyIn.cons rfl (fun K hK => ?_) AllReadyIn.nil
      go_simp
      refine hK _ _ ?_
      clear hK K
      refine wpAnyIn_ready (rs := [4]) (by kernel_rfl) (by simp) ?_
      refine AllReadyIn.cons rfl (fun K hK => ?_) AllReadyIn.nil
      go_simp
      refine hK _ _ ?_
      clear hK K
      refine wpAnyIn_ready (rs := [5]) (by kernel_rfl) (by simp) ?_
      refine AllReadyIn.cons rfl (fun K hK => ?_) AllReadyIn.nil
      go_simp
      refine hK _ _ ?_
      clear hK K
      refine wpAnyIn_ready (rs := [6]) (by kernel_rfl) (by simp) ?_
      refine AllReadyIn.cons rfl (fun K hK => ?_) AllReadyIn.nil
      go_simp
      refine hK _ _ ?_
      clear hK K
      refine wpAnyIn_done (by kernel_rfl) ?_ _
      gi_wp2
      refine ⟨by simp, .inl ⟨_, _, rfl, run_takeDeferred hXD, ?_⟩⟩
      exact ⟨.bool true, by simp [results, Try.results58, go_sem, c9], rfl, hbl⟩
    refine AllReadyIn.cons rfl (fun K hK => ?_) AllReadyIn.nil
    go_simp
    refine hK _ _ ?_
    clear hK K
    refine wpAnyIn_ready (rs := [0, 3]) (by kernel_rfl) (by simp) ?_
    refine AllReadyIn.cons rfl (fun K hK => ?_) ?_
    · go_simp
      refine hK _ _ ?_
      clear hK K
      refine wpAnyIn_ready (rs := [3]) (by kernel_rfl) (by simp) ?_
      refine AllReadyIn.cons rfl (fun K hK => ?_) AllReadyIn.nil
      go_simp
      refine hK _ _ ?_
      clear hK K
      refine wpAnyIn_ready (rs := [4]) (by kernel_rfl) (by simp) ?_
      refine AllReadyIn.cons rfl (fun K hK => ?_) AllReadyIn.nil
      go_simp
      refine hK _ _ ?_
      clear hK K
      refine wpAnyIn_ready (rs := [5]) (by kernel_rfl) (by simp) ?_
      refine AllReadyIn.cons rfl (fun K hK => ?_) AllReadyIn.nil
      go_simp
      refine hK _ _ ?_
      clear hK K
      refine wpAnyIn_ready (rs := [6]) (by kernel_rfl) (by simp) ?_
      refine AllReadyIn.cons rfl (fun K hK => ?_) AllReadyIn.nil
      go_simp
      refine hK _ _ ?_
      clear hK K
      refine wpAnyIn_done (by kernel_rfl) ?_ _
      gi_wp2
      refine ⟨by simp, .inl ⟨_, _, rfl, run_takeDeferred hXD, ?_⟩⟩
      exact ⟨.bool true, by simp [results, Try.results58, go_sem, c9], rfl, hbl⟩
    refine AllReadyIn.cons rfl (fun K hK => ?_) AllReadyIn.nil
    go_simp
    refine hK _ _ ?_
    clear hK K
    refine wpAnyIn_ready (rs := [0, 4]) (by kernel_rfl) (by simp) ?_
    refine AllReadyIn.cons rfl (fun K hK => ?_) ?_
    · go_simp
      refine hK _ _ ?_
      clear hK K
      refine wpAnyIn_ready (rs := [4]) (by kernel_rfl) (by simp) ?_
      refine AllReadyIn.cons rfl (fun K hK => ?_) AllReadyIn.nil
      go_simp
      refine hK _ _ ?_
      clear hK K
      refine wpAnyIn_ready (rs := [5]) (by kernel_rfl) (by simp) ?_
      refine AllReadyIn.cons rfl (fun K hK => ?_) AllReadyIn.nil
      go_simp
      refine hK _ _ ?_
      clear hK K
      refine wpAnyIn_ready (rs := [6]) (by kernel_rfl) (by simp) ?_
      refine AllReadyIn.cons rfl (fun K hK => ?_) AllReadyIn.nil
      go_simp
      refine hK _ _ ?_
      clear hK K
      refine wpAnyIn_done (by kernel_rfl) ?_ _
      gi_wp2
      refine ⟨by simp, .inl ⟨_, _, rfl, run_takeDeferred hXD, ?_⟩⟩
      exact ⟨.bool true, by simp [results, Try.results58, go_sem, c9], rfl, hbl⟩
    refine AllReadyIn.cons rfl (fun K hK => ?_) AllReadyIn.nil
    go_simp
    refine hK _ _ ?_
    clear hK K
    refine wpAnyIn_ready (rs := [0]) (by kernel_rfl) (by simp) ?_
    refine AllReadyIn.cons rfl (fun K hK => ?_) AllReadyIn.nil
    go_simp
    refine hK _ _ ?_
    clear hK K
    refine wpAnyIn_ready (rs := [5]) (by kernel_rfl) (by simp) ?_
    refine AllReadyIn.cons rfl (fun K hK => ?_) AllReadyIn.nil
    go_simp
    refine hK _ _ ?_
    clear hK K
    refine wpAnyIn_ready (rs := [6]) (by kernel_rfl) (by simp) ?_
    refine AllReadyIn.cons rfl (fun K hK => ?_) AllReadyIn.nil
    go_simp
    refine hK _ _ ?_
    clear hK K
    refine wpAnyIn_done (by kernel_rfl) ?_ _
    gi_wp2
    refine ⟨by simp, .inl ⟨_, _, rfl, run_takeDeferred hXD, ?_⟩⟩
    exact ⟨.bool true, by simp [results, Try.results58, go_sem, c9], rfl, hbl⟩
  case body =>
    rintro l0 pre x a' W hzW ⟨⟨h1, h2, h3⟩, h4⟩ ⟨Bx, hBx, bX, rfl⟩ hpx
    have hL := less_any (lastK pre) x.1
    obtain ⟨k0, k1⟩ := kyC h2
    obtain ⟨x0, x1⟩ := kyC bX
    have c3 := h3.cell 0
    have l1 := h2.lt
    have l3 := h3.lt
    have hfin : ∀ w1, Below W.heap.size W w1 → Mid w.heap.size W0.heap.size W (((w1.setCell ⟨w.heap.size + 1, 0, none⟩ (eU x.1.1)).setCell ⟨w.heap.size + 1, 1, none⟩ (eI x.1.2)).setCell ⟨w.heap.size + 1 + 1, 0, none⟩ (eI ((pre.length : Int) + 1))) ∧ RiI w (pre ++ [x]) (((w1.setCell ⟨w.heap.size + 1, 0, none⟩ (eU x.1.1)).setCell ⟨w.heap.size + 1, 1, none⟩ (eI x.1.2)).setCell ⟨w.heap.size + 1 + 1, 0, none⟩ (eI ((pre.length : Int) + 1))) := fun w1 hb => by
      have q1 := h1.below hb
      have q2 := h2.below hb
      have q3 := h3.below hb
      refine ⟨(((Mid.of_below hb h4.size).trans (Mid.put w1 (by omega) (by omega) 0 _)).trans (Mid.put _ (by omega) (by omega) 1 _)).trans (Mid.put _ (by omega) (by omega) 0 _), ⟨((q1.setNe (by show w.heap.size ≠ w.heap.size + 1; omega) _).setNe (by show w.heap.size ≠ w.heap.size + 1; omega) _).setNe (by show w.heap.size ≠ w.heap.size + 1 + 1; omega) _, ?_, ?_⟩, (((h4.trans (hb.mono h4.size)).setCell (p := ⟨w.heap.size + 1, 0, none⟩) (by simp) _).setCell (p := ⟨w.heap.size + 1, 1, none⟩) (by simp) _).setCell (p := ⟨w.heap.size + 1 + 1, 0, none⟩) (by simp; omega) _⟩
      · rw [lastK_snoc]
        exact (setKey q2 x.1).setNe (by show w.heap.size + 1 ≠ w.heap.size + 1 + 1; omega) _
      · have e : ((pre ++ [x]).length : Int) = (pre.length : Int) + 1 := by simp
        rw [e]
        exact ((q3.setNe (by show w.heap.size + 1 + 1 ≠ w.heap.size + 1; omega) _).setNe (by show w.heap.size + 1 + 1 ≠ w.heap.size + 1; omega) _).set 0 _
    have hwr : IntKind.i64.wrap ((pre.length : Int) + 1) = (pre.length : Int) + 1 := by
      have hle := hpx.length_le
      have := hlen'.out
      simp at hle
      exact wrap_id (by omega) (by omega)
    clear hseq b1 b2 b3 b4 hB0 hp ht hlen'
    cases pre with
    | nil =>
      have hfin := hfin W (Below.refl _ _)
      have f0 := h2.thaw 0
      have f1 := h2.thaw 1
      have f3 := h3.thaw 0
      gi_wp2
      refine ⟨trivial, ?_⟩
      gi_wp2
      exact hfin
    | cons y ys =>
      have hlt := last_lt hpx hR (by simp)
      rw [show decide (kLt (lastK (y :: ys)) x.1) = true by simpa using hlt] at hL
      have hpos : 0 < (((y :: ys).length : Nat) : Int) := by simp
      generalize hn : (((y :: ys).length : Nat) : Int) = n at *
      generalize lastK (y :: ys) = kk at *
      gi_wp2_with (refine ⟨trivial, ?_⟩; gi_at_call 36; (refine (CallsIn.inRound l0 (callsIn_wide.2 (hL _))).mono ?_); rintro e w1 ⟨rfl, hb1⟩; have hfin1 := hfin w1 hb1; obtain ⟨z0, z1⟩ := kyC (bX.below hb1); obtain ⟨y0, y1⟩ := kyC (h2.below hb1); have yf0 := (h2.below hb1).thaw 0; have yf1 := (h2.below hb1).thaw 1; have d3 := (h3.below hb1).cell 0; have df3 := (h3.below hb1).thaw 0; have dl1 := (h2.below hb1).lt; have dl3 := (h3.below hb1).lt)
      exact hfin1
end Go.Proofs.Ytjfpemkdidoacaa
