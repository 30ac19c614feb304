/- The document's own row of ids: an append onto a row of one's own; Drop. No condition but words, and that it isn't long. -/
import Derived.Test.YtcpienpkpodfmaaRC
import Derived.Deep.RegionLaw
namespace Go.Proofs.Ytcpienpkpodfmaa
open Go.RowKit Go.Shelf
set_option linter.unusedVariables false
/-- Items appended onto what a call owns. -/
theorem run_app (w : World) (ty : TypeId) (m : Nat) (v : Value) (n : Nat) (X : List It) (hown : w.ownsRow m 76 3 v n (itC X)) (hm : m ≤ w.heap.size)
    (ad : Addr) (k c : Nat) (Y : List It) (hl : Y.length = k) (hflat : ∀ j u, (itC Y)[j]? = some u → w.cell? (ad.add j) = some u) (hn : n + k ≤ 5000) (hne : v ≠ .slice none 0 0 ∨ 0 < k) :
    ∃ g cap w', (Builtin.append_ #[26, 26] ty #[v, .slice (some ad) k c]).run Try.prog w = .ok (.slice (some ⟨g, 0, none⟩) (n + k) cap) w' ∧
      w'.ownsRow m 76 3 (.slice (some ⟨g, 0, none⟩) (n + k) cap) (n + k) (itC (X ++ Y)) ∧ w.grownBy w' v.ownBlock ∧ (v.ownBlock = some g ∨ g = w.heap.size) := by
  obtain ⟨i0, hi, hz0, hz1, hz2⟩ := info_parts infoT
  obtain ⟨v', w', hr, h2, h3, h4, h5⟩ := run_append_own_at w m 26 ty 76 i0 _ 3 24 Try.underlying26 hi hz0 hz1 hz2 rfl (by decide) v n (itC X) hown ad k c (itC Y) (by rw [itC_length, hl]) hflat (itC_one Y) (by unfold maxLen; omega) (by omega) hm
  rw [← itC_append] at h2
  have hv : v' ≠ .slice none 0 0 := fun e => by
    obtain ⟨h6, h7⟩ := h4.1 e
    rcases hne with h | h
    · exact h h6
    · omega
  have h2' := h2
  obtain ⟨h6, h7 | ⟨g, cap, cur, rfl, h8⟩⟩ := h2
  · exact absurd h7.1 hv
  · refine ⟨g, cap, w', hr, h2', h3, ?_⟩
    rcases h5 with h5 | h5
    · exact .inl (by rw [← h5]; rfl)
    · exact .inr (by simpa [Value.ownBlock] using h5)
theorem wpList_app {w : World} {ops : Array Oper} {rest : List Oper} {o : Oper} {a : Act} {Q : Exit → Act → World → Prop} (hgd : o.guard = none) (s x : Operand)
    (ho : o.op = .call { callee := .builtin .append, args := #[s, x], argTypes := #[26, 26] })
    (m : Nat) (v : Value) (n : Nat) (X : List It) (hs : a.eval s = v) (hown : w.ownsRow m 76 3 v n (itC X)) (hm : m ≤ w.heap.size)
    (ad : Addr) (k c : Nat) (Y : List It) (hx : a.eval x = .slice (some ad) k c) (hl : Y.length = k) (hflat : ∀ j u, (itC Y)[j]? = some u → w.cell? (ad.add j) = some u) (hn : n + k ≤ 5000) (hne : v ≠ .slice none 0 0 ∨ 0 < k)
    (h : ∀ g cap w', w'.ownsRow m 76 3 (.slice (some ⟨g, 0, none⟩) (n + k) cap) (n + k) (itC (X ++ Y)) → w.grownBy w' v.ownBlock → (v.ownBlock = some g ∨ g = w.heap.size) → wpList Try.prog ops Q rest (a.put o.dst (.slice (some ⟨g, 0, none⟩) (n + k) cap)) w') :
    wpList Try.prog ops Q (o :: rest) a w := by
  refine wpList_plain hgd fun K hK => ?_
  obtain ⟨g, cap, w', hr, h2, h3, h4⟩ := run_app w o.type m v n X hown hm ad k c Y hl hflat hn hne
  unfold Oper.wp execOp
  simp only [ho, resolve, invoke, builtin, Sem.run_bind, Sem.run_pure, Result.andThen_ok, List.map_toArray, List.map_cons, List.map_nil, hs, hx, hr]
  exact hK _ _ (h g cap w' h2 h3 h4)
/-- The same at a step of a region that draws its order, of what was made since W. -/
theorem step_app {W w : World} {ops : Array Oper} {o : Oper} {a : Act} {K' : Act → World → Prop} {Q : Exit → Act → World → Prop} {E : Prop} (hw : Region.wanted o (yielded ops a.tmps) = true) (s x : Operand)
    (ho : o.op = .call { callee := .builtin .append, args := #[s, x], argTypes := #[26, 26] })
    (v : Value) (n : Nat) (X : List It) (hs : a.eval s = v) (hown : w.ownsRow W.heap.size 76 3 v n (itC X)) (T : Below W.heap.size W w)
    (ad : Addr) (k c : Nat) (Y : List It) (hx : a.eval x = .slice (some ad) k c) (hl : Y.length = k) (hflat : ∀ j u, (itC Y)[j]? = some u → w.cell? (ad.add j) = some u) (hn : n + k ≤ 5000) (hne : v ≠ .slice none 0 0 ∨ 0 < k)
    (h : ∀ g cap w', w'.ownsRow W.heap.size 76 3 (.slice (some ⟨g, 0, none⟩) (n + k) cap) (n + k) (itC (X ++ Y)) → Below W.heap.size W w' → K' (a.put o.dst (.slice (some ⟨g, 0, none⟩) (n + k) cap)) w') :
    if Region.wanted o (yielded ops a.tmps) = true then Oper.wp Try.prog o a w K' Q else E := by
  rw [if_pos hw]
  obtain ⟨g, cap, w', hr, h2, h3, h4⟩ := run_app w o.type W.heap.size v n X hown T.size ad k c Y hl hflat hn hne
  unfold Oper.wp execOp
  simp only [ho, resolve, invoke, builtin, Sem.run_bind, Sem.run_pure, Result.andThen_ok, List.map_toArray, List.map_cons, List.map_nil, hs, hx, hr]
  exact h g cap w' h2 (T.grown h3 T.size (fun j hj => (hown.lt j hj).1))
theorem own0 {w : World} {m g : Nat} (h : Box w g #[] 76) (hm : m ≤ g) : w.ownsRow m 76 3 (.slice (some ⟨g, 0, none⟩) 0 0) 0 (itC []) :=
  ⟨rfl, .inr ⟨g, 0, #[], rfl, hm, h, Nat.le_refl _, by decide, rfl, rfl⟩⟩
/-- What a row's own changes may reach. -/
def RS (W : World) (m R k : Nat) : Prop := m ≤ k ∧ (k = R ∨ ∃ cur : Array Value, Box W k cur 76)
theorem RS.trans {W W' W'' : World} {m R : Nat} (h : Off (RS W m R) W W') (k : Off (RS W' m R) W' W'') : Off (RS W m R) W W'' := by
  refine ⟨k.os.trans h.os, k.tape.trans h.tape, k.output.trans h.output, Nat.le_trans h.size k.size, fun i hi hn => ?_⟩
  have h1 := h.block i hi hn
  refine (k.block i (Nat.lt_of_lt_of_le hi h.size) (fun h2 => hn ⟨h2.1, h2.2.imp id ?_⟩)).trans h1
  rintro ⟨cur, hc⟩
  exact ⟨cur, h1.symm.trans hc⟩
theorem owns_take {w : World} {m n g cap k : Nat} {L : List It} (h : w.ownsRow m 76 3 (.slice (some ⟨g, 0, none⟩) n cap) n (itC L)) (hk : k ≤ n) : w.ownsRow m 76 3 (.slice (some ⟨g, 0, none⟩) k cap) k (itC (L.take k)) := by
  obtain ⟨h1, h2 | ⟨g', cap', cur, e, h3, h4, h5, h6, h7, h8⟩⟩ := h
  · cases h2.1
  · cases e
    have hL : L.length = n := by rw [itC_length] at h1; omega
    refine ⟨by rw [itC_length, List.length_take, hL, Nat.min_eq_left hk], .inr ⟨g, cap, cur, rfl, h3, h4, by omega, h6, h7, ?_⟩⟩
    rw [← itC_take, ← h8, List.take_take, Nat.min_eq_left (by omega)]
theorem flat_from {w : World} {m n g cap k : Nat} {L : List It} (h : w.ownsRow m 76 3 (.slice (some ⟨g, 0, none⟩) n cap) n (itC L)) {ad : Addr} (had : L.drop k ≠ [] → ad = ⟨g, k * 3, none⟩) : ∀ j u, (itC (L.drop k))[j]? = some u → w.cell? (ad.add j) = some u := by
  intro j u hu
  by_cases hd : L.drop k = []
  · rw [hd] at hu; simp [itC] at hu
  · rw [had hd]
    have hadd : ∀ (a i : Nat), (⟨g, a, none⟩ : Addr).add i = ⟨g, a + i, none⟩ := fun a i => by unfold Addr.add; split <;> simp_all
    have hc : (itC L)[k * 3 + j]? = some u := by
      rw [← hu]
      have : itC L = itC (L.take k) ++ itC (L.drop k) := by rw [← itC_append, List.take_append_drop]
      have hk : (itC (L.take k)).length = k * 3 := by
        rw [itC_length, List.length_take]
        have : k < L.length := by
          rcases Nat.lt_or_ge k L.length with h | h
          · exact h
          · exact absurd (List.drop_eq_nil_of_le h) hd
        rw [Nat.min_eq_left (by omega)]
      rw [this, List.getElem?_append_right (by omega), hk]
      congr 1; omega
    have := h.cells (g := g) rfl _ _ hc
    rw [hadd] at this ⊢
    simpa using this
theorem drop_at {i : Int} {L : List It} {k : Nat} (hr : Rise L) (hF : Fine L) (hk : k < L.length) (h : getA i L = some L[k]) : dropA i L = L.take k ++ L.drop (k + 1) := by
  have e : L = L.take k ++ L[k] :: L.drop (k + 1) := by rw [← List.drop_eq_getElem_cons hk, List.take_append_drop]
  obtain ⟨hm, hi⟩ := (getA_some hF).1 h
  have hr2 := hr
  rw [e] at hr2
  obtain ⟨_, _, h1, h2⟩ := rise_node.1 hr2
  have hA : ∀ a ∈ L.take k, a.1.2 ≠ i := fun a ha hai => by
    have : a = L[k] := hF.2 a (List.mem_of_mem_take ha) _ hm (by rw [hai, hi])
    have h3 := h1 a ha
    rw [this] at h3
    exact kLt_irr _ h3
  have hC : ∀ a ∈ L.drop (k + 1), a.1.2 ≠ i := fun a ha hai => by
    have : a = L[k] := hF.2 a (List.mem_of_mem_drop ha) _ hm (by rw [hai, hi])
    have h3 := h2 a ha
    rw [this] at h3
    exact kLt_irr _ h3
  have e2 : dropA i L = dropA i (L.take k ++ L[k] :: L.drop (k + 1)) := by rw [← e]
  rw [e2]
  unfold dropA
  rw [List.filter_append, List.filter_cons, if_neg (by simp [hi]), List.filter_eq_self.2 (fun a ha => by simpa using hA a ha), List.filter_eq_self.2 (fun a ha => by simpa using hC a ha)]
set_option maxRecDepth 100000 in
set_option maxHeartbeats 4000000 in
theorem rwo_drop {W : World} {m R : Nat} {L : List It} (i : Int) (hr : Rise L) (hF : Fine L) (hl : L.length ≤ 1000) (h : RwO W m R L) :
    Calls Try.prog 14 #[.pointer (some ⟨R, 0, none⟩), eI i] W fun e w' => e = .returned (.bool (getA i L).isSome) ∧ RwO w' m R (dropA i L) ∧ Off (RS W m R) W w' := by
  have hA := rw_at R L W i (by omega) h.rw
  cases hq : atA i L with
  | none =>
    rw [hq] at hA
    have hA : Calls Try.prog 42 #[.pointer (some ⟨R, 0, none⟩), eI i] W fun e w' => e = .returned (.int .i64 (-1)) ∧ W = w' := hA
    rw [atA_none hq, dropA_none (atA_none hq)]
    go_enter Try.func14, Try.ntmps14
    go_wp2_with (go_at_call 42; (with_reducible refine hA.mono ?_); rintro e w1 ⟨rfl, rfl⟩)
    go_ret
    exact ⟨rfl, h, Off.of (Below.refl _ _)⟩
  | some k =>
    rw [hq] at hA
    obtain ⟨hk, hg⟩ := atA_some hq
    have hA : Calls Try.prog 42 #[.pointer (some ⟨R, 0, none⟩), eI i] W fun e w' => e = .returned (.int .i64 (k : Int)) ∧ W = w' := hA
    rw [hg, drop_at hr hF hk hg]
    obtain ⟨hmR, v, hB, hown⟩ := h
    obtain ⟨g, cap, rfl, hmg, hgW⟩ := hown.form (by omega)
    have hcap : L.length ≤ cap := by
      rcases hown.2 with ⟨e, _⟩ | ⟨g', cap', cur, e, _, _, h6, _⟩
      · cases e
      · cases e; exact h6
    have cR := hB.cell 0
    have i1 : (k : Int) ≤ (cap : Int) := by omega
    have i2 : (0 : Int) ≤ (k : Int) := by omega
    have i3 : ¬ (k : Int) < 0 := by omega
    obtain ⟨k1, hk1⟩ : ∃ z, k + 1 = z := ⟨_, rfl⟩
    rw [hk1]
    have i4 : IntKind.i64.wrap ((k : Int) + 1) = (k1 : Int) := by simp [IntKind.wrap, IntKind.bits, IntKind.signed]; omega
    have i5 : (0 : Int) ≤ (k1 : Int) := by omega
    have i6 : (k1 : Int) ≤ (L.length : Int) := by omega
    have i7 : (k1 : Int) ≤ (cap : Int) := by omega
    have i8 : (L.length : Int) ≤ (cap : Int) := by omega
    obtain ⟨ad2, had2, had3, had2'⟩ : ∃ x : Addr, (if cap = k1 then some (⟨g, 0, none⟩ : Addr) else some ⟨g, k1 * 3, none⟩) = some x ∧ x.block = g ∧ (L.drop k1 ≠ [] → x = ⟨g, k1 * 3, none⟩) := by
      by_cases h : cap = k1
      · rw [if_pos h]
        exact ⟨_, rfl, rfl, fun h2 => absurd (List.drop_eq_nil_of_le (by omega)) h2⟩
      · rw [if_neg h]
        exact ⟨_, rfl, rfl, fun _ => rfl⟩
    go_enter Try.func14, Try.ntmps14
    go_upto_region 4 with (go_at_call 42; (with_reducible refine hA.mono ?_); rintro e w1 ⟨rfl, rfl⟩)
    go_cut [] (fun wx => RwO wx m R (L.take k ++ L.drop k1) ∧ Off (RS W m R) W wx)
    case first =>
      have hS : ∀ w', Below W.heap.size W w' → w'.cell? ⟨R, 0, none⟩ = some (.slice (some ⟨g, 0, none⟩) L.length cap) := fun w' h => (hB.below h).cell 0
      have T := Below.refl W.heap.size W
      have hRW := hB.lt
      have hF1 : ∀ w', Below W.heap.size W w' → ∀ j u, (itC (L.take k))[j]? = some u → w'.cell? ((⟨g, 0, none⟩ : Addr).add j) = some u := fun w' hb j u hu => by
        have := (owns_take hown (k := k) (by omega)).cells (g := g) rfl j u hu
        have e : ((⟨g, 0, none⟩ : Addr).add j).block = g := by unfold Addr.add; split <;> simp_all
        exact (hb.cell (p := (⟨g, 0, none⟩ : Addr).add j) (by rw [e]; exact hgW)).trans this
      have hF2 : ∀ w', Below W.heap.size W w' → ∀ j u, (itC (L.drop k1))[j]? = some u → w'.cell? (ad2.add j) = some u := fun w' hb j u hu => by
        have := flat_from hown (k := k1) had2' j u hu
        have e : (ad2.add j).block = g := by have : ad2.block = g := had3; unfold Addr.add; split <;> simp_all
        exact (hb.cell (p := ad2.add j) (by rw [e]; exact hgW)).trans this
      have hend : ∀ w2 v2, w2.ownsRow W.heap.size 76 3 v2 (L.take k ++ L.drop k1).length (itC (L.take k ++ L.drop k1)) → Below W.heap.size W w2 → RwO (w2.setCell ⟨R, 0, none⟩ v2) m R (L.take k ++ L.drop k1) ∧ Off (RS W m R) W (w2.setCell ⟨R, 0, none⟩ v2) := fun w2 v2 h1 h2 =>
        ⟨⟨hmR, v2, (hB.below h2).set 0 v2, owns_mono (ownsRow_setCell_below h1 (a := ⟨R, 0, none⟩) hRW v2) (by omega)⟩, (Off.of h2).set ⟨hmR, .inl rfl⟩ 0 v2⟩
      have hlen : (L.take k ++ L.drop k1).length = k + (L.length - k1) := by rw [List.length_append, List.length_take, List.length_drop, Nat.min_eq_left (by omega)]
      rw [hlen] at hend
      have hl1 : (L.take k).length = k := by rw [List.length_take]; omega
      have hl2 : (L.drop k1).length = L.length - k1 := List.length_drop
      have hk5 : k + (L.length - k1) ≤ 5000 := by omega
      have hk6 : 0 + k ≤ 5000 := by omega
      clear hown hA
      generalize L.take k = A at *
      generalize L.drop k1 = C at *
      have cR0 := hS W T
      go_region_law
        (first
          | (refine step_app (W := W) (by rfl) (.tmp 12) (.tmp 18) (by rfl) (.slice (some ⟨W.heap.size, 0, none⟩) 0 0) 0 [] (by rfl) (own0 (by first | exact Box.new _ _ _ | exact Box.new W 76 #[]) (Nat.le_refl _)) (by first | exact T.alloc T.size _ | exact (T.alloc T.size _).drew | exact T.drew.alloc T.drew.size _) ⟨g, 0, none⟩ k cap A (by rfl) hl1 (hF1 _ (by first | exact T.alloc T.size _ | exact (T.alloc T.size _).drew | exact T.drew.alloc T.drew.size _)) hk6 (.inl (by simp)) ?_; intro g1 cap1 w1 hown1 T1; simp only [Nat.zero_add, List.nil_append] at hown1 ⊢)
          | (refine step_app (W := W) (by rfl) (.tmp 19) (.tmp 26) (by rfl) (.slice (some ⟨g1, 0, none⟩) k cap1) k A (by rfl) hown1 (by first | exact T1 | exact T1.drew) ad2 (L.length - k1) (cap - k1) C (by rfl) hl2 (hF2 _ (by first | exact T1 | exact T1.drew)) hk5 (.inl (by simp)) ?_; intro g2 cap2 w2 hown2 T2; have cR2 := hS w2 T2; have fR2 := (hB.below T2).thaw 0; have lR2 := (hB.below T2).lt))
      all_goals go_wp2_with fail
      all_goals go_meet
      all_goals exact hend _ _ hown2 T2
    case rest =>
      go_wp2
      go_ret
      exact ⟨rfl, hcut⟩
end Go.Proofs.Ytcpienpkpodfmaa
