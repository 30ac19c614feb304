/- The document's own row: an append onto a row of one's own; Drop. No condition but that it isn't long. -/
import Derived.Test.YtjfpemkdidoacaaVU
import Derived.Deep.RegionLaw
namespace Go.Proofs.Ytjfpemkdidoacaa
open Go.RowKit Go.Shelf
set_option linter.unusedVariables false
theorem box_ne {W : World} {B B' : Nat} {vs vs' : Array Value} {t t' : TypeId} (h : Box W B vs t) (h' : Box W B' vs' t') (ht : t ≠ t') : B ≠ B' := fun e => by
  subst e
  have h1 : W.heap[B]? = some (.cells vs t (0, 0)) := h
  rw [show W.heap[B]? = some (.cells vs' t' (0, 0)) from h'] at h1
  injection h1 with h3
  injection h3 with _ h4 _
  exact ht h4.symm
theorem Off.trans {S : Nat → Prop} {a b c : World} (h : Off S a b) (k : Off S b c) : Off S a c :=
  ⟨k.os.trans h.os, k.tape.trans h.tape, k.output.trans h.output, Nat.le_trans h.size k.size, fun i hi hn => (k.block i (Nat.lt_of_lt_of_le hi h.size) hn).trans (h.block i hi hn)⟩
theorem owns_mono {w : World} {base base' size n : Nat} {e : TypeId} {v : Value} {xs : List Value} (h : w.ownsRow base e size v n xs) (hb : base' ≤ base) : w.ownsRow base' e size v n xs := by
  obtain ⟨h1, h2⟩ := h
  refine ⟨h1, h2.imp id ?_⟩
  rintro ⟨g, cap, cur, a1, a2, a3⟩
  exact ⟨g, cap, cur, a1, Nat.le_trans hb a2, a3⟩
/-- Block R is a row of the items L, which lie in a block of its own behind m. -/
def RwP (W : World) (m R : Nat) (L : List It) : Prop := m ≤ R ∧ ∃ v : Value, Box W R #[v] 28 ∧ W.ownsRow m 43 3 v L.length (itC L)
theorem RwP.rw {W : World} {m R : Nat} {L : List It} (h : RwP W m R L) : Rw W R L := by
  obtain ⟨_, v, h1, h2⟩ := h
  have h2' := h2
  rcases h2.2 with ⟨rfl, hn⟩ | ⟨g, cap, cur, rfl, hb, hg, hc, _⟩
  · have e : L = [] := List.length_eq_zero_iff.1 hn
    subst e
    exact ⟨none, 0, h1, Nat.le_refl _, .inl rfl⟩
  · exact ⟨some ⟨g, 0, none⟩, cap, h1, hc, itC_row h2'⟩
/-- Items appended onto what a call owns. -/
theorem run_app (w : World) (ty : TypeId) (m : Nat) (v : Value) (n : Nat) (X : List It) (hown : w.ownsRow m 43 3 v n (itC X)) (hm : m ≤ w.heap.size)
    (ad : Addr) (k c : Nat) (Y : List It) (hl : Y.length = k) (hflat : ∀ j u, (itC Y)[j]? = some u → w.cell? (ad.add j) = some u) (hn : n + k ≤ 5000) (hne : v ≠ .slice none 0 0 ∨ 0 < k) :
    ∃ g cap w', (Builtin.append_ #[26, 26] ty #[v, .slice (some ad) k c]).run Try.prog w = .ok (.slice (some ⟨g, 0, none⟩) (n + k) cap) w' ∧
      w'.ownsRow m 43 3 (.slice (some ⟨g, 0, none⟩) (n + k) cap) (n + k) (itC (X ++ Y)) ∧ w.grownBy w' v.ownBlock ∧ (v.ownBlock = some g ∨ g = w.heap.size) := by
  obtain ⟨i0, hi, hz0, hz1, hz2⟩ := info_parts infoI
  obtain ⟨v', w', hr, h2, h3, h4, h5⟩ := run_append_own_at w m 26 ty 43 i0 _ 3 24 Try.underlying26 hi hz0 hz1 hz2 rfl (by decide) v n (itC X) hown ad k c (itC Y) (by rw [itC_length, hl]) hflat (itC_one Y) (by unfold maxLen; omega) (by omega) hm
  rw [← itC_append] at h2
  have hv : v' ≠ .slice none 0 0 := fun e => by
    obtain ⟨h6, h7⟩ := h4.1 e
    rcases hne with h | h
    · exact h h6
    · omega
  have h2' := h2
  obtain ⟨h6, h7 | ⟨g, cap, cur, rfl, h8⟩⟩ := h2
  · exact absurd h7.1 hv
  · refine ⟨g, cap, w', hr, h2', h3, ?_⟩
    rcases h5 with h5 | h5
    · exact .inl (by rw [← h5]; rfl)
    · exact .inr (by simpa [Value.ownBlock] using h5)
theorem wpList_app {w : World} {ops : Array Oper} {rest : List Oper} {o : Oper} {a : Act} {Q : Exit → Act → World → Prop} (hgd : o.guard = none) (s x : Operand)
    (ho : o.op = .call { callee := .builtin .append, args := #[s, x], argTypes := #[26, 26] })
    (m : Nat) (v : Value) (n : Nat) (X : List It) (hs : a.eval s = v) (hown : w.ownsRow m 43 3 v n (itC X)) (hm : m ≤ w.heap.size)
    (ad : Addr) (k c : Nat) (Y : List It) (hx : a.eval x = .slice (some ad) k c) (hl : Y.length = k) (hflat : ∀ j u, (itC Y)[j]? = some u → w.cell? (ad.add j) = some u) (hn : n + k ≤ 5000) (hne : v ≠ .slice none 0 0 ∨ 0 < k)
    (h : ∀ g cap w', w'.ownsRow m 43 3 (.slice (some ⟨g, 0, none⟩) (n + k) cap) (n + k) (itC (X ++ Y)) → w.grownBy w' v.ownBlock → (v.ownBlock = some g ∨ g = w.heap.size) → wpList Try.prog ops Q rest (a.put o.dst (.slice (some ⟨g, 0, none⟩) (n + k) cap)) w') :
    wpList Try.prog ops Q (o :: rest) a w := by
  refine wpList_plain hgd fun K hK => ?_
  obtain ⟨g, cap, w', hr, h2, h3, h4⟩ := run_app w o.type m v n X hown hm ad k c Y hl hflat hn hne
  unfold Oper.wp execOp
  simp only [ho, resolve, invoke, builtin, Sem.run_bind, Sem.run_pure, Result.andThen_ok, List.map_toArray, List.map_cons, List.map_nil, hs, hx, hr]
  exact hK _ _ (h g cap w' h2 h3 h4)
/-- The same at a step of a region that draws its order, of what was made since W. -/
theorem step_app {W w : World} {ops : Array Oper} {o : Oper} {a : Act} {K' : Act → World → Prop} {Q : Exit → Act → World → Prop} {E : Prop} (hw : Region.wanted o (yielded ops a.tmps) = true) (s x : Operand)
    (ho : o.op = .call { callee := .builtin .append, args := #[s, x], argTypes := #[26, 26] })
    (v : Value) (n : Nat) (X : List It) (hs : a.eval s = v) (hown : w.ownsRow W.heap.size 43 3 v n (itC X)) (T : Below W.heap.size W w)
    (ad : Addr) (k c : Nat) (Y : List It) (hx : a.eval x = .slice (some ad) k c) (hl : Y.length = k) (hflat : ∀ j u, (itC Y)[j]? = some u → w.cell? (ad.add j) = some u) (hn : n + k ≤ 5000) (hne : v ≠ .slice none 0 0 ∨ 0 < k)
    (h : ∀ g cap w', w'.ownsRow W.heap.size 43 3 (.slice (some ⟨g, 0, none⟩) (n + k) cap) (n + k) (itC (X ++ Y)) → Below W.heap.size W w' → K' (a.put o.dst (.slice (some ⟨g, 0, none⟩) (n + k) cap)) w') :
    if Region.wanted o (yielded ops a.tmps) = true then Oper.wp Try.prog o a w K' Q else E := by
  rw [if_pos hw]
  obtain ⟨g, cap, w', hr, h2, h3, h4⟩ := run_app w o.type W.heap.size v n X hown T.size ad k c Y hl hflat hn hne
  unfold Oper.wp execOp
  simp only [ho, resolve, invoke, builtin, Sem.run_bind, Sem.run_pure, Result.andThen_ok, List.map_toArray, List.map_cons, List.map_nil, hs, hx, hr]
  exact h g cap w' h2 (T.grown h3 T.size (fun j hj => (hown.lt j hj).1))
theorem own0 {w : World} {m g : Nat} (h : Box w g #[] 43) (hm : m ≤ g) : w.ownsRow m 43 3 (.slice (some ⟨g, 0, none⟩) 0 0) 0 (itC []) :=
  ⟨rfl, .inr ⟨g, 0, #[], rfl, hm, h, Nat.le_refl _, by decide, rfl, rfl⟩⟩
/-- What a row's own changes may reach. -/
def RS (W : World) (m R k : Nat) : Prop := m ≤ k ∧ (k = R ∨ ∃ cur : Array Value, Box W k cur 43)
theorem RS.trans {W W' W'' : World} {m R : Nat} (h : Off (RS W m R) W W') (k : Off (RS W' m R) W' W'') : Off (RS W m R) W W'' := by
  refine ⟨k.os.trans h.os, k.tape.trans h.tape, k.output.trans h.output, Nat.le_trans h.size k.size, fun i hi hn => ?_⟩
  have h1 := h.block i hi hn
  refine (k.block i (Nat.lt_of_lt_of_le hi h.size) (fun h2 => hn ⟨h2.1, h2.2.imp id ?_⟩)).trans h1
  rintro ⟨cur, hc⟩
  exact ⟨cur, h1.symm.trans hc⟩
theorem owns_take {w : World} {m n g cap k : Nat} {L : List It} (h : w.ownsRow m 43 3 (.slice (some ⟨g, 0, none⟩) n cap) n (itC L)) (hk : k ≤ n) : w.ownsRow m 43 3 (.slice (some ⟨g, 0, none⟩) k cap) k (itC (L.take k)) := by
  obtain ⟨h1, h2 | ⟨g', cap', cur, e, h3, h4, h5, h6, h7, h8⟩⟩ := h
  · cases h2.1
  · cases e
    have hL : L.length = n := by rw [itC_length] at h1; omega
    refine ⟨by rw [itC_length, List.length_take, hL, Nat.min_eq_left hk], .inr ⟨g, cap, cur, rfl, h3, h4, by omega, h6, h7, ?_⟩⟩
    rw [← itC_take, ← h8, List.take_take, Nat.min_eq_left (by omega)]
theorem flat_from {w : World} {m n g cap k : Nat} {L : List It} (h : w.ownsRow m 43 3 (.slice (some ⟨g, 0, none⟩) n cap) n (itC L)) {ad : Addr} (had : L.drop k ≠ [] → ad = ⟨g, k * 3, none⟩) : ∀ j u, (itC (L.drop k))[j]? = some u → w.cell? (ad.add j) = some u := by
  intro j u hu
  by_cases hd : L.drop k = []
  · rw [hd] at hu; simp [itC] at hu
  · rw [had hd]
    have hadd : ∀ (a i : Nat), (⟨g, a, none⟩ : Addr).add i = ⟨g, a + i, none⟩ := fun a i => by unfold Addr.add; split <;> simp_all
    have hc : (itC L)[k * 3 + j]? = some u := by
      rw [← hu]
      have : itC L = itC (L.take k) ++ itC (L.drop k) := by rw [← itC_append, List.take_append_drop]
      have hk : (itC (L.take k)).length = k * 3 := by
        rw [itC_length, List.length_take]
        have : k < L.length := by
          rcases Nat.lt_or_ge k L.length with h | h
          · exact h
          · exact absurd (List.drop_eq_nil_of_le h) hd
        rw [Nat.min_eq_left (by omega)]
      rw [this, List.getElem?_append_right (by omega), hk]
      congr 1; omega
    have := h.cells (g := g) rfl _ _ hc
    rw [hadd] at this ⊢
    simpa using this
theorem ins_at {x : It} : ∀ {A C : List It}, Lo A x.1 → Hi x.1 C → ins x (A ++ C) = A ++ x :: C
  | [], [], _, _ => rfl
  | [], c :: C, _, h => if_pos (h c (by simp))
  | a :: A, C, h1, h2 => by
    show (if kLt x.1 a.1 then _ else _) = _
    rw [if_neg (kLt_asym (h1 a (by simp)))]
    exact congrArg (a :: ·) (ins_at (A := A) (C := C) (fun z hz => h1 z (by simp [hz])) h2)
theorem owns_below {w w' : World} {m n : Nat} {v : Value} {L : List It} (h : w.ownsRow m 43 3 v n (itC L)) (hb : Below w.heap.size w w') : w'.ownsRow m 43 3 v n (itC L) :=
  h.kept (row := none) ⟨hb.os, hb.tape, hb.output, hb.size, fun k hk _ => hb.block k hk⟩ (by cases v.ownBlock with | none => exact .inl rfl | some b => exact .inr (by simp))
theorem owns_box {w : World} {m n g cap : Nat} {L : List It} (h : w.ownsRow m 43 3 (.slice (some ⟨g, 0, none⟩) n cap) n (itC L)) : m ≤ g ∧ n ≤ cap ∧ ∃ cur : Array Value, Box w g cur 43 := by
  rcases h.2 with ⟨e, _⟩ | ⟨g', cap', cur, e, h1, h2, h3, _⟩
  · cases e
  · cases e; exact ⟨h1, h3, cur, h2⟩
/-- The row's block is written to at the end. -/
theorem put_end {W1 w4 : World} {m R g3 cap3 n : Nat} {L' : List It} {v1 : Value} (hmR : m ≤ R) (hB : Box w4 R #[v1] 28) (hl : L'.length = n) (hown : w4.ownsRow m 43 3 (.slice (some ⟨g3, 0, none⟩) n cap3) n (itC L')) (hO : Off (RS W1 m R) W1 w4) :
    RwP (w4.setCell ⟨R, 0, none⟩ (.slice (some ⟨g3, 0, none⟩) n cap3)) m R L' ∧ Off (RS W1 m R) W1 (w4.setCell ⟨R, 0, none⟩ (.slice (some ⟨g3, 0, none⟩) n cap3)) := by
  subst hl
  obtain ⟨_, _, cur, hg⟩ := owns_box hown
  have hne : g3 ≠ R := box_ne hg hB (by decide)
  have hb := But.set R w4 0 (.slice (some ⟨g3, 0, none⟩) L'.length cap3)
  refine ⟨⟨hmR, _, hB.set 0 _, hown.kept (row := some R) ⟨hb.os, hb.tape, hb.output, hb.size, fun k hk hn => hb.block k hk (fun e => hn (by rw [e]))⟩ (.inr (by simp [Value.ownBlock]; exact hne))⟩, hO.set ⟨hmR, .inl rfl⟩ 0 _⟩
theorem RwP.below {W W' : World} {m R : Nat} {L : List It} (h : RwP W m R L) (hb : Below W.heap.size W W') : RwP W' m R L := by
  obtain ⟨hm, v, hB, hown⟩ := h
  exact ⟨hm, v, hB.below hb, owns_below hown hb⟩
theorem atK_some {k : Ky} {L : List It} {j : Nat} (h : atK k L = some j) : ∃ hj : j < L.length, L[j].1 = k := by
  unfold atK at h
  obtain ⟨hj, h1, _⟩ := List.findIdx?_eq_some_iff_getElem.1 h
  exact ⟨hj, by simpa using h1⟩
theorem drop_at {k : Ky} {L : List It} {j : Nat} (hr : Rise L) (hj : j < L.length) (h : L[j].1 = k) : del k L = L.take j ++ L.drop (j + 1) := by
  have e : L = L.take j ++ L[j] :: L.drop (j + 1) := by rw [← List.drop_eq_getElem_cons hj, List.take_append_drop]
  have hr2 := hr
  rw [e] at hr2
  obtain ⟨_, _, h1, h2⟩ := rise_node.1 hr2
  have := del_here (m := L[j]) h1 h2
  rw [h] at this
  rw [← this, ← e]
set_option maxRecDepth 100000 in
set_option maxHeartbeats 4000000 in
theorem rwp_drop {V : World} {m R : Nat} {L : List It} (ky0 : Ky) (hr : Rise L) (hl : L.length ≤ 1000) (h : RwP V m R L) :
    Calls Try.prog 15 #[.pointer (some ⟨R, 0, none⟩), ky ky0] V fun e w' => e = .returned (eI (if has ky0 L then 0 else 81)) ∧ RwP w' m R (del ky0 L) ∧ Off (RS V m R) V w' := by
  cases hh : has ky0 L with
  | false =>
    rw [del_none (has_not hh)]
    exact (rw_drop_no R ky0 L V (by omega) h.rw hh).mono fun e w' ⟨x1, x2⟩ => ⟨x1, h.below x2, Off.of x2⟩
  | true =>
    obtain ⟨k, hq⟩ : ∃ k, atK ky0 L = some k := Option.isSome_iff_exists.1 (by rw [atK_has]; exact hh)
    obtain ⟨hk, hg⟩ := atK_some hq
    have TV := up1 V (.cells #[eU ky0.1, eI ky0.2] 32)
    have bV := Box.new V 32 #[eU ky0.1, eI ky0.2]
    have hA := rw_at R ky0 L (V.alloc (.cells #[eU ky0.1, eI ky0.2] 32)) (by omega) (h.rw.below TV)
    rw [hq] at hA
    have hA : Calls Try.prog 18 #[.pointer (some ⟨R, 0, none⟩), ky ky0] (V.alloc (.cells #[eU ky0.1, eI ky0.2] 32)) fun e w' => e = .returned (.int .i64 (k : Int)) ∧ Below (V.alloc (.cells #[eU ky0.1, eI ky0.2] 32)).heap.size (V.alloc (.cells #[eU ky0.1, eI ky0.2] 32)) w' := hA
    rw [drop_at hr hk hg]
    obtain ⟨V0, hV0⟩ : ∃ v, V.alloc (.cells #[eU ky0.1, eI ky0.2] 32) = v := ⟨_, rfl⟩
    rw [hV0] at TV bV hA
    obtain ⟨z0, z1⟩ := kyC bV
    clear hg hq
    go_enter Try.func15, Try.ntmps15
    go_upto_region 4 with (go_at_call 18; (with_reducible refine hA.mono ?_); rintro e W ⟨rfl, hbW⟩)
    have TW := upp TV hbW
    replace h := h.below TW
    have hfin : ∀ wx, RwP wx m R (L.take k ++ L.drop (k + 1)) ∧ Off (RS W m R) W wx → RwP wx m R (L.take k ++ L.drop (k + 1)) ∧ Off (RS V m R) V wx := fun wx h => ⟨h.1, RS.trans (Off.of TW) h.2⟩
    clear hV0 bV z0 z1 hbW TV hA
    obtain ⟨hmR, v, hB, hown⟩ := h
    obtain ⟨g, cap, rfl, hmg, hgW⟩ := hown.form (by omega)
    have hcap : L.length ≤ cap := by
      rcases hown.2 with ⟨e, _⟩ | ⟨g', cap', cur, e, _, _, h6, _⟩
      · cases e
      · cases e; exact h6
    have cR := hB.cell 0
    have i1 : (k : Int) ≤ (cap : Int) := by omega
    have i2 : (0 : Int) ≤ (k : Int) := by omega
    have i3 : ¬ (k : Int) < 0 := by omega
    obtain ⟨k1, hk1⟩ : ∃ z, k + 1 = z := ⟨_, rfl⟩
    rw [hk1] at hfin
    replace hfin := Lib.hid hfin
    have i4 : IntKind.i64.wrap ((k : Int) + 1) = (k1 : Int) := by simp [IntKind.wrap, IntKind.bits, IntKind.signed]; omega
    have i5 : (0 : Int) ≤ (k1 : Int) := by omega
    have i6 : (k1 : Int) ≤ (L.length : Int) := by omega
    have i7 : (k1 : Int) ≤ (cap : Int) := by omega
    have i8 : (L.length : Int) ≤ (cap : Int) := by omega
    obtain ⟨ad2, had2, had3, had2'⟩ : ∃ x : Addr, (if cap = k1 then some (⟨g, 0, none⟩ : Addr) else some ⟨g, k1 * 3, none⟩) = some x ∧ x.block = g ∧ (L.drop k1 ≠ [] → x = ⟨g, k1 * 3, none⟩) := by
      by_cases h : cap = k1
      · rw [if_pos h]
        exact ⟨_, rfl, rfl, fun h2 => absurd (List.drop_eq_nil_of_le (by omega)) h2⟩
      · rw [if_neg h]
        exact ⟨_, rfl, rfl, fun _ => rfl⟩
    go_cut [] (fun wx => RwP wx m R (L.take k ++ L.drop k1) ∧ Off (RS W m R) W wx)
    case first =>
      have hS : ∀ w', Below W.heap.size W w' → w'.cell? ⟨R, 0, none⟩ = some (.slice (some ⟨g, 0, none⟩) L.length cap) := fun w' h => (hB.below h).cell 0
      have T := Below.refl W.heap.size W
      have hRW := hB.lt
      have hF1 : ∀ w', Below W.heap.size W w' → ∀ j u, (itC (L.take k))[j]? = some u → w'.cell? ((⟨g, 0, none⟩ : Addr).add j) = some u := fun w' hb j u hu => by
        have := (owns_take hown (k := k) (by omega)).cells (g := g) rfl j u hu
        have e : ((⟨g, 0, none⟩ : Addr).add j).block = g := by unfold Addr.add; split <;> simp_all
        exact (hb.cell (p := (⟨g, 0, none⟩ : Addr).add j) (by rw [e]; exact hgW)).trans this
      have hF2 : ∀ w', Below W.heap.size W w' → ∀ j u, (itC (L.drop k1))[j]? = some u → w'.cell? (ad2.add j) = some u := fun w' hb j u hu => by
        have := flat_from hown (k := k1) had2' j u hu
        have e : (ad2.add j).block = g := by have : ad2.block = g := had3; unfold Addr.add; split <;> simp_all
        exact (hb.cell (p := ad2.add j) (by rw [e]; exact hgW)).trans this
      have hend : ∀ w2 v2, w2.ownsRow W.heap.size 43 3 v2 (L.take k ++ L.drop k1).length (itC (L.take k ++ L.drop k1)) → Below W.heap.size W w2 → RwP (w2.setCell ⟨R, 0, none⟩ v2) m R (L.take k ++ L.drop k1) ∧ Off (RS W m R) W (w2.setCell ⟨R, 0, none⟩ v2) := fun w2 v2 h1 h2 =>
        ⟨⟨hmR, v2, (hB.below h2).set 0 v2, owns_mono (ownsRow_setCell_below h1 (a := ⟨R, 0, none⟩) hRW v2) (by omega)⟩, (Off.of h2).set ⟨hmR, .inl rfl⟩ 0 v2⟩
      have hlen : (L.take k ++ L.drop k1).length = k + (L.length - k1) := by rw [List.length_append, List.length_take, List.length_drop, Nat.min_eq_left (by omega)]
      rw [hlen] at hend
      have hl1 : (L.take k).length = k := by rw [List.length_take]; omega
      have hl2 : (L.drop k1).length = L.length - k1 := List.length_drop
      have hk5 : k + (L.length - k1) ≤ 5000 := by omega
      have hk6 : 0 + k ≤ 5000 := by omega
      clear hown hfin
      generalize L.take k = A at *
      generalize L.drop k1 = C at *
      have cR0 := hS W T
      go_region_law
        (first
          | (refine step_app (W := W) (by rfl) (.tmp 12) (.tmp 18) (by rfl) (.slice (some ⟨W.heap.size, 0, none⟩) 0 0) 0 [] (by rfl) (own0 (by first | exact Box.new _ _ _ | exact Box.new W 43 #[]) (Nat.le_refl _)) (by first | exact T.alloc T.size _ | exact (T.alloc T.size _).drew | exact T.drew.alloc T.drew.size _) ⟨g, 0, none⟩ k cap A (by rfl) hl1 (hF1 _ (by first | exact T.alloc T.size _ | exact (T.alloc T.size _).drew | exact T.drew.alloc T.drew.size _)) hk6 (.inl (by simp)) ?_; intro g1 cap1 w1 hown1 T1; simp only [Nat.zero_add, List.nil_append] at hown1 ⊢)
          | (refine step_app (W := W) (by rfl) (.tmp 19) (.tmp 26) (by rfl) (.slice (some ⟨g1, 0, none⟩) k cap1) k A (by rfl) hown1 (by first | exact T1 | exact T1.drew) ad2 (L.length - k1) (cap - k1) C (by rfl) hl2 (hF2 _ (by first | exact T1 | exact T1.drew)) hk5 (.inl (by simp)) ?_; intro g2 cap2 w2 hown2 T2; have cR2 := hS w2 T2; have fR2 := (hB.below T2).thaw 0; have lR2 := (hB.below T2).lt))
      all_goals go_wp2_with fail
      all_goals go_meet
      all_goals exact hend _ _ hown2 T2
    case rest =>
      go_wp2
      go_ret
      exact ⟨rfl, by subst hk1; exact hfin.out _ hcut⟩
end Go.Proofs.Ytjfpemkdidoacaa
