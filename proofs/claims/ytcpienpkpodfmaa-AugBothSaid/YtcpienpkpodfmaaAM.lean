/- Least of the greatest key has Lowest's value; Within of that is the first one that has it: the walk of the statement. No condition but words. -/
import Derived.Test.YtcpienpkpodfmaaAJ
namespace Go.Proofs.Ytcpienpkpodfmaa
open Go.RowKit Go.Shelf
set_option linter.unusedVariables false
theorem upto_all {L : List It} (hF : Fine L) : upto 18446744073709551615 L = L := by
  unfold upto
  rw [List.filter_eq_self]
  intro x hx
  have := (hF.1 x hx).1
  unfold Word at this
  simp; omega
theorem both_facts {L : List It} (hne : L ≠ []) : ∃ f A C, L = A ++ f :: C ∧ (∀ x ∈ A, ¬ x.2 = (low L).1) ∧ f.2 = (low L).1 ∧ fnd (low L).1 L = some f ∧ ∀ x ∈ L, (low L).1 ≤ x.2 := by
  have hle : ∀ x ∈ L, (low L).1 ≤ x.2 := fun x hx => by
    have := low_le hx
    unfold mLt mkO at this
    simp only [not_or] at this
    omega
  obtain ⟨a, ha, e⟩ := low_mem hne
  have hs : (fnd (low L).1 L).isSome = true := by
    unfold fnd
    rw [List.find?_isSome]
    exact ⟨a, ha, by rw [← e]; simp⟩
  obtain ⟨f, hf⟩ := Option.isSome_iff_exists.1 hs
  have hf2 := hf
  unfold fnd at hf
  obtain ⟨h1, A, C, h2, h3⟩ := List.find?_eq_some_iff_append.1 hf
  have hfm : f ∈ L := by rw [h2]; simp
  have h4 := hle f hfm
  have h5 : f.2 ≤ (low L).1 := by simpa using h1
  refine ⟨f, A, C, h2, fun x hx e => ?_, by omega, hf2, hle⟩
  have := h3 x hx
  simp at this
  omega
set_option maxRecDepth 100000 in
set_option maxHeartbeats 4000000 in
theorem AugBoth_walk (a : Option Addr) (n c : Nat) (xs : Nat → Ac) (w : World) (hI : IsAcs w a n c xs) (hw : ∀ i, (xs i).word) (hcm : c ≤ maxLen) (hnn : a = none → n = 0 ∧ c = 0) :
    Calls Try.prog 8 #[.slice a n c] w fun e w' => e = .returned (.bool true) ∧ Below w.heap.size w w' := by
  by_cases hn : n ≤ 200
  · have hact : ∀ w1, Below w.heap.size w w1 → Calls Try.prog 17 #[.slice a n c] w1 fun e w' => ∃ B : Nat, e = .returned (.pointer (some ⟨B, 0, none⟩)) ∧ Aug w1 w' n B (rowA xs n) := fun w1 T => acted_ok a n c xs w1 hn (hI.below T) hw
    clear hI hw hnn hcm
    generalize rowA xs n = L at *
    have cL0 : ∀ w0 W B, Aug w0 W n B L → Calls Try.prog 18 #[.pointer (some ⟨B, 0, none⟩), .int .u64 18446744073709551615] W fun e w' => e = .returned (.tuple #[eI (low L).2, .bool (decide (L ≠ []))]) ∧ Below W.heap.size W w' := fun w0 W B h => by
      have := aug_least 18446744073709551615 h
      rw [upto_all h.fine] at this
      exact this
    have cO0 : ∀ w0 W B, Aug w0 W n B L → Calls Try.prog 25 #[.pointer (some ⟨B, 0, none⟩)] W fun e w' => e = .returned (.tuple #[eU (low L).1, .bool (decide (L ≠ []))]) ∧ Below W.heap.size W w' := fun w0 W B h => aug_lowest h
    have T := Below.refl w.heap.size w
    by_cases hL : L = []
    · subst hL
      have cL : ∀ w0 W B, Aug w0 W n B [] → Calls Try.prog 18 #[.pointer (some ⟨B, 0, none⟩), .int .u64 18446744073709551615] W fun e w' => e = .returned (.tuple #[.int .i64 0, .bool false]) ∧ Below W.heap.size W w' := fun w0 W B h => cL0 w0 W B h
      have cO : ∀ w0 W B, Aug w0 W n B [] → Calls Try.prog 25 #[.pointer (some ⟨B, 0, none⟩)] W fun e w' => e = .returned (.tuple #[.int .u64 0, .bool false]) ∧ Below W.heap.size W w' := fun w0 W B h => cO0 w0 W B h
      have cN : ∀ w0 W B, Aug w0 W n B [] → Calls Try.prog 23 #[.pointer (some ⟨B, 0, none⟩)] W fun e w' => e = .returned (.int .i64 0) ∧ W = w' := fun w0 W B h => aug_len h
      clear cL0 cO0
      go_enter Try.func8, Try.ntmps8
      go_wp2_with (first
        | (go_at_call 16; (with_reducible refine (awake_any _).mono ?_); rintro e w1 ⟨rfl, hb⟩; replace T := upp T hb; clear hb)
        | (go_at_call 17; (with_reducible refine (hact _ T).mono ?_); rintro e w2 ⟨B, rfl, H⟩; have hT := upp T H.world)
        | (go_at_call 25; (with_reducible refine (cO _ _ _ H).mono ?_); rintro e w3 ⟨rfl, hb⟩; replace H := H.below hb; replace hT := upp hT hb; clear hb)
        | (go_at_call 18; (with_reducible refine (cL _ _ _ H).mono ?_); rintro e w4 ⟨rfl, hb⟩; replace H := H.below hb; replace hT := upp hT hb; clear hb)
        | (go_at_call 23; (with_reducible refine (cN _ _ _ H).mono ?_); rintro e w5 ⟨rfl, rfl⟩))
      go_ret
      exact ⟨rfl, hT⟩
    · have hd : decide (L ≠ []) = true := by simpa using hL
      rw [hd] at cL0 cO0
      obtain ⟨f, A0, C0, hL0, hA0, hf0, hfnd, hall⟩ := both_facts hL
      obtain ⟨li, hli⟩ : ∃ z, (low L).2 = z := ⟨_, rfl⟩
      obtain ⟨lo, hlo⟩ : ∃ z, (low L).1 = z := ⟨_, rfl⟩
      obtain ⟨z, hz, ez⟩ := low_mem hL
      rw [hli] at cL0
      rw [hlo] at cO0 hA0 hf0 hfnd hall
      have ez1 : z.2 = lo := by rw [← hlo, ← ez]
      have ez2 : z.1.2 = li := by rw [← hli, ← ez]
      obtain ⟨wi, hwi⟩ : ∃ z, f.1.2 = z := ⟨_, rfl⟩
      have cW : ∀ w0 W B, Aug w0 W n B L → Calls Try.prog 19 #[.pointer (some ⟨B, 0, none⟩), eU lo] W fun e w' => e = .returned (.tuple #[eI wi, .bool true]) ∧ Below W.heap.size W w' := fun w0 W B h => by
        have := aug_within lo h
        rw [hfnd] at this
        rw [← hwi]
        exact this
      obtain ⟨K, hK⟩ : ∃ K, z.1.1 = K := ⟨_, rfl⟩
      have cG : ∀ w0 W B, Aug w0 W n B L → Calls Try.prog 20 #[.pointer (some ⟨B, 0, none⟩), eI li] W fun e w' => e = .returned (.tuple #[eU K, eU lo, .bool true]) ∧ Below W.heap.size W w' := fun w0 W B h => by
        have := aug_get z.1.2 (h.fine.1 z hz).2.1 h
        rw [(getA_some h.fine).2 ⟨hz, rfl⟩, ez2] at this
        rw [← hK, ← ez1]
        exact this
      have cX : ∀ w0 W B A C (x : It), Aug w0 W n B L → L = A ++ x :: C → Calls Try.prog 20 #[.pointer (some ⟨B, 0, none⟩), eI x.1.2] W fun e w' => e = .returned (.tuple #[eU x.1.1, eU x.2, .bool true]) ∧ Below W.heap.size W w' := fun w0 W B A C x h hL => by
        have hg := aug_get x.1.2 ((h.fine.1 x (by rw [hL]; simp)).2.1) h
        have e : getA x.1.2 L = some x := by have := h.fine; rw [hL] at this ⊢; exact getA_at this
        rw [e] at hg
        exact hg
      have cI : ∀ w0 W B, Aug w0 W n B L → Calls Try.prog 21 #[.pointer (some ⟨B, 0, none⟩)] W fun e w' => ∃ v, e = .returned v ∧ IntS w' v (idsI L) ∧ Below W.heap.size W w' := fun w0 W B h =>
        (aug_ids (by omega) h).mono fun e w' ⟨v, x1, x2, x3⟩ => ⟨v, x1, IntS.of_owns x2, x3⟩
      obtain ⟨lz, hlz⟩ : ∃ z, IntKind.u64.wrap (lo - 1) = z := ⟨_, rfl⟩
      obtain ⟨be, hbe⟩ : ∃ z, (fnd lz L).isSome = z := ⟨_, rfl⟩
      obtain ⟨bi, hbi⟩ : ∃ z, (kO (fnd lz L)).2 = z := ⟨_, rfl⟩
      have cZ : ∀ w0 W B, Aug w0 W n B L → Calls Try.prog 19 #[.pointer (some ⟨B, 0, none⟩), eU lz] W fun e w' => e = .returned (.tuple #[eI bi, .bool be]) ∧ Below W.heap.size W w' := fun w0 W B h => by
        rw [← hbi, ← hbe]; exact aug_within lz h
      have hend0 : Fine L → (lo == 0) = true ∨ ((lo == 0) = false ∧ be = false) := fun hF => by
        by_cases h0 : lo = 0
        · exact .inl (by simpa using h0)
        · refine .inr ⟨by simpa using h0, ?_⟩
          have hw := (hF.1 z hz).2.2
          rw [ez1] at hw
          have e : lz = lo - 1 := by rw [← hlz]; unfold Word at hw; simp [IntKind.wrap, IntKind.bits, IntKind.signed]; omega
          rw [← hbe]
          cases hq : fnd lz L with
          | none => rfl
          | some g =>
            unfold fnd at hq
            have h1 := List.mem_of_find?_eq_some hq
            have h2 : g.2 ≤ lz := by have := List.find?_some hq; simpa using this
            have := hall g h1
            omega
      have hself : (lo == lo) = true := by simp
      have hend := Lib.hid hend0
      clear hd hli hlo ez1 ez2 hbe hbi hK hz ez hall hfnd hend0
      replace hwi := Lib.hid hwi
      go_enter Try.func8, Try.ntmps8
      go_upto_region 15 with (first
        | (go_at_call 16; (with_reducible refine (awake_any _).mono ?_); rintro e w1 ⟨rfl, hb⟩; replace T := upp T hb; clear hb)
        | (go_at_call 17; (with_reducible refine (hact _ T).mono ?_); rintro e w2 ⟨B, rfl, H⟩; have hT := upp T H.world)
        | (go_at_call 25; (with_reducible refine (cO0 _ _ _ H).mono ?_); rintro e w3 ⟨rfl, hb⟩; replace H := H.below hb; replace hT := upp hT hb; clear hb)
        | (go_at_call 18; (with_reducible refine (cL0 _ _ _ H).mono ?_); rintro e w4 ⟨rfl, hb⟩; replace H := H.below hb; replace hT := upp hT hb; clear hb)
        | (go_at_call 20; (with_reducible refine (cG _ _ _ H).mono ?_); rintro e w5 ⟨rfl, hb⟩; replace H := H.below hb; replace hT := upp hT hb; clear hb)
        | (go_at_call 19; (with_reducible refine (cW _ _ _ H).mono ?_); rintro e w5 ⟨rfl, hb⟩; replace H := H.below hb; replace hT := upp hT hb; clear hb)
        | (go_at_call 21; (with_reducible refine (cI _ _ _ H).mono ?_); rintro e w6 ⟨v, rfl, hS, hb⟩; replace H := H.below hb; replace hT := upp hT hb; clear hb))
      have hF := H.fine
      have hl := H.len
      clear hact cL0 cO0 cW cG cI
      obtain ⟨sa, sc, sb, so, rfl, hsc, hne, hce⟩ := ids_cells hS
      have hend := Lib.hid (hend.out hF)
      replace hne := Lib.hid hne
      replace hce := Lib.hid hce
      replace cX := Lib.hid cX
      clear hS hF
      have H6 := H
      obtain ⟨m, hm⟩ : ∃ z, L.length = z := ⟨_, rfl⟩
      have hm2 := Lib.hid hm
      have hm3 : m ≤ 200 := by omega
      rw [hm] at hsc
      simp only [hm]
      clear hm H
      have i3 : (m : Int) ≤ (sc : Int) := by omega
      replace hL0 := Lib.hid hL0
      replace hA0 := Lib.hid hA0
      replace hf0 := Lib.hid hf0
      go_wp2
      go_loopw [14] (fun s14 wr => ∃ A C : List It, L = A ++ C ∧ s14 = .int .i64 A.length ∧ (∀ x ∈ A, ¬ x.2 = lo) ∧ Below w6.heap.size w6 wr) (fun s14 _ => m - (intOf s14).toNat)
      case atStart => exact ⟨[], L, rfl, rfl, (fun x hx => by cases hx), Below.refl _ _⟩
      case round =>
        obtain ⟨A, C, hL1, rfl, hA, H⟩ := hrel
        cases C with
        | nil => exact absurd hf0.out (hA f (by rw [← List.append_nil A, ← hL1, hL0.out]; simp))
        | cons x C =>
          have hlen := hm2.out
          have i1 : (A.length : Int) < (m : Int) := by rw [← hlen, hL1]; simp; omega
          have i1n : A.length < m := by omega
          have i2 : (0 : Int) ≤ (A.length : Int) := by omega
          obtain rfl := hne.out hL
          have x1 := hce.out wr H A C x hL1
          have hX := cX.out _ _ _ A C x (H6.below H) hL1
          have hend1 : L = (A ++ [x]) ++ C := by rw [hL1]; simp
          have hlen2 : (A ++ [x]).length = A.length + 1 := by simp
          have hfx : x.2 = lo → x = f := fun e => by
            have h1 := hL0.out
            rw [hL1] at h1
            rcases Nat.lt_trichotomy A.length A0.length with h | h | h
            · have h2 : x ∈ A0 := by
                have : (A ++ x :: C)[A.length]? = some x := by simp
                rw [h1, List.getElem?_append_left h] at this
                exact List.mem_of_getElem? this
              exact absurd e (hA0.out x h2)
            · have : (A ++ x :: C)[A.length]? = some x := by simp
              rw [h1, h] at this
              simpa using this.symm
            · have h2 : f ∈ A := by
                have : (A0 ++ f :: C0)[A0.length]? = some f := by simp
                rw [← h1, List.getElem?_append_left h] at this
                exact List.mem_of_getElem? this
              exact absurd hf0.out (hA f h2)
          have hA1 : ¬ x.2 = lo → ∀ y ∈ A ++ [x], ¬ y.2 = lo := fun e y hy => by
            rcases List.mem_append.1 hy with h | h
            · exact hA y h
            · have : y = x := by simpa using h
              rw [this]; exact e
          have hce2 : ∀ w', Below w6.heap.size w6 w' → w'.cell? ⟨sb, so + A.length, none⟩ = some (eI x.1.2) := fun w' hb => hce.out w' hb A C x hL1
          have hcZ : ∀ W, Below w6.heap.size w6 W → Calls Try.prog 19 #[.pointer (some ⟨B, 0, none⟩), eU lz] W fun e w' => e = .returned (.tuple #[eI bi, .bool be]) ∧ Below W.heap.size W w' := fun W hb => cZ _ _ _ (H6.below hb)
          have hid1 : x.2 = lo → x.1.2 = wi := fun e => by rw [hfx e]; exact hwi.out
          replace hce2 := Lib.hid hce2
          replace hend1 := Lib.hid hend1
          replace hlen2 := Lib.hid hlen2
          replace hA1 := Lib.hid hA1
          replace hid1 := Lib.hid hid1
          clear hce hne hA hL1 hfx
          obtain ⟨x', hx'⟩ : ∃ z, A ++ [x] = z := ⟨_, rfl⟩
          simp only [hx'] at hend1 hlen2 hA1
          clear hx' hL hlen hL0 hA0 hf0 hwi hm2 cX cZ
          generalize A.length = k at *
          obtain ⟨⟨a1, a2⟩, a3⟩ := x
          dsimp only at *
          have hk : (((k + 1 : Nat)) : Int) = (k : Int) + 1 := by omega
          by_cases hv : a3 = lo
          · have g1 : (a3 == lo) = true := by simpa using hv
            have hwi := hid1.out hv
            subst hwi
            clear hid1 hA1 hv hend1 hlen2
            go_upto_region 21 with (first
              | (go_at_call 20; (with_reducible refine hX.mono ?_); rintro e w7 ⟨rfl, hb⟩; replace H := upp H hb; clear hb)
              | (go_at_call 19; (with_reducible refine (hcZ _ H).mono ?_); rintro e w8 ⟨rfl, hb⟩; replace H := upp H hb; clear hb))
            have x2 := hce2.out w8 H
            have g2 : (a2 == a2) = true := by simp
            rcases hend.out with h | ⟨h, rfl⟩
            · clear hend; go_wp2; go_ret; exact ⟨rfl, upp hT H⟩
            · clear hend; go_wp2; go_ret; exact ⟨rfl, upp hT H⟩
          · have g1 : (a3 == lo) = false := by simpa using hv
            have hA2 := hA1.out hv
            replace hA2 := Lib.hid hA2
            clear hid1 hv hA1
            go_wp2_with (first
              | (go_at_call 20; (with_reducible refine hX.mono ?_); rintro e w7 ⟨rfl, hb⟩; replace H := upp H hb; clear hb))
            exact ⟨⟨x', C, hend1.out, by rw [hlen2.out, hk], hA2.out, H⟩, by simp [intOf]; omega⟩
  · have h1 : 200 < n := by omega
    have h2 : n ≤ maxLen := Nat.le_trans hI.1 hcm
    clear hI hw hnn hn hcm
    have T := Below.refl w.heap.size w
    go_enter Try.func8, Try.ntmps8
    go_wp2_with (first
      | (go_at_call 16; (with_reducible refine (awake_any _).mono ?_); rintro e w1 ⟨rfl, hb⟩; replace T := upp T hb; clear hb)
      | (go_at_call 17; (with_reducible refine (acted_over a n c _ h1 h2).mono ?_); rintro e w2 ⟨rfl, hb⟩; replace T := upp T hb; clear hb))
    go_ret
    exact ⟨rfl, T⟩
end Go.Proofs.Ytcpienpkpodfmaa
