/- Ids are all that are in, each once, by keys; the first of them is First: the walk of the statement. No condition but words. -/
import Derived.Test.YtcpienpkpodfmaaAJ
namespace Go.Proofs.Ytcpienpkpodfmaa
open Go.RowKit Go.Shelf
set_option linter.unusedVariables false
theorem split2 : ∀ {L : List It} {j : Nat}, j + 1 < L.length → ∃ A x y C, L = A ++ x :: y :: C ∧ A.length = j
  | [], _, h => by simp at h
  | [x], _, h => by simp at h
  | x :: y :: C, 0, _ => ⟨[], x, y, C, rfl, rfl⟩
  | x :: y :: L, j + 1, h => by
    obtain ⟨A, u, v, C, e, hl⟩ := split2 (L := y :: L) (j := j) (by simpa using h)
    exact ⟨x :: A, u, v, C, by rw [e]; rfl, by simp [hl]⟩
def amg (i : Int) (L : List It) : Bool := L.any fun a => decide (a.1.2 = i)
theorem amg_get (i : Int) (L : List It) : (getA i L).isSome = amg i L := by
  unfold getA amg
  rw [Bool.eq_iff_iff, List.find?_isSome, List.any_eq_true]
theorem amg_snoc (i : Int) (A : List It) (x : It) : amg i (A ++ [x]) = (amg i A || decide (x.1.2 = i)) := by
  unfold amg
  rw [List.any_append]
  simp
set_option maxRecDepth 100000 in
set_option maxHeartbeats 4000000 in
theorem AugOrder_walk (a : Option Addr) (n c : Nat) (xs : Nat → Ac) (w : World) (hI : IsAcs w a n c xs) (hw : ∀ i, (xs i).word) (hcm : c ≤ maxLen) (hnn : a = none → n = 0 ∧ c = 0) :
    Calls Try.prog 6 #[.slice a n c] w fun e w' => e = .returned (.bool true) ∧ Below w.heap.size w w' := by
  by_cases hn : n ≤ 200
  · have hact : ∀ w1, Below w.heap.size w w1 → Calls Try.prog 17 #[.slice a n c] w1 fun e w' => ∃ B : Nat, e = .returned (.pointer (some ⟨B, 0, none⟩)) ∧ Aug w1 w' n B (rowA xs n) := fun w1 T => acted_ok a n c xs w1 hn (hI.below T) hw
    have hcell : ∀ (k : Nat) w', k < n → Below w.heap.size w w' → ∃ b o, a = some ⟨b, o, none⟩ ∧ w'.cell? ⟨b, o + k * 6, none⟩ = some (eI (xs k).i) := fun k w' hk T => by
      obtain ⟨h2, h3⟩ := hI
      rcases h3 with h3 | ⟨b, o, e, h3⟩
      · omega
      · exact ⟨b, o, e, ((h3.below T).2 k hk).1⟩
    have hnc : (n : Int) ≤ (c : Int) := by have := hI.1; omega
    have hwi : ∀ k, Inte (xs k).i := fun k => (hw k).1.2.1
    generalize rowA xs n = L at *
    have cF : ∀ w0 W B, Aug w0 W n B L → Calls Try.prog 22 #[.pointer (some ⟨B, 0, none⟩)] W fun e w' => e = .returned (.tuple #[eI (kO L.head?).2, .bool L.head?.isSome]) ∧ Below W.heap.size W w' := fun w0 W B h => aug_first h
    have cN : ∀ w0 W B, Aug w0 W n B L → Calls Try.prog 23 #[.pointer (some ⟨B, 0, none⟩)] W fun e w' => e = .returned (eI (L.length : Int)) ∧ W = w' := fun w0 W B h => aug_len h
    have cG : ∀ w0 W B k, Aug w0 W n B L → Calls Try.prog 20 #[.pointer (some ⟨B, 0, none⟩), eI (xs k).i] W fun e w' => ∃ u v : Int, e = .returned (.tuple #[eU u, eU v, .bool (amg (xs k).i L)]) ∧ Below W.heap.size W w' := fun w0 W B k h => by
      have := aug_get (xs k).i (hwi k) h
      rw [gotV_eq, amg_get] at this
      exact this.mono fun e w' ⟨h1, h2⟩ => ⟨_, _, h1, h2⟩
    have cX : ∀ w0 W B A C (x : It), Aug w0 W n B L → L = A ++ x :: C → Calls Try.prog 20 #[.pointer (some ⟨B, 0, none⟩), eI x.1.2] W fun e w' => e = .returned (.tuple #[eU x.1.1, eU x.2, .bool true]) ∧ Below W.heap.size W w' := fun w0 W B A C x h hL => by
      have hg := aug_get x.1.2 ((h.fine.1 x (by rw [hL]; simp)).2.1) h
      have e : getA x.1.2 L = some x := by have := h.fine; rw [hL] at this ⊢; exact getA_at this
      rw [e] at hg
      exact hg
    have cI : ∀ w0 W B, Aug w0 W n B L → Calls Try.prog 21 #[.pointer (some ⟨B, 0, none⟩)] W fun e w' => ∃ v, e = .returned v ∧ IntS w' v (idsI L) ∧ Below W.heap.size W w' := fun w0 W B h =>
      (aug_ids (by omega) h).mono fun e w' ⟨v, x1, x2, x3⟩ => ⟨v, x1, IntS.of_owns x2, x3⟩
    have hcl := Lib.hid hcell
    have T := Below.refl w.heap.size w
    clear hI hw hnn hcm hcell hwi
    obtain ⟨fi, hfi⟩ : ∃ z, (kO L.head?).2 = z := ⟨_, rfl⟩
    obtain ⟨is, his⟩ : ∃ z, L.head?.isSome = z := ⟨_, rfl⟩
    rw [hfi, his] at cF
    replace hfi := Lib.hid hfi
    replace his := Lib.hid his
    go_enter Try.func6, Try.ntmps6
    go_upto_region 8 with (first
      | (go_at_call 16; (with_reducible refine (awake_any _).mono ?_); rintro e w1 ⟨rfl, hb⟩; replace T := upp T hb; clear hb)
      | (go_at_call 17; (with_reducible refine (hact _ T).mono ?_); rintro e w2 ⟨B, rfl, H⟩; have hT := upp T H.world)
      | (go_at_call 21; (with_reducible refine (cI _ _ _ H).mono ?_); rintro e w3 ⟨v, rfl, hS, hb⟩; replace H := H.below hb; replace hT := upp hT hb; clear hb)
      | (go_at_call 22; (with_reducible refine (cF _ _ _ H).mono ?_); rintro e w4 ⟨rfl, hb⟩; replace H := H.below hb; replace hT := upp hT hb; replace hS := hS.below hb; clear hb))
    have hr := H.rise
    have hl := H.len
    have cNh := cN _ _ _ H
    clear hact cI cF cN
    obtain ⟨sa, sc, sb, so, rfl, hsc, hne, hce⟩ := ids_cells hS
    replace hne := Lib.hid hne
    replace hce := Lib.hid hce
    replace cX := Lib.hid cX
    replace cG := Lib.hid cG
    replace hr := Lib.hid hr
    clear hS
    have H6 := H
    obtain ⟨m, hm⟩ : ∃ z, L.length = z := ⟨_, rfl⟩
    have hm2 := Lib.hid hm
    have hm3 : m ≤ 200 := by omega
    rw [hm] at hsc cNh
    simp only [hm]
    have i3 : (m : Int) ≤ (sc : Int) := by omega
    go_cut [54] (fun s54 wx => s54 = .bool false ∧ w4 = wx)
    case first =>
      clear H6 H hr cX cG hcl hl
      cases L with
      | nil =>
        have hm4 : m = 0 := hm.symm
        subst hm4
        have h1 := his.out
        subst h1
        clear his hfi hce hne hm hm2
        go_wp2_with (go_at_call 23; (with_reducible refine cNh.mono ?_); rintro e w5 ⟨rfl, rfl⟩)
        go_meet
        exact ⟨rfl, rfl⟩
      | cons x C =>
        have h1 := his.out
        have h2 := hfi.out
        have x1 := hce.out w4 (Below.refl _ _) [] C x rfl
        obtain rfl := hne.out (by simp)
        have h1 : true = is := h1
        have h2 : x.1.2 = fi := h2
        subst h1 h2
        have i4 : (0 : Int) < (m : Int) := by rw [← hm]; simp
        have i5 : decide ((0 : Int) < (m : Int)) = true := by simpa using i4
        have i6 : ((m : Int) == (m : Int)) = true := by simp
        have i7 : (x.1.2 == x.1.2) = true := by simp
        have x1 : w4.cell? ⟨sb, so, none⟩ = some (eI x.1.2) := x1
        clear his hfi hce hne hm hm2
        go_wp2_with (go_at_call 23; (with_reducible refine cNh.mono ?_); rintro e w5 ⟨rfl, rfl⟩)
        go_meet
        exact ⟨rfl, rfl⟩
    case rest =>
      obtain ⟨rfl, rfl⟩ := hcut
      clear hm cNh hfi his H
      go_wp2
      go_loopw [7] (fun s7 wr => ∃ k : Nat, s7 = .int .i64 k ∧ 1 ≤ k ∧ k ≤ 201 ∧ Below w4.heap.size w4 wr) (fun s7 _ => m - (intOf s7).toNat)
      case atStart => exact ⟨1, rfl, by omega, by omega, Below.refl _ _⟩
      case round =>
        obtain ⟨k, rfl, hk1, hk2, H⟩ := hrel
        by_cases hlt : k < m
        · obtain ⟨j, rfl⟩ : ∃ j, k = j + 1 := ⟨k - 1, by omega⟩
          obtain ⟨A, x, y, C, hL, hA⟩ := split2 (L := L) (j := j) (by rw [hm2.out]; exact hlt)
          have hL2 : L = (A ++ [x]) ++ y :: C := by rw [hL]; simp
          have hA2 : (A ++ [x]).length = j + 1 := by simp [hA]
          have cx : ∀ w', Below w4.heap.size w4 w' → w'.cell? ⟨sb, so + j, none⟩ = some (eI x.1.2) := fun w' hb => by have := hce.out w' hb A (y :: C) x hL; rwa [hA] at this
          have cy : ∀ w', Below w4.heap.size w4 w' → w'.cell? ⟨sb, so + (j + 1), none⟩ = some (eI y.1.2) := fun w' hb => by have := hce.out w' hb (A ++ [x]) C y hL2; rwa [hA2] at this
          have hX := fun W (hb : Below w4.heap.size w4 W) => cX.out _ _ _ A (y :: C) x (H6.below hb) hL
          have hY := fun W (hb : Below w4.heap.size w4 W) => cX.out _ _ _ (A ++ [x]) C y (H6.below hb) hL2
          have hlt2 : kLt x.1 y.1 := by
            have h1 := hr.out
            rw [hL] at h1
            exact (rise_node.1 h1).2.2.2 y (by simp)
          obtain rfl := hne.out (by rw [hL]; simp)
          obtain ⟨⟨a1, a2⟩, a3⟩ := x
          obtain ⟨⟨b1, b2⟩, b3⟩ := y
          dsimp only at *
          have i1 : ((j + 1 : Nat) : Int) < (m : Int) := by omega
          have i2 : (0 : Int) ≤ ((j + 1 : Nat) : Int) := by omega
          have i4 : (j : Int) < (m : Int) := by omega
          have i5 : (0 : Int) ≤ (j : Int) := by omega
          have i6 : IntKind.i64.wrap (((j + 1 : Nat) : Int) - 1) = (j : Int) := by
            have : ((j + 1 : Nat) : Int) - 1 = (j : Int) := by omega
            rw [this]
            simp [IntKind.wrap, IntKind.bits, IntKind.signed]; omega
          have c1 := cx wr H
          replace cy := Lib.hid cy
          replace cx := Lib.hid cx
          replace hlt2 := Lib.hid hlt2
          clear hL hL2 hA hA2 hce hne hr cX cG hcl hm2
          obtain ⟨k, hkj⟩ : ∃ k, j + 1 = k := ⟨_, rfl⟩
          simp only [hkj] at *
          replace hkj := Lib.hid hkj
          have hX1 := hX wr H
          go_upto_region 14 with (go_at_call 20; (with_reducible refine hX1.mono ?_); rintro e w7 ⟨rfl, hb⟩; replace H := upp H hb; clear hb)
          have c1 := cx.out w7 H
          have c2 := cy.out w7 H
          have hY1 := hY w7 H
          clear hX1 hX hY
          go_upto_region 15 with (go_at_call 20; (with_reducible refine hY1.mono ?_); rintro e w8 ⟨rfl, hb⟩; replace H := upp H hb; clear hb)
          clear c1 c2 hY1
          have c1 := cx.out w8 H
          have c2 := cy.out w8 H
          clear cx cy
          rcases hlt2.out with h | ⟨h, h'⟩
          · have g1 : decide (b1 < a1) = false := by simp; omega
            have g2 : (a1 == b1) = false := by simp; omega
            clear hlt2 h
            go_quiet (fail)
            go_wp2_with fail
            exact ⟨⟨k + 1, rfl, by omega, by omega, below_drewN H _⟩, by simp [intOf]; omega⟩
          · have h : a1 = b1 := h
            subst h
            have g1 : decide (a1 < a1) = false := by simp
            have g2 : (a1 == a1) = true := by simp
            have g3 : decide (b2 ≤ a2) = false := by simp; exact h'
            clear hlt2 h'
            go_quiet (fail)
            go_wp2_with fail
            exact ⟨⟨k + 1, rfl, by omega, by omega, below_drewN H _⟩, by simp [intOf]; omega⟩
        · have i1 : ¬ (k : Int) < (m : Int) := by omega
          clear hr cX
          generalize wr = w9 at *
          go_wp2
          have hT6 := upp hT H
          have H7 := H6.below H
          have hce7 := Lib.hid (fun w' (hb : Below w9.heap.size w9 w') A C x hL => hce.out w' (upp H hb) A C x hL)
          clear hce i1 hlt hk1 hk2 H6 H hT
          go_loopw [14] (fun s14 wr => ∃ k : Nat, s14 = .int .i64 k ∧ k ≤ n ∧ Below w9.heap.size w9 wr) (fun s14 _ => n - (intOf s14).toNat)
          case atStart => exact ⟨0, rfl, by omega, Below.refl _ _⟩
          case round =>
            obtain ⟨q, rfl, hq, H⟩ := hrel
            by_cases hlt : q < n
            · have i1 : (q : Int) < (n : Int) := by omega
              have i2 : (0 : Int) ≤ (q : Int) := by omega
              obtain ⟨ab, ao, rfl, x1⟩ := hcl.out q wr hlt (upp hT6 H)
              have hG := cG.out _ _ _ q (H7.below H)
              have hcl2 := Lib.hid (fun w' (hb : Below w9.heap.size w9 w') => hcl.out q w' hlt (upp hT6 hb))
              obtain ⟨z, hz⟩ : ∃ z, (xs q).i = z := ⟨_, rfl⟩
              rw [hz] at hG x1
              have hcl3 := Lib.hid (fun w' (hb : Below w9.heap.size w9 w') => (show w'.cell? ⟨ab, ao + q * 6, none⟩ = some (eI z) from by
                obtain ⟨b', o', e, h⟩ := hcl2.out w' hb
                cases e
                rw [hz] at h
                exact h))
              clear hcl2 hz
              go_wp2_with (go_at_call 20; (with_reducible refine hG.mono ?_); rintro e w10 ⟨u, v, rfl, hb⟩; replace H := upp H hb; clear hb)
              clear hG x1
              go_loopw [18, 19] (fun s18 s19 wr => ∃ A C : List It, L = A ++ C ∧ s19 = .int .i64 A.length ∧ s18 = .bool (amg z A) ∧ Below w9.heap.size w9 wr) (fun _ s19 _ => m - (intOf s19).toNat)
              case atStart => exact ⟨[], L, rfl, rfl, rfl, H⟩
              case round =>
                clear H
                obtain ⟨A, C, hL, rfl, rfl, H⟩ := hrel
                cases C with
                | nil =>
                  have e : A = L := by rw [hL, List.append_nil]
                  subst e
                  have hm4 := hm2.out
                  have j1 : ¬ (A.length : Int) < (m : Int) := by omega
                  have j2 : (amg z A == amg z A) = true := by simp
                  clear hm4 hL hm2 hne hce7 hcl3 hcl cG
                  go_wp2_with fail
                  exact ⟨⟨q + 1, rfl, by omega, H⟩, by simp [intOf]; omega⟩
                | cons x C =>
                  have hlen := hm2.out
                  have j1 : (A.length : Int) < (m : Int) := by rw [← hlen, hL]; simp; omega
                  have j1n : A.length < m := by omega
                  have j2 : (0 : Int) ≤ (A.length : Int) := by omega
                  obtain rfl := hne.out (by rw [hL]; simp)
                  have y1 := hce7.out wr H A C x hL
                  have y2 := hcl3.out wr H
                  have hend : L = (A ++ [x]) ++ C := by rw [hL]; simp
                  have hlen2 : (A ++ [x]).length = A.length + 1 := by simp
                  have hs := amg_snoc z A x
                  replace hend := Lib.hid hend
                  replace hlen2 := Lib.hid hlen2
                  replace hs := Lib.hid hs
                  obtain ⟨x', hx'⟩ : ∃ z, A ++ [x] = z := ⟨_, rfl⟩
                  simp only [hx'] at hs hend hlen2
                  clear hx' hL hlen hm2 hne hce7 hcl3 hcl cG
                  generalize amg z A = s at *
                  generalize A.length = k at *
                  obtain ⟨⟨a1, a2⟩, a3⟩ := x
                  dsimp only at *
                  have hk : (((k + 1 : Nat)) : Int) = (k : Int) + 1 := by omega
                  go_upto_region 25 with fail
                  cases s with
                  | true =>
                    go_quiet (fail)
                    go_wp2_with fail
                    exact ⟨⟨x', C, hend.out, by rw [hlen2.out, hk], by rw [hs.out]; rfl, below_drewN H _⟩, by simp [intOf]; omega⟩
                  | false =>
                    by_cases he : a2 = z
                    · have g1 : (a2 == z) = true := by simpa using he
                      have g2 : decide (a2 = z) = true := by simpa using he
                      replace hs := Lib.hid (hs.out.trans (by rw [g2]; rfl) : amg z x' = true)
                      clear he g2
                      go_quiet (fail)
                      go_wp2_with fail
                      exact ⟨⟨x', C, hend.out, by rw [hlen2.out, hk], by rw [hs.out], below_drewN H _⟩, by simp [intOf]; omega⟩
                    · have g1 : (a2 == z) = false := by simpa using he
                      have g2 : decide (a2 = z) = false := by simpa using he
                      replace hs := Lib.hid (hs.out.trans (by rw [g2]; rfl) : amg z x' = false)
                      clear he g2
                      go_quiet (fail)
                      go_wp2_with fail
                      exact ⟨⟨x', C, hend.out, by rw [hlen2.out, hk], by rw [hs.out], below_drewN H _⟩, by simp [intOf]; omega⟩
            · obtain rfl : q = n := by omega
              have i1 : ¬ (q : Int) < (q : Int) := by omega
              go_wp2_with fail
              go_ret
              exact ⟨rfl, upp hT6 H⟩
  · have h1 : 200 < n := by omega
    have h2 : n ≤ maxLen := Nat.le_trans hI.1 hcm
    clear hI hw hnn hn hcm
    have T := Below.refl w.heap.size w
    go_enter Try.func6, Try.ntmps6
    go_wp2_with (first
      | (go_at_call 16; (with_reducible refine (awake_any _).mono ?_); rintro e w1 ⟨rfl, hb⟩; replace T := upp T hb; clear hb)
      | (go_at_call 17; (with_reducible refine (acted_over a n c _ h1 h2).mono ?_); rintro e w2 ⟨rfl, hb⟩; replace T := upp T hb; clear hb))
    go_ret
    exact ⟨rfl, T⟩
end Go.Proofs.Ytcpienpkpodfmaa
