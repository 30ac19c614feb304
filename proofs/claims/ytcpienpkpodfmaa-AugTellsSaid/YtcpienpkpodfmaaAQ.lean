/- Whatever is put in and dropped, the tree tells what the document's row tells; a copy goes on alone: the walk of the statement. No condition but words. -/
import Derived.Test.YtcpienpkpodfmaaRG
namespace Go.Proofs.Ytcpienpkpodfmaa
open Go.RowKit Go.Shelf Go.Maps
set_option linter.unusedVariables false
/-- One act on a row of items. -/
def stepS (L : List It) (a : Ac) : List It := if a.d then dropA a.i L else putA a.it L
def rowS (xs : Nat → Ac) : Nat → List It
  | 0 => []
  | n + 1 => stepS (rowS xs n) (xs n)
theorem Duo.more {w W : World} {n n' B R : Nat} {L L' : List It} (h : Duo w W n B R L L') (hn : n ≤ n') : Duo w W n' B R L L' := by
  obtain ⟨M, T, h1, h2, h3, h4⟩ := h
  exact ⟨M, T, h1.more hn, h2, h3, by omega⟩
set_option maxRecDepth 100000 in
set_option maxHeartbeats 16000000 in
theorem AugTells_walk (a : Option Addr) (n c : Nat) (xs : Nat → Ac) (u : Int) (w : World) (hI : IsAcsS w a n c xs) (hw : ∀ i, (xs i).word) (hcm : c ≤ maxLen) (hnn : a = none → n = 0 ∧ c = 0) (hu : Inte u) :
    Calls Try.prog 3 #[.slice a n c, eI u] w fun e w' => e = .returned (.bool true) ∧ Below w.heap.size w w' := by
  by_cases hn : n ≤ 150
  · have hcell : ∀ (k : Nat) w', k < n → Below w.heap.size w w' → ∃ b o, a = some ⟨b, o, none⟩ ∧ b < w.heap.size ∧ AcCS w' b (o + k * 6) (xs k) := fun k w' hk T => by
      obtain ⟨h2, h3⟩ := hI
      rcases h3 with h3 | ⟨b, o, e, h3⟩
      · omega
      · exact ⟨b, o, e, h3.1, (h3.below T).2 k hk⟩
    have hcl := Lib.hid hcell
    replace hw := Lib.hid hw
    have hnc : (n : Int) ≤ (c : Int) := by have := hI.1; omega
    have hN := aug_new w w (Below.refl _ _)
    have g0 : ¬ (150 : Int) < (n : Int) := by omega
    clear hI hcm hnn hcell hu
    go_enter Try.func3, Try.ntmps3
    go_wp2_with (go_at_call 9; (with_reducible refine hN.mono ?_); rintro e w1 ⟨B, rfl, H0, hb1⟩)
    have hD : Duo w (w1.alloc (.cells #[.slice none 0 0] 28)) 0 B w1.heap.size [] [] := by
      obtain ⟨M, T, h⟩ := H0.x
      exact ⟨M, T, h.below (up1 _ _), ⟨h.world.size, _, Box.new _ _ _, World.ownsRow_nil _ _ _ _⟩, ⟨List.Pairwise.nil, ⟨fun a ha => (by cases ha), fun a ha => (by cases ha)⟩⟩, Nat.le_refl _⟩
    clear hN hb1 H0
    obtain ⟨R, hR⟩ : ∃ z, w1.heap.size = z := ⟨_, rfl⟩
    rw [hR] at hD
    obtain ⟨w2, hw2⟩ : ∃ z, w1.alloc (.cells #[.slice none 0 0] 28) = z := ⟨_, rfl⟩
    rw [hw2] at hD
    first
      | simp only [hw2, hR]
      | simp only [hR]
    clear hw2 hR
    go_loopw [7] (fun s7 wr => ∃ i : Nat, s7 = .int .i64 i ∧ i ≤ n ∧ Duo w wr (2 * i) B R (rowS xs i) (rowS xs i)) (fun s7 _ => n - (intOf s7).toNat)
    case atStart => exact ⟨0, rfl, by omega, hD⟩
    case round =>
      clear hD
      obtain ⟨i, rfl, hi, H⟩ := hrel
      by_cases hlt : i < n
      · have i1 : (i : Int) < (n : Int) := by omega
        have i2 : (0 : Int) ≤ (i : Int) := by omega
        obtain ⟨b, o, rfl, hbw, x0, x1, x2, x3, x4, x5⟩ := hcl.out i wr hlt H.world
        have hwi := hw.out i
        obtain ⟨x, hx⟩ : ∃ z, xs i = z := ⟨_, rfl⟩
        obtain ⟨L, hL⟩ : ∃ z, rowS xs i = z := ⟨_, rfl⟩
        have hstep : rowS xs (i + 1) = stepS L x := by rw [← hx, ← hL]; rfl
        replace hstep := Lib.hid hstep
        rw [hx] at x0 x1 x2 x3 x4 x5 hwi
        rw [hL] at H
        replace hL := Lib.hid hL
        replace hx := Lib.hid hx
        have bP := Box.new wr 31 #[eI x.i, eU x.k, eU x.v, .bool x.d, eU x.q, eU x.y]
        have H1 := H.below (up1 wr (.cells #[eI x.i, eU x.k, eU x.v, .bool x.d, eU x.q, eU x.y] 31))
        go_upto_region 10 with (fail)
        obtain ⟨P, hP⟩ : ∃ z, wr.heap.size = z := ⟨_, rfl⟩
        rw [hP] at bP
        obtain ⟨w3, hw3⟩ : ∃ z, wr.alloc (.cells #[eI x.i, eU x.k, eU x.v, .bool x.d, eU x.q, eU x.y] 31) = z := ⟨_, rfl⟩
        rw [hw3] at bP H1
        first
          | simp only [hw3, hP]
          | simp only [hP]
        clear x0 x1 x2 x3 x4 x5 H hw3 hP
        have hA : ∀ W' m' C' L0 R', m' ≤ 1000 → Aug w W' m' C' L0 → Rw W' R' L0 → Calls Try.prog 11 #[.pointer (some ⟨C', 0, none⟩), .pointer (some ⟨R', 0, none⟩), .agg #[eI x.i, eU x.k, eU x.v, .bool x.d, eU x.q, eU x.y]] W' fun e w' => e = .returned (.bool true) ∧ Below W'.heap.size W' w' := fun W' m' C' L0 R' h1 h2 h3 => same_aug x hwi.1.2.1 h1 h2 h3
        have hi3 : 2 * i ≤ 300 := by omega
        have hi4 : 2 * i ≤ 1000 := by omega
        go_upto_if 31 with (fail)
        go_cut [] (fun wx => Duo w wx (2 * i) B R L L ∧ Box wx P #[eI x.i, eU x.k, eU x.v, .bool x.d, eU x.q, eU x.y] 31)
        case first =>
          by_cases hat : (i : Int) = u
          · have q1 : ((i : Int) == u) = true := by simpa using hat
            clear hat
            have hC := duo_copy H1
            go_upto_region 12 with (go_at_call 10; (with_reducible refine hC.mono ?_); rintro e w4 ⟨C, rfl, H4, hb⟩; replace bP := bP.below hb; clear hb)
            obtain ⟨k0, k1, k2, k3, k4, k5⟩ := actC bP
            have hA4 := hA _ _ _ _ _ hi4 H4.aug2 H4.duo.rw
            clear hC hA H1
            go_wp2_with (go_at_call 11; (with_reducible refine hA4.mono ?_); rintro e w5 ⟨rfl, hb⟩; replace bP := bP.below hb; replace H4 := H4.below hb; clear hb)
            clear k0 k1 k2 k3 k4 k5 hA4
            go_loopw [10] (fun s10 wr => ∃ (j m : Nat) (L2 : List It), s10 = .int .i64 j ∧ i ≤ j ∧ j ≤ n ∧ m ≤ 300 + j ∧ Trio w wr (2 * i) B R L L m C L2 ∧ Box wr P #[eI x.i, eU x.k, eU x.v, .bool x.d, eU x.q, eU x.y] 31) (fun s10 _ => n - (intOf s10).toNat)
            case atStart => exact ⟨i, 2 * i, L, rfl, Nat.le_refl _, by omega, by omega, H4, bP⟩
            case round =>
              clear H4 bP
              obtain ⟨j, m, L2, rfl, hij, hj, hm, H, bP⟩ := hrel
              by_cases hlj : j < n
              · have j1 : (j : Int) < (n : Int) := by omega
                have j2 : (0 : Int) ≤ (j : Int) := by omega
                obtain ⟨b', o', e, _, y0, y1, y2, _⟩ := hcl.out j wr hlj H.world
                cases e
                have hy := hw.out j
                generalize xs j = y at *
                have hput := trio_put ((y.v, y.i), y.k) ⟨hy.1.2.2, hy.1.2.1, hy.1.1⟩ (by omega) (H.below (Below.refl _ wr).drew)
                have bP1 : Box wr.drew P #[eI x.i, eU x.k, eU x.v, .bool x.d, eU x.q, eU x.y] 31 := bP.below (Below.refl _ wr).drew
                go_upto_region 17 with (fail)
                go_still_tail 16, (by kernel_rfl)
                change wpList _ _ _ _ _ wr.drew
                generalize wr.drew = w6 at *
                clear y0 y1 y2 H bP
                obtain ⟨q, hq⟩ : ∃ q, j + q + 1 = n := ⟨n - 1 - j, by omega⟩
                obtain ⟨n1, hn1⟩ : ∃ n1, n1 + 1 = n := ⟨n - 1, by omega⟩
                have z1 : IntKind.i64.wrap ((n : Int) - 1) = (n1 : Int) := by
                  have : (n : Int) - 1 = (n1 : Int) := by omega
                  rw [this]; simp [IntKind.wrap, IntKind.bits, IntKind.signed]; omega
                have z2 : IntKind.i64.wrap ((n1 : Int) - (j : Int)) = (q : Int) := by
                  have : (n1 : Int) - (j : Int) = (q : Int) := by omega
                  rw [this]; simp [IntKind.wrap, IntKind.bits, IntKind.signed]; omega
                have z3 : (q : Int) < (n : Int) := by omega
                have z4 : (0 : Int) ≤ (q : Int) := by omega
                go_upto_region 18 with (go_at_call 12; (with_reducible refine hput.mono ?_); rintro e w7 ⟨rfl, ⟨L3, H7⟩, hk⟩; replace bP1 := hk _ _ bP1; clear hk)
                obtain ⟨b', o', e, _, v0, _⟩ := hcl.out q w7 (by omega) H7.world
                cases e
                have hdr := trio_drop (xs q).i (hw.out q).1.2.1 (by omega) H7
                generalize (xs q).i = vi at *
                have hjj : (((j + 1 : Nat)) : Int) = (j : Int) + 1 := by omega
                replace hq := Lib.hid hq
                replace hn1 := Lib.hid hn1
                clear hput
                go_wp2_with (go_at_call 13; (with_reducible refine hdr.mono ?_); rintro e w8 ⟨⟨zb, rfl⟩, ⟨L4, H8⟩, hk⟩; replace bP1 := hk _ _ bP1; clear hk)
                exact ⟨⟨j + 1, m + 1, L4, by rw [hjj], by omega, by omega, by omega, H8, bP1⟩, by simp [intOf]; omega⟩
              · obtain rfl : j = n := by omega
                have j1 : ¬ (j : Int) < (j : Int) := by omega
                go_wp2_with fail
                go_meet
                exact ⟨H.duo, bP⟩
          · have q1 : ((i : Int) == u) = false := by simpa using hat
            clear hat
            go_wp2_with fail
            go_meet
            exact ⟨H1, bP⟩
        case rest =>
          obtain ⟨H, bP⟩ := hcut
          rename World => X
          obtain ⟨k0, k1, k2, k3, k4, k5⟩ := actC bP
          clear H1
          obtain ⟨z, hz⟩ : ∃ z, (getA x.i L).isSome = z := ⟨_, rfl⟩
          obtain ⟨LD, hLD⟩ : ∃ z, dropA x.i L = z := ⟨_, rfl⟩
          obtain ⟨LP, hLP⟩ : ∃ z, putA x.it L = z := ⟨_, rfl⟩
          have c13 : ∀ W' L1, Duo w W' (2 * i) B R L L1 → Calls Try.prog 13 #[.pointer (some ⟨B, 0, none⟩), eI x.i] W' fun e w' => e = .returned (.bool z) ∧ Duo w w' (2 * i) B R LD L1 ∧ Kp W' w' := fun W' L1 h => by
            rw [← hz, ← hLD]; exact duo_drop x.i hwi.1.2.1 (by omega) h
          have c14 : ∀ W' L1, Duo w W' (2 * i) B R L1 L → Calls Try.prog 14 #[.pointer (some ⟨R, 0, none⟩), eI x.i] W' fun e w' => e = .returned (.bool z) ∧ Duo w w' (2 * i) B R L1 LD ∧ Kp W' w' := fun W' L1 h => by
            rw [← hz, ← hLD]; exact duo_rdrop x.i (by omega) h
          have c12 : ∀ W', Duo w W' (2 * i) B R L L → Calls Try.prog 12 #[.pointer (some ⟨B, 0, none⟩), eI x.i, eU x.k, eU x.v] W' fun e w' => e = .returned (.tuple #[]) ∧ Duo w w' (2 * i + 1) B R LP L ∧ Kp W' w' := fun W' h => by
            rw [← hLP]; exact duo_put x.it hwi.1 (by omega) h
          have c15 : ∀ W', Duo w W' (2 * i + 1) B R LP L → Calls Try.prog 15 #[.pointer (some ⟨R, 0, none⟩), eI x.i, eU x.k, eU x.v] W' fun e w' => e = .returned (.tuple #[]) ∧ Duo w w' (2 * i + 1 + 1) B R LP LP ∧ Kp W' w' := fun W' h => by
            have := duo_rput x.it hwi.1 (by omega) h
            rw [hLP] at this
            exact this
          have hii : (((i + 1 : Nat)) : Int) = (i : Int) + 1 := by omega
          have hend : ∀ (d : Bool) L0, x.d = d → (if d then LD else LP) = L0 → rowS xs (i + 1) = L0 := fun d L0 h1 h2 => by
            rw [hstep.out, ← h2, ← h1]; unfold stepS; rw [hLD, hLP]
          replace hend := Lib.hid hend
          have hzz : (z == z) = true := by simp
          clear hz hLD hLP hwi
          obtain ⟨d, hd⟩ : ∃ d, x.d = d := ⟨_, rfl⟩
          rw [hd] at k3
          cases d with
          | true =>
            have hend := hend.out true LD hd rfl
            replace hend := Lib.hid hend
            clear hd hstep
            have hS0 := k0
            have hS : ∀ w', Box w' P #[eI x.i, eU x.k, eU x.v, .bool x.d, eU x.q, eU x.y] 31 → w'.cell? ⟨P, 0, none⟩ = some (.int .i64 x.i) := fun w' h => (actC h).1
            go_upto_region 20 with (fail)
            clear k1 k2 k3 k4 k5
            go_cut [88] (fun s88 wx => s88 = .bool false ∧ Duo w wx (2 * i) B R LD LD ∧ Box wx P #[eI x.i, eU x.k, eU x.v, .bool x.d, eU x.q, eU x.y] 31)
            case first =>
              go_region_held3 (fun w' => w'.cell? ⟨P, 0, none⟩ = some (.int .i64 x.i))
                (first | exact hS _ bP | exact hS _ (bP.below ((Below.refl _ _).drew)) | exact hS _ (bP.below (below_drewN (Below.refl _ _) _)))
                (first
                  | (go_at_call 13; (with_reducible refine (c13 _ _ (by first | exact H | exact H.below ((Below.refl _ _).drew) | exact H.below (below_drewN (Below.refl _ _) _))).mono ?_); rintro e w9 ⟨rfl, H', hk⟩; replace H := H'; replace bP := hk _ _ (by first | exact bP | exact bP.below ((Below.refl _ _).drew) | exact bP.below (below_drewN (Below.refl _ _) _)); clear hk)
                  | (go_at_call 14; (with_reducible refine (c14 _ _ (by first | exact H | exact H.below ((Below.refl _ _).drew) | exact H.below (below_drewN (Below.refl _ _) _))).mono ?_); rintro e w9 ⟨rfl, H', hk⟩; replace H := H'; replace bP := hk _ _ (by first | exact bP | exact bP.below ((Below.refl _ _).drew) | exact bP.below (below_drewN (Below.refl _ _) _)); clear hk))
              all_goals go_wp2_with fail
              all_goals go_meet
              all_goals first
                | exact ⟨rfl, H, bP⟩
                | exact ⟨rfl, H.below ((Below.refl _ _).drew), bP.below ((Below.refl _ _).drew)⟩
                | exact ⟨rfl, H.below (below_drewN (Below.refl _ _) _), bP.below (below_drewN (Below.refl _ _) _)⟩
            case rest =>
              clear H bP k0
              obtain ⟨rfl, H, bP⟩ := hcut
              obtain ⟨k0, k1, k2, k3, k4, k5⟩ := actC bP
              have hA4 := hA _ _ _ _ _ hi4 H.aug H.rw
              clear hA c13 c14 c12 c15
              go_wp2_with (go_at_call 11; (with_reducible refine hA4.mono ?_); rintro e w11 ⟨rfl, hb⟩; replace H := H.below hb; clear hb)
              exact ⟨⟨i + 1, by rw [hii], by omega, by rw [hend.out]; exact H.more (by omega)⟩, by simp [intOf]; omega⟩
          | false =>
            have hend := hend.out false LP hd rfl
            replace hend := Lib.hid hend
            clear hd hstep
            go_upto_region 24 with (first
              | (go_at_call 12; (with_reducible refine (c12 _ H).mono ?_); rintro e w9 ⟨rfl, H9, hk⟩; replace bP := hk _ _ bP; clear hk k0 k1 k2 k3 k4 k5; obtain ⟨k0, k1, k2, k3, k4, k5⟩ := actC bP)
              | (go_at_call 15; (with_reducible refine (c15 _ H9).mono ?_); rintro e w10 ⟨rfl, H10, hk⟩; replace bP := hk _ _ bP; clear hk k0 k1 k2 k3 k4 k5; obtain ⟨k0, k1, k2, k3, k4, k5⟩ := actC bP))
            have hA4 := hA _ _ _ _ _ (by omega) H10.aug H10.rw
            clear hA
            go_wp2_with (go_at_call 11; (with_reducible refine hA4.mono ?_); rintro e w11 ⟨rfl, hb⟩; replace H10 := H10.below hb; clear hb)
            exact ⟨⟨i + 1, by rw [hii], by omega, by rw [hend.out]; exact H10⟩, by simp [intOf]; omega⟩
      · obtain rfl : i = n := by omega
        have i1 : ¬ (i : Int) < (i : Int) := by omega
        have hW := H.world
        go_wp2_with fail
        go_ret
        exact ⟨rfl, hW⟩
  · have h1 : (150 : Int) < (n : Int) := by omega
    clear hI hw hnn hn hcm
    go_enter Try.func3, Try.ntmps3
    go_wp2_with fail
    go_ret
    exact ⟨rfl, Below.refl _ _⟩
end Go.Proofs.Ytcpienpkpodfmaa
