/- Whatever is put and dropped, the tree tells and holds what the document's row does; a copy goes on alone: the walk of the statement. No condition but words. -/
import Derived.Test.YtjfpemkdidoacaaWA
namespace Go.Proofs.Ytjfpemkdidoacaa
open Go.RowKit Go.Shelf
set_option linter.unusedVariables false
/-- A tree, a row, and another tree. -/
def Trio (w W : World) (B R C : Nat) (L L' M : List It) : Prop := Duo w W B R L L' ∧ OW w W C M ∧ B ≠ C
section
variable {w W W' : World} {B R C : Nat} {L L' M : List It}
theorem Trio.world (h : Trio w W B R C L L' M) : Below w.heap.size w W := h.1.world
theorem Trio.below (h : Trio w W B R C L L' M) (hb : Below W.heap.size W W') : Trio w W' B R C L L' M := ⟨h.1.below hb, h.2.1.below hb, h.2.2⟩
theorem trio_but (h : Trio w W B R C L L' M) {M1 : List It} (h1 : OW w W' C M1) (hb : But C W W') : Trio w W' B R C L L' M1 ∧ Kp W W' := by
  obtain ⟨hD, hC, hne⟩ := h
  obtain ⟨p, hT⟩ := hC.1.box
  have hO := Off.ofBut (S := fun k => k = C) hb rfl
  exact ⟨⟨⟨⟨hD.1.1.other hb hne hC.1, hD.1.2.1, h1.2.2⟩, hD.2.1.off hO (but_no hT (by decide)) (but_no hT (by decide)), hD.2.2⟩, h1, hne⟩, fun P vs b => hO.box b (fun e => but_no hT (by decide) P e _ b)⟩
theorem trio_put (x : It) (hx : Word x.1.1 ∧ Inte x.1.2 ∧ Word x.2) (hl : M.length ≤ 100000) (h : Trio w W B R C L L' M) :
    Calls Try.prog 13 #[.pointer (some ⟨C, 0, none⟩), ky x.1, eU x.2] W fun e w' => ∃ z : Int, e = .returned (eI z) ∧ Trio w w' B R C L L' (putL x M) ∧ Kp W w' :=
  (ow_put h.2.1 x hx hl).mono fun e w' ⟨e1, e2, e3⟩ => ⟨_, e1, trio_but h e2 e3⟩
theorem trio_drop (k : Ky) (hl : M.length ≤ 100000) (h : Trio w W B R C L L' M) :
    Calls Try.prog 14 #[.pointer (some ⟨C, 0, none⟩), ky k] W fun e w' => ∃ z : Int, e = .returned (eI z) ∧ Trio w w' B R C L L' (del k M) ∧ Kp W w' :=
  (ow_drop h.2.1 k hl).mono fun e w' ⟨e1, e2, e3⟩ => ⟨_, e1, trio_but h e2 e3⟩
theorem duo_same (hl : L.length ≤ 500) (h : Duo w W B R L L) : Calls Try.prog 11 #[.pointer (some ⟨B, 0, none⟩), .pointer (some ⟨R, 0, none⟩)] W fun e w' => e = .returned (.bool true) ∧ Below W.heap.size W w' :=
  same_any B R L W h.1.1 h.rw hl
theorem duo_copy (h : Duo w W B R L L') : Calls Try.prog 12 #[.pointer (some ⟨B, 0, none⟩)] W fun e w' => ∃ C : Nat, e = .returned (.pointer (some ⟨C, 0, none⟩)) ∧ Trio w w' B R C L L' L ∧ Below W.heap.size W w' :=
  (ob_copy h.1.1).mono fun e w' ⟨C, e1, e2, e3, e4⟩ => ⟨C, e1, ⟨h.below e4, ⟨e3, Nat.le_trans h.world.size e2, upp h.world e4⟩, by have := h.1.1.lt; omega⟩, e4⟩
end
theorem val_none {k : Ky} {L : List It} (h : has k L = false) : valL k L = 0 := by
  unfold valL
  rw [List.find?_eq_none.2 (fun a ha => by simpa using has_not h a ha)]
  rfl
theorem mem_valT {x : It} : ∀ {L : List It}, Rise L → x ∈ L → valL x.1 L = x.2
  | [], _, h => by cases h
  | a :: L, hr, h => by
    have hr' : Rise ([] ++ a :: L) := hr
    obtain ⟨_, h2, _, h4⟩ := rise_node.1 hr'
    rcases List.mem_cons.1 h with rfl | h
    · simp [valL]
    · have hne : ¬ a.1 = x.1 := fun e => kLt_irr x.1 (by have := h4 x h; rwa [e] at this)
      have := mem_valT h2 h
      unfold valL at this ⊢
      rw [List.find?_cons_of_neg (by simpa using hne)]
      exact this
theorem actC {w : World} {P : Nat} {x : Ac} {t : TypeId} (h : Box w P #[eU x.k.1, eI x.k.2, eU x.v, .bool x.d] t) : w.cell? ⟨P, 0, none⟩ = some (.int .u64 x.k.1) ∧ w.cell? ⟨P, 1, none⟩ = some (.int .i64 x.k.2) ∧ w.cell? ⟨P, 2, none⟩ = some (.int .u64 x.v) ∧ w.cell? ⟨P, 3, none⟩ = some (.bool x.d) := ⟨h.cell 0, h.cell 1, h.cell 2, h.cell 3⟩
theorem word_wrap (v : Int) : Word (IntKind.u64.wrap v) := by
  unfold Word IntKind.wrap IntKind.bits IntKind.signed
  simp
  omega
set_option maxRecDepth 100000 in
set_option maxHeartbeats 16000000 in
theorem TreeHolds_walk (a : Option Addr) (n c : Nat) (xs : Nat → Ac) (u : Int) (w : World) (hI : IsAcs w a n c xs) (hw : ∀ i, (xs i).word) (hcm : c ≤ maxLen) (hnn : a = none → n = 0 ∧ c = 0) (hu : Inte u) :
    Calls Try.prog 3 #[.slice a n c, eI u] w fun e w' => e = .returned (.bool true) ∧ Below w.heap.size w w' := by
  by_cases hn : n ≤ 120
  · have hcell : ∀ (k : Nat) w', k < n → Below w.heap.size w w' → ∃ b o, a = some ⟨b, o, none⟩ ∧ b < w.heap.size ∧ AcC w' b (o + k * 4) (xs k) := fun k w' hk T => by
      obtain ⟨h2, h3⟩ := hI
      rcases h3 with h3 | ⟨b, o, e, h3⟩
      · omega
      · exact ⟨b, o, e, h3.1, (h3.below T).2 k hk⟩
    have hcl := Lib.hid hcell
    have hlen := Lib.hid (rowA_len xs)
    replace hw := Lib.hid hw
    have hnc : (n : Int) ≤ (c : Int) := by have := hI.1; omega
    have hN := ob_new w
    have g0 : ¬ (120 : Int) < (n : Int) := by omega
    clear hI hcm hnn hcell hu
    go_enter Try.func3, Try.ntmps3
    go_upto_region 4 with (go_at_call 10; (with_reducible refine hN.mono ?_); rintro e w1 ⟨B, rfl, hB, hO, hb1⟩)
    have hD : Duo w (w1.alloc (.cells #[.slice none 0 0] 28)) B w1.heap.size [] [] :=
      ⟨⟨hO.below (up1 _ _), hB, hb1.alloc hb1.size _⟩, ⟨hb1.size, _, Box.new _ _ _, World.ownsRow_nil _ _ _ _⟩, List.Pairwise.nil⟩
    clear hN hb1 hO hB
    obtain ⟨R, hR⟩ : ∃ z, w1.heap.size = z := ⟨_, rfl⟩
    rw [hR] at hD
    obtain ⟨w2, hw2⟩ : ∃ z, w1.alloc (.cells #[.slice none 0 0] 28) = z := ⟨_, rfl⟩
    rw [hw2] at hD
    first
      | simp only [hw2, hR]
      | simp only [hR]
    clear hw2 hR
    have hS0 := duo_same (by simp) hD
    go_wp2_with (go_at_call 11; (with_reducible refine hS0.mono ?_); rintro e w3 ⟨rfl, hb⟩; replace hD := hD.below hb; clear hb)
    clear hS0
    go_loopw [7] (fun s7 wr => ∃ i : Nat, s7 = .int .i64 i ∧ i ≤ n ∧ Duo w wr B R (rowA xs i) (rowA xs i)) (fun s7 _ => n - (intOf s7).toNat)
    case atStart => exact ⟨0, rfl, by omega, hD⟩
    case round =>
      clear hD
      obtain ⟨i, rfl, hi, H⟩ := hrel
      by_cases hlt : i < n
      · have i1 : (i : Int) < (n : Int) := by omega
        have i2 : (0 : Int) ≤ (i : Int) := by omega
        obtain ⟨b, o, rfl, hbw, x0, x1, x2, x3⟩ := hcl.out i wr hlt H.world
        have hwi := hw.out i
        have hL0 := hlen.out i
        obtain ⟨x, hx⟩ : ∃ z, xs i = z := ⟨_, rfl⟩
        obtain ⟨L, hL⟩ : ∃ z, rowA xs i = z := ⟨_, rfl⟩
        have hstep : rowA xs (i + 1) = stepL L x := by rw [← hx, ← hL]; rfl
        replace hstep := Lib.hid hstep
        rw [hx] at x0 x1 x2 x3 hwi
        rw [hL] at H hL0
        clear hL hx
        have bP := Box.new wr 34 #[eU x.k.1, eI x.k.2, eU x.v, .bool x.d]
        have H1 := H.below (up1 wr (.cells #[eU x.k.1, eI x.k.2, eU x.v, .bool x.d] 34))
        go_upto_region 10 with (fail)
        obtain ⟨P, hP⟩ : ∃ z, wr.heap.size = z := ⟨_, rfl⟩
        rw [hP] at bP
        obtain ⟨w3, hw3⟩ : ∃ z, wr.alloc (.cells #[eU x.k.1, eI x.k.2, eU x.v, .bool x.d] 34) = z := ⟨_, rfl⟩
        rw [hw3] at bP H1
        first
          | simp only [hw3, hP]
          | simp only [hP]
        clear x0 x1 x2 x3 H hw3 hP
        go_upto_if 40 with (fail)
        go_cut [] (fun wx => Duo w wx B R L L ∧ Box wx P #[eU x.k.1, eI x.k.2, eU x.v, .bool x.d] 34)
        case first =>
          by_cases hat : (i : Int) = u
          · have q1 : ((i : Int) == u) = true := by simpa using hat
            clear hat
            have hC := duo_copy H1
            go_upto_region 12 with (go_at_call 12; (with_reducible refine hC.mono ?_); rintro e w4 ⟨C, rfl, H4, hb⟩; replace bP := bP.below hb; clear hb)
            have hA4 := same_any C R L w4 H4.2.1.1 H4.1.rw (by omega)
            clear hC H1
            go_wp2_with (go_at_call 11; (with_reducible refine hA4.mono ?_); rintro e w5 ⟨rfl, hb⟩; replace bP := bP.below hb; replace H4 := H4.below hb; clear hb)
            clear hA4
            go_loopw [10] (fun s10 wr => ∃ (j : Nat) (M : List It), s10 = .int .i64 j ∧ i ≤ j ∧ j ≤ n ∧ M.length ≤ j ∧ Trio w wr B R C L L M ∧ Box wr P #[eU x.k.1, eI x.k.2, eU x.v, .bool x.d] 34) (fun s10 _ => n - (intOf s10).toNat)
            case atStart => exact ⟨i, L, rfl, Nat.le_refl _, by omega, hL0, H4, bP⟩
            case round =>
              clear H4 bP
              obtain ⟨j, M, rfl, hij, hj, hm, H, bP⟩ := hrel
              by_cases hlj : j < n
              · have j1 : (j : Int) < (n : Int) := by omega
                have j2 : (0 : Int) ≤ (j : Int) := by omega
                obtain ⟨b', o', e, _, y0, y1, y2, _⟩ := hcl.out j wr hlj H.world
                cases e
                have hy := hw.out j
                obtain ⟨y, hye⟩ : ∃ z, xs j = z := ⟨_, rfl⟩
                rw [hye] at y0 y1 y2 hy
                clear hye
                have hput := trio_put (y.k, IntKind.u64.wrap (y.v + 1)) ⟨hy.1, hy.2.1, word_wrap _⟩ (by omega) (H.below (Below.refl _ wr).drew)
                have bP1 : Box wr.drew P #[eU x.k.1, eI x.k.2, eU x.v, .bool x.d] 34 := bP.below (Below.refl _ wr).drew
                go_upto_region 17 with (fail)
                go_still_tail 12, (by kernel_rfl)
                change wpList _ _ _ _ _ wr.drew
                generalize wr.drew = w6 at *
                clear y0 y1 y2 H bP
                obtain ⟨q, hq⟩ : ∃ q, j + q + 1 = n := ⟨n - 1 - j, by omega⟩
                obtain ⟨n1, hn1⟩ : ∃ n1, n1 + 1 = n := ⟨n - 1, by omega⟩
                have z1 : IntKind.i64.wrap ((n : Int) - 1) = (n1 : Int) := by
                  have : (n : Int) - 1 = (n1 : Int) := by omega
                  rw [this]; simp [IntKind.wrap, IntKind.bits, IntKind.signed]; omega
                have z2 : IntKind.i64.wrap ((n1 : Int) - (j : Int)) = (q : Int) := by
                  have : (n1 : Int) - (j : Int) = (q : Int) := by omega
                  rw [this]; simp [IntKind.wrap, IntKind.bits, IntKind.signed]; omega
                have z3 : (q : Int) < (n : Int) := by omega
                have z4 : (0 : Int) ≤ (q : Int) := by omega
                go_upto_region 18 with (go_at_call 13; (with_reducible refine hput.mono ?_); rintro e w7 ⟨zp, rfl, H7, hk⟩; replace bP1 := hk _ _ bP1; clear hk)
                have hM1 := putL_len (x := (y.k, IntKind.u64.wrap (y.v + 1))) (L := M)
                generalize putL (y.k, IntKind.u64.wrap (y.v + 1)) M = M1 at *
                obtain ⟨b', o', e, _, v0, v1, _⟩ := hcl.out q w7 (by omega) H7.world
                cases e
                have hdr := trio_drop (xs q).k (by omega) H7
                have hM2 := del_len_le (k := (xs q).k) (L := M1)
                generalize (xs q).k = vi at *
                have hjj : (((j + 1 : Nat)) : Int) = (j : Int) + 1 := by omega
                replace hq := Lib.hid hq
                replace hn1 := Lib.hid hn1
                replace hM1 := Lib.hid hM1
                replace hM2 := Lib.hid hM2
                clear hput
                go_wp2_with (go_at_call 14; (with_reducible refine hdr.mono ?_); rintro e w8 ⟨zb, rfl, H8, hk⟩; replace bP1 := hk _ _ bP1; clear hk)
                exact ⟨⟨j + 1, _, by rw [hjj], by omega, by omega, by have := hM1.out; have := hM2.out; omega, H8, bP1⟩, by simp [intOf]; omega⟩
              · obtain rfl : j = n := by omega
                have j1 : ¬ (j : Int) < (j : Int) := by omega
                go_wp2_with fail
                go_meet
                exact ⟨H.1, bP⟩
          · have q1 : ((i : Int) == u) = false := by simpa using hat
            clear hat
            go_wp2_with fail
            go_meet
            exact ⟨H1, bP⟩
        case rest =>
          obtain ⟨H, bP⟩ := hcut
          rename World => X
          clear H1
          obtain ⟨L2, hL2⟩ : ∃ z, stepL L x = z := ⟨_, rfl⟩
          have hii : (((i + 1 : Nat)) : Int) = (i : Int) + 1 := by omega
          have hlen2 : L2.length ≤ 120 := by have := hlen.out (i + 1); rw [hstep.out, hL2] at this; omega
          obtain ⟨k0, k1, k2, k3⟩ := actC bP
          obtain ⟨d, hd⟩ : ∃ d, x.d = d := ⟨_, rfl⟩
          rw [hd] at k3
          go_upto_if 83 with (fail)
          go_cut [] (fun wx => Duo w wx B R L2 L2 ∧ Box wx P #[eU x.k.1, eI x.k.2, eU x.v, .bool x.d] 34)
          case first =>
            unfold stepL at hL2
            rw [hd] at hL2
            clear hstep
            cases d with
            | true =>
              have hL2 : del x.k L = L2 := hL2
              obtain ⟨z, hz⟩ : ∃ z : Int, (if has x.k L then 0 else 81) = z := ⟨_, rfl⟩
              have c14 : ∀ W' L1, Duo w W' B R L L1 → Calls Try.prog 14 #[.pointer (some ⟨B, 0, none⟩), ky x.k] W' fun e w' => e = .returned (eI z) ∧ Duo w w' B R L2 L1 ∧ Kp W' w' := fun W' L1 h => by
                have := duo_drop x.k (by omega) h
                rw [hL2, hz] at this
                exact this
              have c15 : ∀ W' L1, Duo w W' B R L1 L → Calls Try.prog 15 #[.pointer (some ⟨R, 0, none⟩), ky x.k] W' fun e w' => e = .returned (eI z) ∧ Duo w w' B R L1 L2 ∧ Kp W' w' := fun W' L1 h => by
                have := duo_rdrop x.k (by omega) h
                rw [hL2, hz] at this
                exact this
              have zz : (z != z) = false := by simp
              have hS : ∀ w', Box w' P #[eU x.k.1, eI x.k.2, eU x.v, .bool x.d] 34 → w'.cell? ⟨P, 0, none⟩ = some (.int .u64 x.k.1) ∧ w'.cell? ⟨P, 1, none⟩ = some (.int .i64 x.k.2) := fun w' h => ⟨(actC h).1, (actC h).2.1⟩
              clear hz hL2 hd
              go_upto_region 20 with (fail)
              clear k0 k1 k2 k3
              go_region_held3 (fun w' => w'.cell? ⟨P, 0, none⟩ = some (.int .u64 x.k.1) ∧ w'.cell? ⟨P, 1, none⟩ = some (.int .i64 x.k.2))
                (first | exact hS _ bP | exact hS _ (bP.below ((Below.refl _ _).drew)) | exact hS _ (bP.below (below_drewN (Below.refl _ _) _)))
                (first
                  | (go_at_call 14; (with_reducible refine (c14 _ _ (by first | exact H | exact H.below ((Below.refl _ _).drew) | exact H.below (below_drewN (Below.refl _ _) _))).mono ?_); rintro e w9 ⟨rfl, H', hk⟩; replace H := H'; replace bP := hk _ _ (by first | exact bP | exact bP.below ((Below.refl _ _).drew) | exact bP.below (below_drewN (Below.refl _ _) _)); clear hk)
                  | (go_at_call 15; (with_reducible refine (c15 _ _ (by first | exact H | exact H.below ((Below.refl _ _).drew) | exact H.below (below_drewN (Below.refl _ _) _))).mono ?_); rintro e w9 ⟨rfl, H', hk⟩; replace H := H'; replace bP := hk _ _ (by first | exact bP | exact bP.below ((Below.refl _ _).drew) | exact bP.below (below_drewN (Below.refl _ _) _)); clear hk))
              all_goals go_wp2_with fail
              all_goals go_meet
              all_goals first
                | exact ⟨H, bP⟩
                | exact ⟨H.below ((Below.refl _ _).drew), bP.below ((Below.refl _ _).drew)⟩
                | exact ⟨H.below (below_drewN (Below.refl _ _) _), bP.below (below_drewN (Below.refl _ _) _)⟩
            | false =>
              have hL2 : putL x.it L = L2 := hL2
              obtain ⟨z, hz⟩ : ∃ z : Int, (if has x.k L then 80 else 0) = z := ⟨_, rfl⟩
              have c13 : ∀ W' L1, Duo w W' B R L L1 → Calls Try.prog 13 #[.pointer (some ⟨B, 0, none⟩), ky x.k, eU x.v] W' fun e w' => e = .returned (eI z) ∧ Duo w w' B R L2 L1 ∧ Kp W' w' := fun W' L1 h => by
                have := duo_put x.it ⟨hwi.1, hwi.2.1, hwi.2.2⟩ (by omega) h
                rw [hL2, show (if has x.it.1 L then (80 : Int) else 0) = z from hz] at this
                exact this
              have c16 : ∀ W' L1, Duo w W' B R L1 L → Calls Try.prog 16 #[.pointer (some ⟨R, 0, none⟩), ky x.k, eU x.v] W' fun e w' => e = .returned (eI z) ∧ Duo w w' B R L1 L2 ∧ Kp W' w' := fun W' L1 h => by
                have := duo_rput x.it ⟨hwi.1, hwi.2.1, hwi.2.2⟩ (by omega) h
                rw [hL2, show (if has x.it.1 L then (80 : Int) else 0) = z from hz] at this
                exact this
              have zz : (z != z) = false := by simp
              have hS : ∀ w', Box w' P #[eU x.k.1, eI x.k.2, eU x.v, .bool x.d] 34 → w'.cell? ⟨P, 0, none⟩ = some (.int .u64 x.k.1) ∧ w'.cell? ⟨P, 1, none⟩ = some (.int .i64 x.k.2) ∧ w'.cell? ⟨P, 2, none⟩ = some (.int .u64 x.v) := fun w' h => ⟨(actC h).1, (actC h).2.1, (actC h).2.2.1⟩
              clear hz hL2 hd
              go_upto_region 22 with (fail)
              clear k0 k1 k2 k3
              go_region_held3 (fun w' => w'.cell? ⟨P, 0, none⟩ = some (.int .u64 x.k.1) ∧ w'.cell? ⟨P, 1, none⟩ = some (.int .i64 x.k.2) ∧ w'.cell? ⟨P, 2, none⟩ = some (.int .u64 x.v))
                (first | exact hS _ bP | exact hS _ (bP.below ((Below.refl _ _).drew)) | exact hS _ (bP.below (below_drewN (Below.refl _ _) _)))
                (first
                  | (go_at_call 13; (with_reducible refine (c13 _ _ (by first | exact H | exact H.below ((Below.refl _ _).drew) | exact H.below (below_drewN (Below.refl _ _) _))).mono ?_); rintro e w9 ⟨rfl, H', hk⟩; replace H := H'; replace bP := hk _ _ (by first | exact bP | exact bP.below ((Below.refl _ _).drew) | exact bP.below (below_drewN (Below.refl _ _) _)); clear hk)
                  | (go_at_call 16; (with_reducible refine (c16 _ _ (by first | exact H | exact H.below ((Below.refl _ _).drew) | exact H.below (below_drewN (Below.refl _ _) _))).mono ?_); rintro e w9 ⟨rfl, H', hk⟩; replace H := H'; replace bP := hk _ _ (by first | exact bP | exact bP.below ((Below.refl _ _).drew) | exact bP.below (below_drewN (Below.refl _ _) _)); clear hk))
              all_goals go_wp2_with fail
              all_goals go_meet
              all_goals first
                | exact ⟨H, bP⟩
                | exact ⟨H.below ((Below.refl _ _).drew), bP.below ((Below.refl _ _).drew)⟩
                | exact ⟨H.below (below_drewN (Below.refl _ _) _), bP.below (below_drewN (Below.refl _ _) _)⟩
          case rest =>
            clear H bP k0 k1 k2 k3 hd
            obtain ⟨H, bP⟩ := hcut
            rename World => X
            obtain ⟨k0, k1, k2, k3⟩ := actC bP
            rw [hL2] at hstep
            have hr := H.1.1.rise
            obtain ⟨hb, hhb⟩ : ∃ z, has x.k L2 = z := ⟨_, rfl⟩
            obtain ⟨vb, hvb⟩ : ∃ z, valL x.k L2 = z := ⟨_, rfl⟩
            obtain ⟨F, hF⟩ : ∃ z, atK x.k L2 = z := ⟨_, rfl⟩
            obtain ⟨at', hat'⟩ : ∃ z, atV F = z := ⟨_, rfl⟩
            have c17 := ob_get x.k H.1.1
            rw [hhb, hvb] at c17
            go_upto_region 25 with (go_at_call 17; (with_reducible refine c17.mono ?_); rintro e w10 ⟨rfl, hb10⟩; replace H := H.below hb10; replace bP := bP.below hb10; clear hb10)
            clear c17 k0 k1 k2 k3
            obtain ⟨k0, k1, k2, k3⟩ := actC bP
            have c18 := rw_at R x.k L2 w10 (by omega) H.rw
            rw [hF, hat'] at c18
            go_upto_region 26 with (go_at_call 18; (with_reducible refine c18.mono ?_); rintro e w11 ⟨rfl, hb11⟩; replace H := H.below hb11; clear hb11)
            clear c18 k0 k1 k2 k3 bP hL2
            have hsm := duo_same (by omega) H
            obtain ⟨ar, cr, hRb, hLc, hIt⟩ := H.rw
            have hce := Lib.hid (row_cells hIt)
            clear hIt
            cases F with
            | none =>
              have hbf : hb = false := by rw [← hhb, ← atK_has, hF]; rfl
              subst hbf
              have hvf : vb = 0 := by rw [← hvb]; exact val_none hhb
              subst hvf
              subst hat'
              clear hhb hvb hF hce
              go_wp2_with (go_at_call 11; (with_reducible refine hsm.mono ?_); rintro e w12 ⟨rfl, hb12⟩; replace H := H.below hb12; clear hb12)
              exact ⟨⟨i + 1, by rw [hii], by omega, by rw [hstep.out]; exact H⟩, by simp [intOf]; omega⟩
            | some j =>
              have hbf : hb = true := by rw [← hhb, ← atK_has, hF]; rfl
              subst hbf
              obtain ⟨hj, hjk⟩ := atK_some hF
              have hvf : vb = (L2[j]).2 := by rw [← hvb, ← hjk]; exact mem_valT hr (List.getElem_mem hj)
              subst hvf
              have hat' : (j : Int) = at' := hat'
              subst hat'
              clear hhb hvb hF hjk
              have j1 : (j : Int) < (L2.length : Int) := by omega
              have j2 : (0 : Int) ≤ (j : Int) := by omega
              have j3 : (L2.length : Int) ≤ (cr : Int) := by omega
              have v1 : ((L2[j]).2 != (L2[j]).2) = false := by simp
              have hRW : ∀ w', Below w11.heap.size w11 w' → w'.cell? ⟨R, 0, none⟩ = some (.slice ar L2.length cr) := fun w' h => (hRb.below h).cell 0
              go_wp2_with (go_at_call 11; (with_reducible refine hsm.mono ?_); rintro e w12 ⟨rfl, hb12⟩; replace H := H.below hb12; have cR := hRW _ hb12; obtain ⟨g, og, rfl, hg, _, _, y2⟩ := hce.out j w12 hj hb12; clear hb12)
              exact ⟨⟨i + 1, by rw [hii], by omega, by rw [hstep.out]; exact H⟩, by simp [intOf]; omega⟩
      · obtain rfl : i = n := by omega
        have i1 : ¬ (i : Int) < (i : Int) := by omega
        have hW := H.world
        go_wp2_with fail
        go_ret
        exact ⟨rfl, hW⟩
  · have h1 : (120 : Int) < (n : Int) := by omega
    clear hI hw hnn hn hcm
    go_enter Try.func3, Try.ntmps3
    go_wp2_with fail
    go_ret
    exact ⟨rfl, Below.refl _ _⟩
end Go.Proofs.Ytjfpemkdidoacaa
