/- An id put in twice is in once, as it was put in last; one that is put in and dropped leaves the others as they were: the walk of the statement. No condition but words. -/
import Derived.Test.YtcpienpkpodfmaaAR
namespace Go.Proofs.Ytcpienpkpodfmaa
open Go.RowKit Go.Shelf Go.Maps
set_option linter.unusedVariables false
theorem Aug.rebase {w0 w W : World} {m B : Nat} {L : List It} (h : Aug w W m B L) (hb : Below w0.heap.size w0 w) : Aug w0 W m B L := by
  obtain ⟨Bm, Bt, h⟩ := h.x
  exact (h.rebase hb).aug
set_option maxRecDepth 100000 in
set_option maxHeartbeats 4000000 in
theorem AugAnew_walk (a : Option Addr) (n c : Nat) (xs : Nat → Ac) (x : Ac) (key value : Int) (w : World) (hI : IsAcs w a n c xs) (hw : ∀ i, (xs i).word) (hcm : c ≤ maxLen) (hnn : a = none → n = 0 ∧ c = 0) (hx : x.word) (hkey : Word key) (hvalue : Word value) :
    Calls Try.prog 7 #[.slice a n c, .agg #[eI x.i, eU x.k, eU x.v, .bool x.d, eU x.q, eU x.y], eU key, eU value] w fun e w' => e = .returned (.bool true) ∧ Below w.heap.size w w' := by
  have TW := up1 w (.cells #[eI x.i, eU x.k, eU x.v, .bool x.d, eU x.q, eU x.y] 31)
  have bP := Box.new w 31 #[eI x.i, eU x.k, eU x.v, .bool x.d, eU x.q, eU x.y]
  by_cases hn : n ≤ 200
  · have hact : ∀ w1, Below (w.alloc (.cells #[eI x.i, eU x.k, eU x.v, .bool x.d, eU x.q, eU x.y] 31)).heap.size (w.alloc (.cells #[eI x.i, eU x.k, eU x.v, .bool x.d, eU x.q, eU x.y] 31)) w1 → Calls Try.prog 17 #[.slice a n c] w1 fun e w' => ∃ B : Nat, e = .returned (.pointer (some ⟨B, 0, none⟩)) ∧ Aug (w.alloc (.cells #[eI x.i, eU x.k, eU x.v, .bool x.d, eU x.q, eU x.y] 31)) w' n B (rowA xs n) := fun w1 T =>
      (acted_ok a n c xs w1 hn (hI.below (upp TW T)) hw).mono fun e w' ⟨B, h1, h2⟩ => ⟨B, h1, h2.rebase T⟩
    clear hI hw hnn hcm
    generalize rowA xs n = L at *
    go_enter Try.func7, Try.ntmps7
    go_upto_region 1 with (fail)
    obtain ⟨W0, hW0⟩ : ∃ v, w.alloc (.cells #[eI x.i, eU x.k, eU x.v, .bool x.d, eU x.q, eU x.y] 31) = v := ⟨_, rfl⟩
    rw [hW0] at hact TW bP ⊢
    clear hW0
    have T := Below.refl W0.heap.size W0
    go_upto_region 6 with (first
      | (go_at_call 16; (with_reducible refine (awake_any _).mono ?_); rintro e w1 ⟨rfl, hb⟩; replace T := upp T hb; clear hb)
      | (go_at_call 17; (with_reducible refine (hact _ T).mono ?_); rintro e w2 ⟨B, rfl, H0⟩))
    clear hact T
    have hF := H0.fine
    have hr := H0.rise
    have hl := H0.len
    have hy1 : Word key ∧ Inte x.i ∧ Word value := ⟨hkey, hx.1.2.1, hvalue⟩
    have hy2 : Word x.k ∧ Inte x.i ∧ Word x.v := hx.1
    have e13 : putA ((key, x.i), value) (putA ((x.k, x.i), x.v) L) = putA ((key, x.i), value) L := putA_put (x := ((x.k, x.i), x.v)) (y := ((key, x.i), value)) hr hF rfl
    have eD1 : dropA x.i (putA ((key, x.i), value) L) = dropA x.i L := dropA_put (x := ((key, x.i), value)) hr hF
    have eG1 : getA x.i (putA ((key, x.i), value) L) = some ((key, x.i), value) := getA_put (x := ((key, x.i), value)) hy1 hF
    have hl1 : (putA ((key, x.i), value) L).length ≤ 201 := by have := putA_len (x := ((key, x.i), value)) (L := L); omega
    obtain ⟨L2, hL2⟩ : ∃ z, putA ((x.k, x.i), x.v) L = z := ⟨_, rfl⟩
    obtain ⟨L1, hL1⟩ : ∃ z, putA ((key, x.i), value) L = z := ⟨_, rfl⟩
    obtain ⟨LD, hLD⟩ : ∃ z, dropA x.i L = z := ⟨_, rfl⟩
    have hlD : LD.length ≤ 201 := by have := dropA_len (i := x.i) (L := L); rw [hLD] at this; omega
    rw [hL2, hL1] at e13
    rw [hL1, hLD] at eD1
    rw [hL1] at eG1 hl1
    have c10a : ∀ W B, Aug W0 W n B L → Calls Try.prog 10 #[.pointer (some ⟨B, 0, none⟩)] W fun e w' => ∃ B' : Nat, e = .returned (.pointer (some ⟨B', 0, none⟩)) ∧ Two W0 w' n B B' L L := fun W B h => one_copy h
    have c10b : ∀ W B B1, Two W0 W n B B1 L L → Calls Try.prog 10 #[.pointer (some ⟨B, 0, none⟩)] W fun e w' => ∃ B' : Nat, e = .returned (.pointer (some ⟨B', 0, none⟩)) ∧ Tri W0 w' n B B1 B' L L L := fun W B B1 h => two_copy h
    have c12a : ∀ W B B1 B2, Tri W0 W n B B1 B2 L L L → Calls Try.prog 12 #[.pointer (some ⟨B1, 0, none⟩), eI x.i, eU key, eU value] W fun e w' => e = .returned (.tuple #[]) ∧ Tri W0 w' (n + 1) B B1 B2 L L1 L := fun W B B1 B2 h => by
      rw [← hL1]; exact tri_put1 ((key, x.i), value) hy1 (by omega) h
    have c12b : ∀ W B B1 B2, Tri W0 W (n + 1) B B1 B2 L L1 L → Calls Try.prog 12 #[.pointer (some ⟨B2, 0, none⟩), eI x.i, eU x.k, eU x.v] W fun e w' => e = .returned (.tuple #[]) ∧ Tri W0 w' (n + 1 + 1) B B1 B2 L L1 L2 := fun W B B1 B2 h => by
      rw [← hL2]; exact tri_put2 ((x.k, x.i), x.v) hy2 (by omega) h
    have c12c : ∀ W B B1 B2, Tri W0 W (n + 1 + 1) B B1 B2 L L1 L2 → Calls Try.prog 12 #[.pointer (some ⟨B2, 0, none⟩), eI x.i, eU key, eU value] W fun e w' => e = .returned (.tuple #[]) ∧ Tri W0 w' (n + 1 + 1 + 1) B B1 B2 L L1 L1 := fun W B B1 B2 h => by
      have := tri_put2 ((key, x.i), value) hy1 (by omega) h
      rw [e13] at this
      exact this
    have c20 : ∀ W B B1 B2, Tri W0 W (n + 1 + 1 + 1) B B1 B2 L L1 L1 → Calls Try.prog 20 #[.pointer (some ⟨B2, 0, none⟩), eI x.i] W fun e w' => e = .returned (.tuple #[eU key, eU value, .bool true]) ∧ Below W.heap.size W w' := fun W B B1 B2 h => by
      have := aug_get x.i hx.1.2.1 h.a2
      rw [eG1] at this
      exact this
    have c21 : ∀ W B m' L', m' ≤ 1000 → Aug W0 W m' B L' → Calls Try.prog 21 #[.pointer (some ⟨B, 0, none⟩)] W fun e w' => ∃ v, e = .returned v ∧ IntS w' v (idsI L') ∧ Below W.heap.size W w' := fun W B m' L' hm h =>
      (aug_ids hm h).mono fun e w' ⟨v, x1, x2, x3⟩ => ⟨v, x1, IntS.of_owns x2, x3⟩
    obtain ⟨li, hli⟩ : ∃ z, (low (upto x.q L1)).2 = z := ⟨_, rfl⟩
    obtain ⟨is, his⟩ : ∃ z, decide (upto x.q L1 ≠ []) = z := ⟨_, rfl⟩
    obtain ⟨wi, hwi⟩ : ∃ z, (kO (fnd x.y L1)).2 = z := ⟨_, rfl⟩
    obtain ⟨fo, hfo⟩ : ∃ z, (fnd x.y L1).isSome = z := ⟨_, rfl⟩
    obtain ⟨lo, hlo⟩ : ∃ z, (low LD).1 = z := ⟨_, rfl⟩
    obtain ⟨an, han⟩ : ∃ z, decide (LD ≠ []) = z := ⟨_, rfl⟩
    obtain ⟨wa, hwa⟩ : ∃ z, (getA x.i L).isSome = z := ⟨_, rfl⟩
    have c18 : ∀ W B m', Aug W0 W m' B L1 → Calls Try.prog 18 #[.pointer (some ⟨B, 0, none⟩), eU x.q] W fun e w' => e = .returned (.tuple #[eI li, .bool is]) ∧ Below W.heap.size W w' := fun W B m' h => by rw [← hli, ← his]; exact aug_least x.q h
    have c19 : ∀ W B m', Aug W0 W m' B L1 → Calls Try.prog 19 #[.pointer (some ⟨B, 0, none⟩), eU x.y] W fun e w' => e = .returned (.tuple #[eI wi, .bool fo]) ∧ Below W.heap.size W w' := fun W B m' h => by rw [← hwi, ← hfo]; exact aug_within x.y h
    have c10c : ∀ W B B1 B2, Tri W0 W (n + 1 + 1 + 1) B B1 B2 L L1 L1 → Calls Try.prog 10 #[.pointer (some ⟨B, 0, none⟩)] W fun e w' => ∃ B' : Nat, e = .returned (.pointer (some ⟨B', 0, none⟩)) ∧ Two W0 w' (n + 1 + 1 + 1) B' B2 L L1 := fun W B B1 B2 h => tri_copy h
    have c13a : ∀ W B3 B2, Two W0 W (n + 1 + 1 + 1) B3 B2 L L1 → Calls Try.prog 13 #[.pointer (some ⟨B3, 0, none⟩), eI x.i] W fun e w' => e = .returned (.bool wa) ∧ Two W0 w' (n + 1 + 1 + 1) B3 B2 LD L1 := fun W B3 B2 h => by
      rw [← hwa, ← hLD]; exact two_drop0 x.i hx.1.2.1 (by omega) h
    have c13b : ∀ W B3 B2, Two W0 W (n + 1 + 1 + 1) B3 B2 LD L1 → Calls Try.prog 13 #[.pointer (some ⟨B2, 0, none⟩), eI x.i] W fun e w' => e = .returned (.bool true) ∧ Two W0 w' (n + 1 + 1 + 1) B3 B2 LD LD := fun W B3 B2 h => by
      have := two_drop1 x.i hx.1.2.1 (by omega) h
      rw [eG1, eD1] at this
      exact this
    have c13c : ∀ W B3 B2, Two W0 W (n + 1 + 1 + 1) B3 B2 LD LD → Calls Try.prog 13 #[.pointer (some ⟨B2, 0, none⟩), eI x.i] W fun e w' => e = .returned (.bool false) ∧ Two W0 w' (n + 1 + 1 + 1) B3 B2 LD LD := fun W B3 B2 h => by
      have := two_drop1 x.i hx.1.2.1 (by omega) h
      rw [← hLD, getA_drop, dropA_twice, hLD] at this
      exact this
    have c25 : ∀ W B m', Aug W0 W m' B LD → Calls Try.prog 25 #[.pointer (some ⟨B, 0, none⟩)] W fun e w' => e = .returned (.tuple #[eU lo, .bool an]) ∧ Below W.heap.size W w' := fun W B m' h => by rw [← hlo, ← han]; exact aug_lowest h
    have c24 : ∀ W v u L', L'.length ≤ 201 → IntS W v (idsI L') → IntS W u (idsI L') → Calls Try.prog 24 #[v, u] W fun e w' => e = .returned (.bool true) ∧ Below W.heap.size W w' := fun W v u L' hl h1 h2 => same_any v u (idsI L') W (by simp [idsI]; omega) h1 h2
    have hm : n + 1 + 1 + 1 ≤ 1000 := by omega
    have hs1 : (key == key) = true := by simp
    have hs2 : (value == value) = true := by simp
    have hs3 : (li == li) = true := by simp
    have hs4 : (is == is) = true := by simp
    have hs5 : (wi == wi) = true := by simp
    have hs6 : (fo == fo) = true := by simp
    have hs7 : (lo == lo) = true := by simp
    have hs8 : (an == an) = true := by simp
    clear hli his hwi hfo hlo han hwa hL1 hL2 hLD e13 eD1 eG1 hF hr hl hy1 hy2 hx hkey hvalue hn
    go_upto_region 13 with (first
      | (go_at_call 10; (with_reducible refine (c10a _ _ H0).mono ?_); rintro e w3 ⟨B1, rfl, H1⟩; clear H0)
      | (go_at_call 10; (with_reducible refine (c10b _ _ _ H1).mono ?_); rintro e w4 ⟨B2, rfl, H⟩; obtain ⟨k0, k1, k2, k3, k4, k5⟩ := actC (bP.below H.world); clear H1)
      | (go_at_call 12; (with_reducible refine (c12a _ _ _ _ H).mono ?_); rintro e w5 ⟨rfl, H5⟩; clear k0 k1 k2 k3 k4 k5; obtain ⟨k0, k1, k2, k3, k4, k5⟩ := actC (bP.below H5.world))
      | (go_at_call 12; (with_reducible refine (c12b _ _ _ _ H5).mono ?_); rintro e w6 ⟨rfl, H6⟩; clear k0 k1 k2 k3 k4 k5; obtain ⟨k0, k1, k2, k3, k4, k5⟩ := actC (bP.below H6.world))
      | (go_at_call 12; (with_reducible refine (c12c _ _ _ _ H6).mono ?_); rintro e w7 ⟨rfl, H7⟩; clear k0 k1 k2 k3 k4 k5; obtain ⟨k0, k1, k2, k3, k4, k5⟩ := actC (bP.below H7.world))
      | (go_at_call 20; (with_reducible refine (c20 _ _ _ _ H7).mono ?_); rintro e w8 ⟨rfl, hb⟩; replace H7 := H7.below hb; clear hb; clear k0 k1 k2 k3 k4 k5; obtain ⟨k0, k1, k2, k3, k4, k5⟩ := actC (bP.below H7.world))
      | (go_at_call 21; (with_reducible refine (c21 _ _ _ _ hm H7.a1).mono ?_); rintro e w9 ⟨v, rfl, hv, hb⟩; replace H7 := H7.below hb; clear hb; clear k0 k1 k2 k3 k4 k5; obtain ⟨k0, k1, k2, k3, k4, k5⟩ := actC (bP.below H7.world))
      | (go_at_call 21; (with_reducible refine (c21 _ _ _ _ hm H7.a2).mono ?_); rintro e w10 ⟨u, rfl, hu, hb⟩; replace H7 := H7.below hb; replace hv := hv.below hb; clear hb; clear k0 k1 k2 k3 k4 k5; obtain ⟨k0, k1, k2, k3, k4, k5⟩ := actC (bP.below H7.world))
      | (go_at_call 24; (with_reducible refine (c24 _ _ _ _ hl1 hv hu).mono ?_); rintro e w11 ⟨rfl, hb⟩; replace H7 := H7.below hb; clear hb hv hu; clear k0 k1 k2 k3 k4 k5; obtain ⟨k0, k1, k2, k3, k4, k5⟩ := actC (bP.below H7.world)))
    clear H H5 H6 c10a c10b c12a c12b c12c c20
    go_upto_region 19 with (first
      | (go_at_call 18; (with_reducible refine (c18 _ _ _ H7.a1).mono ?_); rintro e w12 ⟨rfl, hb⟩; replace H7 := H7.below hb; clear hb; clear k0 k1 k2 k3 k4 k5; obtain ⟨k0, k1, k2, k3, k4, k5⟩ := actC (bP.below H7.world))
      | (go_at_call 18; (with_reducible refine (c18 _ _ _ H7.a2).mono ?_); rintro e w13 ⟨rfl, hb⟩; replace H7 := H7.below hb; clear hb; clear k0 k1 k2 k3 k4 k5; obtain ⟨k0, k1, k2, k3, k4, k5⟩ := actC (bP.below H7.world))
      | (go_at_call 19; (with_reducible refine (c19 _ _ _ H7.a1).mono ?_); rintro e w14 ⟨rfl, hb⟩; replace H7 := H7.below hb; clear hb; clear k0 k1 k2 k3 k4 k5; obtain ⟨k0, k1, k2, k3, k4, k5⟩ := actC (bP.below H7.world))
      | (go_at_call 19; (with_reducible refine (c19 _ _ _ H7.a2).mono ?_); rintro e w15 ⟨rfl, hb⟩; replace H7 := H7.below hb; clear hb; clear k0 k1 k2 k3 k4 k5; obtain ⟨k0, k1, k2, k3, k4, k5⟩ := actC (bP.below H7.world)))
    clear c18 c19
    go_wp2_with (first
      | (go_at_call 10; (with_reducible refine (c10c _ _ _ _ H7).mono ?_); rintro e w16 ⟨B3, rfl, H⟩; clear k0 k1 k2 k3 k4 k5; obtain ⟨k0, k1, k2, k3, k4, k5⟩ := actC (bP.below H.world))
      | (go_at_call 13; (with_reducible refine (c13a _ _ _ H).mono ?_); rintro e w17 ⟨rfl, H17⟩; clear k0 k1 k2 k3 k4 k5; obtain ⟨k0, k1, k2, k3, k4, k5⟩ := actC (bP.below H17.world))
      | (go_at_call 13; (with_reducible refine (c13b _ _ _ H17).mono ?_); rintro e w18 ⟨rfl, H18⟩; clear k0 k1 k2 k3 k4 k5; obtain ⟨k0, k1, k2, k3, k4, k5⟩ := actC (bP.below H18.world))
      | (go_at_call 13; (with_reducible refine (c13c _ _ _ H18).mono ?_); rintro e w19 ⟨rfl, H19⟩; clear k0 k1 k2 k3 k4 k5; obtain ⟨k0, k1, k2, k3, k4, k5⟩ := actC (bP.below H19.world))
      | (go_at_call 21; (with_reducible refine (c21 _ _ _ _ hm H19.a0).mono ?_); rintro e w20 ⟨v, rfl, hv, hb⟩; replace H19 := H19.below hb; clear hb)
      | (go_at_call 21; (with_reducible refine (c21 _ _ _ _ hm H19.a1).mono ?_); rintro e w21 ⟨u, rfl, hu, hb⟩; replace H19 := H19.below hb; replace hv := hv.below hb; clear hb)
      | (go_at_call 24; (with_reducible refine (c24 _ _ _ _ hlD hv hu).mono ?_); rintro e w22 ⟨rfl, hb⟩; replace H19 := H19.below hb; clear hb hv hu)
      | (go_at_call 25; (with_reducible refine (c25 _ _ _ H19.a0).mono ?_); rintro e w23 ⟨rfl, hb⟩; replace H19 := H19.below hb; clear hb)
      | (go_at_call 25; (with_reducible refine (c25 _ _ _ H19.a1).mono ?_); rintro e w24 ⟨rfl, hb⟩; replace H19 := H19.below hb; clear hb))
    go_ret
    exact ⟨rfl, upp TW H19.world⟩
  · have h1 : 200 < n := by omega
    have h2 : n ≤ maxLen := Nat.le_trans hI.1 hcm
    clear hI hw hnn hn hcm
    have T := TW
    go_enter Try.func7, Try.ntmps7
    go_wp2_with (first
      | (go_at_call 16; (with_reducible refine (awake_any _).mono ?_); rintro e w1 ⟨rfl, hb⟩; replace T := upp T hb; clear hb)
      | (go_at_call 17; (with_reducible refine (acted_over a n c _ h1 h2).mono ?_); rintro e w2 ⟨rfl, hb⟩; replace T := upp T hb; clear hb))
    go_ret
    exact ⟨rfl, T⟩
end Go.Proofs.Ytcpienpkpodfmaa
