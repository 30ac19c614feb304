/- With what is spare they can be kept, with one more they can not be: the walk over its calls, at lists of up to nine. -/
import Derived.Test.YtmhmoebdojkbpaaGL
namespace Go.Proofs.Ytmhmoebdojkbpaa
open Go.RowKit W
set_option linter.unusedVariables false
theorem SumsRoom9_long (a : Option Addr) (n c : Nat) (r : Int) (w : World) (hn : 8 < n) (hA : ∀ w, Calls Try.prog 23 #[] w fun e w' => e = .returned (.bool true) ∧ Below w.heap.size w w') :
    Calls Try.prog 9 #[.slice a n c, .int .u64 r] w fun e w' => e = .returned (.bool true) ∧ Below w.heap.size w w' := by
  have h : (8 : Int) < (n : Int) := by omega
  go_enter Try.func9, Try.ntmps9
  go_wp2_with (go_at_call 23; (with_reducible refine (hA _).mono ?_); rintro e w1 ⟨rfl, hb⟩)
  go_ret
  exact ⟨rfl, hb⟩
theorem SumsRoom9_no (a : Option Addr) (n c : Nat) (r : Int) (w : World) (hn : n ≤ 8) (hA : ∀ w, Calls Try.prog 23 #[] w fun e w' => e = .returned (.bool true) ∧ Below w.heap.size w w')
    (hS : ∀ w', Below w.heap.size w w' → Calls Try.prog 19 #[.slice a n c, .int .u64 r] w' fun e w'' => e = .returned (.tuple #[.int .u64 0, .bool false]) ∧ Below w'.heap.size w' w'')
    (hK : ∀ w', Below w.heap.size w w' → Calls Try.prog 17 #[.slice a n c, .int .u64 r] w' fun e w'' => e = .returned (.bool false) ∧ Below w'.heap.size w' w'') :
    Calls Try.prog 9 #[.slice a n c, .int .u64 r] w fun e w' => e = .returned (.bool true) ∧ Below w.heap.size w w' := by
  have h : ¬ (8 : Int) < (n : Int) := by omega
  have T := Below.refl w.heap.size w
  go_enter Try.func9, Try.ntmps9
  go_wp2_with (first
    | (go_at_call 23; (with_reducible refine (hA _).mono ?_); rintro e w1 ⟨rfl, hb⟩; replace T := up T hb T.size; clear hb)
    | (go_at_call 19; (with_reducible refine (hS _ T).mono ?_); rintro e w2 ⟨rfl, hb⟩; replace T := up T hb T.size; clear hb)
    | (go_at_call 17; (with_reducible refine (hK _ T).mono ?_); rintro e w3 ⟨rfl, hb⟩; replace T := up T hb T.size; clear hb))
  go_ret
  exact ⟨rfl, T⟩
set_option maxRecDepth 100000 in
set_option maxHeartbeats 4000000 in
theorem SumsRoom9_some_max (xs : List Cv) (r N : Int) (ad : Addr) (c : Nat) (w : World) (hx : ∀ c ∈ xs, c.word) (hr : Word r) (hn : xs.length ≤ 8)
    (hd : ∀ w', Below w.heap.size w w' → ∀ j u, (cvC xs)[j]? = some u → w'.cell? (ad.add j) = some u)
    (hA : ∀ w, Calls Try.prog 23 #[] w fun e w' => e = .returned (.bool true) ∧ Below w.heap.size w w')
    (hS : ∀ w', Below w.heap.size w w' → Calls Try.prog 19 #[.slice (some ad) xs.length c, .int .u64 r] w' fun e w'' => e = .returned (.tuple #[.int .u64 N, .bool true]) ∧ Below w'.heap.size w' w'')
    (hK : ∀ w', Below w.heap.size w w' → Calls Try.prog 17 #[.slice (some ad) xs.length c, .int .u64 r] w' fun e w'' => e = .returned (.bool true) ∧ Below w'.heap.size w' w'')
    (hKP : ∀ (ys : List Cv) (b : Bool) (a : Option Addr) (k c : Nat) (w' : World), (∀ v ∈ ys, v.word) → ys.length ≤ 9 → IsCvs w' a k c ys → (b = true ↔ kept ys r) → Calls Try.prog 17 #[.slice a k c, .int .u64 r] w' fun e w'' => e = .returned (.bool b) ∧ Below w'.heap.size w' w'')
    (N0 : 0 ≤ N) (hN : N = 1048576) (hk1 : kept (xs ++ [⟨0, 0, N⟩]) r) :
    Calls Try.prog 9 #[.slice (some ad) xs.length c, .int .u64 r] w fun e w' => e = .returned (.bool true) ∧ Below w.heap.size w w' := by
  have hN1 : N ≤ 1048576 := by omega
  have hNe : (N == 1048576) = true := by simp [hN]
  have hNg : ¬ 1048576 < N := by omega
  have K1 := Lib.hid (fun a k c w' h => hKP (xs ++ [⟨0, 0, N⟩]) true a k c w' (line_words hx ⟨by omega, by omega⟩) (by simp; omega) h (by simp [hk1]))
  have hw1 : IntKind.u64.wrap (N + 1) = N + 1 := IntWalk.u64_in _ (by omega)
  have hlen : ¬ (8 : Int) < (xs.length : Int) := by omega
  have hl3 := cvC_length xs
  have ho3 := Lib.hid (cvC_one xs)
  have hdd := Lib.hid hd
  have hmx : 0 + xs.length ≤ maxLen := by unfold maxLen; omega
  have hby : (0 + xs.length) * 24 ≤ 140737488355328 := by omega
  have hmx2 : 0 + xs.length + 1 ≤ maxLen := by unfold maxLen; omega
  have hby2 : (0 + xs.length + 1) * 24 ≤ 140737488355328 := by omega
  clear hd
  obtain ⟨i0, hi, hz0, hz1, hz2⟩ := info_parts infoC
  have T := Below.refl w.heap.size w
  clear hk1 hKP hN
  replace hx := Lib.hid hx
  go_enter Try.func9, Try.ntmps9
  go_upto_region 10 with (first
    | (go_at_call 23; (with_reducible refine (hA _).mono ?_); rintro e w1 ⟨rfl, hb⟩; replace T := up T hb T.size; clear hb)
    | (go_at_call 19; (with_reducible refine (hS _ T).mono ?_); rintro e w2 ⟨rfl, hb⟩; replace T := up T hb T.size; clear hb)
    | (go_at_call 17; (with_reducible refine (hK _ T).mono ?_); rintro e w3 ⟨rfl, hb⟩; replace T := up T hb T.size; clear hb))
  replace T := Lib.hid T
  clear hA hS hK
  have hR1 := World.ownsRow_made (base := w3.heap.size) (e := 31) (size := 3) w3 #[] 0 (Nat.le_refl _) (by decide) rfl
  have ho1 := Lib.hid (three_one (N))
  have hn1 := Lib.hid (hdd.out (w3.alloc (.cells #[] 31)) (up T.out (up1 w3 _) T.out.size))
  go_upto_region 11 with (first
    | (at_builtin; refine wpList_append_own _ rfl _ _ 22 rfl w3.heap.size 31 i0 _ 3 24 Try.underlying22 hi hz0 hz1 hz2 rfl (by decide) (.slice (some ⟨w3.heap.size, 0, none⟩) 0 0) 0 [] rfl hR1 ad xs.length c (cvC xs) rfl hl3 hn1.out ho3.out hmx hby (by simp) ?_; intro vA1 wA1 hownA hgrowA _; have EA1 := Lib.hid (((Below.refl w3.heap.size w3).alloc (Nat.le_refl _) (.cells #[] 31)).grown hgrowA (by simp) (fun j e => by simp [Value.ownBlock] at e; omega)); clear hgrowA; have hown1 := Lib.hid (hownA.alloc (.cells #[eU 0, eU 0, eU (N)] 31)); clear hownA; have hm1 := Lib.hid (three_new wA1 (N)); have hs1 := EA1.out.size)
    | (at_builtin; refine wpList_append_own _ rfl _ _ 22 rfl w3.heap.size 31 i0 _ 3 24 Try.underlying22 hi hz0 hz1 hz2 rfl (by decide) vA1 (0 + xs.length) ([] ++ cvC xs) rfl hown1.out ⟨wA1.heap.size, 0, none⟩ 1 1 [eU 0, eU 0, eU (N)] rfl rfl hm1.out ho1.out hmx2 hby2 (by simp; omega) ?_; intro vB1 wB1 hownB hgrowB _; have EB1 := Lib.hid ((EA1.out.alloc EA1.out.size (.cells #[eU 0, eU 0, eU (N)] 31)).grown hgrowB (by simp; omega) (fun j e => (hown1.out.lt j e).1)); clear hgrowB hown1 hm1; obtain ⟨g1, cap1, rfl, hIs1⟩ := row_line xs (N) hownB; clear hownB))
  replace T := Lib.hid (up T.out EB1.out T.out.size)
  replace hIs1 := Lib.hid hIs1
  have hR2 := World.ownsRow_made (base := wB1.heap.size) (e := 31) (size := 3) wB1 #[] 0 (Nat.le_refl _) (by decide) rfl
  have ho2 := Lib.hid (three_one (N + 1))
  have hn2 := Lib.hid (hdd.out (wB1.alloc (.cells #[] 31)) (up T.out (up1 wB1 _) T.out.size))
  go_upto_region 12 with (first
    | (at_builtin; refine wpList_append_own _ rfl _ _ 22 rfl wB1.heap.size 31 i0 _ 3 24 Try.underlying22 hi hz0 hz1 hz2 rfl (by decide) (.slice (some ⟨wB1.heap.size, 0, none⟩) 0 0) 0 [] rfl hR2 ad xs.length c (cvC xs) rfl hl3 hn2.out ho3.out hmx hby (by simp) ?_; intro vA2 wA2 hownA hgrowA _; have EA2 := Lib.hid (((Below.refl wB1.heap.size wB1).alloc (Nat.le_refl _) (.cells #[] 31)).grown hgrowA (by simp) (fun j e => by simp [Value.ownBlock] at e; omega)); clear hgrowA; have hown2 := Lib.hid (hownA.alloc (.cells #[eU 0, eU 0, eU (N + 1)] 31)); clear hownA; have hm2 := Lib.hid (three_new wA2 (N + 1)); have hs2 := EA2.out.size)
    | (at_builtin; refine wpList_append_own _ rfl _ _ 22 rfl wB1.heap.size 31 i0 _ 3 24 Try.underlying22 hi hz0 hz1 hz2 rfl (by decide) vA2 (0 + xs.length) ([] ++ cvC xs) rfl hown2.out ⟨wA2.heap.size, 0, none⟩ 1 1 [eU 0, eU 0, eU (N + 1)] rfl rfl hm2.out ho2.out hmx2 hby2 (by simp; omega) ?_; intro vB2 wB2 hownB hgrowB _; have EB2 := Lib.hid ((EA2.out.alloc EA2.out.size (.cells #[eU 0, eU 0, eU (N + 1)] 31)).grown hgrowB (by simp; omega) (fun j e => (hown2.out.lt j e).1)); clear hgrowB hown2 hm2; obtain ⟨g2, cap2, rfl, hIs2⟩ := row_line xs (N + 1) hownB; clear hownB))
  replace T := Lib.hid (up T.out EB2.out T.out.size)
  replace hIs2 := Lib.hid hIs2
  replace hIs1 := Lib.hid (hIs1.out.below EB2.out)
  have D1 := K1.out _ _ _ _ hIs1.out
  go_wp2_with (first
    | (go_at_call 17; (with_reducible refine D1.mono ?_); rintro e w9 ⟨rfl, hb⟩; replace T := Lib.hid (up T.out hb T.out.size); clear hb))
  go_ret
  exact ⟨rfl, T.out⟩
set_option maxRecDepth 100000 in
set_option maxHeartbeats 4000000 in
theorem SumsRoom9_some_less (xs : List Cv) (r N : Int) (ad : Addr) (c : Nat) (w : World) (hx : ∀ c ∈ xs, c.word) (hr : Word r) (hn : xs.length ≤ 8)
    (hd : ∀ w', Below w.heap.size w w' → ∀ j u, (cvC xs)[j]? = some u → w'.cell? (ad.add j) = some u)
    (hA : ∀ w, Calls Try.prog 23 #[] w fun e w' => e = .returned (.bool true) ∧ Below w.heap.size w w')
    (hS : ∀ w', Below w.heap.size w w' → Calls Try.prog 19 #[.slice (some ad) xs.length c, .int .u64 r] w' fun e w'' => e = .returned (.tuple #[.int .u64 N, .bool true]) ∧ Below w'.heap.size w' w'')
    (hK : ∀ w', Below w.heap.size w w' → Calls Try.prog 17 #[.slice (some ad) xs.length c, .int .u64 r] w' fun e w'' => e = .returned (.bool true) ∧ Below w'.heap.size w' w'')
    (hKP : ∀ (ys : List Cv) (b : Bool) (a : Option Addr) (k c : Nat) (w' : World), (∀ v ∈ ys, v.word) → ys.length ≤ 9 → IsCvs w' a k c ys → (b = true ↔ kept ys r) → Calls Try.prog 17 #[.slice a k c, .int .u64 r] w' fun e w'' => e = .returned (.bool b) ∧ Below w'.heap.size w' w'')
    (N0 : 0 ≤ N) (hN : N < 1048576) (hk1 : kept (xs ++ [⟨0, 0, N⟩]) r) (hk2 : ¬ kept (xs ++ [⟨0, 0, N + 1⟩]) r) :
    Calls Try.prog 9 #[.slice (some ad) xs.length c, .int .u64 r] w fun e w' => e = .returned (.bool true) ∧ Below w.heap.size w w' := by
  have hN1 : N ≤ 1048576 := by omega
  have hNe : (N == 1048576) = false := by simp; omega
  have hNg : ¬ 1048576 < N := by omega
  have K1 := Lib.hid (fun a k c w' h => hKP (xs ++ [⟨0, 0, N⟩]) true a k c w' (line_words hx ⟨by omega, by omega⟩) (by simp; omega) h (by simp [hk1]))
  have K2 := Lib.hid (fun a k c w' h => hKP (xs ++ [⟨0, 0, N + 1⟩]) false a k c w' (line_words hx ⟨by omega, by omega⟩) (by simp; omega) h (by simp [hk2]))
  clear hk2
  have hw1 : IntKind.u64.wrap (N + 1) = N + 1 := IntWalk.u64_in _ (by omega)
  have hlen : ¬ (8 : Int) < (xs.length : Int) := by omega
  have hl3 := cvC_length xs
  have ho3 := Lib.hid (cvC_one xs)
  have hdd := Lib.hid hd
  have hmx : 0 + xs.length ≤ maxLen := by unfold maxLen; omega
  have hby : (0 + xs.length) * 24 ≤ 140737488355328 := by omega
  have hmx2 : 0 + xs.length + 1 ≤ maxLen := by unfold maxLen; omega
  have hby2 : (0 + xs.length + 1) * 24 ≤ 140737488355328 := by omega
  clear hd
  obtain ⟨i0, hi, hz0, hz1, hz2⟩ := info_parts infoC
  have T := Below.refl w.heap.size w
  clear hk1 hKP hN
  replace hx := Lib.hid hx
  go_enter Try.func9, Try.ntmps9
  go_upto_region 10 with (first
    | (go_at_call 23; (with_reducible refine (hA _).mono ?_); rintro e w1 ⟨rfl, hb⟩; replace T := up T hb T.size; clear hb)
    | (go_at_call 19; (with_reducible refine (hS _ T).mono ?_); rintro e w2 ⟨rfl, hb⟩; replace T := up T hb T.size; clear hb)
    | (go_at_call 17; (with_reducible refine (hK _ T).mono ?_); rintro e w3 ⟨rfl, hb⟩; replace T := up T hb T.size; clear hb))
  replace T := Lib.hid T
  clear hA hS hK
  have hR1 := World.ownsRow_made (base := w3.heap.size) (e := 31) (size := 3) w3 #[] 0 (Nat.le_refl _) (by decide) rfl
  have ho1 := Lib.hid (three_one (N))
  have hn1 := Lib.hid (hdd.out (w3.alloc (.cells #[] 31)) (up T.out (up1 w3 _) T.out.size))
  go_upto_region 11 with (first
    | (at_builtin; refine wpList_append_own _ rfl _ _ 22 rfl w3.heap.size 31 i0 _ 3 24 Try.underlying22 hi hz0 hz1 hz2 rfl (by decide) (.slice (some ⟨w3.heap.size, 0, none⟩) 0 0) 0 [] rfl hR1 ad xs.length c (cvC xs) rfl hl3 hn1.out ho3.out hmx hby (by simp) ?_; intro vA1 wA1 hownA hgrowA _; have EA1 := Lib.hid (((Below.refl w3.heap.size w3).alloc (Nat.le_refl _) (.cells #[] 31)).grown hgrowA (by simp) (fun j e => by simp [Value.ownBlock] at e; omega)); clear hgrowA; have hown1 := Lib.hid (hownA.alloc (.cells #[eU 0, eU 0, eU (N)] 31)); clear hownA; have hm1 := Lib.hid (three_new wA1 (N)); have hs1 := EA1.out.size)
    | (at_builtin; refine wpList_append_own _ rfl _ _ 22 rfl w3.heap.size 31 i0 _ 3 24 Try.underlying22 hi hz0 hz1 hz2 rfl (by decide) vA1 (0 + xs.length) ([] ++ cvC xs) rfl hown1.out ⟨wA1.heap.size, 0, none⟩ 1 1 [eU 0, eU 0, eU (N)] rfl rfl hm1.out ho1.out hmx2 hby2 (by simp; omega) ?_; intro vB1 wB1 hownB hgrowB _; have EB1 := Lib.hid ((EA1.out.alloc EA1.out.size (.cells #[eU 0, eU 0, eU (N)] 31)).grown hgrowB (by simp; omega) (fun j e => (hown1.out.lt j e).1)); clear hgrowB hown1 hm1; obtain ⟨g1, cap1, rfl, hIs1⟩ := row_line xs (N) hownB; clear hownB))
  replace T := Lib.hid (up T.out EB1.out T.out.size)
  replace hIs1 := Lib.hid hIs1
  have hR2 := World.ownsRow_made (base := wB1.heap.size) (e := 31) (size := 3) wB1 #[] 0 (Nat.le_refl _) (by decide) rfl
  have ho2 := Lib.hid (three_one (N + 1))
  have hn2 := Lib.hid (hdd.out (wB1.alloc (.cells #[] 31)) (up T.out (up1 wB1 _) T.out.size))
  go_upto_region 12 with (first
    | (at_builtin; refine wpList_append_own _ rfl _ _ 22 rfl wB1.heap.size 31 i0 _ 3 24 Try.underlying22 hi hz0 hz1 hz2 rfl (by decide) (.slice (some ⟨wB1.heap.size, 0, none⟩) 0 0) 0 [] rfl hR2 ad xs.length c (cvC xs) rfl hl3 hn2.out ho3.out hmx hby (by simp) ?_; intro vA2 wA2 hownA hgrowA _; have EA2 := Lib.hid (((Below.refl wB1.heap.size wB1).alloc (Nat.le_refl _) (.cells #[] 31)).grown hgrowA (by simp) (fun j e => by simp [Value.ownBlock] at e; omega)); clear hgrowA; have hown2 := Lib.hid (hownA.alloc (.cells #[eU 0, eU 0, eU (N + 1)] 31)); clear hownA; have hm2 := Lib.hid (three_new wA2 (N + 1)); have hs2 := EA2.out.size)
    | (at_builtin; refine wpList_append_own _ rfl _ _ 22 rfl wB1.heap.size 31 i0 _ 3 24 Try.underlying22 hi hz0 hz1 hz2 rfl (by decide) vA2 (0 + xs.length) ([] ++ cvC xs) rfl hown2.out ⟨wA2.heap.size, 0, none⟩ 1 1 [eU 0, eU 0, eU (N + 1)] rfl rfl hm2.out ho2.out hmx2 hby2 (by simp; omega) ?_; intro vB2 wB2 hownB hgrowB _; have EB2 := Lib.hid ((EA2.out.alloc EA2.out.size (.cells #[eU 0, eU 0, eU (N + 1)] 31)).grown hgrowB (by simp; omega) (fun j e => (hown2.out.lt j e).1)); clear hgrowB hown2 hm2; obtain ⟨g2, cap2, rfl, hIs2⟩ := row_line xs (N + 1) hownB; clear hownB))
  replace T := Lib.hid (up T.out EB2.out T.out.size)
  replace hIs2 := Lib.hid hIs2
  replace hIs1 := Lib.hid (hIs1.out.below EB2.out)
  have D1 := K1.out _ _ _ _ hIs1.out
  go_wp2_with (first
    | (go_at_call 17; (with_reducible refine D1.mono ?_); rintro e w9 ⟨rfl, hb⟩; replace T := Lib.hid (up T.out hb T.out.size); have D2 := K2.out _ _ _ _ (hIs2.out.below hb); clear hb D1)
    | (go_at_call 17; (with_reducible refine D2.mono ?_); rintro e w10 ⟨rfl, hb⟩; replace T := Lib.hid (up T.out hb T.out.size); clear hb))
  go_ret
  exact ⟨rfl, T.out⟩
set_option maxRecDepth 100000 in
set_option maxHeartbeats 4000000 in
theorem SumsRoom9_nil_max (xs : List Cv) (r N : Int) (ex : xs = []) (c : Nat) (w : World) (hr : Word r)
    (hA : ∀ w, Calls Try.prog 23 #[] w fun e w' => e = .returned (.bool true) ∧ Below w.heap.size w w')
    (hS : ∀ w', Below w.heap.size w w' → Calls Try.prog 19 #[.slice none 0 c, .int .u64 r] w' fun e w'' => e = .returned (.tuple #[.int .u64 N, .bool true]) ∧ Below w'.heap.size w' w'')
    (hK : ∀ w', Below w.heap.size w w' → Calls Try.prog 17 #[.slice none 0 c, .int .u64 r] w' fun e w'' => e = .returned (.bool true) ∧ Below w'.heap.size w' w'')
    (hKP : ∀ (ys : List Cv) (b : Bool) (a : Option Addr) (k c : Nat) (w' : World), (∀ v ∈ ys, v.word) → ys.length ≤ 9 → IsCvs w' a k c ys → (b = true ↔ kept ys r) → Calls Try.prog 17 #[.slice a k c, .int .u64 r] w' fun e w'' => e = .returned (.bool b) ∧ Below w'.heap.size w' w'')
    (N0 : 0 ≤ N) (hN : N = 1048576) (hk1 : kept (xs ++ [⟨0, 0, N⟩]) r) :
    Calls Try.prog 9 #[.slice none 0 c, .int .u64 r] w fun e w' => e = .returned (.bool true) ∧ Below w.heap.size w w' := by
  have hx : ∀ c ∈ xs, c.word := by subst ex; simp
  have hn : xs.length ≤ 8 := by subst ex; simp
  replace ex := Lib.hid ex
  have hN1 : N ≤ 1048576 := by omega
  have hNe : (N == 1048576) = true := by simp [hN]
  have hNg : ¬ 1048576 < N := by omega
  have K1 := Lib.hid (fun a k c w' h => hKP (xs ++ [⟨0, 0, N⟩]) true a k c w' (line_words hx ⟨by omega, by omega⟩) (by simp; omega) h (by simp [hk1]))
  have hw1 : IntKind.u64.wrap (N + 1) = N + 1 := IntWalk.u64_in _ (by omega)
  have hlen : ¬ (8 : Int) < (xs.length : Int) := by omega
  obtain ⟨i0, hi, hz0, hz1, hz2⟩ := info_parts infoC
  have T := Below.refl w.heap.size w
  clear hk1 hKP hN
  replace hx := Lib.hid hx
  go_enter Try.func9, Try.ntmps9
  go_upto_region 10 with (first
    | (go_at_call 23; (with_reducible refine (hA _).mono ?_); rintro e w1 ⟨rfl, hb⟩; replace T := up T hb T.size; clear hb)
    | (go_at_call 19; (with_reducible refine (hS _ T).mono ?_); rintro e w2 ⟨rfl, hb⟩; replace T := up T hb T.size; clear hb)
    | (go_at_call 17; (with_reducible refine (hK _ T).mono ?_); rintro e w3 ⟨rfl, hb⟩; replace T := up T hb T.size; clear hb))
  replace T := Lib.hid T
  clear hA hS hK
  have hR1 := World.ownsRow_made (base := w3.heap.size) (e := 31) (size := 3) w3 #[] 0 (Nat.le_refl _) (by decide) rfl
  have ho1 := Lib.hid (three_one (N))
  have hown1 := Lib.hid (hR1.alloc (.cells #[eU 0, eU 0, eU (N)] 31))
  obtain ⟨wA1, eA1⟩ : ∃ wA, w3.alloc (.cells #[] 31) = wA := ⟨_, rfl⟩
  have hs1 : wA1.heap.size = w3.heap.size + 1 := by rw [← eA1]; simp
  have EA1 := Lib.hid (up1 w3 (.cells #[] 31))
  rw [eA1] at hown1 EA1
  have hm1 := Lib.hid (three_new wA1 (N))
  rw [hs1] at hm1
  clear hR1
  go_upto_region 11 with (first
    | (at_builtin; refine wpList_append_own _ rfl _ _ 22 rfl w3.heap.size 31 i0 _ 3 24 Try.underlying22 hi hz0 hz1 hz2 rfl (by decide) (.slice (some ⟨w3.heap.size, 0, none⟩) 0 0) 0 [] rfl hown1.out ⟨w3.heap.size + 1, 0, none⟩ 1 1 [eU 0, eU 0, eU (N)] rfl rfl hm1.out ho1.out (by decide) (by decide) (by simp; omega) ?_; intro vB1 wB1 hownB hgrowB _; have EB1 := Lib.hid ((EA1.out.alloc EA1.out.size (.cells #[eU 0, eU 0, eU (N)] 31)).grown hgrowB (by simp; omega) (fun j e => (hown1.out.lt j e).1)); clear hgrowB hown1 hm1; obtain ⟨g1, cap1, rfl, hIs1⟩ := row_line_nil xs ex.out (N) hownB; clear hownB))
  replace T := Lib.hid (up T.out EB1.out T.out.size)
  replace hIs1 := Lib.hid hIs1
  have hR2 := World.ownsRow_made (base := wB1.heap.size) (e := 31) (size := 3) wB1 #[] 0 (Nat.le_refl _) (by decide) rfl
  have ho2 := Lib.hid (three_one (N + 1))
  have hown2 := Lib.hid (hR2.alloc (.cells #[eU 0, eU 0, eU (N + 1)] 31))
  obtain ⟨wA2, eA2⟩ : ∃ wA, wB1.alloc (.cells #[] 31) = wA := ⟨_, rfl⟩
  have hs2 : wA2.heap.size = wB1.heap.size + 1 := by rw [← eA2]; simp
  have EA2 := Lib.hid (up1 wB1 (.cells #[] 31))
  rw [eA2] at hown2 EA2
  have hm2 := Lib.hid (three_new wA2 (N + 1))
  rw [hs2] at hm2
  clear hR2
  go_upto_region 12 with (first
    | (at_builtin; refine wpList_append_own _ rfl _ _ 22 rfl wB1.heap.size 31 i0 _ 3 24 Try.underlying22 hi hz0 hz1 hz2 rfl (by decide) (.slice (some ⟨wB1.heap.size, 0, none⟩) 0 0) 0 [] rfl hown2.out ⟨wB1.heap.size + 1, 0, none⟩ 1 1 [eU 0, eU 0, eU (N + 1)] rfl rfl hm2.out ho2.out (by decide) (by decide) (by simp; omega) ?_; intro vB2 wB2 hownB hgrowB _; have EB2 := Lib.hid ((EA2.out.alloc EA2.out.size (.cells #[eU 0, eU 0, eU (N + 1)] 31)).grown hgrowB (by simp; omega) (fun j e => (hown2.out.lt j e).1)); clear hgrowB hown2 hm2; obtain ⟨g2, cap2, rfl, hIs2⟩ := row_line_nil xs ex.out (N + 1) hownB; clear hownB))
  replace T := Lib.hid (up T.out EB2.out T.out.size)
  replace hIs2 := Lib.hid hIs2
  replace hIs1 := Lib.hid (hIs1.out.below EB2.out)
  have D1 := K1.out _ _ _ _ hIs1.out
  go_wp2_with (first
    | (go_at_call 17; (with_reducible refine D1.mono ?_); rintro e w9 ⟨rfl, hb⟩; replace T := Lib.hid (up T.out hb T.out.size); clear hb))
  go_ret
  exact ⟨rfl, T.out⟩
set_option maxRecDepth 100000 in
set_option maxHeartbeats 4000000 in
theorem SumsRoom9_nil_less (xs : List Cv) (r N : Int) (ex : xs = []) (c : Nat) (w : World) (hr : Word r)
    (hA : ∀ w, Calls Try.prog 23 #[] w fun e w' => e = .returned (.bool true) ∧ Below w.heap.size w w')
    (hS : ∀ w', Below w.heap.size w w' → Calls Try.prog 19 #[.slice none 0 c, .int .u64 r] w' fun e w'' => e = .returned (.tuple #[.int .u64 N, .bool true]) ∧ Below w'.heap.size w' w'')
    (hK : ∀ w', Below w.heap.size w w' → Calls Try.prog 17 #[.slice none 0 c, .int .u64 r] w' fun e w'' => e = .returned (.bool true) ∧ Below w'.heap.size w' w'')
    (hKP : ∀ (ys : List Cv) (b : Bool) (a : Option Addr) (k c : Nat) (w' : World), (∀ v ∈ ys, v.word) → ys.length ≤ 9 → IsCvs w' a k c ys → (b = true ↔ kept ys r) → Calls Try.prog 17 #[.slice a k c, .int .u64 r] w' fun e w'' => e = .returned (.bool b) ∧ Below w'.heap.size w' w'')
    (N0 : 0 ≤ N) (hN : N < 1048576) (hk1 : kept (xs ++ [⟨0, 0, N⟩]) r) (hk2 : ¬ kept (xs ++ [⟨0, 0, N + 1⟩]) r) :
    Calls Try.prog 9 #[.slice none 0 c, .int .u64 r] w fun e w' => e = .returned (.bool true) ∧ Below w.heap.size w w' := by
  have hx : ∀ c ∈ xs, c.word := by subst ex; simp
  have hn : xs.length ≤ 8 := by subst ex; simp
  replace ex := Lib.hid ex
  have hN1 : N ≤ 1048576 := by omega
  have hNe : (N == 1048576) = false := by simp; omega
  have hNg : ¬ 1048576 < N := by omega
  have K1 := Lib.hid (fun a k c w' h => hKP (xs ++ [⟨0, 0, N⟩]) true a k c w' (line_words hx ⟨by omega, by omega⟩) (by simp; omega) h (by simp [hk1]))
  have K2 := Lib.hid (fun a k c w' h => hKP (xs ++ [⟨0, 0, N + 1⟩]) false a k c w' (line_words hx ⟨by omega, by omega⟩) (by simp; omega) h (by simp [hk2]))
  clear hk2
  have hw1 : IntKind.u64.wrap (N + 1) = N + 1 := IntWalk.u64_in _ (by omega)
  have hlen : ¬ (8 : Int) < (xs.length : Int) := by omega
  obtain ⟨i0, hi, hz0, hz1, hz2⟩ := info_parts infoC
  have T := Below.refl w.heap.size w
  clear hk1 hKP hN
  replace hx := Lib.hid hx
  go_enter Try.func9, Try.ntmps9
  go_upto_region 10 with (first
    | (go_at_call 23; (with_reducible refine (hA _).mono ?_); rintro e w1 ⟨rfl, hb⟩; replace T := up T hb T.size; clear hb)
    | (go_at_call 19; (with_reducible refine (hS _ T).mono ?_); rintro e w2 ⟨rfl, hb⟩; replace T := up T hb T.size; clear hb)
    | (go_at_call 17; (with_reducible refine (hK _ T).mono ?_); rintro e w3 ⟨rfl, hb⟩; replace T := up T hb T.size; clear hb))
  replace T := Lib.hid T
  clear hA hS hK
  have hR1 := World.ownsRow_made (base := w3.heap.size) (e := 31) (size := 3) w3 #[] 0 (Nat.le_refl _) (by decide) rfl
  have ho1 := Lib.hid (three_one (N))
  have hown1 := Lib.hid (hR1.alloc (.cells #[eU 0, eU 0, eU (N)] 31))
  obtain ⟨wA1, eA1⟩ : ∃ wA, w3.alloc (.cells #[] 31) = wA := ⟨_, rfl⟩
  have hs1 : wA1.heap.size = w3.heap.size + 1 := by rw [← eA1]; simp
  have EA1 := Lib.hid (up1 w3 (.cells #[] 31))
  rw [eA1] at hown1 EA1
  have hm1 := Lib.hid (three_new wA1 (N))
  rw [hs1] at hm1
  clear hR1
  go_upto_region 11 with (first
    | (at_builtin; refine wpList_append_own _ rfl _ _ 22 rfl w3.heap.size 31 i0 _ 3 24 Try.underlying22 hi hz0 hz1 hz2 rfl (by decide) (.slice (some ⟨w3.heap.size, 0, none⟩) 0 0) 0 [] rfl hown1.out ⟨w3.heap.size + 1, 0, none⟩ 1 1 [eU 0, eU 0, eU (N)] rfl rfl hm1.out ho1.out (by decide) (by decide) (by simp; omega) ?_; intro vB1 wB1 hownB hgrowB _; have EB1 := Lib.hid ((EA1.out.alloc EA1.out.size (.cells #[eU 0, eU 0, eU (N)] 31)).grown hgrowB (by simp; omega) (fun j e => (hown1.out.lt j e).1)); clear hgrowB hown1 hm1; obtain ⟨g1, cap1, rfl, hIs1⟩ := row_line_nil xs ex.out (N) hownB; clear hownB))
  replace T := Lib.hid (up T.out EB1.out T.out.size)
  replace hIs1 := Lib.hid hIs1
  have hR2 := World.ownsRow_made (base := wB1.heap.size) (e := 31) (size := 3) wB1 #[] 0 (Nat.le_refl _) (by decide) rfl
  have ho2 := Lib.hid (three_one (N + 1))
  have hown2 := Lib.hid (hR2.alloc (.cells #[eU 0, eU 0, eU (N + 1)] 31))
  obtain ⟨wA2, eA2⟩ : ∃ wA, wB1.alloc (.cells #[] 31) = wA := ⟨_, rfl⟩
  have hs2 : wA2.heap.size = wB1.heap.size + 1 := by rw [← eA2]; simp
  have EA2 := Lib.hid (up1 wB1 (.cells #[] 31))
  rw [eA2] at hown2 EA2
  have hm2 := Lib.hid (three_new wA2 (N + 1))
  rw [hs2] at hm2
  clear hR2
  go_upto_region 12 with (first
    | (at_builtin; refine wpList_append_own _ rfl _ _ 22 rfl wB1.heap.size 31 i0 _ 3 24 Try.underlying22 hi hz0 hz1 hz2 rfl (by decide) (.slice (some ⟨wB1.heap.size, 0, none⟩) 0 0) 0 [] rfl hown2.out ⟨wB1.heap.size + 1, 0, none⟩ 1 1 [eU 0, eU 0, eU (N + 1)] rfl rfl hm2.out ho2.out (by decide) (by decide) (by simp; omega) ?_; intro vB2 wB2 hownB hgrowB _; have EB2 := Lib.hid ((EA2.out.alloc EA2.out.size (.cells #[eU 0, eU 0, eU (N + 1)] 31)).grown hgrowB (by simp; omega) (fun j e => (hown2.out.lt j e).1)); clear hgrowB hown2 hm2; obtain ⟨g2, cap2, rfl, hIs2⟩ := row_line_nil xs ex.out (N + 1) hownB; clear hownB))
  replace T := Lib.hid (up T.out EB2.out T.out.size)
  replace hIs2 := Lib.hid hIs2
  replace hIs1 := Lib.hid (hIs1.out.below EB2.out)
  have D1 := K1.out _ _ _ _ hIs1.out
  go_wp2_with (first
    | (go_at_call 17; (with_reducible refine D1.mono ?_); rintro e w9 ⟨rfl, hb⟩; replace T := Lib.hid (up T.out hb T.out.size); have D2 := K2.out _ _ _ _ (hIs2.out.below hb); clear hb D1)
    | (go_at_call 17; (with_reducible refine D2.mono ?_); rintro e w10 ⟨rfl, hb⟩; replace T := Lib.hid (up T.out hb T.out.size); clear hb))
  go_ret
  exact ⟨rfl, T.out⟩
end Go.Proofs.Ytmhmoebdojkbpaa
