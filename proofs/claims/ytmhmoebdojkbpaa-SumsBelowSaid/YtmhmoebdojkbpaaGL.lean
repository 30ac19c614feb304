/- SumsLate: the walk over its calls. No condition. SumsSpare: the walk over its calls. No condition. same: two rows of numbers that are the same. Conditions: words; rows below 2^62. The law's late: whether the program's sum at a tick is above the rate. Conditions: words; at most 1000 curves; what the program's At answers. SumsRoom: the walk over its calls. Conditions: words; at most 8 curves. Kept just if late at no corner, and all rests together are at most the rate. Conditions: words; a rate up to 2^20. SumsCorners: the walk over its calls. Conditions: words; at most 40 curves. SumsHave: the walk over its calls. Conditions: words; at most 140 curves. -/
import Derived.Test.YtmhmoebdojkbpaaGK
import Derived.Deep.RegionHeld3
import Derived.IntWalk
namespace Go.Proofs.Ytmhmoebdojkbpaa
open Go.RowKit W
set_option linter.unusedVariables false
theorem SumsLate_long (a : Option Addr) (n c : Nat) (r : Int) (w : World) (hn : 40 < n) :
    Calls Try.prog 4 #[.slice a n c, .int .u64 r] w fun e w' => e = .returned (.bool true) ∧ Below w.heap.size w w' := by
  have h : (40 : Int) < (n : Int) := by omega
  go_enter Try.func4, Try.ntmps4
  go_wp2
  go_ret
  exact ⟨rfl, Below.refl _ _⟩
set_option maxRecDepth 100000 in
set_option maxHeartbeats 1000000 in
theorem SumsLate_core (a : Option Addr) (n c : Nat) (r L : Int) (k : Bool) (w : World) (hn : n ≤ 40)
    (hP : ∀ w', Below w.heap.size w w' → Calls Try.prog 15 #[.slice a n c, .int .u64 r] w' fun e w'' => e = .returned (.int .u64 L) ∧ Below w'.heap.size w' w'')
    (hR : ∀ w', Below w.heap.size w w' → Calls Try.prog 16 #[.slice a n c, .int .u64 r] w' fun e w'' => e = .returned (.int .u64 L) ∧ Below w'.heap.size w' w'')
    (hK : ∀ w', Below w.heap.size w w' → Calls Try.prog 17 #[.slice a n c, .int .u64 r] w' fun e w'' => e = .returned (.bool k) ∧ Below w'.heap.size w' w'')
    (hKR : ∀ w', Below w.heap.size w w' → Calls Try.prog 18 #[.slice a n c, .int .u64 r] w' fun e w'' => e = .returned (.bool k) ∧ Below w'.heap.size w' w'') :
    Calls Try.prog 4 #[.slice a n c, .int .u64 r] w fun e w' => e = .returned (.bool true) ∧ Below w.heap.size w w' := by
  have h : ¬ (40 : Int) < (n : Int) := by omega
  have T := Below.refl w.heap.size w
  go_enter Try.func4, Try.ntmps4
  go_wp2_with (first
    | (go_at_call 15; (with_reducible refine (hP _ T).mono ?_); rintro e w1 ⟨rfl, hb⟩; replace T := up T hb T.size; clear hb)
    | (go_at_call 16; (with_reducible refine (hR _ T).mono ?_); rintro e w1 ⟨rfl, hb⟩; replace T := up T hb T.size; clear hb)
    | (go_at_call 17; (with_reducible refine (hK _ T).mono ?_); rintro e w1 ⟨rfl, hb⟩; replace T := up T hb T.size; clear hb)
    | (go_at_call 18; (with_reducible refine (hKR _ T).mono ?_); rintro e w1 ⟨rfl, hb⟩; replace T := up T hb T.size; clear hb))
  go_ret
  exact ⟨rfl, T⟩
end Go.Proofs.Ytmhmoebdojkbpaa
namespace Go.Proofs.Ytmhmoebdojkbpaa
open Go.RowKit W
set_option linter.unusedVariables false
theorem SumsSpare_long (a : Option Addr) (n c : Nat) (r f l s f' l' s' : Int) (w : World) (hn : 8 < n) :
    Calls Try.prog 5 #[.slice a n c, .int .u64 r, .agg #[.int .u64 f, .int .u64 l, .int .u64 s], .agg #[.int .u64 f', .int .u64 l', .int .u64 s']] w fun e w' => e = .returned (.bool true) ∧ Below w.heap.size w w' := by
  have h : (8 : Int) < (n : Int) := by omega
  go_enter Try.func5, Try.ntmps5
  go_wp2
  go_ret
  exact ⟨rfl, by first | exact Below.refl _ _ | exact up2 _ _ _⟩
set_option maxRecDepth 100000 in
set_option maxHeartbeats 1000000 in
theorem SumsSpare_core (a : Option Addr) (n c : Nat) (r f l s f' l' s' N : Int) (k b : Bool) (w : World) (hn : n ≤ 8)
    (hP : ∀ w', Below w.heap.size w w' → Calls Try.prog 19 #[.slice a n c, .int .u64 r] w' fun e w'' => e = .returned (.tuple #[.int .u64 N, .bool k]) ∧ Below w'.heap.size w' w'')
    (hR : ∀ w', Below w.heap.size w w' → Calls Try.prog 20 #[.slice a n c, .int .u64 r] w' fun e w'' => e = .returned (.tuple #[.int .u64 N, .bool k]) ∧ Below w'.heap.size w' w'')
    (hB : ∀ w', Calls Try.prog 21 #[.agg #[.int .u64 f, .int .u64 l, .int .u64 s], .agg #[.int .u64 f', .int .u64 l', .int .u64 s']] w' fun e w'' => e = .returned (.bool b) ∧ Below w'.heap.size w' w'')
    (hBR : ∀ w', Calls Try.prog 22 #[.agg #[.int .u64 f, .int .u64 l, .int .u64 s], .agg #[.int .u64 f', .int .u64 l', .int .u64 s']] w' fun e w'' => e = .returned (.bool b) ∧ Below w'.heap.size w' w'') :
    Calls Try.prog 5 #[.slice a n c, .int .u64 r, .agg #[.int .u64 f, .int .u64 l, .int .u64 s], .agg #[.int .u64 f', .int .u64 l', .int .u64 s']] w fun e w' => e = .returned (.bool true) ∧ Below w.heap.size w w' := by
  have h : ¬ (8 : Int) < (n : Int) := by omega
  have BA := (Box.new w 31 #[.int .u64 f, .int .u64 l, .int .u64 s]).alloc (.cells #[.int .u64 f', .int .u64 l', .int .u64 s'] 31)
  have BB := Box.new (w.alloc (.cells #[.int .u64 f, .int .u64 l, .int .u64 s] 31)) 31 #[.int .u64 f', .int .u64 l', .int .u64 s']
  simp only [World.size_alloc] at BB
  have T := up2 w (.cells #[.int .u64 f, .int .u64 l, .int .u64 s] 31) (.cells #[.int .u64 f', .int .u64 l', .int .u64 s'] 31)
  go_enter Try.func5, Try.ntmps5
  go_upto_region 5 with (first
    | (go_at_call 19; (with_reducible refine (hP _ T).mono ?_); rintro e w1 ⟨rfl, hb⟩; replace BA := BA.below hb; replace BB := BB.below hb; replace T := up T hb (by have := T.size; simp at this ⊢; omega); clear hb)
    | (go_at_call 20; (with_reducible refine (hR _ T).mono ?_); rintro e w2 ⟨rfl, hb⟩; replace BA := BA.below hb; replace BB := BB.below hb; replace T := up T hb (by have := T.size; simp at this ⊢; omega); clear hb))
  obtain ⟨c0, c1, c2, c3⟩ := BA.tri
  obtain ⟨d0, d1, d2, d3⟩ := BB.tri
  have E := Below.refl w2.heap.size w2
  have kk : (k == k) = true := by simp
  go_region_held3 (fun w' => (w'.cell? ⟨w.heap.size, 0, none⟩ = some (.int .u64 f) ∧ w'.cell? ⟨w.heap.size, 1, none⟩ = some (.int .u64 l) ∧ w'.cell? ⟨w.heap.size, 2, none⟩ = some (.int .u64 s)) ∧ (w'.cell? ⟨w.heap.size + 1, 0, none⟩ = some (.int .u64 f') ∧ w'.cell? ⟨w.heap.size + 1, 1, none⟩ = some (.int .u64 l') ∧ w'.cell? ⟨w.heap.size + 1, 2, none⟩ = some (.int .u64 s')))
    (first | exact ⟨⟨c1, c2, c3⟩, ⟨d1, d2, d3⟩⟩ | exact ⟨(BA.below E).tri.2, (BB.below E).tri.2⟩)
    (first
      | (go_at_call 21; (with_reducible refine (hB _).mono ?_); rintro e w3 ⟨rfl, hb⟩; (first | replace hb := undrew hb | replace hb := undrewN hb | skip); replace E := up E hb E.size; clear hb)
      | (go_at_call 22; (with_reducible refine (hBR _).mono ?_); rintro e w4 ⟨rfl, hb⟩; (first | replace hb := undrew hb | replace hb := undrewN hb | skip); replace E := up E hb E.size; clear hb))
  replace T := up T E T.size
  go_wp2
  go_ret
  exact ⟨rfl, T⟩
end Go.Proofs.Ytmhmoebdojkbpaa
namespace Go.Proofs.Ytmhmoebdojkbpaa
open Go.RowKit W
set_option linter.unusedVariables false
/-- Block b holds those numbers, from o on. -/
def NuRow (w : World) (b o : Nat) (cs : List Int) : Prop := b < w.heap.size ∧ ∀ j (h : j < cs.length), w.cell? ⟨b, o + j, none⟩ = some (.int .u64 cs[j])
theorem NuRow.below {W w : World} {b o : Nat} {cs : List Int} (h : NuRow W b o cs) (hb : Below W.heap.size W w) : NuRow w b o cs :=
  ⟨Nat.lt_of_lt_of_le h.1 hb.size, fun j hj => by rw [← h.2 j hj]; exact hb.cell h.1⟩
theorem kSame_of (cs : List Int) (b o c b' o' c' : Nat) (w : World) (h1 : NuRow w b o cs) (h2 : NuRow w b' o' cs) (hl : cs.length < 4611686018427387904) :
    Calls Try.prog 12 #[.slice (some ⟨b, o, none⟩) cs.length c, .slice (some ⟨b', o', none⟩) cs.length c'] w fun e w' => e = .returned (.bool true) ∧ Below w.heap.size w w' := by
  have hc1 := Lib.hid h1
  have hc2 := Lib.hid h2
  clear h1 h2
  go_enter Try.func12, Try.ntmps12
  go_wp2
  go_loopw [5] (fun s3 wr => ∃ j : Nat, s3 = .int .i64 (j : Int) ∧ j ≤ cs.length ∧ Below w.heap.size w wr) (fun s3 _ => cs.length - (intOf s3).toNat)
  case atStart => exact ⟨0, rfl, by omega, Below.refl _ _⟩
  case round =>
    obtain ⟨j, rfl, hj, T⟩ := hrel
    by_cases hlt : j < cs.length
    · have c1 := (hc1.out.below T).2 j hlt
      have c2 := (hc2.out.below T).2 j hlt
      have j1 : (j : Int) < (cs.length : Int) := by omega
      have j0 : (0 : Int) ≤ (j : Int) := by omega
      obtain ⟨d, hd⟩ : ∃ d, cs[j] = d := ⟨_, rfl⟩
      rw [hd] at c1 c2
      clear hd
      go_upto_region 6 with (fail)
      go_quiet (fail)
      replace T := below_drewN T nq
      generalize wr.drewN nq = w7 at T ⊢
      clear c1 c2
      go_wp2
      go_roundw
      case rel => exact ⟨j + 1, by go_num, by omega, T⟩
      case measure => simp [intOf]; omega
    · have e : j = cs.length := by omega
      subst e
      go_wp2
      go_ret
      exact ⟨rfl, T⟩
end Go.Proofs.Ytmhmoebdojkbpaa
namespace Go.Proofs.Ytmhmoebdojkbpaa
open Go.RowKit W
set_option linter.unusedVariables false
theorem kLateP_of (xs : List Cv) (rate t : Int) (a : Value) (w : World) (hx : ∀ c ∈ xs, c.word) (hr : Word rate) (ht : Word t) (hn : xs.length ≤ 1000)
    (hS : ∀ w', Below w.heap.size w w' → Calls Try.prog 10 #[a, .int .u64 t] w' fun e w'' => e = .returned (.agg #[.int .u64 (sW xs t / 18446744073709551616), .int .u64 (sW xs t % 18446744073709551616)]) ∧ Below w'.heap.size w' w'') :
    Calls Try.prog 24 #[a, .int .u64 rate, .int .u64 t] w fun e w' => e = .returned (.bool (decide (lateAt xs rate t))) ∧ Below w.heap.size w w' := by
  have s0 := sW_nn hx ht.1
  have s1 := sW_le hx ht
  have s2 : (xs.length : Int) * 19342813113834066795298816 ≤ 1000 * 19342813113834066795298816 := Int.mul_le_mul_of_nonneg_right (by omega) (by omega)
  have hM := fun w => Mul_any rate t w hr ht
  have hC := fun w => Cmp_any (sW xs t / 18446744073709551616) (sW xs t % 18446744073709551616) (xH rate t) (xL rate t) w (by unfold Word; omega) (xL_word rate t)
  have hS' := hS w (Below.refl _ _)
  clear hS
  have hz : ∃ z, cmpW (sW xs t / 18446744073709551616) (sW xs t % 18446744073709551616) (xH rate t) (xL rate t) = z ∧ decide (0 < z) = decide (lateAt xs rate t) := by
    unfold lateAt
    rcases Int.lt_trichotomy (sW xs t) (rate * t) with h | h | h
    · exact ⟨_, cmpW_lt (by rw [V_split, V_x]; exact h), by rw [decide_eq_false (show ¬ rate * t < sW xs t by omega)]; rfl⟩
    · exact ⟨_, cmpW_eq (by rw [V_split, V_x]; exact h.symm), by rw [decide_eq_false (show ¬ rate * t < sW xs t by omega)]; rfl⟩
    · exact ⟨_, cmpW_gt (by rw [V_split, V_x]; exact h), by rw [decide_eq_true (show rate * t < sW xs t by omega)]; rfl⟩
  obtain ⟨z, e1, e2⟩ := hz
  rw [e1] at hC
  obtain ⟨p, ep⟩ : ∃ p, decide (lateAt xs rate t) = p := ⟨_, rfl⟩
  rw [ep] at e2 ⊢
  clear e1 ep s0 s1 s2
  obtain ⟨sh, esh⟩ : ∃ x, sW xs t / 18446744073709551616 = x := ⟨_, rfl⟩
  obtain ⟨sl, esl⟩ : ∃ x, sW xs t % 18446744073709551616 = x := ⟨_, rfl⟩
  obtain ⟨mh, emh⟩ : ∃ x, xH rate t = x := ⟨_, rfl⟩
  obtain ⟨ml, eml⟩ : ∃ x, xL rate t = x := ⟨_, rfl⟩
  rw [esh, esl] at hS' hC
  rw [emh, eml] at hM hC
  clear esh esl emh eml
  go_enter Try.func24, Try.ntmps24
  go_wp2_with (first
    | (go_at_call 10; (with_reducible refine hS'.mono ?_); rintro e w1 ⟨rfl, hb1⟩)
    | (go_at_call 42; (with_reducible refine (hM _).mono ?_); rintro e w2 ⟨rfl, hb2⟩)
    | (go_at_call 27; (with_reducible refine (hC _).mono ?_); rintro e w3 ⟨rfl, hb3⟩))
  go_ret
  exact ⟨by simp [*], up (up hb1 hb2 hb1.size) hb3 (up hb1 hb2 hb1.size).size⟩
end Go.Proofs.Ytmhmoebdojkbpaa
namespace Go.Proofs.Ytmhmoebdojkbpaa
open Go.RowKit W
set_option linter.unusedVariables false
theorem SumsRoom_long (a : Option Addr) (n c : Nat) (r : Int) (w : World) (hn : 8 < n) (hA : ∀ w, Calls Try.prog 23 #[] w fun e w' => e = .returned (.bool true) ∧ Below w.heap.size w w') :
    Calls Try.prog 9 #[.slice a n c, .int .u64 r] w fun e w' => e = .returned (.bool true) ∧ Below w.heap.size w w' := by
  have h : (8 : Int) < (n : Int) := by omega
  go_enter Try.func9, Try.ntmps9
  go_wp2_with (go_at_call 23; (with_reducible refine (hA _).mono ?_); rintro e w1 ⟨rfl, hb⟩)
  go_ret
  exact ⟨rfl, hb⟩
theorem SumsRoom_no (a : Option Addr) (n c : Nat) (r : Int) (w : World) (hn : n ≤ 8) (hA : ∀ w, Calls Try.prog 23 #[] w fun e w' => e = .returned (.bool true) ∧ Below w.heap.size w w')
    (hS : ∀ w', Below w.heap.size w w' → Calls Try.prog 19 #[.slice a n c, .int .u64 r] w' fun e w'' => e = .returned (.tuple #[.int .u64 0, .bool false]) ∧ Below w'.heap.size w' w'')
    (hK : ∀ w', Below w.heap.size w w' → Calls Try.prog 17 #[.slice a n c, .int .u64 r] w' fun e w'' => e = .returned (.bool false) ∧ Below w'.heap.size w' w'') :
    Calls Try.prog 9 #[.slice a n c, .int .u64 r] w fun e w' => e = .returned (.bool true) ∧ Below w.heap.size w w' := by
  have h : ¬ (8 : Int) < (n : Int) := by omega
  have T := Below.refl w.heap.size w
  go_enter Try.func9, Try.ntmps9
  go_wp2_with (first
    | (go_at_call 23; (with_reducible refine (hA _).mono ?_); rintro e w1 ⟨rfl, hb⟩; replace T := up T hb T.size; clear hb)
    | (go_at_call 19; (with_reducible refine (hS _ T).mono ?_); rintro e w2 ⟨rfl, hb⟩; replace T := up T hb T.size; clear hb)
    | (go_at_call 17; (with_reducible refine (hK _ T).mono ?_); rintro e w3 ⟨rfl, hb⟩; replace T := up T hb T.size; clear hb))
  go_ret
  exact ⟨rfl, T⟩
set_option maxRecDepth 100000 in
set_option maxHeartbeats 4000000 in
theorem SumsRoom_some_max (xs : List Cv) (r N : Int) (ad : Addr) (c : Nat) (w : World) (hx : ∀ c ∈ xs, c.word) (hr : Word r) (hn : xs.length ≤ 8)
    (hd : ∀ w', Below w.heap.size w w' → ∀ j u, (cvC xs)[j]? = some u → w'.cell? (ad.add j) = some u)
    (hA : ∀ w, Calls Try.prog 23 #[] w fun e w' => e = .returned (.bool true) ∧ Below w.heap.size w w')
    (hS : ∀ w', Below w.heap.size w w' → Calls Try.prog 19 #[.slice (some ad) xs.length c, .int .u64 r] w' fun e w'' => e = .returned (.tuple #[.int .u64 N, .bool true]) ∧ Below w'.heap.size w' w'')
    (hK : ∀ w', Below w.heap.size w w' → Calls Try.prog 17 #[.slice (some ad) xs.length c, .int .u64 r] w' fun e w'' => e = .returned (.bool true) ∧ Below w'.heap.size w' w'')
    (hKP : ∀ (ys : List Cv) (b : Bool) (a : Option Addr) (k c : Nat) (w' : World), (∀ v ∈ ys, v.word) → ys.length ≤ 40 → IsCvs w' a k c ys → (b = true ↔ kept ys r) → Calls Try.prog 17 #[.slice a k c, .int .u64 r] w' fun e w'' => e = .returned (.bool b) ∧ Below w'.heap.size w' w'')
    (N0 : 0 ≤ N) (hN : N = 1048576) (hk1 : kept (xs ++ [⟨0, 0, N⟩]) r) :
    Calls Try.prog 9 #[.slice (some ad) xs.length c, .int .u64 r] w fun e w' => e = .returned (.bool true) ∧ Below w.heap.size w w' := by
  have hN1 : N ≤ 1048576 := by omega
  have hNe : (N == 1048576) = true := by simp [hN]
  have hNg : ¬ 1048576 < N := by omega
  have K1 := Lib.hid (fun a k c w' h => hKP (xs ++ [⟨0, 0, N⟩]) true a k c w' (line_words hx ⟨by omega, by omega⟩) (by simp; omega) h (by simp [hk1]))
  have hw1 : IntKind.u64.wrap (N + 1) = N + 1 := IntWalk.u64_in _ (by omega)
  have hlen : ¬ (8 : Int) < (xs.length : Int) := by omega
  have hl3 := cvC_length xs
  have ho3 := Lib.hid (cvC_one xs)
  have hdd := Lib.hid hd
  have hmx : 0 + xs.length ≤ maxLen := by unfold maxLen; omega
  have hby : (0 + xs.length) * 24 ≤ 140737488355328 := by omega
  have hmx2 : 0 + xs.length + 1 ≤ maxLen := by unfold maxLen; omega
  have hby2 : (0 + xs.length + 1) * 24 ≤ 140737488355328 := by omega
  clear hd
  obtain ⟨i0, hi, hz0, hz1, hz2⟩ := info_parts infoC
  have T := Below.refl w.heap.size w
  clear hk1 hKP hN
  replace hx := Lib.hid hx
  go_enter Try.func9, Try.ntmps9
  go_upto_region 10 with (first
    | (go_at_call 23; (with_reducible refine (hA _).mono ?_); rintro e w1 ⟨rfl, hb⟩; replace T := up T hb T.size; clear hb)
    | (go_at_call 19; (with_reducible refine (hS _ T).mono ?_); rintro e w2 ⟨rfl, hb⟩; replace T := up T hb T.size; clear hb)
    | (go_at_call 17; (with_reducible refine (hK _ T).mono ?_); rintro e w3 ⟨rfl, hb⟩; replace T := up T hb T.size; clear hb))
  replace T := Lib.hid T
  clear hA hS hK
  have hR1 := World.ownsRow_made (base := w3.heap.size) (e := 31) (size := 3) w3 #[] 0 (Nat.le_refl _) (by decide) rfl
  have ho1 := Lib.hid (three_one (N))
  have hn1 := Lib.hid (hdd.out (w3.alloc (.cells #[] 31)) (up T.out (up1 w3 _) T.out.size))
  go_upto_region 11 with (first
    | (at_builtin; refine wpList_append_own _ rfl _ _ 22 rfl w3.heap.size 31 i0 _ 3 24 Try.underlying22 hi hz0 hz1 hz2 rfl (by decide) (.slice (some ⟨w3.heap.size, 0, none⟩) 0 0) 0 [] rfl hR1 ad xs.length c (cvC xs) rfl hl3 hn1.out ho3.out hmx hby (by simp) ?_; intro vA1 wA1 hownA hgrowA _; have EA1 := Lib.hid (((Below.refl w3.heap.size w3).alloc (Nat.le_refl _) (.cells #[] 31)).grown hgrowA (by simp) (fun j e => by simp [Value.ownBlock] at e; omega)); clear hgrowA; have hown1 := Lib.hid (hownA.alloc (.cells #[eU 0, eU 0, eU (N)] 31)); clear hownA; have hm1 := Lib.hid (three_new wA1 (N)); have hs1 := EA1.out.size)
    | (at_builtin; refine wpList_append_own _ rfl _ _ 22 rfl w3.heap.size 31 i0 _ 3 24 Try.underlying22 hi hz0 hz1 hz2 rfl (by decide) vA1 (0 + xs.length) ([] ++ cvC xs) rfl hown1.out ⟨wA1.heap.size, 0, none⟩ 1 1 [eU 0, eU 0, eU (N)] rfl rfl hm1.out ho1.out hmx2 hby2 (by simp; omega) ?_; intro vB1 wB1 hownB hgrowB _; have EB1 := Lib.hid ((EA1.out.alloc EA1.out.size (.cells #[eU 0, eU 0, eU (N)] 31)).grown hgrowB (by simp; omega) (fun j e => (hown1.out.lt j e).1)); clear hgrowB hown1 hm1; obtain ⟨g1, cap1, rfl, hIs1⟩ := row_line xs (N) hownB; clear hownB))
  replace T := Lib.hid (up T.out EB1.out T.out.size)
  replace hIs1 := Lib.hid hIs1
  have hR2 := World.ownsRow_made (base := wB1.heap.size) (e := 31) (size := 3) wB1 #[] 0 (Nat.le_refl _) (by decide) rfl
  have ho2 := Lib.hid (three_one (N + 1))
  have hn2 := Lib.hid (hdd.out (wB1.alloc (.cells #[] 31)) (up T.out (up1 wB1 _) T.out.size))
  go_upto_region 12 with (first
    | (at_builtin; refine wpList_append_own _ rfl _ _ 22 rfl wB1.heap.size 31 i0 _ 3 24 Try.underlying22 hi hz0 hz1 hz2 rfl (by decide) (.slice (some ⟨wB1.heap.size, 0, none⟩) 0 0) 0 [] rfl hR2 ad xs.length c (cvC xs) rfl hl3 hn2.out ho3.out hmx hby (by simp) ?_; intro vA2 wA2 hownA hgrowA _; have EA2 := Lib.hid (((Below.refl wB1.heap.size wB1).alloc (Nat.le_refl _) (.cells #[] 31)).grown hgrowA (by simp) (fun j e => by simp [Value.ownBlock] at e; omega)); clear hgrowA; have hown2 := Lib.hid (hownA.alloc (.cells #[eU 0, eU 0, eU (N + 1)] 31)); clear hownA; have hm2 := Lib.hid (three_new wA2 (N + 1)); have hs2 := EA2.out.size)
    | (at_builtin; refine wpList_append_own _ rfl _ _ 22 rfl wB1.heap.size 31 i0 _ 3 24 Try.underlying22 hi hz0 hz1 hz2 rfl (by decide) vA2 (0 + xs.length) ([] ++ cvC xs) rfl hown2.out ⟨wA2.heap.size, 0, none⟩ 1 1 [eU 0, eU 0, eU (N + 1)] rfl rfl hm2.out ho2.out hmx2 hby2 (by simp; omega) ?_; intro vB2 wB2 hownB hgrowB _; have EB2 := Lib.hid ((EA2.out.alloc EA2.out.size (.cells #[eU 0, eU 0, eU (N + 1)] 31)).grown hgrowB (by simp; omega) (fun j e => (hown2.out.lt j e).1)); clear hgrowB hown2 hm2; obtain ⟨g2, cap2, rfl, hIs2⟩ := row_line xs (N + 1) hownB; clear hownB))
  replace T := Lib.hid (up T.out EB2.out T.out.size)
  replace hIs2 := Lib.hid hIs2
  replace hIs1 := Lib.hid (hIs1.out.below EB2.out)
  have D1 := K1.out _ _ _ _ hIs1.out
  go_wp2_with (first
    | (go_at_call 17; (with_reducible refine D1.mono ?_); rintro e w9 ⟨rfl, hb⟩; replace T := Lib.hid (up T.out hb T.out.size); clear hb))
  go_ret
  exact ⟨rfl, T.out⟩
set_option maxRecDepth 100000 in
set_option maxHeartbeats 4000000 in
theorem SumsRoom_some_less (xs : List Cv) (r N : Int) (ad : Addr) (c : Nat) (w : World) (hx : ∀ c ∈ xs, c.word) (hr : Word r) (hn : xs.length ≤ 8)
    (hd : ∀ w', Below w.heap.size w w' → ∀ j u, (cvC xs)[j]? = some u → w'.cell? (ad.add j) = some u)
    (hA : ∀ w, Calls Try.prog 23 #[] w fun e w' => e = .returned (.bool true) ∧ Below w.heap.size w w')
    (hS : ∀ w', Below w.heap.size w w' → Calls Try.prog 19 #[.slice (some ad) xs.length c, .int .u64 r] w' fun e w'' => e = .returned (.tuple #[.int .u64 N, .bool true]) ∧ Below w'.heap.size w' w'')
    (hK : ∀ w', Below w.heap.size w w' → Calls Try.prog 17 #[.slice (some ad) xs.length c, .int .u64 r] w' fun e w'' => e = .returned (.bool true) ∧ Below w'.heap.size w' w'')
    (hKP : ∀ (ys : List Cv) (b : Bool) (a : Option Addr) (k c : Nat) (w' : World), (∀ v ∈ ys, v.word) → ys.length ≤ 40 → IsCvs w' a k c ys → (b = true ↔ kept ys r) → Calls Try.prog 17 #[.slice a k c, .int .u64 r] w' fun e w'' => e = .returned (.bool b) ∧ Below w'.heap.size w' w'')
    (N0 : 0 ≤ N) (hN : N < 1048576) (hk1 : kept (xs ++ [⟨0, 0, N⟩]) r) (hk2 : ¬ kept (xs ++ [⟨0, 0, N + 1⟩]) r) :
    Calls Try.prog 9 #[.slice (some ad) xs.length c, .int .u64 r] w fun e w' => e = .returned (.bool true) ∧ Below w.heap.size w w' := by
  have hN1 : N ≤ 1048576 := by omega
  have hNe : (N == 1048576) = false := by simp; omega
  have hNg : ¬ 1048576 < N := by omega
  have K1 := Lib.hid (fun a k c w' h => hKP (xs ++ [⟨0, 0, N⟩]) true a k c w' (line_words hx ⟨by omega, by omega⟩) (by simp; omega) h (by simp [hk1]))
  have K2 := Lib.hid (fun a k c w' h => hKP (xs ++ [⟨0, 0, N + 1⟩]) false a k c w' (line_words hx ⟨by omega, by omega⟩) (by simp; omega) h (by simp [hk2]))
  clear hk2
  have hw1 : IntKind.u64.wrap (N + 1) = N + 1 := IntWalk.u64_in _ (by omega)
  have hlen : ¬ (8 : Int) < (xs.length : Int) := by omega
  have hl3 := cvC_length xs
  have ho3 := Lib.hid (cvC_one xs)
  have hdd := Lib.hid hd
  have hmx : 0 + xs.length ≤ maxLen := by unfold maxLen; omega
  have hby : (0 + xs.length) * 24 ≤ 140737488355328 := by omega
  have hmx2 : 0 + xs.length + 1 ≤ maxLen := by unfold maxLen; omega
  have hby2 : (0 + xs.length + 1) * 24 ≤ 140737488355328 := by omega
  clear hd
  obtain ⟨i0, hi, hz0, hz1, hz2⟩ := info_parts infoC
  have T := Below.refl w.heap.size w
  clear hk1 hKP hN
  replace hx := Lib.hid hx
  go_enter Try.func9, Try.ntmps9
  go_upto_region 10 with (first
    | (go_at_call 23; (with_reducible refine (hA _).mono ?_); rintro e w1 ⟨rfl, hb⟩; replace T := up T hb T.size; clear hb)
    | (go_at_call 19; (with_reducible refine (hS _ T).mono ?_); rintro e w2 ⟨rfl, hb⟩; replace T := up T hb T.size; clear hb)
    | (go_at_call 17; (with_reducible refine (hK _ T).mono ?_); rintro e w3 ⟨rfl, hb⟩; replace T := up T hb T.size; clear hb))
  replace T := Lib.hid T
  clear hA hS hK
  have hR1 := World.ownsRow_made (base := w3.heap.size) (e := 31) (size := 3) w3 #[] 0 (Nat.le_refl _) (by decide) rfl
  have ho1 := Lib.hid (three_one (N))
  have hn1 := Lib.hid (hdd.out (w3.alloc (.cells #[] 31)) (up T.out (up1 w3 _) T.out.size))
  go_upto_region 11 with (first
    | (at_builtin; refine wpList_append_own _ rfl _ _ 22 rfl w3.heap.size 31 i0 _ 3 24 Try.underlying22 hi hz0 hz1 hz2 rfl (by decide) (.slice (some ⟨w3.heap.size, 0, none⟩) 0 0) 0 [] rfl hR1 ad xs.length c (cvC xs) rfl hl3 hn1.out ho3.out hmx hby (by simp) ?_; intro vA1 wA1 hownA hgrowA _; have EA1 := Lib.hid (((Below.refl w3.heap.size w3).alloc (Nat.le_refl _) (.cells #[] 31)).grown hgrowA (by simp) (fun j e => by simp [Value.ownBlock] at e; omega)); clear hgrowA; have hown1 := Lib.hid (hownA.alloc (.cells #[eU 0, eU 0, eU (N)] 31)); clear hownA; have hm1 := Lib.hid (three_new wA1 (N)); have hs1 := EA1.out.size)
    | (at_builtin; refine wpList_append_own _ rfl _ _ 22 rfl w3.heap.size 31 i0 _ 3 24 Try.underlying22 hi hz0 hz1 hz2 rfl (by decide) vA1 (0 + xs.length) ([] ++ cvC xs) rfl hown1.out ⟨wA1.heap.size, 0, none⟩ 1 1 [eU 0, eU 0, eU (N)] rfl rfl hm1.out ho1.out hmx2 hby2 (by simp; omega) ?_; intro vB1 wB1 hownB hgrowB _; have EB1 := Lib.hid ((EA1.out.alloc EA1.out.size (.cells #[eU 0, eU 0, eU (N)] 31)).grown hgrowB (by simp; omega) (fun j e => (hown1.out.lt j e).1)); clear hgrowB hown1 hm1; obtain ⟨g1, cap1, rfl, hIs1⟩ := row_line xs (N) hownB; clear hownB))
  replace T := Lib.hid (up T.out EB1.out T.out.size)
  replace hIs1 := Lib.hid hIs1
  have hR2 := World.ownsRow_made (base := wB1.heap.size) (e := 31) (size := 3) wB1 #[] 0 (Nat.le_refl _) (by decide) rfl
  have ho2 := Lib.hid (three_one (N + 1))
  have hn2 := Lib.hid (hdd.out (wB1.alloc (.cells #[] 31)) (up T.out (up1 wB1 _) T.out.size))
  go_upto_region 12 with (first
    | (at_builtin; refine wpList_append_own _ rfl _ _ 22 rfl wB1.heap.size 31 i0 _ 3 24 Try.underlying22 hi hz0 hz1 hz2 rfl (by decide) (.slice (some ⟨wB1.heap.size, 0, none⟩) 0 0) 0 [] rfl hR2 ad xs.length c (cvC xs) rfl hl3 hn2.out ho3.out hmx hby (by simp) ?_; intro vA2 wA2 hownA hgrowA _; have EA2 := Lib.hid (((Below.refl wB1.heap.size wB1).alloc (Nat.le_refl _) (.cells #[] 31)).grown hgrowA (by simp) (fun j e => by simp [Value.ownBlock] at e; omega)); clear hgrowA; have hown2 := Lib.hid (hownA.alloc (.cells #[eU 0, eU 0, eU (N + 1)] 31)); clear hownA; have hm2 := Lib.hid (three_new wA2 (N + 1)); have hs2 := EA2.out.size)
    | (at_builtin; refine wpList_append_own _ rfl _ _ 22 rfl wB1.heap.size 31 i0 _ 3 24 Try.underlying22 hi hz0 hz1 hz2 rfl (by decide) vA2 (0 + xs.length) ([] ++ cvC xs) rfl hown2.out ⟨wA2.heap.size, 0, none⟩ 1 1 [eU 0, eU 0, eU (N + 1)] rfl rfl hm2.out ho2.out hmx2 hby2 (by simp; omega) ?_; intro vB2 wB2 hownB hgrowB _; have EB2 := Lib.hid ((EA2.out.alloc EA2.out.size (.cells #[eU 0, eU 0, eU (N + 1)] 31)).grown hgrowB (by simp; omega) (fun j e => (hown2.out.lt j e).1)); clear hgrowB hown2 hm2; obtain ⟨g2, cap2, rfl, hIs2⟩ := row_line xs (N + 1) hownB; clear hownB))
  replace T := Lib.hid (up T.out EB2.out T.out.size)
  replace hIs2 := Lib.hid hIs2
  replace hIs1 := Lib.hid (hIs1.out.below EB2.out)
  have D1 := K1.out _ _ _ _ hIs1.out
  go_wp2_with (first
    | (go_at_call 17; (with_reducible refine D1.mono ?_); rintro e w9 ⟨rfl, hb⟩; replace T := Lib.hid (up T.out hb T.out.size); have D2 := K2.out _ _ _ _ (hIs2.out.below hb); clear hb D1)
    | (go_at_call 17; (with_reducible refine D2.mono ?_); rintro e w10 ⟨rfl, hb⟩; replace T := Lib.hid (up T.out hb T.out.size); clear hb))
  go_ret
  exact ⟨rfl, T.out⟩
set_option maxRecDepth 100000 in
set_option maxHeartbeats 4000000 in
theorem SumsRoom_nil_max (xs : List Cv) (r N : Int) (ex : xs = []) (c : Nat) (w : World) (hr : Word r)
    (hA : ∀ w, Calls Try.prog 23 #[] w fun e w' => e = .returned (.bool true) ∧ Below w.heap.size w w')
    (hS : ∀ w', Below w.heap.size w w' → Calls Try.prog 19 #[.slice none 0 c, .int .u64 r] w' fun e w'' => e = .returned (.tuple #[.int .u64 N, .bool true]) ∧ Below w'.heap.size w' w'')
    (hK : ∀ w', Below w.heap.size w w' → Calls Try.prog 17 #[.slice none 0 c, .int .u64 r] w' fun e w'' => e = .returned (.bool true) ∧ Below w'.heap.size w' w'')
    (hKP : ∀ (ys : List Cv) (b : Bool) (a : Option Addr) (k c : Nat) (w' : World), (∀ v ∈ ys, v.word) → ys.length ≤ 40 → IsCvs w' a k c ys → (b = true ↔ kept ys r) → Calls Try.prog 17 #[.slice a k c, .int .u64 r] w' fun e w'' => e = .returned (.bool b) ∧ Below w'.heap.size w' w'')
    (N0 : 0 ≤ N) (hN : N = 1048576) (hk1 : kept (xs ++ [⟨0, 0, N⟩]) r) :
    Calls Try.prog 9 #[.slice none 0 c, .int .u64 r] w fun e w' => e = .returned (.bool true) ∧ Below w.heap.size w w' := by
  have hx : ∀ c ∈ xs, c.word := by subst ex; simp
  have hn : xs.length ≤ 8 := by subst ex; simp
  replace ex := Lib.hid ex
  have hN1 : N ≤ 1048576 := by omega
  have hNe : (N == 1048576) = true := by simp [hN]
  have hNg : ¬ 1048576 < N := by omega
  have K1 := Lib.hid (fun a k c w' h => hKP (xs ++ [⟨0, 0, N⟩]) true a k c w' (line_words hx ⟨by omega, by omega⟩) (by simp; omega) h (by simp [hk1]))
  have hw1 : IntKind.u64.wrap (N + 1) = N + 1 := IntWalk.u64_in _ (by omega)
  have hlen : ¬ (8 : Int) < (xs.length : Int) := by omega
  obtain ⟨i0, hi, hz0, hz1, hz2⟩ := info_parts infoC
  have T := Below.refl w.heap.size w
  clear hk1 hKP hN
  replace hx := Lib.hid hx
  go_enter Try.func9, Try.ntmps9
  go_upto_region 10 with (first
    | (go_at_call 23; (with_reducible refine (hA _).mono ?_); rintro e w1 ⟨rfl, hb⟩; replace T := up T hb T.size; clear hb)
    | (go_at_call 19; (with_reducible refine (hS _ T).mono ?_); rintro e w2 ⟨rfl, hb⟩; replace T := up T hb T.size; clear hb)
    | (go_at_call 17; (with_reducible refine (hK _ T).mono ?_); rintro e w3 ⟨rfl, hb⟩; replace T := up T hb T.size; clear hb))
  replace T := Lib.hid T
  clear hA hS hK
  have hR1 := World.ownsRow_made (base := w3.heap.size) (e := 31) (size := 3) w3 #[] 0 (Nat.le_refl _) (by decide) rfl
  have ho1 := Lib.hid (three_one (N))
  have hown1 := Lib.hid (hR1.alloc (.cells #[eU 0, eU 0, eU (N)] 31))
  obtain ⟨wA1, eA1⟩ : ∃ wA, w3.alloc (.cells #[] 31) = wA := ⟨_, rfl⟩
  have hs1 : wA1.heap.size = w3.heap.size + 1 := by rw [← eA1]; simp
  have EA1 := Lib.hid (up1 w3 (.cells #[] 31))
  rw [eA1] at hown1 EA1
  have hm1 := Lib.hid (three_new wA1 (N))
  rw [hs1] at hm1
  clear hR1
  go_upto_region 11 with (first
    | (at_builtin; refine wpList_append_own _ rfl _ _ 22 rfl w3.heap.size 31 i0 _ 3 24 Try.underlying22 hi hz0 hz1 hz2 rfl (by decide) (.slice (some ⟨w3.heap.size, 0, none⟩) 0 0) 0 [] rfl hown1.out ⟨w3.heap.size + 1, 0, none⟩ 1 1 [eU 0, eU 0, eU (N)] rfl rfl hm1.out ho1.out (by decide) (by decide) (by simp; omega) ?_; intro vB1 wB1 hownB hgrowB _; have EB1 := Lib.hid ((EA1.out.alloc EA1.out.size (.cells #[eU 0, eU 0, eU (N)] 31)).grown hgrowB (by simp; omega) (fun j e => (hown1.out.lt j e).1)); clear hgrowB hown1 hm1; obtain ⟨g1, cap1, rfl, hIs1⟩ := row_line_nil xs ex.out (N) hownB; clear hownB))
  replace T := Lib.hid (up T.out EB1.out T.out.size)
  replace hIs1 := Lib.hid hIs1
  have hR2 := World.ownsRow_made (base := wB1.heap.size) (e := 31) (size := 3) wB1 #[] 0 (Nat.le_refl _) (by decide) rfl
  have ho2 := Lib.hid (three_one (N + 1))
  have hown2 := Lib.hid (hR2.alloc (.cells #[eU 0, eU 0, eU (N + 1)] 31))
  obtain ⟨wA2, eA2⟩ : ∃ wA, wB1.alloc (.cells #[] 31) = wA := ⟨_, rfl⟩
  have hs2 : wA2.heap.size = wB1.heap.size + 1 := by rw [← eA2]; simp
  have EA2 := Lib.hid (up1 wB1 (.cells #[] 31))
  rw [eA2] at hown2 EA2
  have hm2 := Lib.hid (three_new wA2 (N + 1))
  rw [hs2] at hm2
  clear hR2
  go_upto_region 12 with (first
    | (at_builtin; refine wpList_append_own _ rfl _ _ 22 rfl wB1.heap.size 31 i0 _ 3 24 Try.underlying22 hi hz0 hz1 hz2 rfl (by decide) (.slice (some ⟨wB1.heap.size, 0, none⟩) 0 0) 0 [] rfl hown2.out ⟨wB1.heap.size + 1, 0, none⟩ 1 1 [eU 0, eU 0, eU (N + 1)] rfl rfl hm2.out ho2.out (by decide) (by decide) (by simp; omega) ?_; intro vB2 wB2 hownB hgrowB _; have EB2 := Lib.hid ((EA2.out.alloc EA2.out.size (.cells #[eU 0, eU 0, eU (N + 1)] 31)).grown hgrowB (by simp; omega) (fun j e => (hown2.out.lt j e).1)); clear hgrowB hown2 hm2; obtain ⟨g2, cap2, rfl, hIs2⟩ := row_line_nil xs ex.out (N + 1) hownB; clear hownB))
  replace T := Lib.hid (up T.out EB2.out T.out.size)
  replace hIs2 := Lib.hid hIs2
  replace hIs1 := Lib.hid (hIs1.out.below EB2.out)
  have D1 := K1.out _ _ _ _ hIs1.out
  go_wp2_with (first
    | (go_at_call 17; (with_reducible refine D1.mono ?_); rintro e w9 ⟨rfl, hb⟩; replace T := Lib.hid (up T.out hb T.out.size); clear hb))
  go_ret
  exact ⟨rfl, T.out⟩
set_option maxRecDepth 100000 in
set_option maxHeartbeats 4000000 in
theorem SumsRoom_nil_less (xs : List Cv) (r N : Int) (ex : xs = []) (c : Nat) (w : World) (hr : Word r)
    (hA : ∀ w, Calls Try.prog 23 #[] w fun e w' => e = .returned (.bool true) ∧ Below w.heap.size w w')
    (hS : ∀ w', Below w.heap.size w w' → Calls Try.prog 19 #[.slice none 0 c, .int .u64 r] w' fun e w'' => e = .returned (.tuple #[.int .u64 N, .bool true]) ∧ Below w'.heap.size w' w'')
    (hK : ∀ w', Below w.heap.size w w' → Calls Try.prog 17 #[.slice none 0 c, .int .u64 r] w' fun e w'' => e = .returned (.bool true) ∧ Below w'.heap.size w' w'')
    (hKP : ∀ (ys : List Cv) (b : Bool) (a : Option Addr) (k c : Nat) (w' : World), (∀ v ∈ ys, v.word) → ys.length ≤ 40 → IsCvs w' a k c ys → (b = true ↔ kept ys r) → Calls Try.prog 17 #[.slice a k c, .int .u64 r] w' fun e w'' => e = .returned (.bool b) ∧ Below w'.heap.size w' w'')
    (N0 : 0 ≤ N) (hN : N < 1048576) (hk1 : kept (xs ++ [⟨0, 0, N⟩]) r) (hk2 : ¬ kept (xs ++ [⟨0, 0, N + 1⟩]) r) :
    Calls Try.prog 9 #[.slice none 0 c, .int .u64 r] w fun e w' => e = .returned (.bool true) ∧ Below w.heap.size w w' := by
  have hx : ∀ c ∈ xs, c.word := by subst ex; simp
  have hn : xs.length ≤ 8 := by subst ex; simp
  replace ex := Lib.hid ex
  have hN1 : N ≤ 1048576 := by omega
  have hNe : (N == 1048576) = false := by simp; omega
  have hNg : ¬ 1048576 < N := by omega
  have K1 := Lib.hid (fun a k c w' h => hKP (xs ++ [⟨0, 0, N⟩]) true a k c w' (line_words hx ⟨by omega, by omega⟩) (by simp; omega) h (by simp [hk1]))
  have K2 := Lib.hid (fun a k c w' h => hKP (xs ++ [⟨0, 0, N + 1⟩]) false a k c w' (line_words hx ⟨by omega, by omega⟩) (by simp; omega) h (by simp [hk2]))
  clear hk2
  have hw1 : IntKind.u64.wrap (N + 1) = N + 1 := IntWalk.u64_in _ (by omega)
  have hlen : ¬ (8 : Int) < (xs.length : Int) := by omega
  obtain ⟨i0, hi, hz0, hz1, hz2⟩ := info_parts infoC
  have T := Below.refl w.heap.size w
  clear hk1 hKP hN
  replace hx := Lib.hid hx
  go_enter Try.func9, Try.ntmps9
  go_upto_region 10 with (first
    | (go_at_call 23; (with_reducible refine (hA _).mono ?_); rintro e w1 ⟨rfl, hb⟩; replace T := up T hb T.size; clear hb)
    | (go_at_call 19; (with_reducible refine (hS _ T).mono ?_); rintro e w2 ⟨rfl, hb⟩; replace T := up T hb T.size; clear hb)
    | (go_at_call 17; (with_reducible refine (hK _ T).mono ?_); rintro e w3 ⟨rfl, hb⟩; replace T := up T hb T.size; clear hb))
  replace T := Lib.hid T
  clear hA hS hK
  have hR1 := World.ownsRow_made (base := w3.heap.size) (e := 31) (size := 3) w3 #[] 0 (Nat.le_refl _) (by decide) rfl
  have ho1 := Lib.hid (three_one (N))
  have hown1 := Lib.hid (hR1.alloc (.cells #[eU 0, eU 0, eU (N)] 31))
  obtain ⟨wA1, eA1⟩ : ∃ wA, w3.alloc (.cells #[] 31) = wA := ⟨_, rfl⟩
  have hs1 : wA1.heap.size = w3.heap.size + 1 := by rw [← eA1]; simp
  have EA1 := Lib.hid (up1 w3 (.cells #[] 31))
  rw [eA1] at hown1 EA1
  have hm1 := Lib.hid (three_new wA1 (N))
  rw [hs1] at hm1
  clear hR1
  go_upto_region 11 with (first
    | (at_builtin; refine wpList_append_own _ rfl _ _ 22 rfl w3.heap.size 31 i0 _ 3 24 Try.underlying22 hi hz0 hz1 hz2 rfl (by decide) (.slice (some ⟨w3.heap.size, 0, none⟩) 0 0) 0 [] rfl hown1.out ⟨w3.heap.size + 1, 0, none⟩ 1 1 [eU 0, eU 0, eU (N)] rfl rfl hm1.out ho1.out (by decide) (by decide) (by simp; omega) ?_; intro vB1 wB1 hownB hgrowB _; have EB1 := Lib.hid ((EA1.out.alloc EA1.out.size (.cells #[eU 0, eU 0, eU (N)] 31)).grown hgrowB (by simp; omega) (fun j e => (hown1.out.lt j e).1)); clear hgrowB hown1 hm1; obtain ⟨g1, cap1, rfl, hIs1⟩ := row_line_nil xs ex.out (N) hownB; clear hownB))
  replace T := Lib.hid (up T.out EB1.out T.out.size)
  replace hIs1 := Lib.hid hIs1
  have hR2 := World.ownsRow_made (base := wB1.heap.size) (e := 31) (size := 3) wB1 #[] 0 (Nat.le_refl _) (by decide) rfl
  have ho2 := Lib.hid (three_one (N + 1))
  have hown2 := Lib.hid (hR2.alloc (.cells #[eU 0, eU 0, eU (N + 1)] 31))
  obtain ⟨wA2, eA2⟩ : ∃ wA, wB1.alloc (.cells #[] 31) = wA := ⟨_, rfl⟩
  have hs2 : wA2.heap.size = wB1.heap.size + 1 := by rw [← eA2]; simp
  have EA2 := Lib.hid (up1 wB1 (.cells #[] 31))
  rw [eA2] at hown2 EA2
  have hm2 := Lib.hid (three_new wA2 (N + 1))
  rw [hs2] at hm2
  clear hR2
  go_upto_region 12 with (first
    | (at_builtin; refine wpList_append_own _ rfl _ _ 22 rfl wB1.heap.size 31 i0 _ 3 24 Try.underlying22 hi hz0 hz1 hz2 rfl (by decide) (.slice (some ⟨wB1.heap.size, 0, none⟩) 0 0) 0 [] rfl hown2.out ⟨wB1.heap.size + 1, 0, none⟩ 1 1 [eU 0, eU 0, eU (N + 1)] rfl rfl hm2.out ho2.out (by decide) (by decide) (by simp; omega) ?_; intro vB2 wB2 hownB hgrowB _; have EB2 := Lib.hid ((EA2.out.alloc EA2.out.size (.cells #[eU 0, eU 0, eU (N + 1)] 31)).grown hgrowB (by simp; omega) (fun j e => (hown2.out.lt j e).1)); clear hgrowB hown2 hm2; obtain ⟨g2, cap2, rfl, hIs2⟩ := row_line_nil xs ex.out (N + 1) hownB; clear hownB))
  replace T := Lib.hid (up T.out EB2.out T.out.size)
  replace hIs2 := Lib.hid hIs2
  replace hIs1 := Lib.hid (hIs1.out.below EB2.out)
  have D1 := K1.out _ _ _ _ hIs1.out
  go_wp2_with (first
    | (go_at_call 17; (with_reducible refine D1.mono ?_); rintro e w9 ⟨rfl, hb⟩; replace T := Lib.hid (up T.out hb T.out.size); have D2 := K2.out _ _ _ _ (hIs2.out.below hb); clear hb D1)
    | (go_at_call 17; (with_reducible refine D2.mono ?_); rintro e w10 ⟨rfl, hb⟩; replace T := Lib.hid (up T.out hb T.out.size); clear hb))
  go_ret
  exact ⟨rfl, T.out⟩
end Go.Proofs.Ytmhmoebdojkbpaa
namespace Go.Proofs.Ytmhmoebdojkbpaa
open W
set_option linter.unusedVariables false
theorem corners_kept {xs : List Cv} {r : Int} (hw : ∀ c ∈ xs, c.word) (hr0 : 0 ≤ r) (hc : ∀ j (h : j < (corF xs).length), ¬ lateAt xs r (corF xs)[j]) (hs : sR xs ≤ r) : kept xs r := by
  have hl := (corF_length xs).2
  have at' : ∀ i (h : i < (corF xs).length), (dF xs)[i]'(by unfold dF; simp; omega) = (corF xs)[i] := fun i h => by unfold dF; rw [List.getElem_append_left h]
  have hdl : (dF xs).length = (corF xs).length + 1 := (dF_facts hw).1
  have step : ∀ i, 1 ≤ i → i ≤ (corF xs).length → LJ xs r i := by
    intro i
    induction i with
    | zero => intro h; omega
    | succ i ih =>
      intro h1 h2
      rcases Nat.eq_zero_or_pos i with e | e
      · subst e; exact LJ.start hw
      · exact LJ.next hw (ih e (by omega)) e (by omega) (by rw [at' i (by omega)]; exact hc i (by omega))
  have hlast := step (corF xs).length hl (Nat.le_refl _)
  obtain ⟨c1, c2, c3⟩ := corF_ok hw
  have hm : ∀ c ∈ xs, c.may → c.l ≤ (corF xs)[(corF xs).length - 1]'(by omega) := by
    intro c hcx hmay
    have hin : c.l ∈ corF xs := by
      by_cases z : c.l = 0
      · exact (c2 _).2 (.inl z)
      · exact (c2 _).2 (.inr ⟨c, hcx, hmay, z, rfl⟩)
    obtain ⟨j, hj, ej⟩ := List.mem_iff_getElem.1 hin
    rcases Nat.lt_or_ge j ((corF xs).length - 1) with q | q
    · have := pw_get c1 hj (show (corF xs).length - 1 < (corF xs).length by omega) q; omega
    · have e : j = (corF xs).length - 1 := by omega
      subst e; omega
  intro t t0 t1
  have k := hlast (by omega)
  rw [at' _ (by omega)] at k
  have m0 : 0 ≤ (corF xs)[(corF xs).length - 1]'(by omega) := by
    have := (dF_facts hw).2.1 ((corF xs).length - 1) (by omega)
    rw [at' _ (by omega)] at this; exact this.1
  obtain ⟨m, em⟩ : ∃ m, (corF xs)[(corF xs).length - 1]'(by omega) = m := ⟨_, rfl⟩
  rw [em] at hm k m0
  by_cases q : t ≤ m
  · exact k t t0 q
  · intro l
    have kl := k m m0 (Int.le_refl _)
    unfold lateAt at l kl
    rw [sW_behind hm (by omega)] at l
    have p : sR xs * (t - m) ≤ r * (t - m) := Int.mul_le_mul_of_nonneg_right hs (by omega)
    rw [Int.mul_sub r] at p
    omega
theorem kept_corF {xs : List Cv} {r : Int} (hw : ∀ c ∈ xs, c.word) (hr0 : 0 ≤ r) (hr : r ≤ 1048576) : kept xs r ↔ (∀ j (h : j < (corF xs).length), ¬ lateAt xs r (corF xs)[j]) ∧ sR xs ≤ r := by
  constructor
  · intro k
    refine ⟨fun j h => ?_, (kept_corners hw hr0 hr (sR_nn hw) (fun t t0 t1 => k t t0 (by omega))).1 k⟩
    have := (dF_facts hw).2.1 j (by rw [(dF_facts hw).1]; omega)
    have e : (dF xs)[j]'(by rw [(dF_facts hw).1]; omega) = (corF xs)[j] := by unfold dF; rw [List.getElem_append_left h]
    rw [e] at this
    exact k _ this.1 (by omega)
  · exact fun h => corners_kept hw hr0 h.1 h.2
theorem sR_append (a b : List Cv) : sR (a ++ b) = sR a + sR b := by
  induction a with
  | nil => simp [sR]
  | cons c l ih => simp [sR, ih]; omega
theorem sR_take {xs : List Cv} {k : Nat} (h : k < xs.length) : sR (xs.take (k + 1)) = sR (xs.take k) + (if xs[k].may then xs[k].r else 0) := by
  rw [List.take_succ_eq_append_getElem h, sR_append]; simp [sR]
theorem sR_le (xs : List Cv) : sR xs ≤ xs.length * 1048576 := by
  induction xs with
  | nil => simp [sR]
  | cons c l ih =>
    simp only [sR, List.length_cons]
    have : (if c.may then c.r else 0) ≤ 1048576 := by
      split
      · rename_i h; exact h.2.1
      · omega
    have e : ((l.length + 1 : Nat) : Int) * 1048576 = l.length * 1048576 + 1048576 := by omega
    rw [e]; omega
/-- Not late at the first k corners. -/
def okF (xs : List Cv) (r : Int) (cs : List Int) : Nat → Bool
  | 0 => true
  | k + 1 => okF xs r cs k && !decide (lateAt xs r (cs.getD k 0))
theorem okF_iff {xs : List Cv} {r : Int} {cs : List Int} (k : Nat) : okF xs r cs k = true ↔ ∀ j, j < k → ¬ lateAt xs r (cs.getD j 0) := by
  induction k with
  | zero => simp [okF]
  | succ k ih =>
    simp only [okF, Bool.and_eq_true, ih, Bool.not_eq_true', decide_eq_false_iff_not]
    constructor
    · rintro ⟨h1, h2⟩ j hj
      rcases Nat.lt_or_ge j k with q | q
      · exact h1 j q
      · have e : j = k := by omega
        subst e; exact h2
    · exact fun h => ⟨fun j hj => h j (by omega), h k (by omega)⟩
theorem kept_ok {xs : List Cv} {r : Int} (hw : ∀ c ∈ xs, c.word) (hr0 : 0 ≤ r) (hr : r ≤ 1048576) (kb : Bool) (hk : kb = true ↔ kept xs r) : kb = (okF xs r (corF xs) (corF xs).length && decide (sR xs ≤ r)) := by
  rw [Bool.eq_iff_iff, hk, kept_corF hw hr0 hr, Bool.and_eq_true, okF_iff, decide_eq_true_iff]
  constructor
  · rintro ⟨h1, h2⟩
    exact ⟨fun j hj => by simpa [List.getD, List.getElem?_eq_getElem hj] using h1 j hj, h2⟩
  · rintro ⟨h1, h2⟩
    exact ⟨fun j hj => by simpa [List.getD, List.getElem?_eq_getElem hj] using h1 j hj, h2⟩
end Go.Proofs.Ytmhmoebdojkbpaa
namespace Go.Proofs.Ytmhmoebdojkbpaa
open Go.RowKit W
set_option linter.unusedVariables false
theorem SumsCorners_long (a : Option Addr) (n c : Nat) (r t : Int) (w : World) (hn : 40 < n ∨ 9223372036854775808 ≤ t) (hA : ∀ w, Calls Try.prog 23 #[] w fun e w' => e = .returned (.bool true) ∧ Below w.heap.size w w') :
    Calls Try.prog 6 #[.slice a n c, .int .u64 r, .int .u64 t] w fun e w' => e = .returned (.bool true) ∧ Below w.heap.size w w' := by
  by_cases h : (40 : Int) < (n : Int)
  · go_enter Try.func6, Try.ntmps6
    go_wp2_with (go_at_call 23; (with_reducible refine (hA _).mono ?_); rintro e w1 ⟨rfl, hb⟩)
    go_ret
    exact ⟨rfl, hb⟩
  · have h2 : (9223372036854775808 : Int) ≤ t := by omega
    go_enter Try.func6, Try.ntmps6
    go_wp2_with (go_at_call 23; (with_reducible refine (hA _).mono ?_); rintro e w1 ⟨rfl, hb⟩)
    go_ret
    exact ⟨rfl, hb⟩
set_option maxRecDepth 100000 in
set_option maxHeartbeats 4000000 in
theorem SumsCorners_never (xs : List Cv) (a : Option Addr) (c : Nat) (r t N : Int) (kb : Bool) (w : World) (hx : ∀ c ∈ xs, c.word) (hr : Word r) (ht : Word t) (ht2 : t < 9223372036854775808) (hn : xs.length ≤ 40) (hcv : IsCvs w a xs.length c xs)
    (hA : ∀ w, Calls Try.prog 23 #[] w fun e w' => e = .returned (.bool true) ∧ Below w.heap.size w w')
    (hL : ∀ w', Below w.heap.size w w' → Calls Try.prog 15 #[.slice a xs.length c, .int .u64 r] w' fun e w'' => e = .returned (.int .u64 N) ∧ Below w'.heap.size w' w'')
    (hK : ∀ w', Below w.heap.size w w' → Calls Try.prog 17 #[.slice a xs.length c, .int .u64 r] w' fun e w'' => e = .returned (.bool kb) ∧ Below w'.heap.size w' w'')
    (hLt : ∀ t, Word t → ∀ w', Below w.heap.size w w' → Calls Try.prog 24 #[.slice a xs.length c, .int .u64 r, .int .u64 t] w' fun e w'' => e = .returned (.bool (decide (lateAt xs r t))) ∧ Below w'.heap.size w' w'')
    (hCo : ∀ w', Below w.heap.size w w' → Calls Try.prog 13 #[.slice a xs.length c] w' fun e w'' => (∃ g o cap, e = .returned (.slice (some ⟨g, o, none⟩) (corF xs).length cap) ∧ NuRow w'' g o (corF xs)) ∧ Below w'.heap.size w' w'')
    (hk : kb = true ↔ kept xs r) (hN : N = 9223372036854775808) (hNk : kb = true) (hNl : decide (lateAt xs r t) = false) :
    Calls Try.prog 6 #[.slice a xs.length c, .int .u64 r, .int .u64 t] w fun e w' => e = .returned (.bool true) ∧ Below w.heap.size w w' := by
  have hfin := Lib.hid (fun hr2 => kept_ok hx hr.1 hr2 kb hk)
  have hcs := Lib.hid (fun i (hi : i < (corF xs).length) => show 0 ≤ (corF xs)[i] ∧ (corF xs)[i] < 9223372036854775808 from by
    have h1 := (dF_facts hx).2.1 i (by rw [(dF_facts hx).1]; omega)
    have e : (dF xs)[i]'(by rw [(dF_facts hx).1]; omega) = (corF xs)[i] := by unfold dF; rw [List.getElem_append_left hi]
    rw [e] at h1; omega)
  have hclen := (corF_length xs).1
  obtain ⟨cs, ecs⟩ : ∃ cs, corF xs = cs := ⟨_, rfl⟩
  rw [ecs] at hfin hcs hCo hclen
  clear ecs
  have hlen : ¬ (40 : Int) < (xs.length : Int) := by omega
  have hnt : ¬ (9223372036854775808 : Int) ≤ t := by omega
  have hLT := hLt t ht
  replace hcv := Lib.hid hcv
  replace hx := Lib.hid hx
  have T := Below.refl w.heap.size w
  rw [hNl] at hLT
  subst hN
  rw [hNk] at hfin hK
  clear hk hNk hNl kb
  replace hLt := Lib.hid hLt
  go_enter Try.func6, Try.ntmps6
  go_upto_region 10 with (first
    | (go_at_call 23; (with_reducible refine (hA _).mono ?_); rintro e w1 ⟨rfl, hb⟩; replace T := up T hb T.size; clear hb)
    | (go_at_call 15; (with_reducible refine (hL _ T).mono ?_); rintro e w2 ⟨rfl, hb⟩; replace T := up T hb T.size; clear hb)
    | (go_at_call 17; (with_reducible refine (hK _ T).mono ?_); rintro e w3 ⟨rfl, hb⟩; replace T := up T hb T.size; clear hb)
    | (go_at_call 24; (with_reducible refine (hLT _ T).mono ?_); rintro e w4 ⟨rfl, hb⟩; replace T := up T hb T.size; clear hb))
  clear hL hLT
  go_upto_region 11 with (go_at_call 13; (with_reducible refine (hCo _ T).mono ?_); rintro e w5 ⟨⟨g, o, cap, rfl, hNu⟩, hb⟩; replace T := up T hb T.size; clear hb)
  replace T := Lib.hid T
  replace hNu := Lib.hid hNu
  go_wp2
  go_loopw [9, 11] (fun s9 s11 wr => ∃ i : Nat, s9 = .bool (okF xs r cs i) ∧ s11 = .int .i64 (i : Int) ∧ i ≤ cs.length ∧ Below w5.heap.size w5 wr) (fun _ s11 _ => cs.length - (intOf s11).toNat)
  case atStart => exact ⟨0, rfl, rfl, by omega, Below.refl _ _⟩
  case round =>
    obtain ⟨i, rfl, rfl, hi, E⟩ := hrel
    by_cases hlt : i < cs.length
    · have i0 : (0 : Int) ≤ (i : Int) := by omega
      have i1 : (i : Int) < (cs.length : Int) := by omega
      cases hok : okF xs r cs i with
      | false =>
        have hnx : okF xs r cs (i + 1) = false := by simp [okF, hok]
        go_wp2
        go_roundw
        case rel => exact ⟨i + 1, by rw [hnx], by go_num, by omega, E⟩
        case measure => simp [intOf]; omega
      | true =>
        have c1 := (hNu.out.below E).2 i hlt
        have hd := hcs.out i hlt
        have hgd : cs.getD i 0 = cs[i] := by simp [List.getD, List.getElem?_eq_getElem hlt]
        have hM := hLt.out cs[i] ⟨hd.1, by omega⟩ wr (up T.out E T.out.size)
        have hnx : okF xs r cs (i + 1) = !decide (lateAt xs r cs[i]) := by rw [okF, hok, hgd, Bool.true_and]
        obtain ⟨d, ed⟩ : ∃ d, cs[i] = d := ⟨_, rfl⟩
        rw [ed] at c1 hM hnx
        obtain ⟨p, ep⟩ : ∃ p, decide (lateAt xs r d) = p := ⟨_, rfl⟩
        rw [ep] at hM hnx
        clear hd hgd ed ep
        go_wp2_with (go_at_call 24; (with_reducible refine hM.mono ?_); rintro e w6 ⟨rfl, hb⟩)
        go_roundw
        case rel => exact ⟨i + 1, by rw [hnx], by go_num, by omega, up E hb E.size⟩
        case measure => simp [intOf]; omega
    · have ei : i = cs.length := by omega
      subst ei
      obtain ⟨ok, eok⟩ : ∃ ok, okF xs r cs cs.length = ok := ⟨_, rfl⟩
      rw [eok]
      have T6 := Lib.hid (up T.out E T.out.size)
      clear E
      go_wp2
      go_loopw [10, 12] (fun s10 s12 wq => ∃ i : Nat, s10 = .int .u64 (sR (xs.take i)) ∧ s12 = .int .i64 (i : Int) ∧ i ≤ xs.length ∧ Below w.heap.size w wq) (fun _ s12 _ => xs.length - (intOf s12).toNat)
      case atStart => exact ⟨0, by simp [sR], rfl, by omega, T6.out⟩
      case round =>
        obtain ⟨i, rfl, rfl, hi, Q⟩ := hrel
        by_cases hlt : i < xs.length
        · obtain ⟨b, o, rfl, hrow⟩ : ∃ b o, a = some ⟨b, o, none⟩ ∧ CvRow w b o xs := by
            rcases hcv.out.2.2 with h | h
            · omega
            · exact h
          obtain ⟨x1, x2, x3⟩ := (hrow.below Q).2 i hlt
          have i0 : (0 : Int) ≤ (i : Int) := by omega
          have i1 : (i : Int) < (xs.length : Int) := by omega
          obtain ⟨wf, wl, ws⟩ := hx.out xs[i] (List.getElem_mem hlt)
          have hM := fun w => may_any xs[i].f xs[i].l xs[i].r w wf wl ws
          have hmb : mayB xs[i].f xs[i].l xs[i].r = true ↔ xs[i].may := mayB_is
          have hst := sR_take hlt
          have hle := sR_le (xs.take (i + 1))
          have hnn : 0 ≤ sR (xs.take (i + 1)) := sR_nn (fun c hc => hx.out c (List.mem_of_mem_take hc))
          rw [List.length_take, Nat.min_eq_left (by omega)] at hle
          obtain ⟨f, ef⟩ : ∃ f, xs[i].f = f := ⟨_, rfl⟩
          obtain ⟨l, el⟩ : ∃ l, xs[i].l = l := ⟨_, rfl⟩
          obtain ⟨s, es⟩ : ∃ s, xs[i].r = s := ⟨_, rfl⟩
          rw [ef, el, es] at hM hmb
          rw [ef] at x1
          rw [el] at x2
          rw [es] at x3 hst
          obtain ⟨R, eR⟩ : ∃ R, sR (xs.take i) = R := ⟨_, rfl⟩
          rw [eR] at hst ⊢
          cases hm : mayB f l s with
          | false =>
            have hno : ¬ xs[i].may := fun h => by rw [hmb.2 h] at hm; cases hm
            rw [if_neg hno] at hst
            rw [hm] at hM
            have hst := Lib.hid (show sR (xs.take (i + 1)) = R by omega)
            clear ef el es hle hnn eR wf wl ws hmb hno
            go_wp2_with (go_at_call 25; (with_reducible refine (hM _).mono ?_); rintro e w7 ⟨rfl, hb⟩)
            go_roundw
            case rel => exact ⟨i + 1, by rw [hst.out], by go_num, by omega, up Q hb Q.size⟩
            case measure => simp [intOf]; omega
          | true =>
            rw [if_pos (hmb.1 hm)] at hst
            rw [hm] at hM
            rw [hst] at hle hnn
            have w1 : IntKind.u64.wrap (R + s) = R + s := IntWalk.u64_in _ (by omega)
            replace hst := Lib.hid hst
            have x3' := fun (w7 : World) (hb : Below wr.heap.size wr w7) => (((hrow.below Q).below (hb)).2 i hlt).2.2
            rw [es] at x3'
            clear ef el es hle hnn eR wf wl ws hmb
            go_upto_region 21 with (go_at_call 25; (with_reducible refine (hM _).mono ?_); rintro e w7 ⟨rfl, hb⟩)
            have x4 := x3' _ hb
            go_wp2
            go_roundw
            case rel => exact ⟨i + 1, by rw [hst.out], by go_num, by omega, up Q hb Q.size⟩
            case measure => simp [intOf]; omega
        · have ei : i = xs.length := by omega
          subst ei
          rw [List.take_length]
          have hKq := hK _ Q
          by_cases hg : 1048576 < r
          · go_wp2
            go_ret
            exact ⟨rfl, Q⟩
          · have hf := hfin.out (by omega)
            rw [eok] at hf
            obtain ⟨R, eR⟩ : ∃ R, sR xs = R := ⟨_, rfl⟩
            rw [eR] at hf ⊢
            replace eok := Lib.hid eok
            replace eR := Lib.hid eR
            rw [hf] at hKq
            clear hf hfin
            cases ok with
            | false =>
              go_wp2_with (go_at_call 17; (with_reducible refine hKq.mono ?_); rintro e w8 ⟨rfl, hb⟩)
              go_ret
              exact ⟨rfl, up Q hb Q.size⟩
            | true =>
              by_cases hRr : R ≤ r
              · rw [decide_eq_true hRr] at hKq
                go_wp2_with (go_at_call 17; (with_reducible refine hKq.mono ?_); rintro e w8 ⟨rfl, hb⟩)
                go_ret
                exact ⟨rfl, up Q hb Q.size⟩
              · rw [decide_eq_false hRr] at hKq
                go_wp2_with (go_at_call 17; (with_reducible refine hKq.mono ?_); rintro e w8 ⟨rfl, hb⟩)
                go_ret
                exact ⟨by simp [hRr], up Q hb Q.size⟩

set_option maxRecDepth 100000 in
set_option maxHeartbeats 4000000 in
theorem SumsCorners_some_true (xs : List Cv) (a : Option Addr) (c : Nat) (r t N : Int) (kb : Bool) (w : World) (hx : ∀ c ∈ xs, c.word) (hr : Word r) (ht : Word t) (ht2 : t < 9223372036854775808) (hn : xs.length ≤ 40) (hcv : IsCvs w a xs.length c xs)
    (hA : ∀ w, Calls Try.prog 23 #[] w fun e w' => e = .returned (.bool true) ∧ Below w.heap.size w w')
    (hL : ∀ w', Below w.heap.size w w' → Calls Try.prog 15 #[.slice a xs.length c, .int .u64 r] w' fun e w'' => e = .returned (.int .u64 N) ∧ Below w'.heap.size w' w'')
    (hK : ∀ w', Below w.heap.size w w' → Calls Try.prog 17 #[.slice a xs.length c, .int .u64 r] w' fun e w'' => e = .returned (.bool kb) ∧ Below w'.heap.size w' w'')
    (hLt : ∀ t, Word t → ∀ w', Below w.heap.size w w' → Calls Try.prog 24 #[.slice a xs.length c, .int .u64 r, .int .u64 t] w' fun e w'' => e = .returned (.bool (decide (lateAt xs r t))) ∧ Below w'.heap.size w' w'')
    (hCo : ∀ w', Below w.heap.size w w' → Calls Try.prog 13 #[.slice a xs.length c] w' fun e w'' => (∃ g o cap, e = .returned (.slice (some ⟨g, o, none⟩) (corF xs).length cap) ∧ NuRow w'' g o (corF xs)) ∧ Below w'.heap.size w' w'')
    (hk : kb = true ↔ kept xs r) (N0 : 0 < N) (N1 : N < 9223372036854775808) (hNk : kb = false) (hNl : decide (lateAt xs r N) = true) (hNm : decide (lateAt xs r (N - 1)) = false) (hT : decide (lateAt xs r t) = true) (hNt : N ≤ t) :
    Calls Try.prog 6 #[.slice a xs.length c, .int .u64 r, .int .u64 t] w fun e w' => e = .returned (.bool true) ∧ Below w.heap.size w w' := by
  have hfin := Lib.hid (fun hr2 => kept_ok hx hr.1 hr2 kb hk)
  have hcs := Lib.hid (fun i (hi : i < (corF xs).length) => show 0 ≤ (corF xs)[i] ∧ (corF xs)[i] < 9223372036854775808 from by
    have h1 := (dF_facts hx).2.1 i (by rw [(dF_facts hx).1]; omega)
    have e : (dF xs)[i]'(by rw [(dF_facts hx).1]; omega) = (corF xs)[i] := by unfold dF; rw [List.getElem_append_left hi]
    rw [e] at h1; omega)
  have hclen := (corF_length xs).1
  obtain ⟨cs, ecs⟩ : ∃ cs, corF xs = cs := ⟨_, rfl⟩
  rw [ecs] at hfin hcs hCo hclen
  clear ecs
  have hlen : ¬ (40 : Int) < (xs.length : Int) := by omega
  have hnt : ¬ (9223372036854775808 : Int) ≤ t := by omega
  have hLT := hLt t ht
  replace hcv := Lib.hid hcv
  replace hx := Lib.hid hx
  have T := Below.refl w.heap.size w
  have hL1 := hLt N ⟨by omega, by omega⟩
  have hL2 := hLt (N - 1) ⟨by omega, by omega⟩
  rw [hT] at hLT
  rw [hNl] at hL1
  rw [hNm] at hL2
  rw [hNk] at hfin hK
  have n1 : (N == 9223372036854775808) = false := by simp; omega
  have n2 : (N == 0) = false := by simp; omega
  have n3 : IntKind.u64.wrap (N - 1) = N - 1 := IntWalk.u64_in _ (by omega)
  have n4 : ¬ 9223372036854775808 < N := by omega
  have n5 : ¬ t < N := by omega
  clear hk hNk hNl hNm hT kb
  replace hLt := Lib.hid hLt
  go_enter Try.func6, Try.ntmps6
  go_upto_region 10 with (first
    | (go_at_call 23; (with_reducible refine (hA _).mono ?_); rintro e w1 ⟨rfl, hb⟩; replace T := up T hb T.size; clear hb)
    | (go_at_call 15; (with_reducible refine (hL _ T).mono ?_); rintro e w2 ⟨rfl, hb⟩; replace T := up T hb T.size; clear hb)
    | (go_at_call 17; (with_reducible refine (hK _ T).mono ?_); rintro e w3 ⟨rfl, hb⟩; replace T := up T hb T.size; clear hb)
    | (go_at_call 24; (with_reducible refine (hLT _ T).mono ?_); rintro e w4 ⟨rfl, hb⟩; replace T := up T hb T.size; clear hb)
    | (go_at_call 24; (with_reducible refine (hL1 _ T).mono ?_); rintro e w5 ⟨rfl, hb⟩; replace T := up T hb T.size; clear hb)
    | (go_at_call 24; (with_reducible refine (hL2 _ T).mono ?_); rintro e w6 ⟨rfl, hb⟩; replace T := up T hb T.size; clear hb))
  clear hL hLT hL1 hL2
  go_upto_region 11 with (go_at_call 13; (with_reducible refine (hCo _ T).mono ?_); rintro e w5 ⟨⟨g, o, cap, rfl, hNu⟩, hb⟩; replace T := up T hb T.size; clear hb)
  replace T := Lib.hid T
  replace hNu := Lib.hid hNu
  go_wp2
  go_loopw [9, 11] (fun s9 s11 wr => ∃ i : Nat, s9 = .bool (okF xs r cs i) ∧ s11 = .int .i64 (i : Int) ∧ i ≤ cs.length ∧ Below w5.heap.size w5 wr) (fun _ s11 _ => cs.length - (intOf s11).toNat)
  case atStart => exact ⟨0, rfl, rfl, by omega, Below.refl _ _⟩
  case round =>
    obtain ⟨i, rfl, rfl, hi, E⟩ := hrel
    by_cases hlt : i < cs.length
    · have i0 : (0 : Int) ≤ (i : Int) := by omega
      have i1 : (i : Int) < (cs.length : Int) := by omega
      cases hok : okF xs r cs i with
      | false =>
        have hnx : okF xs r cs (i + 1) = false := by simp [okF, hok]
        go_wp2
        go_roundw
        case rel => exact ⟨i + 1, by rw [hnx], by go_num, by omega, E⟩
        case measure => simp [intOf]; omega
      | true =>
        have c1 := (hNu.out.below E).2 i hlt
        have hd := hcs.out i hlt
        have hgd : cs.getD i 0 = cs[i] := by simp [List.getD, List.getElem?_eq_getElem hlt]
        have hM := hLt.out cs[i] ⟨hd.1, by omega⟩ wr (up T.out E T.out.size)
        have hnx : okF xs r cs (i + 1) = !decide (lateAt xs r cs[i]) := by rw [okF, hok, hgd, Bool.true_and]
        obtain ⟨d, ed⟩ : ∃ d, cs[i] = d := ⟨_, rfl⟩
        rw [ed] at c1 hM hnx
        obtain ⟨p, ep⟩ : ∃ p, decide (lateAt xs r d) = p := ⟨_, rfl⟩
        rw [ep] at hM hnx
        clear hd hgd ed ep
        go_wp2_with (go_at_call 24; (with_reducible refine hM.mono ?_); rintro e w6 ⟨rfl, hb⟩)
        go_roundw
        case rel => exact ⟨i + 1, by rw [hnx], by go_num, by omega, up E hb E.size⟩
        case measure => simp [intOf]; omega
    · have ei : i = cs.length := by omega
      subst ei
      obtain ⟨ok, eok⟩ : ∃ ok, okF xs r cs cs.length = ok := ⟨_, rfl⟩
      rw [eok]
      have T6 := Lib.hid (up T.out E T.out.size)
      clear E
      go_wp2
      go_loopw [10, 12] (fun s10 s12 wq => ∃ i : Nat, s10 = .int .u64 (sR (xs.take i)) ∧ s12 = .int .i64 (i : Int) ∧ i ≤ xs.length ∧ Below w.heap.size w wq) (fun _ s12 _ => xs.length - (intOf s12).toNat)
      case atStart => exact ⟨0, by simp [sR], rfl, by omega, T6.out⟩
      case round =>
        obtain ⟨i, rfl, rfl, hi, Q⟩ := hrel
        by_cases hlt : i < xs.length
        · obtain ⟨b, o, rfl, hrow⟩ : ∃ b o, a = some ⟨b, o, none⟩ ∧ CvRow w b o xs := by
            rcases hcv.out.2.2 with h | h
            · omega
            · exact h
          obtain ⟨x1, x2, x3⟩ := (hrow.below Q).2 i hlt
          have i0 : (0 : Int) ≤ (i : Int) := by omega
          have i1 : (i : Int) < (xs.length : Int) := by omega
          obtain ⟨wf, wl, ws⟩ := hx.out xs[i] (List.getElem_mem hlt)
          have hM := fun w => may_any xs[i].f xs[i].l xs[i].r w wf wl ws
          have hmb : mayB xs[i].f xs[i].l xs[i].r = true ↔ xs[i].may := mayB_is
          have hst := sR_take hlt
          have hle := sR_le (xs.take (i + 1))
          have hnn : 0 ≤ sR (xs.take (i + 1)) := sR_nn (fun c hc => hx.out c (List.mem_of_mem_take hc))
          rw [List.length_take, Nat.min_eq_left (by omega)] at hle
          obtain ⟨f, ef⟩ : ∃ f, xs[i].f = f := ⟨_, rfl⟩
          obtain ⟨l, el⟩ : ∃ l, xs[i].l = l := ⟨_, rfl⟩
          obtain ⟨s, es⟩ : ∃ s, xs[i].r = s := ⟨_, rfl⟩
          rw [ef, el, es] at hM hmb
          rw [ef] at x1
          rw [el] at x2
          rw [es] at x3 hst
          obtain ⟨R, eR⟩ : ∃ R, sR (xs.take i) = R := ⟨_, rfl⟩
          rw [eR] at hst ⊢
          cases hm : mayB f l s with
          | false =>
            have hno : ¬ xs[i].may := fun h => by rw [hmb.2 h] at hm; cases hm
            rw [if_neg hno] at hst
            rw [hm] at hM
            have hst := Lib.hid (show sR (xs.take (i + 1)) = R by omega)
            clear ef el es hle hnn eR wf wl ws hmb hno
            go_wp2_with (go_at_call 25; (with_reducible refine (hM _).mono ?_); rintro e w7 ⟨rfl, hb⟩)
            go_roundw
            case rel => exact ⟨i + 1, by rw [hst.out], by go_num, by omega, up Q hb Q.size⟩
            case measure => simp [intOf]; omega
          | true =>
            rw [if_pos (hmb.1 hm)] at hst
            rw [hm] at hM
            rw [hst] at hle hnn
            have w1 : IntKind.u64.wrap (R + s) = R + s := IntWalk.u64_in _ (by omega)
            replace hst := Lib.hid hst
            have x3' := fun (w7 : World) (hb : Below wr.heap.size wr w7) => (((hrow.below Q).below (hb)).2 i hlt).2.2
            rw [es] at x3'
            clear ef el es hle hnn eR wf wl ws hmb
            go_upto_region 21 with (go_at_call 25; (with_reducible refine (hM _).mono ?_); rintro e w7 ⟨rfl, hb⟩)
            have x4 := x3' _ hb
            go_wp2
            go_roundw
            case rel => exact ⟨i + 1, by rw [hst.out], by go_num, by omega, up Q hb Q.size⟩
            case measure => simp [intOf]; omega
        · have ei : i = xs.length := by omega
          subst ei
          rw [List.take_length]
          have hKq := hK _ Q
          by_cases hg : 1048576 < r
          · go_wp2
            go_ret
            exact ⟨rfl, Q⟩
          · have hf := hfin.out (by omega)
            rw [eok] at hf
            obtain ⟨R, eR⟩ : ∃ R, sR xs = R := ⟨_, rfl⟩
            rw [eR] at hf ⊢
            replace eok := Lib.hid eok
            replace eR := Lib.hid eR
            rw [hf] at hKq
            clear hf hfin
            cases ok with
            | false =>
              go_wp2_with (go_at_call 17; (with_reducible refine hKq.mono ?_); rintro e w8 ⟨rfl, hb⟩)
              go_ret
              exact ⟨rfl, up Q hb Q.size⟩
            | true =>
              by_cases hRr : R ≤ r
              · rw [decide_eq_true hRr] at hKq
                go_wp2_with (go_at_call 17; (with_reducible refine hKq.mono ?_); rintro e w8 ⟨rfl, hb⟩)
                go_ret
                exact ⟨rfl, up Q hb Q.size⟩
              · rw [decide_eq_false hRr] at hKq
                go_wp2_with (go_at_call 17; (with_reducible refine hKq.mono ?_); rintro e w8 ⟨rfl, hb⟩)
                go_ret
                exact ⟨by simp [hRr], up Q hb Q.size⟩

set_option maxRecDepth 100000 in
set_option maxHeartbeats 4000000 in
theorem SumsCorners_some_false (xs : List Cv) (a : Option Addr) (c : Nat) (r t N : Int) (kb : Bool) (w : World) (hx : ∀ c ∈ xs, c.word) (hr : Word r) (ht : Word t) (ht2 : t < 9223372036854775808) (hn : xs.length ≤ 40) (hcv : IsCvs w a xs.length c xs)
    (hA : ∀ w, Calls Try.prog 23 #[] w fun e w' => e = .returned (.bool true) ∧ Below w.heap.size w w')
    (hL : ∀ w', Below w.heap.size w w' → Calls Try.prog 15 #[.slice a xs.length c, .int .u64 r] w' fun e w'' => e = .returned (.int .u64 N) ∧ Below w'.heap.size w' w'')
    (hK : ∀ w', Below w.heap.size w w' → Calls Try.prog 17 #[.slice a xs.length c, .int .u64 r] w' fun e w'' => e = .returned (.bool kb) ∧ Below w'.heap.size w' w'')
    (hLt : ∀ t, Word t → ∀ w', Below w.heap.size w w' → Calls Try.prog 24 #[.slice a xs.length c, .int .u64 r, .int .u64 t] w' fun e w'' => e = .returned (.bool (decide (lateAt xs r t))) ∧ Below w'.heap.size w' w'')
    (hCo : ∀ w', Below w.heap.size w w' → Calls Try.prog 13 #[.slice a xs.length c] w' fun e w'' => (∃ g o cap, e = .returned (.slice (some ⟨g, o, none⟩) (corF xs).length cap) ∧ NuRow w'' g o (corF xs)) ∧ Below w'.heap.size w' w'')
    (hk : kb = true ↔ kept xs r) (N0 : 0 < N) (N1 : N < 9223372036854775808) (hNk : kb = false) (hNl : decide (lateAt xs r N) = true) (hNm : decide (lateAt xs r (N - 1)) = false) (hT : decide (lateAt xs r t) = false) :
    Calls Try.prog 6 #[.slice a xs.length c, .int .u64 r, .int .u64 t] w fun e w' => e = .returned (.bool true) ∧ Below w.heap.size w w' := by
  have hfin := Lib.hid (fun hr2 => kept_ok hx hr.1 hr2 kb hk)
  have hcs := Lib.hid (fun i (hi : i < (corF xs).length) => show 0 ≤ (corF xs)[i] ∧ (corF xs)[i] < 9223372036854775808 from by
    have h1 := (dF_facts hx).2.1 i (by rw [(dF_facts hx).1]; omega)
    have e : (dF xs)[i]'(by rw [(dF_facts hx).1]; omega) = (corF xs)[i] := by unfold dF; rw [List.getElem_append_left hi]
    rw [e] at h1; omega)
  have hclen := (corF_length xs).1
  obtain ⟨cs, ecs⟩ : ∃ cs, corF xs = cs := ⟨_, rfl⟩
  rw [ecs] at hfin hcs hCo hclen
  clear ecs
  have hlen : ¬ (40 : Int) < (xs.length : Int) := by omega
  have hnt : ¬ (9223372036854775808 : Int) ≤ t := by omega
  have hLT := hLt t ht
  replace hcv := Lib.hid hcv
  replace hx := Lib.hid hx
  have T := Below.refl w.heap.size w
  have hL1 := hLt N ⟨by omega, by omega⟩
  have hL2 := hLt (N - 1) ⟨by omega, by omega⟩
  rw [hT] at hLT
  rw [hNl] at hL1
  rw [hNm] at hL2
  rw [hNk] at hfin hK
  have n1 : (N == 9223372036854775808) = false := by simp; omega
  have n2 : (N == 0) = false := by simp; omega
  have n3 : IntKind.u64.wrap (N - 1) = N - 1 := IntWalk.u64_in _ (by omega)
  have n4 : ¬ 9223372036854775808 < N := by omega
  clear hk hNk hNl hNm hT kb
  replace hLt := Lib.hid hLt
  go_enter Try.func6, Try.ntmps6
  go_upto_region 10 with (first
    | (go_at_call 23; (with_reducible refine (hA _).mono ?_); rintro e w1 ⟨rfl, hb⟩; replace T := up T hb T.size; clear hb)
    | (go_at_call 15; (with_reducible refine (hL _ T).mono ?_); rintro e w2 ⟨rfl, hb⟩; replace T := up T hb T.size; clear hb)
    | (go_at_call 17; (with_reducible refine (hK _ T).mono ?_); rintro e w3 ⟨rfl, hb⟩; replace T := up T hb T.size; clear hb)
    | (go_at_call 24; (with_reducible refine (hLT _ T).mono ?_); rintro e w4 ⟨rfl, hb⟩; replace T := up T hb T.size; clear hb)
    | (go_at_call 24; (with_reducible refine (hL1 _ T).mono ?_); rintro e w5 ⟨rfl, hb⟩; replace T := up T hb T.size; clear hb)
    | (go_at_call 24; (with_reducible refine (hL2 _ T).mono ?_); rintro e w6 ⟨rfl, hb⟩; replace T := up T hb T.size; clear hb))
  clear hL hLT hL1 hL2
  go_upto_region 11 with (go_at_call 13; (with_reducible refine (hCo _ T).mono ?_); rintro e w5 ⟨⟨g, o, cap, rfl, hNu⟩, hb⟩; replace T := up T hb T.size; clear hb)
  replace T := Lib.hid T
  replace hNu := Lib.hid hNu
  go_wp2
  go_loopw [9, 11] (fun s9 s11 wr => ∃ i : Nat, s9 = .bool (okF xs r cs i) ∧ s11 = .int .i64 (i : Int) ∧ i ≤ cs.length ∧ Below w5.heap.size w5 wr) (fun _ s11 _ => cs.length - (intOf s11).toNat)
  case atStart => exact ⟨0, rfl, rfl, by omega, Below.refl _ _⟩
  case round =>
    obtain ⟨i, rfl, rfl, hi, E⟩ := hrel
    by_cases hlt : i < cs.length
    · have i0 : (0 : Int) ≤ (i : Int) := by omega
      have i1 : (i : Int) < (cs.length : Int) := by omega
      cases hok : okF xs r cs i with
      | false =>
        have hnx : okF xs r cs (i + 1) = false := by simp [okF, hok]
        go_wp2
        go_roundw
        case rel => exact ⟨i + 1, by rw [hnx], by go_num, by omega, E⟩
        case measure => simp [intOf]; omega
      | true =>
        have c1 := (hNu.out.below E).2 i hlt
        have hd := hcs.out i hlt
        have hgd : cs.getD i 0 = cs[i] := by simp [List.getD, List.getElem?_eq_getElem hlt]
        have hM := hLt.out cs[i] ⟨hd.1, by omega⟩ wr (up T.out E T.out.size)
        have hnx : okF xs r cs (i + 1) = !decide (lateAt xs r cs[i]) := by rw [okF, hok, hgd, Bool.true_and]
        obtain ⟨d, ed⟩ : ∃ d, cs[i] = d := ⟨_, rfl⟩
        rw [ed] at c1 hM hnx
        obtain ⟨p, ep⟩ : ∃ p, decide (lateAt xs r d) = p := ⟨_, rfl⟩
        rw [ep] at hM hnx
        clear hd hgd ed ep
        go_wp2_with (go_at_call 24; (with_reducible refine hM.mono ?_); rintro e w6 ⟨rfl, hb⟩)
        go_roundw
        case rel => exact ⟨i + 1, by rw [hnx], by go_num, by omega, up E hb E.size⟩
        case measure => simp [intOf]; omega
    · have ei : i = cs.length := by omega
      subst ei
      obtain ⟨ok, eok⟩ : ∃ ok, okF xs r cs cs.length = ok := ⟨_, rfl⟩
      rw [eok]
      have T6 := Lib.hid (up T.out E T.out.size)
      clear E
      go_wp2
      go_loopw [10, 12] (fun s10 s12 wq => ∃ i : Nat, s10 = .int .u64 (sR (xs.take i)) ∧ s12 = .int .i64 (i : Int) ∧ i ≤ xs.length ∧ Below w.heap.size w wq) (fun _ s12 _ => xs.length - (intOf s12).toNat)
      case atStart => exact ⟨0, by simp [sR], rfl, by omega, T6.out⟩
      case round =>
        obtain ⟨i, rfl, rfl, hi, Q⟩ := hrel
        by_cases hlt : i < xs.length
        · obtain ⟨b, o, rfl, hrow⟩ : ∃ b o, a = some ⟨b, o, none⟩ ∧ CvRow w b o xs := by
            rcases hcv.out.2.2 with h | h
            · omega
            · exact h
          obtain ⟨x1, x2, x3⟩ := (hrow.below Q).2 i hlt
          have i0 : (0 : Int) ≤ (i : Int) := by omega
          have i1 : (i : Int) < (xs.length : Int) := by omega
          obtain ⟨wf, wl, ws⟩ := hx.out xs[i] (List.getElem_mem hlt)
          have hM := fun w => may_any xs[i].f xs[i].l xs[i].r w wf wl ws
          have hmb : mayB xs[i].f xs[i].l xs[i].r = true ↔ xs[i].may := mayB_is
          have hst := sR_take hlt
          have hle := sR_le (xs.take (i + 1))
          have hnn : 0 ≤ sR (xs.take (i + 1)) := sR_nn (fun c hc => hx.out c (List.mem_of_mem_take hc))
          rw [List.length_take, Nat.min_eq_left (by omega)] at hle
          obtain ⟨f, ef⟩ : ∃ f, xs[i].f = f := ⟨_, rfl⟩
          obtain ⟨l, el⟩ : ∃ l, xs[i].l = l := ⟨_, rfl⟩
          obtain ⟨s, es⟩ : ∃ s, xs[i].r = s := ⟨_, rfl⟩
          rw [ef, el, es] at hM hmb
          rw [ef] at x1
          rw [el] at x2
          rw [es] at x3 hst
          obtain ⟨R, eR⟩ : ∃ R, sR (xs.take i) = R := ⟨_, rfl⟩
          rw [eR] at hst ⊢
          cases hm : mayB f l s with
          | false =>
            have hno : ¬ xs[i].may := fun h => by rw [hmb.2 h] at hm; cases hm
            rw [if_neg hno] at hst
            rw [hm] at hM
            have hst := Lib.hid (show sR (xs.take (i + 1)) = R by omega)
            clear ef el es hle hnn eR wf wl ws hmb hno
            go_wp2_with (go_at_call 25; (with_reducible refine (hM _).mono ?_); rintro e w7 ⟨rfl, hb⟩)
            go_roundw
            case rel => exact ⟨i + 1, by rw [hst.out], by go_num, by omega, up Q hb Q.size⟩
            case measure => simp [intOf]; omega
          | true =>
            rw [if_pos (hmb.1 hm)] at hst
            rw [hm] at hM
            rw [hst] at hle hnn
            have w1 : IntKind.u64.wrap (R + s) = R + s := IntWalk.u64_in _ (by omega)
            replace hst := Lib.hid hst
            have x3' := fun (w7 : World) (hb : Below wr.heap.size wr w7) => (((hrow.below Q).below (hb)).2 i hlt).2.2
            rw [es] at x3'
            clear ef el es hle hnn eR wf wl ws hmb
            go_upto_region 21 with (go_at_call 25; (with_reducible refine (hM _).mono ?_); rintro e w7 ⟨rfl, hb⟩)
            have x4 := x3' _ hb
            go_wp2
            go_roundw
            case rel => exact ⟨i + 1, by rw [hst.out], by go_num, by omega, up Q hb Q.size⟩
            case measure => simp [intOf]; omega
        · have ei : i = xs.length := by omega
          subst ei
          rw [List.take_length]
          have hKq := hK _ Q
          by_cases hg : 1048576 < r
          · go_wp2
            go_ret
            exact ⟨rfl, Q⟩
          · have hf := hfin.out (by omega)
            rw [eok] at hf
            obtain ⟨R, eR⟩ : ∃ R, sR xs = R := ⟨_, rfl⟩
            rw [eR] at hf ⊢
            replace eok := Lib.hid eok
            replace eR := Lib.hid eR
            rw [hf] at hKq
            clear hf hfin
            cases ok with
            | false =>
              go_wp2_with (go_at_call 17; (with_reducible refine hKq.mono ?_); rintro e w8 ⟨rfl, hb⟩)
              go_ret
              exact ⟨rfl, up Q hb Q.size⟩
            | true =>
              by_cases hRr : R ≤ r
              · rw [decide_eq_true hRr] at hKq
                go_wp2_with (go_at_call 17; (with_reducible refine hKq.mono ?_); rintro e w8 ⟨rfl, hb⟩)
                go_ret
                exact ⟨rfl, up Q hb Q.size⟩
              · rw [decide_eq_false hRr] at hKq
                go_wp2_with (go_at_call 17; (with_reducible refine hKq.mono ?_); rintro e w8 ⟨rfl, hb⟩)
                go_ret
                exact ⟨by simp [hRr], up Q hb Q.size⟩

end Go.Proofs.Ytmhmoebdojkbpaa
namespace Go.Proofs.Ytmhmoebdojkbpaa
open Go.RowKit W
set_option linter.unusedVariables false
theorem SumsHave_long (a : Option Addr) (n c : Nat) (t : Int) (w : World) (hn : 140 < n) :
    Calls Try.prog 3 #[.slice a n c, .int .u64 t] w fun e w' => e = .returned (.bool true) ∧ Below w.heap.size w w' := by
  have h : (140 : Int) < (n : Int) := by omega
  go_enter Try.func3, Try.ntmps3
  go_wp2
  go_ret
  exact ⟨rfl, Below.refl _ _⟩
theorem row_cvs {xs : List Cv} {w : World} {base : Nat} {v : Value} (h : w.ownsRow base 31 3 v (0 + xs.length) ([] ++ cvC xs)) (h0 : 0 < xs.length) :
    ∃ g cap, v = .slice (some ⟨g, 0, none⟩) xs.length cap ∧ xs.length ≤ cap ∧ CvRow w g 0 xs := by
  rw [Nat.zero_add] at h
  rcases h.2 with ⟨e, h2⟩ | ⟨g, cap, cur, e, h2, h3, h4, h5, _⟩
  · omega
  · subst e
    exact ⟨g, cap, rfl, h4, cvC_row (n := xs.length) (cap := cap) (base := base) h⟩
theorem row_nums {cs : List Int} {w : World} {base : Nat} {v : Value} (h : w.ownsRow base 23 1 v cs.length (cs.map eU)) (h0 : 0 < cs.length) :
    ∃ g cap, v = .slice (some ⟨g, 0, none⟩) cs.length cap ∧ NuRow w g 0 cs := by
  obtain ⟨g, cap, rfl, h1, h2, h3⟩ := owns_some h h0
  refine ⟨g, cap, rfl, h3, fun j hj => ?_⟩
  have := owns_cell h hj
  rw [Nat.zero_add]
  simpa [List.getD, List.getElem?_eq_getElem hj] using this
set_option maxRecDepth 100000 in
set_option maxHeartbeats 4000000 in
theorem SumsHave_some (xs : List Cv) (b o c : Nat) (t : Int) (w : World) (hx : ∀ c ∈ xs, c.word) (ht : Word t) (hn : xs.length ≤ 140) (hpos : 0 < xs.length) (hrow : CvRow w b o xs) (hcc : xs.length ≤ c)
    (hP : ∀ (a : Option Addr) (c : Nat) (w' : World), IsCvs w' a xs.length c xs → Calls Try.prog 10 #[.slice a xs.length c, .int .u64 t] w' fun e w'' => e = .returned (.agg #[.int .u64 (sW xs t / 18446744073709551616), .int .u64 (sW xs t % 18446744073709551616)]) ∧ Below w'.heap.size w' w'')
    (hCo : ∀ (a : Option Addr) (c : Nat) (w' : World), IsCvs w' a xs.length c xs → Calls Try.prog 13 #[.slice a xs.length c] w' fun e w'' => (∃ g o cap, e = .returned (.slice (some ⟨g, o, none⟩) (corF xs).length cap) ∧ NuRow w'' g o (corF xs)) ∧ Below w'.heap.size w' w'') :
    Calls Try.prog 3 #[.slice (some ⟨b, o, none⟩) xs.length c, .int .u64 t] w fun e w' => e = .returned (.bool true) ∧ Below w.heap.size w w' := by
  have hcv : IsCvs w (some ⟨b, o, none⟩) xs.length c xs := ⟨rfl, hcc, .inr ⟨b, o, rfl, hrow⟩⟩
  have hS := Lib.hid (fun (w' : World) (hb : Below w.heap.size w w') => kSum_any xs t _ xs.length c w' hx ht (by omega) (hcv.below hb))
  have hR := Lib.hid (fun (w' : World) (hb : Below w.heap.size w w') => kCorners_any xs _ xs.length c w' hx (by omega) (hcv.below hb))
  have hd := Lib.hid (fun (w' : World) (hb : Below w.heap.size w w') => cvC_cells (hrow.below hb))
  have hl3 := cvC_length xs
  have ho3 := Lib.hid (cvC_one xs)
  have hmx : 0 + xs.length ≤ maxLen := by unfold maxLen; omega
  have hby : (0 + xs.length) * 24 ≤ 140737488355328 := by omega
  have hlen : ¬ (140 : Int) < (xs.length : Int) := by omega
  have hn1 := Lib.hid (hd.out (w.alloc (.cells #[] 31)) (up1 w _))
  have hR0 := World.ownsRow_made (base := w.heap.size) (e := 31) (size := 3) w #[] 0 (Nat.le_refl _) (by decide) rfl
  have hcl := (corF_length xs)
  obtain ⟨cs, ecs⟩ : ∃ cs, corF xs = cs := ⟨_, rfl⟩
  rw [ecs] at hCo hR hcl
  obtain ⟨sh, esh⟩ : ∃ x, sW xs t / 18446744073709551616 = x := ⟨_, rfl⟩
  obtain ⟨sl, esl⟩ : ∃ x, sW xs t % 18446744073709551616 = x := ⟨_, rfl⟩
  rw [esh, esl] at hP hS
  clear ecs esh esl
  replace hP := Lib.hid hP
  replace hCo := Lib.hid hCo
  replace hx := Lib.hid hx
  obtain ⟨i0, hi, hz0, hz1, hz2⟩ := info_parts infoC
  go_enter Try.func3, Try.ntmps3
  go_upto_region 4 with (at_builtin; refine wpList_append_own _ rfl _ _ 22 rfl w.heap.size 31 i0 _ 3 24 Try.underlying22 hi hz0 hz1 hz2 rfl (by decide) (.slice (some ⟨w.heap.size, 0, none⟩) 0 0) 0 [] rfl hR0 ⟨b, o, none⟩ xs.length c (cvC xs) rfl hl3 hn1.out ho3.out hmx hby (by simp) ?_; intro v2 w5 hown hgrow _; have T := Lib.hid (((Below.refl w.heap.size w).alloc (Nat.le_refl _) (.cells #[] 31)).grown hgrow (by simp) (fun j e => by simp [Value.ownBlock] at e; omega)); clear hgrow; obtain ⟨g, cap, rfl, hgc, hmine⟩ := row_cvs hown hpos; clear hown)
  have E := Below.refl w5.heap.size w5
  have hI : ∀ w' : World, Below w5.heap.size w5 w' → IsCvs w' (some ⟨g, 0, none⟩) xs.length cap xs := fun w' hb => ⟨rfl, hgc, .inr ⟨g, 0, rfl, hmine.below hb⟩⟩
  replace hI := Lib.hid hI
  replace hmine := Lib.hid hmine
  replace hrow := Lib.hid hrow
  clear hR0
  go_upto_region 6 with (first
    | (go_at_call 10; (with_reducible refine (hP.out _ _ _ (hI.out _ E)).mono ?_); rintro e wa ⟨rfl, hb⟩; replace E := up E hb E.size; clear hb)
    | (go_at_call 11; (with_reducible refine (hS.out _ (up T.out E T.out.size)).mono ?_); rintro e wb ⟨rfl, hb⟩; replace E := up E hb E.size; clear hb)
    | (go_at_call 13; (with_reducible refine (hCo.out _ _ _ (hI.out _ E)).mono ?_); rintro e wc ⟨⟨gp, op, capp, rfl, hNu⟩, hb⟩; replace E := up E hb E.size; clear hb; replace hNu := Lib.hid hNu)
    | (go_at_call 14; (with_reducible refine (hR.out _ (up T.out E T.out.size)).mono ?_); rintro e wd ⟨v, rfl, hown, hb⟩; obtain ⟨gr, capr, rfl, hNr⟩ := row_nums hown (by omega); replace E := up E hb E.size; replace hNu := Lib.hid (hNu.out.below hb); clear hb hown)
    | (go_at_call 12; (with_reducible refine (kSame_of cs gp op capp gr 0 capr _ hNu.out hNr (by omega)).mono ?_); rintro e we ⟨rfl, hb⟩; replace E := up E hb E.size; clear hb))
  go_wp2
  go_loopw [6] (fun s6 wr => ∃ j : Nat, s6 = .int .i64 (j : Int) ∧ j ≤ xs.length ∧ Below w5.heap.size w5 wr) (fun s6 _ => xs.length - (intOf s6).toNat)
  case atStart => exact ⟨0, rfl, by omega, E⟩
  case round =>
    clear E
    obtain ⟨j, rfl, hj, E⟩ := hrel
    by_cases hlt : j < xs.length
    · obtain ⟨x1, x2, x3⟩ := (hmine.out.below E).2 j hlt
      obtain ⟨y1, y2, y3⟩ := (hrow.out.below (up T.out E T.out.size)).2 j hlt
      have j1 : (j : Int) < (xs.length : Int) := by omega
      have j0 : (0 : Int) ≤ (j : Int) := by omega
      obtain ⟨f, ef⟩ : ∃ f, xs[j].f = f := ⟨_, rfl⟩
      obtain ⟨l, el⟩ : ∃ l, xs[j].l = l := ⟨_, rfl⟩
      obtain ⟨s, es⟩ : ∃ s, xs[j].r = s := ⟨_, rfl⟩
      rw [ef] at x1 y1
      rw [el] at x2 y2
      rw [es] at x3 y3
      clear ef el es
      simp only [Nat.zero_add] at x1 x2 x3
      go_upto_region 9 with (fail)
      go_quiet (fail)
      replace E := below_drewN E nq
      generalize wr.drewN nq = w7 at E ⊢
      clear x1 x2 x3 y1 y2 y3
      go_wp2
      go_roundw
      case rel => exact ⟨j + 1, by go_num, by omega, E⟩
      case measure => simp [intOf]; omega
    · have e : j = xs.length := by omega
      subst e
      go_wp2
      go_ret
      exact ⟨rfl, up T.out E T.out.size⟩
set_option maxRecDepth 100000 in
set_option maxHeartbeats 4000000 in
theorem SumsHave_nil (xs : List Cv) (ex : xs = []) (c : Nat) (t : Int) (w : World) (ht : Word t)
    (hP : ∀ (a : Option Addr) (c : Nat) (w' : World), IsCvs w' a xs.length c xs → Calls Try.prog 10 #[.slice a xs.length c, .int .u64 t] w' fun e w'' => e = .returned (.agg #[.int .u64 (sW xs t / 18446744073709551616), .int .u64 (sW xs t % 18446744073709551616)]) ∧ Below w'.heap.size w' w'')
    (hCo : ∀ (a : Option Addr) (c : Nat) (w' : World), IsCvs w' a xs.length c xs → Calls Try.prog 13 #[.slice a xs.length c] w' fun e w'' => (∃ g o cap, e = .returned (.slice (some ⟨g, o, none⟩) (corF xs).length cap) ∧ NuRow w'' g o (corF xs)) ∧ Below w'.heap.size w' w'') :
    Calls Try.prog 3 #[.slice none 0 c, .int .u64 t] w fun e w' => e = .returned (.bool true) ∧ Below w.heap.size w w' := by
  have hx : ∀ c ∈ xs, c.word := by subst ex; simp
  have hn0 : xs.length = 0 := by subst ex; rfl
  have hS := Lib.hid (fun (w' : World) (hb : Below w.heap.size w w') => kSum_any xs t none 0 c w' hx ht (by omega) ⟨hn0, by omega, .inl rfl⟩)
  have hR := Lib.hid (fun (w' : World) (hb : Below w.heap.size w w') => kCorners_any xs none 0 c w' hx (by omega) ⟨hn0, by omega, .inl rfl⟩)
  rw [hn0] at hP hCo
  have hI : ∀ w' : World, IsCvs w' (some ⟨w.heap.size, 0, none⟩) 0 0 xs := fun w' => ⟨hn0, by omega, .inl rfl⟩
  have hcl := (corF_length xs)
  obtain ⟨cs, ecs⟩ : ∃ cs, corF xs = cs := ⟨_, rfl⟩
  rw [ecs] at hCo hR hcl
  obtain ⟨sh, esh⟩ : ∃ x, sW xs t / 18446744073709551616 = x := ⟨_, rfl⟩
  obtain ⟨sl, esl⟩ : ∃ x, sW xs t % 18446744073709551616 = x := ⟨_, rfl⟩
  rw [esh, esl] at hP hS
  clear ecs esh esl
  replace hP := Lib.hid hP
  replace hCo := Lib.hid hCo
  replace hx := Lib.hid hx
  obtain ⟨i0, hi, hz0, hz1, hz2⟩ := info_parts infoC
  go_enter Try.func3, Try.ntmps3
  go_upto_region 4 with (fail)
  have T := Lib.hid (up1 w (.cells #[] 31))
  obtain ⟨w5, ew5⟩ : ∃ w5, w.alloc (.cells #[] 31) = w5 := ⟨_, rfl⟩
  rw [ew5] at T ⊢
  have E := Below.refl w5.heap.size w5
  go_upto_region 6 with (first
    | (go_at_call 10; (with_reducible refine (hP.out _ _ _ (hI _)).mono ?_); rintro e wa ⟨rfl, hb⟩; replace E := up E hb E.size; clear hb)
    | (go_at_call 11; (with_reducible refine (hS.out _ (up T.out E T.out.size)).mono ?_); rintro e wb ⟨rfl, hb⟩; replace E := up E hb E.size; clear hb)
    | (go_at_call 13; (with_reducible refine (hCo.out _ _ _ (hI _)).mono ?_); rintro e wc ⟨⟨gp, op, capp, rfl, hNu⟩, hb⟩; replace E := up E hb E.size; clear hb; replace hNu := Lib.hid hNu)
    | (go_at_call 14; (with_reducible refine (hR.out _ (up T.out E T.out.size)).mono ?_); rintro e wd ⟨v, rfl, hown, hb⟩; obtain ⟨gr, capr, rfl, hNr⟩ := row_nums hown (by omega); replace E := up E hb E.size; replace hNu := Lib.hid (hNu.out.below hb); clear hb hown)
    | (go_at_call 12; (with_reducible refine (kSame_of cs gp op capp gr 0 capr _ hNu.out hNr (by omega)).mono ?_); rintro e we ⟨rfl, hb⟩; replace E := up E hb E.size; clear hb))
  go_wp2
  go_loopw [6] (fun s6 wr => s6 = .int .i64 0 ∧ Below w5.heap.size w5 wr) (fun _ _ => 0)
  case atStart => exact ⟨rfl, E⟩
  case round =>
    clear E
    obtain ⟨rfl, E⟩ := hrel
    go_wp2
    go_ret
    exact ⟨rfl, up T.out E T.out.size⟩
set_option maxRecDepth 100000 in
set_option maxHeartbeats 4000000 in
theorem SumsHave_empty (xs : List Cv) (ad : Addr) (ex : xs = []) (c : Nat) (t : Int) (w : World) (ht : Word t)
    (hP : ∀ (a : Option Addr) (c : Nat) (w' : World), IsCvs w' a xs.length c xs → Calls Try.prog 10 #[.slice a xs.length c, .int .u64 t] w' fun e w'' => e = .returned (.agg #[.int .u64 (sW xs t / 18446744073709551616), .int .u64 (sW xs t % 18446744073709551616)]) ∧ Below w'.heap.size w' w'')
    (hCo : ∀ (a : Option Addr) (c : Nat) (w' : World), IsCvs w' a xs.length c xs → Calls Try.prog 13 #[.slice a xs.length c] w' fun e w'' => (∃ g o cap, e = .returned (.slice (some ⟨g, o, none⟩) (corF xs).length cap) ∧ NuRow w'' g o (corF xs)) ∧ Below w'.heap.size w' w'') :
    Calls Try.prog 3 #[.slice (some ad) 0 c, .int .u64 t] w fun e w' => e = .returned (.bool true) ∧ Below w.heap.size w w' := by
  have hx : ∀ c ∈ xs, c.word := by subst ex; simp
  have hn0 : xs.length = 0 := by subst ex; rfl
  have hS := Lib.hid (fun (w' : World) (hb : Below w.heap.size w w') => kSum_any xs t (some ad) 0 c w' hx ht (by omega) ⟨hn0, by omega, .inl rfl⟩)
  have hR := Lib.hid (fun (w' : World) (hb : Below w.heap.size w w') => kCorners_any xs (some ad) 0 c w' hx (by omega) ⟨hn0, by omega, .inl rfl⟩)
  rw [hn0] at hP hCo
  have hI : ∀ w' : World, IsCvs w' (some ⟨w.heap.size, 0, none⟩) 0 0 xs := fun w' => ⟨hn0, by omega, .inl rfl⟩
  have hcl := (corF_length xs)
  obtain ⟨cs, ecs⟩ : ∃ cs, corF xs = cs := ⟨_, rfl⟩
  rw [ecs] at hCo hR hcl
  obtain ⟨sh, esh⟩ : ∃ x, sW xs t / 18446744073709551616 = x := ⟨_, rfl⟩
  obtain ⟨sl, esl⟩ : ∃ x, sW xs t % 18446744073709551616 = x := ⟨_, rfl⟩
  rw [esh, esl] at hP hS
  clear ecs esh esl
  replace hP := Lib.hid hP
  replace hCo := Lib.hid hCo
  replace hx := Lib.hid hx
  obtain ⟨i0, hi, hz0, hz1, hz2⟩ := info_parts infoC
  go_enter Try.func3, Try.ntmps3
  go_upto_region 4 with (fail)
  have T := Lib.hid (up1 w (.cells #[] 31))
  obtain ⟨w5, ew5⟩ : ∃ w5, w.alloc (.cells #[] 31) = w5 := ⟨_, rfl⟩
  rw [ew5] at T ⊢
  have E := Below.refl w5.heap.size w5
  go_upto_region 6 with (first
    | (go_at_call 10; (with_reducible refine (hP.out _ _ _ (hI _)).mono ?_); rintro e wa ⟨rfl, hb⟩; replace E := up E hb E.size; clear hb)
    | (go_at_call 11; (with_reducible refine (hS.out _ (up T.out E T.out.size)).mono ?_); rintro e wb ⟨rfl, hb⟩; replace E := up E hb E.size; clear hb)
    | (go_at_call 13; (with_reducible refine (hCo.out _ _ _ (hI _)).mono ?_); rintro e wc ⟨⟨gp, op, capp, rfl, hNu⟩, hb⟩; replace E := up E hb E.size; clear hb; replace hNu := Lib.hid hNu)
    | (go_at_call 14; (with_reducible refine (hR.out _ (up T.out E T.out.size)).mono ?_); rintro e wd ⟨v, rfl, hown, hb⟩; obtain ⟨gr, capr, rfl, hNr⟩ := row_nums hown (by omega); replace E := up E hb E.size; replace hNu := Lib.hid (hNu.out.below hb); clear hb hown)
    | (go_at_call 12; (with_reducible refine (kSame_of cs gp op capp gr 0 capr _ hNu.out hNr (by omega)).mono ?_); rintro e we ⟨rfl, hb⟩; replace E := up E hb E.size; clear hb))
  go_wp2
  go_loopw [6] (fun s6 wr => s6 = .int .i64 0 ∧ Below w5.heap.size w5 wr) (fun _ _ => 0)
  case atStart => exact ⟨rfl, E⟩
  case round =>
    clear E
    obtain ⟨rfl, E⟩ := hrel
    go_wp2
    go_ret
    exact ⟨rfl, up T.out E T.out.size⟩
end Go.Proofs.Ytmhmoebdojkbpaa
