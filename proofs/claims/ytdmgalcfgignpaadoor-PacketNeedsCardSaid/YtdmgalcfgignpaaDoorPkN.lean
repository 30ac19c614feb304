/- PacketNeeds: its walk. Condition: the library's table of powers of ten holds them. -/
import Derived.Test.YtdmgalcfgignpaaDoorPkS
namespace Go.Proofs.YtdmgalcfgignpaaDoor
open Go.RowKit W
set_option linter.unusedVariables false

theorem tk_facts (l r : Int) (l1 : 1 ≤ l) (l2 : l ≤ 65535) (r1 : 1 ≤ r) :
    grN l = l * 256 ∧ 1 ≤ tkN l r ∧ tkN l r ≤ 16777216 ∧ l * 256 ≤ tkN l r * r ∧ (tkN l r - 1) * r < l * 256 := by
  have hg : grN l = l * 256 := grN_some (by omega) (by omega)
  have d0 : 0 ≤ (l * 256 - 1) / r := Int.ediv_nonneg (by omega) (by omega)
  have d1 : (l * 256 - 1) / r ≤ l * 256 - 1 := Int.ediv_le_self _ (by omega)
  have d2 : (l * 256 - 1) / r * r ≤ l * 256 - 1 := Int.ediv_mul_le _ (by omega)
  have d3 : l * 256 - 1 < ((l * 256 - 1) / r + 1) * r := Int.lt_ediv_add_one_mul_self _ (by omega)
  have ht : tkN l r = (l * 256 - 1) / r + 1 := by unfold tkN; rw [hg, if_neg (by omega), if_neg (by omega)]
  rw [ht]
  refine ⟨hg, by omega, by omega, by omega, ?_⟩
  rw [Int.add_sub_cancel]; omega

/-- The ticks of the first so many, together. -/
def tS (xs : Nat → Pk) (r : Int) : Nat → Int
  | 0 => 0
  | k + 1 => tS xs r k + tkN (xs k).len r
theorem tS_facts (xs : Nat → Pk) (r : Int) (r1 : 1 ≤ r) : ∀ (k : Nat), k ≤ 100 → (∀ j, j < k → 1 ≤ (xs j).len ∧ (xs j).len ≤ 65535) →
    0 ≤ tS xs r k ∧ tS xs r k ≤ k * 16777216 ∧ 0 ≤ allN xs k ∧ allN xs k ≤ k * 16777216 ∧ allN xs k ≤ tS xs r k * r
  | 0, _, _ => by unfold tS allN; simp
  | k + 1, hk, h => by
    obtain ⟨a, b, c, d, e⟩ := tS_facts xs r r1 k (by omega) (fun j hj => h j (by omega))
    obtain ⟨l1, l2⟩ := h k (by omega)
    obtain ⟨f, g, i, j, _⟩ := tk_facts (xs k).len r l1 l2 r1
    have ea : allN xs (k + 1) = allN xs k + (xs k).len * 256 := by rw [allN, f]; omega
    rw [ea, tS]
    refine ⟨by omega, by omega, by omega, by omega, ?_⟩
    rw [Int.add_mul]; omega
theorem up_le (xs : Nat → Pk) (r : Int) (r1 : 1 ≤ r) (n : Nat) (hn : n ≤ 100) (h : ∀ j, j < n → 1 ≤ (xs j).len ∧ (xs j).len ≤ 65535) :
    qU (allN xs n) 1 r ≤ tS xs r n ∧ (n = 1 → qU (allN xs n) 1 r = tS xs r n) := by
  obtain ⟨a, b, c, d, e⟩ := tS_facts xs r r1 n hn h
  have hq : (allN xs n * 1 + (r - 1)) / r ≤ tS xs r n := by
    rw [Int.mul_one]
    refine Int.lt_add_one_iff.1 (Int.ediv_lt_of_lt_mul (by omega) ?_)
    rw [Int.add_mul]; omega
  have hs : qU (allN xs n) 1 r = (allN xs n * 1 + (r - 1)) / r := by
    unfold qU
    rw [if_neg (by omega), stp_lo (by omega)]
  rw [hs]
  refine ⟨hq, fun h1 => ?_⟩
  subst h1
  obtain ⟨l1, l2⟩ := h 0 (by omega)
  obtain ⟨f, g, i, j, _⟩ := tk_facts (xs 0).len r l1 l2 r1
  have ea : allN xs 1 = (xs 0).len * 256 := by unfold allN allN; rw [f]; omega
  have et : tS xs r 1 = tkN (xs 0).len r := by unfold tS tS; omega
  have ht : tkN (xs 0).len r = ((xs 0).len * 256 - 1) / r + 1 := by unfold tkN; rw [f, if_neg (by omega), if_neg (by omega)]
  rw [ea, et, ht, Int.mul_one, show (xs 0).len * 256 + (r - 1) = ((xs 0).len * 256 - 1) + 1 * r by omega, Int.add_mul_ediv_right _ _ (by omega)]

set_option maxHeartbeats 8000000 in
set_option maxRecDepth 100000 in
theorem PacketNeeds_some (a : Option Addr) (n c : Nat) (xs : Nat → Pk) (r : Int) (w : World) (ht : Tab w) (hI : IsPks w a n c xs) (hok : ∀ i, (xs i).ok) (hcm : c ≤ maxLen) (hn : n ≤ 100) (r1 : 1 ≤ r) (r2 : r < 18446744073709551616) :
    Calls Tryd.prog 4 #[.slice a n c, .int .u64 r] w fun e w' => e = .returned (.bool true) ∧ Below w.heap.size w w' := by
  have hA := Lib.hid (fun w h => awake_any w h)
  have hrw : Word r := ⟨by omega, r2⟩
  have hr0 : (r == 0) = false := beq_eq_false_iff_ne.2 (by omega)
  have hn1 : ¬ (100 : Int) < (n : Int) := by omega
  have hAll := Lib.hid (fun w' (hb : Below w.heap.size w w') => All_any a n c xs w' (hI.below hb) hok hcm)
  have hUp := Lib.hid (fun (x : Int) (hx : Word x) (w : World) => Up_any x 1 r w hx ⟨by omega, by omega⟩ hrw)
  have hMay := Lib.hid (fun (k : Nat) (w : World) => May_any (xs k).id (xs k).cls (xs k).len (xs k).tick 65535 w)
  have hG := Lib.hid (fun (k : Nat) (w : World) => Grains_any (xs k).id (xs k).cls (xs k).len (xs k).tick w (hok k).2.2.1)
  have hTk := Lib.hid (fun (k : Nat) (w : World) => Ticks_any (xs k).id (xs k).cls (xs k).len (xs k).tick r w (hok k).2.2.1 hrw)
  have hlen := Lib.hid (fun k => (hok k).2.2.1)
  have hIh := Lib.hid hI
  replace ht := Lib.hid ht
  clear hI hok hcm
  have T := Below.refl w.heap.size w
  go_enter Tryd.func4, Tryd.ntmps4
  go_upto_region 7 with (go_at_call 12; (with_reducible refine (hA.out _ (ht.out.below T)).mono ?_); rintro e w1 ⟨rfl, hb⟩; replace T := ups T hb T.size; clear hb)
  clear hA
  go_loopw [5, 6] (fun v i wr => ∃ k : Nat, i = .int .i64 k ∧ k ≤ n ∧ v = .int .u64 (tS xs r k) ∧ Below w.heap.size w wr ∧ ∀ j, j < k → 1 ≤ (xs j).len ∧ (xs j).len ≤ 65535) (fun _ i _ => n - (Lib.intOf i).toNat)
  case atStart => exact ⟨0, rfl, by omega, rfl, T, fun j h => by omega⟩
  case round =>
    clear T
    obtain ⟨k, rfl, hk, rfl, T, hmy⟩ := hrel
    obtain ⟨s0, s1, s2, s3, _⟩ := tS_facts xs r r1 k (by omega) hmy
    replace hmy := Lib.hid hmy
    by_cases hlt : k < n
    · have i1 : (k : Int) < (n : Int) := by omega
      have i2 : (0 : Int) ≤ (k : Int) := by omega
      obtain ⟨h2, h3⟩ := hIh.out
      rcases h3 with h3 | ⟨b, o, rfl, h3⟩
      · omega
      · replace h3 := Lib.hid h3
        obtain ⟨x0, x1, x2, x3⟩ := (h3.out.below T).2 k hlt
        have hcs : (n : Int) ≤ (c : Int) := by omega
        have hM := hMay.out k
        by_cases hm : 1 ≤ (xs k).len ∧ (xs k).len ≤ 65535
        · rw [mayN_ok (by omega) (by omega)] at hM
          obtain ⟨f, g, i, j, m⟩ := tk_facts (xs k).len r hm.1 hm.2 r1
          have hn' := Lib.hid (show tS xs r (k + 1) = tS xs r k + tkN (xs k).len r from rfl)
          have hGk := hG.out k
          have hTkk := hTk.out k
          rw [f] at hGk
          obtain ⟨S, hS⟩ : ∃ S, tS xs r k = S := ⟨_, rfl⟩
          obtain ⟨t, htt⟩ : ∃ t, tkN (xs k).len r = t := ⟨_, rfl⟩
          rw [htt] at hTkk g i j m hn'
          rw [hS] at hn' s0 s1 ⊢
          clear hS htt f
          have tw : Word t := ⟨by omega, by omega⟩
          have tw1 : Word (t - 1) := ⟨by omega, by omega⟩
          have gw : Word ((xs k).len * 256) := ⟨by omega, by omega⟩
          have M1 := fun w => Mul_any t r w tw hrw
          have M2 := fun w => Mul_any (t - 1) r w tw1 hrw
          have C1 := fun w => Cmp_any (xH t r) (xL t r) 0 ((xs k).len * 256) w (xL_word t r) gw
          have C2 := fun w => Cmp_any (xH (t - 1) r) (xL (t - 1) r) 0 ((xs k).len * 256) w (xL_word _ r) gw
          have V0 : V 0 ((xs k).len * 256) = (xs k).len * 256 := by unfold V; omega
          have z1 : decide (cmpW (xH t r) (xL t r) 0 ((xs k).len * 256) < 0) = false := by
            unfold cmpW
            rw [V_x, V0]
            rcases Int.lt_or_eq_of_le j with h | h
            · rw [cmpN_gt h]; rfl
            · rw [cmpN_eq h.symm]; rfl
          have z2 : decide (0 ≤ cmpW (xH (t - 1) r) (xL (t - 1) r) 0 ((xs k).len * 256)) = false := by
            unfold cmpW
            rw [V_x, V0, cmpN_lt m]; rfl
          generalize cmpW (xH t r) (xL t r) 0 ((xs k).len * 256) = Z1 at C1 z1
          generalize cmpW (xH (t - 1) r) (xL (t - 1) r) 0 ((xs k).len * 256) = Z2 at C2 z2
          generalize xH t r = H1 at M1 C1
          generalize xL t r = L1 at M1 C1
          generalize xH (t - 1) r = H2 at M2 C2
          generalize xL (t - 1) r = L2 at M2 C2
          have e1 : IntKind.u64.wrap (xs k).len = (xs k).len := by rw [IntKind.wrap_u64]; omega
          have e2 : IntKind.u64.wrap ((xs k).len * 256) = (xs k).len * 256 := by rw [IntKind.wrap_u64]; omega
          have e3 : IntKind.u64.wrap (t - 1) = t - 1 := by rw [IntKind.wrap_u64]; omega
          have e4 : IntKind.u64.wrap (S + t) = S + t := by rw [IntKind.wrap_u64]; omega
          have e5 : ((t : Int) < 1) = False := by simp; omega
          replace j := Lib.hid j
          replace m := Lib.hid m
          go_upto_region 11 with (go_at_call 13; (with_reducible refine (hM _).mono ?_); rintro e w2 ⟨rfl, hb⟩; replace T := ups T hb T.size; clear hb)
          clear x0 x1 x2 x3 hM
          obtain ⟨x0, x1, x2, x3⟩ := (h3.out.below T).2 k hlt
          go_region_held3 (fun w' => w'.cell? ⟨b, o + k * 4, none⟩ = some (.int .u64 (xs k).id) ∧ w'.cell? ⟨b, o + k * 4 + 1, none⟩ = some (.int .i64 (xs k).cls) ∧ w'.cell? ⟨b, o + k * 4 + 2, none⟩ = some (.int .i64 (xs k).len) ∧ w'.cell? ⟨b, o + k * 4 + 3, none⟩ = some (.int .u64 (xs k).tick))
            (exact (h3.out.below T).2 k hlt)
            (first
              | (go_at_call 14; (with_reducible refine (hGk _).mono ?_); rintro e w3 ⟨rfl, hb⟩; (first | replace hb := undrew hb | replace hb := undrewN hb | skip); replace T := ups T hb T.size; clear hb)
              | (go_at_call 15; (with_reducible refine (hTkk _).mono ?_); rintro e w4 ⟨rfl, hb⟩; (first | replace hb := undrew hb | replace hb := undrewN hb | skip); replace T := ups T hb T.size; clear hb))
          clear x0 x1 x2 x3 hGk hTkk
          obtain ⟨x0, x1, x2, x3⟩ := (h3.out.below T).2 k hlt
          go_wp2_with (first
            | (go_at_call 16; (with_reducible refine (M1 _).mono ?_); rintro e w5 ⟨rfl, hb⟩; replace T := ups T hb T.size; clear hb)
            | (go_at_call 17; (with_reducible refine (C1 _).mono ?_); rintro e w6 ⟨rfl, hb⟩; replace T := ups T hb T.size; clear hb)
            | (go_at_call 16; (with_reducible refine (M2 _).mono ?_); rintro e w7 ⟨rfl, hb⟩; replace T := ups T hb T.size; clear hb)
            | (go_at_call 17; (with_reducible refine (C2 _).mono ?_); rintro e w8 ⟨rfl, hb⟩; replace T := ups T hb T.size; clear hb))
          refine ⟨⟨k + 1, by rw [Int.natCast_add]; rfl, by omega, by rw [hn'.out], T, fun q hq => ?_⟩, by simp [Lib.intOf]; omega⟩
          rcases Nat.lt_or_eq_of_le (Nat.le_of_lt_succ hq) with hq | rfl
          · exact hmy.out q hq
          · exact hm
        · have hl := hlen.out k
          rw [mayN_len (by omega) (by omega)] at hM
          clear hm
          go_wp2_with (go_at_call 13; (with_reducible refine (hM _).mono ?_); rintro e w2 ⟨rfl, hb⟩; replace T := ups T hb T.size; clear hb)
          go_ret
          exact ⟨rfl, T⟩
    · obtain rfl : k = n := by omega
      have i1 : ¬ (k : Int) < (k : Int) := by omega
      obtain ⟨q1, q2⟩ := up_le xs r r1 k hn hmy.out
      have hAl := hAll.out _ T
      have hU := hUp.out (allN xs k) ⟨by omega, by omega⟩
      rw [show qE r = 0 by unfold qE; rw [if_neg (by omega)]] at hU
      generalize qU (allN xs k) 1 r = Q at q1 q2 hU
      generalize allN xs k = A at hAl hU
      generalize tS xs r k = S at q1 q2 ⊢
      clear s0 s1 s2 s3
      by_cases hk1 : k = 1
      · have e1 : ((k : Int) == 1) = true := by simp [hk1]
        rw [q2 hk1] at hU
        replace hk1 := Lib.hid hk1
        clear q1 q2
        go_wp2_with (first
          | (go_at_call 19; (with_reducible refine hAl.mono ?_); rintro e w2 ⟨rfl, hb⟩; replace T := ups T hb T.size; clear hb)
          | (go_at_call 18; (with_reducible refine (hU _).mono ?_); rintro e w3 ⟨rfl, hb⟩; replace T := ups T hb T.size; clear hb))
        all_goals (go_ret; exact ⟨by first | rfl | simp, T⟩)
      · have e1 : ((k : Int) == 1) = false := beq_eq_false_iff_ne.2 (by omega)
        clear q2
        go_wp2_with (first
          | (go_at_call 19; (with_reducible refine hAl.mono ?_); rintro e w2 ⟨rfl, hb⟩; replace T := ups T hb T.size; clear hb)
          | (go_at_call 18; (with_reducible refine (hU _).mono ?_); rintro e w3 ⟨rfl, hb⟩; replace T := ups T hb T.size; clear hb))
        go_ret
        exact ⟨rfl, T⟩
theorem PacketNeeds_none (a : Option Addr) (n c : Nat) (r : Int) (w : World) (ht : Tab w) (h : 100 < n ∨ r = 0) :
    Calls Tryd.prog 4 #[.slice a n c, .int .u64 r] w fun e w' => e = .returned (.bool true) ∧ Below w.heap.size w w' := by
  have hA := fun w h => awake_any w h
  have T := Below.refl w.heap.size w
  by_cases hn : (100 : Int) < (n : Int)
  · clear h
    go_enter Tryd.func4, Tryd.ntmps4
    go_wp2_with (go_at_call 12; (with_reducible refine (hA _ (ht.below T)).mono ?_); rintro e w1 ⟨rfl, hb⟩; replace T := ups T hb T.size; clear hb)
    go_ret
    exact ⟨rfl, T⟩
  · obtain rfl : r = 0 := by omega
    clear h
    go_enter Tryd.func4, Tryd.ntmps4
    go_wp2_with (go_at_call 12; (with_reducible refine (hA _ (ht.below T)).mono ?_); rintro e w1 ⟨rfl, hb⟩; replace T := ups T hb T.size; clear hb)
    go_ret
    exact ⟨rfl, T⟩
theorem PacketNeeds_walk (a : Option Addr) (n c : Nat) (xs : Nat → Pk) (r : Int) (w : World) (ht : Tab w) (hI : IsPks w a n c xs) (hok : ∀ i, (xs i).ok) (hcm : c ≤ maxLen) (hnil : a = none → n = 0 ∧ c = 0) (hr : 0 ≤ r ∧ r < 18446744073709551616) :
    Calls Tryd.prog 4 #[.slice a n c, .int .u64 r] w fun e w' => e = .returned (.bool true) ∧ Below w.heap.size w w' := by
  by_cases h : 100 < n ∨ r = 0
  · exact PacketNeeds_none a n c r w ht h
  · exact PacketNeeds_some a n c xs r w ht hI hok hcm (by omega) (by omega) hr.2
end Go.Proofs.YtdmgalcfgignpaaDoor
