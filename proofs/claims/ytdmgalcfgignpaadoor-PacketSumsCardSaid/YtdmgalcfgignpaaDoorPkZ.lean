/- PacketSums: its walk. Condition: the library's table of powers of ten holds them. -/
import Derived.Test.YtdmgalcfgignpaaDoorPkQ
namespace Go.Proofs.YtdmgalcfgignpaaDoor
open Go.RowKit W
set_option linter.unusedVariables false

set_option maxHeartbeats 8000000 in
set_option maxRecDepth 100000 in
theorem PacketSums_some (b o n c : Nat) (xs : Nat → Pk) (at' most U : Int) (w : World) (ht : Tab w) (hI : IsPks w (some ⟨b, o, none⟩) n c xs) (hok : ∀ i, (xs i).ok) (hcm : c ≤ maxLen) (hn0 : 0 < n) (hn : n ≤ 100)
    (hU : IntKind.u64.wrap at' = U) (hU0 : 0 ≤ U) :
    Calls Tryd.prog 7 #[.slice (some ⟨b, o, none⟩) n c, .int .i64 at', .int .i64 most] w fun e w' => e = .returned (.bool true) ∧ Below w.heap.size w w' := by
  have hA := Lib.hid (fun w h => awake_any w h)
  have hn1 : ¬ (100 : Int) < (n : Int) := by omega
  have hAll := Lib.hid (fun (a : Option Addr) (m c : Nat) (ys : Nat → Pk) (w' : World) (h : IsPks w' a m c ys) (hy : ∀ i, (ys i).ok) (hc : c ≤ maxLen) => All_any a m c ys w' h hy hc)
  have hMay := Lib.hid (fun (k : Nat) (w : World) => May_any (xs k).id (xs k).cls (xs k).len (xs k).tick most w)
  have hIh := Lib.hid hI
  have hokh := Lib.hid hok
  have hcmh := Lib.hid hcm
  have hcn := hI.1
  replace ht := Lib.hid ht
  clear hI hok hcm
  obtain ⟨i0, hi, hz0, hz1, hz2⟩ := info_parts infoP
  have T := Below.refl w.heap.size w
  have m0 : 0 ≤ U % ((n : Int) + 1) := Int.emod_nonneg _ (by omega)
  have m1 : U % ((n : Int) + 1) < (n : Int) + 1 := Int.emod_lt_of_pos _ (by omega)
  obtain ⟨q, hq⟩ : ∃ q : Nat, U % ((n : Int) + 1) = (q : Int) := ⟨(U % ((n : Int) + 1)).toNat, by omega⟩
  have hqn : q ≤ n := by omega
  have w1' : IntKind.i64.wrap ((n : Int) + 1) = (n : Int) + 1 := by rw [IntKind.wrap_i64]; omega
  have w2' : IntKind.u64.wrap ((n : Int) + 1) = (n : Int) + 1 := by rw [IntKind.wrap_u64]; omega
  have w3' : IntKind.i64.wrap (q : Int) = (q : Int) := by rw [IntKind.wrap_i64]; omega
  have w4' : U.tmod ((n : Int) + 1) = (q : Int) := by rw [Int.tmod_eq_emod_of_nonneg hU0, hq]
  go_enter Tryd.func7, Tryd.ntmps7
  go_upto_region 8 with (go_at_call 12; (with_reducible refine (hA.out _ (ht.out.below T)).mono ?_); rintro e w1 ⟨rfl, hb⟩; replace T := ups T hb T.size; clear hb)
  obtain ⟨ys, hys⟩ : ∃ ys : Nat → Pk, ys = fun j => xs (n - 1 - j) := ⟨_, rfl⟩
  replace hys := Lib.hid hys
  replace hq := Lib.hid hq
  clear hA m0 m1 w1' w2' w3' w4' hU hU0
  go_loopw [8, 9] (fun v i wr => ∃ p : Nat, p ≤ n ∧ i = .int .i64 ((p : Int) - 1) ∧ wr.ownsRow w.heap.size 24 4 v (n - p) (pkL ys (n - p)) ∧ Below w.heap.size w wr) (fun _ i _ => (Lib.intOf i + 1).toNat)
  case atStart => exact ⟨n, by omega, rfl, by rw [Nat.sub_self]; exact World.ownsRow_nil _ _ _ _, T⟩
  case round =>
    clear T
    obtain ⟨p, hp, rfl, hown, T⟩ := hrel
    by_cases hp0 : p = 0
    · subst hp0
      rw [Nat.sub_zero] at hown
      obtain ⟨a2, c2, rfl, hI2, hc2⟩ := pks_of_own hown
      have hy : ∀ i, (ys i).ok := fun i => by rw [hys.out]; exact hokh.out _
      have eb : allN ys n = allN xs n := by rw [hys.out]; exact all_rev xs n
      have ep := all_parts xs n q hqn
      obtain ⟨A, hA⟩ : ∃ A, allN xs n = A := ⟨_, rfl⟩
      have A1 : A ≤ 4611686018427387904 := by rw [← hA]; exact allN_hi xs n
      have hL := Lib.hid (fun (w' : World) (h : Below wr.heap.size wr w') => All_any (some ⟨b, o, none⟩) n c xs w' (hIh.out.below (ups T h T.size)) hokh.out hcmh.out)
      have hK := Lib.hid (fun (w' : World) (h : Below wr.heap.size wr w') => All_any a2 n c2 ys w' (hI2.below h) hy hc2)
      have hP := Lib.hid (fun (w' : World) (h : Below wr.heap.size wr w') => All_any (some ⟨b, o, none⟩) q c xs w' ((hIh.out.first q hqn).below (ups T h T.size)) hokh.out hcmh.out)
      have hR := Lib.hid (fun (w' : World) (h : Below wr.heap.size wr w') => All_any _ (n - q) (c - q) (fun j => xs (q + j)) w' ((hIh.out.behind q hqn).below (ups T h T.size)) (fun i => hokh.out _) (by have := hcmh.out; omega))
      obtain ⟨P1, hP1⟩ : ∃ P, allN xs q = P := ⟨_, rfl⟩
      obtain ⟨P2, hP2⟩ : ∃ P, allN (fun j => xs (q + j)) (n - q) = P := ⟨_, rfl⟩
      have hS := Lib.hid (fun w => rPlus'_any P1 P2 w (by rw [← hP1]; exact ⟨allN_lo _ _, by have := allN_hi xs q; omega⟩) (by rw [← hP2]; exact ⟨allN_lo _ _, by have := allN_hi (fun j => xs (q + j)) (n - q); omega⟩))
      rw [hP1, hP2, hA] at ep
      rw [eb, hA] at hK
      rw [hA] at hL
      rw [hP1] at hP
      rw [hP2] at hR
      rw [ep] at hS
      obtain ⟨ad, had⟩ : ∃ x, (if c = q then (some ⟨b, o, none⟩ : Option Addr) else some ⟨b, o + q * 4, none⟩) = x := ⟨_, rfl⟩
      rw [had] at hR
      have E := Below.refl wr.heap.size wr
      have q0 : (0 : Int) ≤ (q : Int) := by omega
      have q1 : (q : Int) ≤ (n : Int) := by omega
      have q2 : (n : Int) ≤ (c : Int) := by omega
      have q3 : (q : Int) ≤ (c : Int) := by omega
      clear hown hI2 hy eb ep hA hP1 hP2 hMay hIh
      go_upto_region 16 with (go_at_call 19; (with_reducible refine (hL.out _ E).mono ?_); rintro e w5 ⟨rfl, hb⟩; replace T := ups T hb T.size; replace E := ups E hb E.size; clear hb)
      go_region_held3 (fun _ => True) (trivial) (first
        | (go_at_call 19; (with_reducible refine (hK.out _ (by first | exact E | exact E.drew | exact below_drewN E _)).mono ?_); rintro e w6 ⟨rfl, hb⟩; (first | replace hb := undrew hb | replace hb := undrewN hb | skip); replace T := ups T hb T.size; replace E := ups E hb E.size; clear hb)
        | (go_at_call 19; (with_reducible refine (hP.out _ (by first | exact E | exact E.drew | exact below_drewN E _)).mono ?_); rintro e w7 ⟨rfl, hb⟩; (first | replace hb := undrew hb | replace hb := undrewN hb | skip); replace T := ups T hb T.size; replace E := ups E hb E.size; clear hb)
        | (go_at_call 19; (with_reducible refine (hR.out _ (by first | exact E | exact E.drew | exact below_drewN E _)).mono ?_); rintro e w8 ⟨rfl, hb⟩; (first | replace hb := undrew hb | replace hb := undrewN hb | skip); replace T := ups T hb T.size; replace E := ups E hb E.size; clear hb)
        | (go_at_call 21; (with_reducible refine (hS.out _).mono ?_); rintro e w9 ⟨rfl, hb⟩; (first | replace hb := undrew hb | replace hb := undrewN hb | skip); replace T := ups T hb T.size; replace E := ups E hb E.size; clear hb))
      go_wp2
      go_ret
      exact ⟨rfl, T⟩
    · obtain ⟨r, rfl⟩ : ∃ r, p = r + 1 := ⟨p - 1, by omega⟩
      rw [show ((r + 1 : Nat) : Int) - 1 = (r : Int) by omega]
      have hlt : r < n := by omega
      have i1 : (r : Int) < (n : Int) := by omega
      have i2 : (0 : Int) ≤ (r : Int) := by omega
      have hcs : (n : Int) ≤ (c : Int) := by omega
      have hw1 : IntKind.i64.wrap ((r : Int) - 1) = (r : Int) - 1 := by rw [IntKind.wrap_i64]; omega
      obtain ⟨h2, h3⟩ := hIh.out
      rcases h3 with h3 | ⟨b', o', e', h3⟩
      · omega
      · cases e'
        replace h3 := Lib.hid h3
        obtain ⟨x0, x1, x2, x3⟩ := (h3.out.below T).2 r hlt
        have hM := hMay.out r
        have hstep := Lib.hid (show pkL ys (n - r) = pkL ys (n - (r + 1)) ++ [.int .u64 (xs r).id, .int .i64 (xs r).cls, .int .i64 (xs r).len, .int .u64 (xs r).tick] by
          rw [show n - r = (n - (r + 1)) + 1 by omega, pkL, hys.out]
          simp only [show n - 1 - (n - (r + 1)) = r by omega])
        rcases (by omega : most < 1 ∨ (1 ≤ most ∧ 65535 < most) ∨ (1 ≤ most ∧ most ≤ 65535 ∧ (xs r).len < 1) ∨ (1 ≤ most ∧ most ≤ 65535 ∧ 1 ≤ (xs r).len ∧ most < (xs r).len) ∨ (1 ≤ most ∧ most ≤ 65535 ∧ 1 ≤ (xs r).len ∧ (xs r).len ≤ most)) with g1 | ⟨g1, g2⟩ | ⟨g1, g2, g3⟩ | ⟨g1, g2, g3, g4⟩ | ⟨g1, g2, g3, g4⟩
        all_goals
          (first
            | rw [mayN_arg (by omega)] at hM
            | rw [mayN_len (by omega) (by omega)] at hM
            | rw [mayN_ok (by omega) (by omega)] at hM)
        all_goals
          (go_wp2_with (first
            | (at_builtin; refine wpList_append_own _ rfl _ _ 35 rfl w.heap.size 24 i0 (.agg #[.int .u64 0, .int .i64 0, .int .i64 0, .int .u64 0]) 4 32 Tryd.underlying35 hi hz0 hz1 hz2 rfl (by decide) _ _ _ rfl (hown.alloc _) ⟨_, 0, none⟩ 1 1 [.int .u64 (xs r).id, .int .i64 (xs r).cls, .int .i64 (xs r).len, .int .u64 (xs r).tick] rfl rfl (four_news _ (xs r) _) (four_one (xs r)) (by unfold maxLen; omega) (by omega) (by have := T.size; simp; omega) ?_; intro v' w' hown' hgrow _; replace T := (T.alloc T.size (.cells #[.int .u64 (xs r).id, .int .i64 (xs r).cls, .int .i64 (xs r).len, .int .u64 (xs r).tick] 24)).grown hgrow (by have := T.size; simp; omega) (fun k e => (hown.lt k e).1); obtain ⟨_, _, _, _⟩ := (h3.out.below T).2 r hlt)
            | (go_at_call 13; (with_reducible refine (hM _).mono ?_); rintro e w3 ⟨rfl, hb⟩; replace hown' := own_below hown' hb; replace T := ups T hb T.size; clear hb; obtain ⟨_, _, _, _⟩ := (h3.out.below T).2 r hlt))
           refine ⟨⟨r, by omega, rfl, ?_, T⟩, by simp [Lib.intOf]⟩
           rw [hstep.out, show n - r = n - (r + 1) + 1 by omega]
           exact hown')
set_option maxHeartbeats 4000000 in
set_option maxRecDepth 100000 in
theorem PacketSums_zero (ad : Addr) (c : Nat) (at' most U : Int) (w : World) (ht : Tab w) (hcm : (c : Nat) ≤ maxLen) (hU : IntKind.u64.wrap at' = U) (hU0 : 0 ≤ U) :
    Calls Tryd.prog 7 #[.slice (some ad) 0 c, .int .i64 at', .int .i64 most] w fun e w' => e = .returned (.bool true) ∧ Below w.heap.size w w' := by
  have hA := Lib.hid (fun w h => awake_any w h)
  have h0 := Lib.hid (fun (a : Option Addr) (c : Nat) (hc : c ≤ maxLen) (w' : World) => All_any a 0 c (fun _ => Pk.zero) w' ⟨Nat.zero_le _, .inl rfl⟩ (fun _ => Pk.zero_ok) hc)
  have hS := Lib.hid (fun w => rPlus'_any 0 0 w ⟨by omega, by omega⟩ ⟨by omega, by omega⟩)
  have hz : allN (fun _ => Pk.zero) 0 = 0 := rfl
  rw [hz] at h0
  rw [show rP 0 0 = 0 from rfl] at hS
  have T := Below.refl w.heap.size w
  have m0 : U % 1 = 0 := by omega
  have m1 : U.tmod 1 = 0 := by rw [Int.tmod_eq_emod_of_nonneg hU0, m0]
  have hc0 : (0 : Int) ≤ (c : Int) := by omega
  replace ht := Lib.hid ht
  replace hcm := Lib.hid hcm
  go_enter Tryd.func7, Tryd.ntmps7
  go_upto_region 8 with (go_at_call 12; (with_reducible refine (hA.out _ (ht.out.below T)).mono ?_); rintro e w1 ⟨rfl, hb⟩; replace T := ups T hb T.size; clear hb)
  clear hA m0 m1 hU hU0
  go_loopw [8, 9] (fun v i wr => v = .slice none 0 0 ∧ i = .int .i64 (-1) ∧ Below w.heap.size w wr) (fun _ i _ => 0)
  case atStart => exact ⟨rfl, rfl, T⟩
  case round =>
    clear T
    obtain ⟨rfl, rfl, T⟩ := hrel
    go_upto_region 16 with (go_at_call 19; (with_reducible refine (h0.out _ _ hcm.out _).mono ?_); rintro e w5 ⟨rfl, hb⟩; replace T := ups T hb T.size; clear hb)
    go_region_held3 (fun _ => True) (trivial) (first
      | (go_at_call 19; (with_reducible refine (h0.out _ _ (by first | exact hcm.out | decide) _).mono ?_); rintro e w6 ⟨rfl, hb⟩; (first | replace hb := undrew hb | replace hb := undrewN hb | skip); replace T := ups T hb T.size; clear hb)
      | (go_at_call 21; (with_reducible refine (hS.out _).mono ?_); rintro e w9 ⟨rfl, hb⟩; (first | replace hb := undrew hb | replace hb := undrewN hb | skip); replace T := ups T hb T.size; clear hb))
    go_wp2
    go_ret
    exact ⟨rfl, T⟩
set_option maxHeartbeats 4000000 in
set_option maxRecDepth 100000 in
theorem PacketSums_nil (at' most U : Int) (w : World) (ht : Tab w) (hcm : (0 : Nat) ≤ maxLen) (hU : IntKind.u64.wrap at' = U) (hU0 : 0 ≤ U) :
    Calls Tryd.prog 7 #[.slice none 0 0, .int .i64 at', .int .i64 most] w fun e w' => e = .returned (.bool true) ∧ Below w.heap.size w w' := by
  have hA := Lib.hid (fun w h => awake_any w h)
  have h0 := Lib.hid (fun (a : Option Addr) (c : Nat) (hc : c ≤ maxLen) (w' : World) => All_any a 0 c (fun _ => Pk.zero) w' ⟨Nat.zero_le _, .inl rfl⟩ (fun _ => Pk.zero_ok) hc)
  have hS := Lib.hid (fun w => rPlus'_any 0 0 w ⟨by omega, by omega⟩ ⟨by omega, by omega⟩)
  have hz : allN (fun _ => Pk.zero) 0 = 0 := rfl
  rw [hz] at h0
  rw [show rP 0 0 = 0 from rfl] at hS
  have T := Below.refl w.heap.size w
  have m0 : U % 1 = 0 := by omega
  have m1 : U.tmod 1 = 0 := by rw [Int.tmod_eq_emod_of_nonneg hU0, m0]
  have hc0 : (0 : Int) ≤ (0 : Int) := by omega
  replace ht := Lib.hid ht
  replace hcm := Lib.hid hcm
  go_enter Tryd.func7, Tryd.ntmps7
  go_upto_region 8 with (go_at_call 12; (with_reducible refine (hA.out _ (ht.out.below T)).mono ?_); rintro e w1 ⟨rfl, hb⟩; replace T := ups T hb T.size; clear hb)
  clear hA m0 m1 hU hU0
  go_loopw [8, 9] (fun v i wr => v = .slice none 0 0 ∧ i = .int .i64 (-1) ∧ Below w.heap.size w wr) (fun _ i _ => 0)
  case atStart => exact ⟨rfl, rfl, T⟩
  case round =>
    clear T
    obtain ⟨rfl, rfl, T⟩ := hrel
    go_upto_region 16 with (go_at_call 19; (with_reducible refine (h0.out _ _ hcm.out _).mono ?_); rintro e w5 ⟨rfl, hb⟩; replace T := ups T hb T.size; clear hb)
    go_region_held3 (fun _ => True) (trivial) (first
      | (go_at_call 19; (with_reducible refine (h0.out _ _ (by first | exact hcm.out | decide) _).mono ?_); rintro e w6 ⟨rfl, hb⟩; (first | replace hb := undrew hb | replace hb := undrewN hb | skip); replace T := ups T hb T.size; clear hb)
      | (go_at_call 21; (with_reducible refine (hS.out _).mono ?_); rintro e w9 ⟨rfl, hb⟩; (first | replace hb := undrew hb | replace hb := undrewN hb | skip); replace T := ups T hb T.size; clear hb))
    go_wp2
    go_ret
    exact ⟨rfl, T⟩
theorem PacketSums_long (a : Option Addr) (n c : Nat) (at' most : Int) (w : World) (ht : Tab w) (hn : (100 : Int) < (n : Int)) :
    Calls Tryd.prog 7 #[.slice a n c, .int .i64 at', .int .i64 most] w fun e w' => e = .returned (.bool true) ∧ Below w.heap.size w w' := by
  have hA := fun w h => awake_any w h
  have T := Below.refl w.heap.size w
  go_enter Tryd.func7, Tryd.ntmps7
  go_wp2_with (go_at_call 12; (with_reducible refine (hA _ (ht.below T)).mono ?_); rintro e w1 ⟨rfl, hb⟩; replace T := ups T hb T.size; clear hb)
  go_ret
  exact ⟨rfl, T⟩
theorem PacketSums_walk (a : Option Addr) (n c : Nat) (xs : Nat → Pk) (at' most : Int) (w : World) (ht : Tab w) (hI : IsPks w a n c xs) (hok : ∀ i, (xs i).ok) (hcm : c ≤ maxLen) (hnil : a = none → n = 0 ∧ c = 0)
    (_ : -9223372036854775808 ≤ at' ∧ at' < 9223372036854775808) (_ : -9223372036854775808 ≤ most ∧ most < 9223372036854775808) :
    Calls Tryd.prog 7 #[.slice a n c, .int .i64 at', .int .i64 most] w fun e w' => e = .returned (.bool true) ∧ Below w.heap.size w w' := by
  have hU0 : 0 ≤ IntKind.u64.wrap at' := by rw [IntKind.wrap_u64]; omega
  by_cases hn : (100 : Int) < (n : Int)
  · exact PacketSums_long a n c at' most w ht hn
  by_cases h0 : n = 0
  · subst h0
    cases a with
    | none =>
      obtain ⟨_, rfl⟩ := hnil rfl
      exact PacketSums_nil at' most _ w ht hcm rfl hU0
    | some ad => exact PacketSums_zero ad c at' most _ w ht hcm rfl hU0
  · have hI' := hI
    rcases hI'.2 with h | ⟨b, o, rfl, _⟩
    · exact absurd h h0
    · exact PacketSums_some b o n c xs at' most _ w ht hI hok hcm (by omega) (by omega) rfl hU0
end Go.Proofs.YtdmgalcfgignpaaDoor
