/- One copy of a run: what it has at a tick, stopped and whole, and when it has so much. -/
import Derived.Test.YtejolaifdjcghaaGreatSgO
import Derived.Test.YtejolaifdjcghaaGreatGM
import Derived.Deep.RegionHeld3
namespace Go.Proofs.YtejolaifdjcghaaGreat
open Go.RowKit Go.Shelf W
set_option linter.unusedVariables false
set_option maxRecDepth 100000
theorem Box.two {W : World} {B : Nat} {t : TypeId} {a b : Int} (h : Box W B #[eU a, eU b] t) : W.cell? ⟨B, 0, none⟩ = some (.int .u64 a) ∧ W.cell? ⟨B, 1, none⟩ = some (.int .u64 b) := ⟨h.cell 0, h.cell 1⟩
theorem Box.three {W : World} {B : Nat} {t : TypeId} {a b c : Int} (h : Box W B #[eU a, eU b, eU c] t) : W.cell? ⟨B, 0, none⟩ = some (.int .u64 a) ∧ W.cell? ⟨B, 1, none⟩ = some (.int .u64 b) ∧ W.cell? ⟨B, 2, none⟩ = some (.int .u64 c) := ⟨h.cell 0, h.cell 1, h.cell 2⟩
namespace W
def hi6 (v : Int) : Int := v / 18446744073709551616
def lo6 (v : Int) : Int := v % 18446744073709551616
theorem V_hl6 (v : Int) : V (hi6 v) (lo6 v) = v := by unfold V hi6 lo6; omega
theorem hi6_word {v : Int} (h : 0 ≤ v ∧ v < 340282366920938463463374607431768211456) : Word (hi6 v) := by unfold Word hi6; omega
theorem lo6_word (v : Int) : Word (lo6 v) := by unfold Word lo6; omega
theorem u64_id (n : Int) (h : 0 ≤ n ∧ n < 18446744073709551616) : IntKind.u64.wrap n = n := by
  simp [IntKind.wrap, IntKind.signed, IntKind.bits]; omega
theorem i64_id (n : Int) (h : -9223372036854775808 ≤ n ∧ n < 9223372036854775808) : IntKind.i64.wrap n = n := by
  simp [IntKind.wrap, IntKind.signed, IntKind.bits]; omega
end W
set_option maxHeartbeats 1000000 in
theorem b_has_of (x y f l r t d a v : Int) (w : World) (hd : IntKind.u64.wrap (t - x) = d)
    (hA : ∀ w, Calls Tryz.prog 84 #[.agg #[eU f, eU l, eU r], eU d] w fun e w' => e = .returned (eU a) ∧ Below w.heap.size w w')
    (hP : ∀ w, Calls Tryz.prog 83 #[eU y, eU a] w fun e w' => e = .returned (eU v) ∧ Below w.heap.size w w') :
    Calls Tryz.prog 114 #[.agg #[eU x, eU y], .agg #[eU f, eU l, eU r], eU t] w fun e w' => e = .returned (eU v) ∧ Below w.heap.size w w' := by
  have B1 := (Box.new w 136 #[eU x, eU y]).alloc (.cells #[eU f, eU l, eU r] 24)
  have B2 := Box.new (w.alloc (.cells #[eU x, eU y] 136)) 24 #[eU f, eU l, eU r]
  have T := up2 w (.cells #[eU x, eU y] 136) (.cells #[eU f, eU l, eU r] 24)
  simp only [World.size_alloc] at B2
  go_enter Tryz.func114, Tryz.ntmps114
  go_upto_region 1 with (fail)
  obtain ⟨c0, c1⟩ := B1.two
  obtain ⟨c2, c3, c4⟩ := B2.three
  go_region_held3 (fun w' => (w'.cell? ⟨w.heap.size, 0, none⟩ = some (.int .u64 x) ∧ w'.cell? ⟨w.heap.size, 1, none⟩ = some (.int .u64 y)) ∧ w'.cell? ⟨w.heap.size + 1, 0, none⟩ = some (.int .u64 f) ∧ w'.cell? ⟨w.heap.size + 1, 1, none⟩ = some (.int .u64 l) ∧ w'.cell? ⟨w.heap.size + 1, 2, none⟩ = some (.int .u64 r))
    (first | exact ⟨⟨c0, c1⟩, c2, c3, c4⟩ | exact ⟨(B1.below hb2).two, (B2.below hb2).three⟩ | exact ⟨(B1.below (up hb2 hb3 hb2.size)).two, (B2.below (up hb2 hb3 hb2.size)).three⟩)
    (first
      | (go_at_call 84; (with_reducible refine (hA _).mono ?_); rintro e w2 ⟨rfl, hb2⟩; (first | replace hb2 := undrew hb2 | replace hb2 := undrewN hb2 | skip))
      | (go_at_call 83; (with_reducible refine (hP _).mono ?_); rintro e w3 ⟨rfl, hb3⟩; (first | replace hb3 := undrew hb3 | replace hb3 := undrewN hb3 | skip)))
  go_wp2
  go_ret
  exact ⟨rfl, up (up T hb2 T.size) hb3 (up T hb2 T.size).size⟩
theorem b_has_any (k : Int × Int) (f l r t : Int) (w : World) (hk0 : Word k.1) (hk1 : Word k.2) (hf : Word f) (hl : Word l) (hr : Word r) (ht : Word t) (hx : k.1 ≤ t) :
    Calls Tryz.prog 114 #[.agg #[eU k.1, eU k.2], .agg #[eU f, eU l, eU r], eU t] w fun e w' => e = .returned (eU (stp (hv f l r k t))) ∧ Below w.heap.size w w' := by
  have hd : Word (t - k.1) := ⟨by omega, by have := ht.2; have := hk0.1; omega⟩
  have h0 := cW_nn hf.1 hr.1 hl.1 hd.1
  have e : stp (hv f l r k t) = rP k.2 (cAt f l r (t - k.1)) := by
    unfold rP cAt hv
    have h1 := stp_or (cW f l r (t - k.1)); have h2 := stp_or (k.2 + stp (cW f l r (t - k.1))); have h3 := stp_or (k.2 + cW f l r (t - k.1)); have := hk1.1
    omega
  rw [e]
  exact b_has_of _ _ _ _ _ _ _ _ _ w (u64_id _ hd) (fun w => At_any f l r _ w hf hl hr hd) (fun w => rPlus'_any _ _ w hk1 ⟨cAt_nn hf.1 hr.1 hl.1 hd.1, by have := cAt_le f l r (t - k.1); omega⟩)
set_option maxHeartbeats 2000000 in
theorem b_whole_of (x y f l r t d m e2 a b : Int) (w : World) (hd : IntKind.u64.wrap (t - x) = d) (hm : min d l = m) (he : IntKind.u64.wrap (d - m) = e2)
    (hD : ∀ X p q, Box X p #[eU y, eU f, eU r] 22 → Box X q #[eU 1, eU m, eU e2] 22 → Calls Tryz.prog 117 #[.slice (some ⟨p, 0, none⟩) 3 3, .slice (some ⟨q, 0, none⟩) 3 3] X fun e w' => e = .returned (.tuple #[.agg #[eU a, eU b], eI 0]) ∧ Below X.heap.size X w') :
    Calls Tryz.prog 111 #[.agg #[eU x, eU y], .agg #[eU f, eU l, eU r], eU t] w fun e w' => e = .returned (.agg #[eU a, eU b]) ∧ Below w.heap.size w w' := by
  have O := ((Own.new ((w.alloc (.cells #[eU x, eU y] 136)).alloc (.cells #[eU f, eU l, eU r] 24)) 0 0).alloc (.cells #[eU y, eU f, eU r] 22)).alloc (.cells #[eU 1, eU m, eU e2] 22)
  have R1 := (Box.new (((w.alloc (.cells #[eU x, eU y] 136)).alloc (.cells #[eU f, eU l, eU r] 24)).alloc (.cells #[eU 0, eU 0] 79)) 22 #[eU y, eU f, eU r]).alloc (.cells #[eU 1, eU m, eU e2] 22)
  have R2 := Box.new ((((w.alloc (.cells #[eU x, eU y] 136)).alloc (.cells #[eU f, eU l, eU r] 24)).alloc (.cells #[eU 0, eU 0] 79)).alloc (.cells #[eU y, eU f, eU r] 22)) 22 #[eU 1, eU m, eU e2]
  have T := (((up2 w (.cells #[eU x, eU y] 136) (.cells #[eU f, eU l, eU r] 24)).alloc (by simp; omega) (.cells #[eU 0, eU 0] 79)).alloc (by simp; omega) (.cells #[eU y, eU f, eU r] 22)).alloc (by simp; omega) (.cells #[eU 1, eU m, eU e2] 22)
  simp only [World.size_alloc] at O R1 R2
  go_enter Tryz.func111, Tryz.ntmps111
  go_wp2_with (go_at_call 117; (with_reducible refine (hD _ _ _ R1 R2).mono ?_); rintro e w1 ⟨rfl, hb⟩; replace O := O.below hb; replace T := up T hb T.size; clear hb R1 R2; have P := Own.new w1 a b; have O2 := O.alloc (.cells #[eU a, eU b] 79); obtain ⟨⟨_, p0, p1⟩, _⟩ := id P; obtain ⟨⟨_, o0, o1⟩, g0, g1⟩ := id O2; have T2 := T.alloc T.size (.cells #[eU a, eU b] 79))
  obtain ⟨⟨_, r1, r2⟩, _⟩ := O2.store a b
  exact bodyPost_ret (v := .agg #[eU a, eU b]) (by simp [results, Tryz.results111, go_sem, r1, r2]) rfl ⟨rfl, (T2.setCell (by simp; omega) _).setCell (by simp; omega) _⟩
theorem S_three (f g : Nat → Int) : S f g 3 = f 0 * g 0 + f 1 * g 1 + f 2 * g 2 := by
  show (((0 : Int) + f 0 * g 0) + f 1 * g 1) + f 2 * g 2 = _
  omega
theorem Box.row3 {W : World} {B : Nat} {t : TypeId} {a b c : Int} (h : Box W B #[eU a, eU b, eU c] t) : Row W (some ⟨B, 0, none⟩) 3 (fun j => [a, b, c].getD j 0) :=
  .inr ⟨B, 0, rfl, h.lt, fun j hj => by
    match j, hj with
    | 0, _ => exact h.cell 0
    | 1, _ => exact h.cell 1
    | 2, _ => exact h.cell 2⟩
theorem hv_big {f l r t : Int} {k : Int × Int} (hf : 0 ≤ f ∧ f ≤ 1048576) (hl : 0 ≤ l) (hr : 0 ≤ r ∧ r ≤ 1048576) (ht : Word t) (hk0 : Word k.1) (hk1 : Word k.2) (hx : k.1 ≤ t) : 0 ≤ hv f l r k t ∧ hv f l r k t < 170141183460469231731687303715884105728 := by
  have h0 := hv_nn hf.1 hr.1 hl hx hk1.1
  refine ⟨h0, ?_⟩
  have e : hv f l r k t = k.2 + (f * min (t - k.1) l + r * (t - k.1 - min (t - k.1) l)) := by
    unfold hv
    rcases Int.lt_or_le (t - k.1) l with h | h
    · rw [cW_lo (by omega), Int.min_eq_left (by omega), Int.sub_self, Int.mul_zero]; omega
    · rw [cW_hi h, Int.min_eq_right h]
  have a1 : f * min (t - k.1) l ≤ 1048576 * 18446744073709551616 := by
    refine Int.le_trans (Int.mul_le_mul_of_nonneg_right hf.2 ?_) (Int.mul_le_mul_of_nonneg_left ?_ (by omega)) <;> unfold Word at * <;> omega
  have a2 : r * (t - k.1 - min (t - k.1) l) ≤ 1048576 * 18446744073709551616 := by
    refine Int.le_trans (Int.mul_le_mul_of_nonneg_right hr.2 ?_) (Int.mul_le_mul_of_nonneg_left ?_ (by omega)) <;> unfold Word at * <;> omega
  have := hk1.2
  omega
theorem b_whole_any (k : Int × Int) (f l r t : Int) (w : World) (hk0 : Word k.1) (hk1 : Word k.2) (hf : 0 ≤ f ∧ f ≤ 1048576) (hl : Word l) (hr : 0 ≤ r ∧ r ≤ 1048576) (ht : Word t) (hx : k.1 ≤ t) :
    Calls Tryz.prog 111 #[.agg #[eU k.1, eU k.2], .agg #[eU f, eU l, eU r], eU t] w fun e w' => e = .returned (.agg #[eU (hi6 (hv f l r k t)), eU (lo6 (hv f l r k t))]) ∧ Below w.heap.size w w' := by
  have hd : Word (t - k.1) := ⟨by omega, by have := ht.2; have := hk0.1; omega⟩
  have hm : Word (min (t - k.1) l) := by unfold Word at *; omega
  have he : Word (t - k.1 - min (t - k.1) l) := by unfold Word at *; omega
  have hfw : Word f := ⟨hf.1, by omega⟩
  have hrw : Word r := ⟨hr.1, by omega⟩
  obtain ⟨b0, b1⟩ := hv_big hf hl.1 hr ht hk0 hk1 hx
  refine b_whole_of _ _ _ _ _ _ _ _ _ _ _ w (u64_id _ hd) rfl (u64_id _ he) ?_
  intro X p q h1 h2
  have hD := Dot_any (fun j => [k.2, f, r].getD j 0) (fun j => [1, min (t - k.1) l, t - k.1 - min (t - k.1) l].getD j 0) _ _ 3 3 3 3 X (by omega) (by omega)
    (fun j hj => by
      match j, hj with
      | 0, _ => exact hk1
      | 1, _ => exact hfw
      | 2, _ => exact hrw)
    (fun j hj => by
      match j, hj with
      | 0, _ => exact (⟨by omega, by omega⟩ : Word 1)
      | 1, _ => exact hm
      | 2, _ => exact he) h1.row3 h2.row3
  have e : S (fun j => [k.2, f, r].getD j 0) (fun j => [1, min (t - k.1) l, t - k.1 - min (t - k.1) l].getD j 0) (min 3 3) = hv f l r k t := by
    rw [Nat.min_self, S_three]
    show k.2 * 1 + f * min (t - k.1) l + r * (t - k.1 - min (t - k.1) l) = _
    unfold hv
    rw [Int.mul_one]
    rcases Int.lt_or_le (t - k.1) l with h | h
    · rw [cW_lo (by omega), Int.min_eq_left (by omega), Int.sub_self, Int.mul_zero]; omega
    · rw [cW_hi h, Int.min_eq_right h]; omega
  rw [e] at hD
  refine hD.mono ?_
  rintro e1 w' ⟨rfl, hb⟩
  refine ⟨?_, hb⟩
  unfold sH sL sE
  rw [if_pos (by omega), if_pos (by omega), if_pos (by omega)]
  rfl
end Go.Proofs.YtejolaifdjcghaaGreat
