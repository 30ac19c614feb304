/- What a table tells of an id: where it stands, its value; how many there are. No condition but words. -/
import Derived.Test.YtenghpgnhmglpaaDoorTbX
namespace Go.Proofs.YtenghpgnhmglpaaDoor
open Go.RowKit
set_option linter.unusedVariables false
section
variable {w w' : World} {χ χ' : Nat → Nat} {c d B Bm m : Nat} {N : List Int} {F : Int → Option Nat} {G : Int → Value} {vn : Value} {L : List Im}
/-- Where a number stands among the pages' numbers. -/
theorem search_any (h : TbX w χ c B Bm N F G vn m L) (p : Int) : Calls Tryd.prog 41 #[vn, eI p] w fun e w' => e = .returned (.tuple #[eI (lowK p N : Int), .bool (N.contains p)]) ∧ ∃ k, w' = w.drewN k := by
  obtain ⟨a, cap, rfl, hk, hm⟩ := own_len h.nums
  have hl : (N.length : Int) ≤ 1024 - 0 := riseK_len h.rise (fun q hq => h.rng q hq) (by omega)
  by_cases h0 : N.length = 0
  · have e : N = [] := List.eq_nil_of_length_eq_zero h0
    subst e
    exact (Tryd.slices_BinarySearch_int_empty a cap p w).mono fun e w' ⟨h1, h2⟩ => ⟨by rw [h1]; rfl, 0, h2⟩
  · obtain ⟨g, cap', cur, e, _, _, _, _, _, hc⟩ := own_some h.nums (by omega)
    cases e
    have := Tryd.slices_BinarySearch_int g 0 N.length cap N p w (Nat.le_refl _) (by omega) (fun j hj => by
      have := hc j (eI N[j]) (by unfold kC; rw [List.getElem?_map, List.getElem?_eq_getElem hj]; rfl)
      rw [add_plain] at this
      rw [this, List.getD_eq_getElem?_getD, List.getElem?_eq_getElem hj]; rfl) (by rw [List.take_length]; exact riseK_le h.rise)
    rw [List.take_length] at this
    exact this
/-- What find tells. -/
def fndQ (F : Int → Option Nat) (L : List Im) (k : Int) : Option Nat := if hasI k L = true then F (k / 64) else none
def fndP (L : List Im) (k : Int) : Int := if hasI k L = true then (lowN k (pgI (k / 64) L) : Int) else 0
theorem good_may (h : Good L) {k : Int} (hk : hasI k L = true) : mayI k = true := by
  obtain ⟨a, ha, e⟩ := hasI_iff.1 hk
  have := (h.each a ha).1
  rw [e] at this
  exact mayI_iff.2 this
theorem tdiv_id {k : Int} (h : 0 ≤ k) : Int.tdiv k 64 = k / 64 := Int.tdiv_eq_ediv_of_nonneg h
theorem tmod_id {k : Int} (h : 0 ≤ k) : Int.tmod k 64 = k % 64 := Int.tmod_eq_emod_of_nonneg h
set_option maxHeartbeats 2000000 in
theorem find_any (h : TbX w χ c B Bm N F G vn m L) (k : Int) : Calls Tryd.prog 33 #[.pointer (some ⟨B, 0, none⟩), eI k] w fun e w' => e = .returned (.tuple #[pV (fndQ F L k), eI (fndP L k)]) ∧ ∃ n, w' = w.drewN n := by
  have hW := wrong_may h.box k
  have hu := undef_ne
  cases hm : mayI k with
  | false =>
    have hh : hasI k L = false := by
      cases hh : hasI k L with
      | false => rfl
      | true => rw [good_may h.good hh] at hm; cases hm
    rw [hm] at hW
    unfold fndQ fndP
    rw [hh]
    go_enter Tryd.func33, Tryd.ntmps33
    go_wp2_with (go_at_call 34; (with_reducible refine hW.mono ?_); rintro e w1 ⟨rfl, rfl⟩)
    go_ret2
    exact ⟨rfl, 0, rfl⟩
  | true =>
    rw [hm] at hW
    have hk := mayI_iff.1 hm
    have hq := tdiv_id (k := k) (by omega)
    have hr := tmod_id (k := k) (by omega)
    have hwq : IntKind.i64.wrap (k / 64) = k / 64 := i64_id (by omega)
    have hwr : IntKind.i64.wrap (k % 64) = k % 64 := i64_id (by omega)
    have hpg := has_pg (k := k) (L := L)
    have hI : Inte (k / 64) := by unfold Inte; omega
    have hlk := h.map.look hI
    have c0 := h.box.cell 0
    cases hF : F (k / 64) with
    | none =>
      have hh : hasI k L = false := by
        cases hh : hasI k L with
        | false => rfl
        | true =>
          rw [hh] at hpg
          have hs := (h.mem (k / 64)).2 (h.sub _ (fun e => by rw [e] at hpg; cases hpg))
          rw [hF] at hs; cases hs
      rw [hF] at hlk
      replace hlk : (Instr.lookup 47 (.map (some Bm)) (eI (k / 64)) false).run Tryd.prog w = .ok (.pointer none) w := hlk
      unfold fndQ fndP
      rw [hh]
      clear hpg hF h hm hk hI
      generalize k / 64 = p at *
      go_enter Tryd.func33, Tryd.ntmps33
      go_upto_region 4 with (go_at_call 34; (with_reducible refine hW.mono ?_); rintro e w1 ⟨rfl, rfl⟩)
      go_quiet (fail)
      go_wp2
      go_ret2
      exact ⟨rfl, _, rfl⟩
    | some q =>
      obtain ⟨x, p1, p2, p3, p4, p5⟩ := h.page _ _ hF
      have hr64 : (k % 64).toNat < 64 := by omega
      obtain ⟨s1, s2, s3⟩ := shl_one hr64
      have hbit := p2.2 (k % 64).toNat hr64
      rw [show 64 * (k / 64) + (((k % 64).toNat : Nat) : Int) = k by omega] at hbit
      have hlow := bits_low p2 h.good.rise (k % 64).toNat (by omega)
      rw [show 64 * (k / 64) + (((k % 64).toNat : Nat) : Int) = k by omega] at hlow
      have hpl := fun k' => place_any x (k % 64).toNat p2.1 hr64 (w := w.drewN k') (vv := G (k / 64)) (q := q) p1
      rw [hlow] at hpl
      have hrn : (k % 64) = (((k % 64).toNat : Nat) : Int) := by omega
      have hz := and_u64 x (2 ^ (k % 64).toNat) ((2 ^ (k % 64).toNat : Nat) : Int) p2.1 rfl (by omega)
      have hz2 : (((x &&& 2 ^ (k % 64).toNat : Nat) : Int) == 0) = !hasI k L := by
        rw [← hbit, Bool.eq_iff_iff, beq_iff_eq]
        rw [nat_bit, bit_iff]
        have hp2 := Nat.two_pow_pos (k % 64).toNat
        have h2 : x / 2 ^ (k % 64).toNat % 2 < 2 := Nat.mod_lt _ (by omega)
        generalize 2 ^ (k % 64).toNat = P at *
        by_cases hx : x / P % 2 = 1
        · rw [hx]; simp; omega
        · have : x / P % 2 = 0 := by omega
          rw [this]; simp
      rw [hF] at hlk
      replace hlk : (Instr.lookup 47 (.map (some Bm)) (eI (k / 64)) false).run Tryd.prog w = .ok (.pointer (some ⟨q, 0, none⟩)) w := hlk
      have cq := p1.cell 0
      rw [hrn] at hr hwr
      have hr0 : ¬ (((k % 64).toNat : Nat) : Int) < 0 := by omega
      have hr1 : min (k % 64).toNat 64 = (k % 64).toNat := by omega
      unfold fndQ fndP
      rw [hF]
      generalize lowN k (pgI (k / 64) L) = r at *
      clear hrn hlow hbit hpg p2 p3 hF
      generalize (k % 64).toNat = j at *
      generalize 2 ^ j = P at *
      generalize x &&& P = z at *
      cases hh : hasI k L with
      | false =>
        rw [hh] at hz2
        replace hz2 : ((z : Int) == 0) = true := hz2
        clear hh h hm
        generalize k / 64 = p at *
        go_enter Tryd.func33, Tryd.ntmps33
        go_upto_region 4 with (go_at_call 34; (with_reducible refine hW.mono ?_); rintro e w1 ⟨rfl, rfl⟩)
        go_quiet (fail)
        go_wp2
        go_ret2
        exact ⟨rfl, _, rfl⟩
      | true =>
        rw [hh] at hz2
        replace hz2 : ((z : Int) == 0) = false := hz2
        clear hh h hm
        generalize k / 64 = p at *
        go_enter Tryd.func33, Tryd.ntmps33
        go_upto_region 4 with (go_at_call 34; (with_reducible refine hW.mono ?_); rintro e w1 ⟨rfl, rfl⟩)
        go_quiet (fail)
        go_wp2_with (go_at_call 37; (with_reducible refine (hpl _).mono ?_); rintro e w1 ⟨rfl, n1, rfl⟩)
        go_ret2
        exact ⟨rfl, _, rfl⟩
end
end Go.Proofs.YtenghpgnhmglpaaDoor
