/- Drop of a table. No condition but words. -/
import Derived.Test.YtenghpgnhmglpaaDoorTbH
namespace Go.Proofs.YtenghpgnhmglpaaDoor
open Go.RowKit
set_option linter.unusedVariables false
section
variable {w w' : World} {χ χ' : Nat → Nat} {c d B Bm m : Nat} {N : List Int} {F : Int → Option Nat} {G : Int → Value} {vn : Value} {L : List Im}
/-- What a call leaves: a table of the row M. -/
def Left (w w' : World) (χ : Nat → Nat) (c B Bm : Nat) (M : List Im) : Prop :=
  ∃ χ' N' F' G' vn', Col χ χ' c w w' ∧ TbX w' χ' c B Bm N' F' G' vn' M.length M ∧ ∀ p ∈ N', pgI p M ≠ []
/-- One id's value taken off its page, its bit cleared, the count lowered. -/
theorem drop_left (h : TbX w χ c B Bm N F G vn m L) {k : Int} {q x n1 l1 : Nat} (hq : F (k / 64) = some q) (hh : hasI k L = true) (hm : mayI k = true) (p1 : Box w q #[eU (x : Int), G (k / 64)] 72) (p2 : BitsP x (k / 64) L) {w3 : World} {v' : Value}
    (k1 : w3.ownsRow 0 25 1 v' ((pgI (k / 64) L).length - 1) ((valsI (pgI (k / 64) L)).take (lowN k (pgI (k / 64) L)) ++ (valsI (pgI (k / 64) L)).drop (lowN k (pgI (k / 64) L) + 1))) (k2 : (w.drewN n1).grownBy w3 (G (k / 64)).ownBlock) (k3 : v'.ownBlock = (G (k / 64)).ownBlock) :
    ∃ χ' G', Col χ χ' c w ((((w3.setCell ⟨q, 1, none⟩ v').drew).setCell ⟨q, 0, none⟩ (eU ((x &&& (18446744073709551615 - 2 ^ (k % 64).toNat) : Nat) : Int))).setCell ⟨B, 2, none⟩ (eI (l1 : Int))) ∧
      TbX ((((w3.setCell ⟨q, 1, none⟩ v').drew).setCell ⟨q, 0, none⟩ (eU ((x &&& (18446744073709551615 - 2 ^ (k % 64).toNat) : Nat) : Int))).setCell ⟨B, 2, none⟩ (eI (l1 : Int))) χ' c B Bm N F G' vn l1 (delI k L) ∧
      Box ((((w3.setCell ⟨q, 1, none⟩ v').drew).setCell ⟨q, 0, none⟩ (eU ((x &&& (18446744073709551615 - 2 ^ (k % 64).toNat) : Nat) : Int))).setCell ⟨B, 2, none⟩ (eI (l1 : Int))) q #[eU ((x &&& (18446744073709551615 - 2 ^ (k % 64).toNat) : Nat) : Int), v'] 72 := by
  have hr := rise_pg (p := k / 64) h.good.rise
  have hp : hasI k (pgI (k / 64) L) = true := by rw [has_pg]; exact hh
  obtain ⟨_, _, p2', p3, _, _⟩ := h.page _ _ hq
  have nqG : (G (k / 64)).ownBlock ≠ some q := own_not p3 p1 (by decide)
  have nqB : q ≠ B := box_ne p1 h.box (by decide)
  have q3 : Box w3 q #[eU (x : Int), G (k / 64)] 72 := (p1.below (below_drewN (Below.refl _ w) n1)).grown k2 (fun e => nqG e.symm)
  have o3 : Off (fun k' => k' = q ∨ (G (k / 64)).ownBlock = some k') w w3 := (Off.of (below_drewN (Below.refl _ w) n1)).trans (show Off (fun k' => k' = q ∨ (G (k / 64)).ownBlock = some k') (w.drewN n1) w3 from ⟨k2.os, k2.tape, k2.output, k2.size, fun i hi hn => k2.block i hi (fun e => hn (.inr e.symm))⟩) (fun _ _ h => h)
  have o4 := Off.set (S := fun k' => k' = q ∨ (G (k / 64)).ownBlock = some k') (Off.drew (Off.set (S := fun k' => k' = q ∨ (G (k / 64)).ownBlock = some k') o3 (B := q) (.inl rfl) 1 v')) (B := q) (.inl rfl) 0 (eU ((x &&& (18446744073709551615 - 2 ^ (k % 64).toNat) : Nat) : Int))
  have q4 : Box (((w3.setCell ⟨q, 1, none⟩ v').drew).setCell ⟨q, 0, none⟩ (eU ((x &&& (18446744073709551615 - 2 ^ (k % 64).toNat) : Nat) : Int))) q #[eU ((x &&& (18446744073709551615 - 2 ^ (k % 64).toNat) : Nat) : Int), v'] 72 := by
    have := ((q3.set 1 v').drew).set 0 (eU ((x &&& (18446744073709551615 - 2 ^ (k % 64).toNat) : Nat) : Int))
    simpa using this
  have hvne : v'.ownBlock ≠ some q := by rw [k3]; exact nqG
  have r4 : (((w3.setCell ⟨q, 1, none⟩ v').drew).setCell ⟨q, 0, none⟩ (eU ((x &&& (18446744073709551615 - 2 ^ (k % 64).toNat) : Nat) : Int))).ownsRow 0 25 1 v' (pgI (k / 64) (delI k L)).length (valsI (pgI (k / 64) (delI k L))) := by
    have e1 : pgI (k / 64) (delI k L) = delI k (pgI (k / 64) L) := pg_del
    have e2 := vals_del hr hp
    have e3 : (delI k (pgI (k / 64) L)).length = (pgI (k / 64) L).length - 1 := by
      have := k1.1
      rw [e2, vals_len] at this
      omega
    rw [e1, e3, ← e2]
    exact (Off.set (S := fun k' => k' = q) (Off.drew (Off.set (S := fun k' => k' = q) (Off.of (Below.refl _ w3)) (B := q) rfl 1 v')) (B := q) rfl 0 _).owns k1 (fun g e e' => hvne (by rw [e, e']))
  have hdrop : delI k L = dropT k L := (dropT_ok (askE_ok hm hh)).symm
  obtain ⟨t1, t2⟩ := h.turn hq o4 q4 (bits_drop p2) r4 (fun g e => .inl (by rw [← k3]; exact e)) (fun r hr => ⟨pg_del_other (fun e => hr e.symm), fun y hy => bits_drop_other hy hr⟩) (by rw [hdrop]; exact h.good.drop)
  obtain ⟨u1, u2⟩ := t1.count l1
  exact ⟨_, _, t2.trans u2, u1, q4.setNe nqB _⟩
theorem TbX.nonempty (hfull : ∀ p ∈ N, pgI p L ≠ []) {k : Int} (h0 : pgI (k / 64) (delI k L) ≠ []) : ∀ p ∈ N, pgI p (delI k L) ≠ [] := fun p hp => by
  by_cases e : p = k / 64
  · rw [e]; exact h0
  · rw [pg_del_other (fun e' => e e'.symm)]; exact hfull p hp
set_option maxHeartbeats 2000000 in
theorem drop_core (h : TbX w χ c B Bm N F G vn L.length L) (hfull : ∀ p ∈ N, pgI p L ≠ []) (hlen : L.length ≤ 100000) (k : Int) (hm : mayI k = true) (hh : hasI k L = true) : Calls Tryd.prog 17 #[.pointer (some ⟨B, 0, none⟩), eI k] w fun e w' => e = .returned (eI 0) ∧ Left w w' χ c B Bm (delI k L) := by
  have hF := find_any h k
  have hW := wrong_may h.box k
  rw [hm] at hW
  obtain ⟨q, z, g, cap, hq, e1, e2, e3, e4, h1, h2, h3, h4, h5, h6⟩ := h.there hh
  obtain ⟨x, p1, p2, p3, p4, p5⟩ := h.page _ _ hq
  have hk := mayI_iff.1 hm
  rw [e1, e2] at hF
  replace hF : Calls Tryd.prog 33 #[.pointer (some ⟨B, 0, none⟩), eI k] w fun e w' => e = .returned (.tuple #[.pointer (some ⟨q, 0, none⟩), eI (lowN k (pgI (k / 64) L) : Int)]) ∧ ∃ n, w' = w.drewN n := hF
  have hr := tmod_id (k := k) (by omega)
  have hqq := tdiv_id (k := k) (by omega)
  have hrn : (k % 64) = (((k % 64).toNat : Nat) : Int) := by omega
  have hwr : IntKind.i64.wrap (k % 64) = k % 64 := i64_id (by omega)
  have hwq : IntKind.i64.wrap (k / 64) = k / 64 := i64_id (by omega)
  have hr64 : (k % 64).toNat < 64 := by omega
  obtain ⟨s1, s2, s3⟩ := shl_one hr64
  obtain ⟨l1, hl1⟩ : ∃ l1, l1 + 1 = L.length := by
    obtain ⟨a, ha, _⟩ := hasI_iff.1 hh
    cases L with
    | nil => cases ha
    | cons b L => exact ⟨L.length, rfl⟩
  have hdl : (delI k L).length = l1 := by
    have := del_length' h.good.rise hh
    omega
  have hde : ∀ n1, Calls Tryd.prog 38 #[G (k / 64), eI (lowN k (pgI (k / 64) L) : Int), eI ((lowN k (pgI (k / 64) L) : Int) + 1)] (w.drewN n1) (DelU (w.drewN n1) 0 (pgI (k / 64) L).length (lowN k (pgI (k / 64) L)) (G (k / 64)) (valsI (pgI (k / 64) L))) := fun n1 => by
    have := delU_any (own_below p3 (below_drewN (Below.refl _ w) n1)) h1 (by omega) (vals_one _)
    rw [show ((lowN k (pgI (k / 64) L) + 1 : Nat) : Int) = (lowN k (pgI (k / 64) L) : Int) + 1 by omega] at this
    exact this
  have hnot := u64_andNot_nat x (2 ^ (k % 64).toNat) p2.1 (by omega)
  have nqG : (G (k / 64)).ownBlock ≠ some q := own_not p3 p1 (by decide)
  have nqB : q ≠ B := box_ne p1 h.box (by decide)
  have nBG : (G (k / 64)).ownBlock ≠ some B := own_not p3 h.box (by decide)
  have hfin := Lib.hid (fun (n1 : Nat) (w3 : World) (v' : Value) k1 k2 k3 => drop_left h (l1 := l1) (n1 := n1) (w3 := w3) (v' := v') hq hh hm p1 p2 k1 k2 k3)
  have hzero := bits_zero (bits_drop p2)
  have hpN : k / 64 ∈ N := (h.mem _).1 (by rw [hq]; rfl)
  obtain ⟨y, hy⟩ : ∃ y, x &&& (18446744073709551615 - 2 ^ (k % 64).toNat) = y := ⟨_, rfl⟩
  rw [hy] at hnot hzero
  simp only [hy] at hfin
  have hbb := Lib.hid h.box
  have hqb := Lib.hid p1
  rw [e4] at p1 nqG nBG
  simp only [e4] at hde hfin hqb
  have hdeh := Lib.hid hde
  have cq := p1.cell 1
  have cB0 := h.box.cell 0
  rw [hrn] at hr hwr
  have hr0 : ¬ (((k % 64).toNat : Nat) : Int) < 0 := by omega
  have hr1 : min (k % 64).toNat 64 = (k % 64).toNat := by omega
  have hw1 : IntKind.i64.wrap ((lowN k (pgI (k / 64) L) : Int) + 1) = (lowN k (pgI (k / 64) L) : Int) + 1 := i64_id (by omega)
  have hw2 : IntKind.i64.wrap ((L.length : Int) - 1) = (l1 : Int) := by rw [i64_id (by omega)]; omega
  clear p1 p3 p4 p5 p2 e4 e3 h1 h2 h3 h4 h5 h6 hde hrn hr64 e1 e2 hy
  generalize (k % 64).toNat = j at *
  generalize 2 ^ j = P at *
  go_enter Tryd.func17, Tryd.ntmps17
  go_upto_region 8 with (first
    | (go_at_call 34; (with_reducible refine hW.mono ?_); rintro e w1 ⟨rfl, rfl⟩)
    | (go_at_call 33; (with_reducible refine hF.mono ?_); rintro e w1 ⟨rfl, n1, rfl⟩)
    | (go_at_call 38; (with_reducible refine (hdeh.out n1).mono ?_); rintro e w3 ⟨v', rfl, k1, k2, k3⟩; obtain ⟨a', cap', rfl, _, _⟩ := own_len k1; have b3 := (hqb.out.below (below_drewN (Below.refl _ w) n1)).grown k2 (fun e => nqG e.symm); have c3 := b3.cell 1; have f3 := b3.thaw 1))
  clear hW hF c3 f3 cq
  have d3 := b3.set 1 (.slice a' ((pgI (k / 64) L).length - 1) cap')
  have c4 := d3.cell 0
  have f4 := d3.thaw 0
  replace hfin := Lib.hid (hfin.out n1 w3 _ k1 k2 k3)
  have bB3 := ((hbb.out.below (below_drewN (Below.refl _ w) n1)).grown k2 (fun e => nBG e.symm)).setNe (a := ⟨q, 1, none⟩) (fun e => nqB e.symm) (.slice a' ((pgI (k / 64) L).length - 1) cap')
  obtain ⟨w4, hw4⟩ : ∃ W, w3.setCell ⟨q, 1, none⟩ (.slice a' ((pgI (k / 64) L).length - 1) cap') = W := ⟨_, rfl⟩
  rw [hw4] at c4 f4 hfin d3 bB3 ⊢
  clear hw4 k1 b3 hdeh hqb
  go_still_tail 10, (by kernel_rfl)
  change wpList _ _ _ _ _ w4.drew
  go_upto_region 9 with fail
  have bB5 := (bB3.drew).setNe (a := ⟨q, 0, none⟩) (fun e => nqB e.symm) (eU (y : Int))
  have d5 := (d3.drew).set 0 (eU (y : Int))
  have hsw : w4.drew.setCell ⟨q, 0, none⟩ (eU (y : Int)) = (w4.setCell ⟨q, 0, none⟩ (eU (y : Int))).drew := rfl
  obtain ⟨w5, hw5⟩ : ∃ W, (w4.setCell ⟨q, 0, none⟩ (eU (y : Int))).drew = W := ⟨_, rfl⟩
  rw [hsw, hw5] at bB5 d5 hfin
  rw [hw5]
  clear hsw
  have c5 := bB5.cell 2
  have f5 := bB5.thaw 2
  clear hw5 c4 f4
  go_upto_region 10 with fail
  obtain ⟨χ1, G1, t1, t2, d6⟩ := hfin.out
  obtain ⟨w6, hw6⟩ : ∃ W, w5.setCell ⟨B, 2, none⟩ (eI (l1 : Int)) = W := ⟨_, rfl⟩
  rw [hw6] at t1 t2 d6 ⊢
  have c6 := d6.cell 0
  clear hw6 c5 f5 bB5 bB3 d5 hfin
  by_cases hy0 : y = 0
  · subst hy0
    have hpe := hzero.1 rfl
    have hL := lose_any t2 (k / 64) hpN hpe
    go_wp2_with (go_at_call 39; (with_reducible refine hL.mono ?_); rintro e w7 ⟨rfl, χ2, N2, F2, vn2, u1, u2, u3⟩)
    go_ret
    refine ⟨rfl, χ2, N2, F2, G1, vn2, t1.trans u1, by rw [hdl]; exact u2, fun p hp => ?_⟩
    obtain ⟨g1, g2⟩ := (u3 p).1 hp
    rw [pg_del_other (fun e => g2 e.symm)]
    exact hfull p g1
  · have hyz : ((y : Int) == 0) = false := by simpa using hy0
    have hyz2 : ¬ ((y : Int) = 0) := by omega
    go_wp2
    go_ret
    exact ⟨rfl, χ1, N, F, G1, vn, t1, by rw [hdl]; exact t2, TbX.nonempty hfull (fun e => hy0 (hzero.2 e))⟩
/-- Drop, whatever the id. -/
theorem dropx_any (h : TbX w χ c B Bm N F G vn L.length L) (hfull : ∀ p ∈ N, pgI p L ≠ []) (hlen : L.length ≤ 100000) (k : Int) : Calls Tryd.prog 17 #[.pointer (some ⟨B, 0, none⟩), eI k] w fun e w' => e = .returned (eI (askE k L)) ∧ Left w w' χ c B Bm (dropT k L) := by
  have hF := find_any h k
  have hW := wrong_may h.box k
  cases hm : mayI k with
  | false =>
    rw [askE_arg hm, dropT_no (by rw [askE_arg hm]; decide)]
    rw [hm] at hW
    have hP : Left w w χ c B Bm L := ⟨χ, N, F, G, vn, Col.of (Below.refl _ _), h, hfull⟩
    clear h hm hF hfull
    go_enter Tryd.func17, Tryd.ntmps17
    go_wp2_with (go_at_call 34; (with_reducible refine hW.mono ?_); rintro e w1 ⟨rfl, rfl⟩)
    go_ret
    exact ⟨rfl, hP⟩
  | true =>
    rw [hm] at hW
    cases hh : hasI k L with
    | false =>
      rw [askE_no hm hh, dropT_no (by rw [askE_no hm hh]; decide)]
      rw [show fndQ F L k = none by unfold fndQ; rw [hh]; rfl, show fndP L k = 0 by unfold fndP; rw [hh]; rfl] at hF
      replace hF : Calls Tryd.prog 33 #[.pointer (some ⟨B, 0, none⟩), eI k] w fun e w' => e = .returned (.tuple #[.pointer none, eI 0]) ∧ ∃ n, w' = w.drewN n := hF
      have hP : ∀ n, Left w (w.drewN n) χ c B Bm L := fun n => ⟨χ, N, F, G, vn, Col.of (below_drewN (Below.refl _ w) n), h.below (below_drewN (Below.refl _ w) n), hfull⟩
      clear h hh hm hfull
      go_enter Tryd.func17, Tryd.ntmps17
      go_wp2_with (first
        | (go_at_call 34; (with_reducible refine hW.mono ?_); rintro e w1 ⟨rfl, rfl⟩)
        | (go_at_call 33; (with_reducible refine hF.mono ?_); rintro e w1 ⟨rfl, n1, rfl⟩))
      go_ret
      exact ⟨rfl, hP _⟩
    | true =>
      rw [askE_ok hm hh, dropT_ok (askE_ok hm hh)]
      exact drop_core h hfull hlen k hm hh
end
end Go.Proofs.YtenghpgnhmglpaaDoor
