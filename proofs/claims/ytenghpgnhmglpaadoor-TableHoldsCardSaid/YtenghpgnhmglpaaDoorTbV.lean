/- Put of a table. No condition but words, and that there aren't too many. -/
import Derived.Test.YtenghpgnhmglpaaDoorTbD
import Derived.Deep.CutRange
namespace Go.Proofs.YtenghpgnhmglpaaDoor
open Go.RowKit
set_option linter.unusedVariables false
section
variable {w w' : World} {χ χ' : Nat → Nat} {c d B Bm m : Nat} {N : List Int} {F : Int → Option Nat} {G : Int → Value} {vn : Value} {L : List Im}
/-- A page with a value more, its bits not yet told. -/
def AfterI (w : World) (q : Nat) (x : Int) (vv : Value) (n : Nat) (xs : List Value) (wx : World) : Prop :=
  ∃ v', Off (fun k => k = q ∨ vv.ownBlock = some k) w wx ∧ Box wx q #[eU x, v'] 72 ∧ wx.ownsRow 0 25 1 v' (n + 1) xs ∧ ∀ g, v'.ownBlock = some g → vv.ownBlock = some g ∨ w.heap.size ≤ g
theorem AfterI.drew {q n : Nat} {x : Int} {vv : Value} {xs : List Value} {wx : World} (h : AfterI w q x vv n xs wx) : AfterI w q x vv n xs wx.drew := by
  obtain ⟨v', h1, h2, h3, h4⟩ := h
  exact ⟨v', h1.drew, h2.drew, h3, h4⟩
theorem after_ins {q n r vb : Nat} {x : Int} {vv v' : Value} {u : Value} {xs : List Value} {wc w3 : World} (hb : Box w q #[eU x, vv] 72) (hv : vv.ownBlock ≠ some q) (hlt : ∀ g, vv.ownBlock = some g → g < w.heap.size) (T : Below w.heap.size w wc) (k1 : w3.ownsRow 0 25 1 v' (n + 1) xs) (k2 : wc.grownBy w3 vv.ownBlock)
    (k3 : ∀ g, v'.ownBlock = some g → vv.ownBlock = some g ∨ wc.heap.size ≤ g) : AfterI w q x vv n xs (w3.setCell ⟨q, 1, none⟩ v') := by
  have hq := hb.lt
  have hs := T.size
  have b3 : Box w3 q #[eU x, vv] 72 := (hb.below T).grown k2 (fun e => hv e.symm)
  refine ⟨v', Off.set (S := fun k => k = q ∨ vv.ownBlock = some k) ((Off.of T).trans (show Off (fun k => k = q ∨ vv.ownBlock = some k) wc w3 from ⟨k2.os, k2.tape, k2.output, k2.size, fun i hi hn => k2.block i hi (fun e => hn (.inr e.symm))⟩) (fun _ _ h => h)) (.inl rfl) 1 v', by simpa using b3.set 1 v', ?_, fun g e => by
    rcases k3 g e with h | h
    · exact .inl h
    · exact .inr (by omega)⟩
  refine (Off.set (S := fun k => k = q) (Off.of (Below.refl _ w3)) (B := q) rfl 1 v').owns k1 (fun g e e' => ?_)
  subst e'
  rcases k3 g e with h | h
  · exact hv h
  · omega
set_option maxHeartbeats 4000000 in
theorem put_core (h : TbX w χ c B Bm N F G vn L.length L) (hfull : ∀ p ∈ N, pgI p L ≠ []) (hlen : L.length ≤ 100000) (k v : Int) (hv : Wo v) (hm : mayI k = true) (hh : hasI k L = false) : Calls Tryd.prog 16 #[.pointer (some ⟨B, 0, none⟩), eI k, eU v] w fun e w' => e = .returned (eI 0) ∧ Left w w' χ c B Bm (insI ⟨k, v⟩ L) := by
  have hF := find_any h k
  have hW := wrong_may h.box k
  rw [hm] at hW
  have hk := mayI_iff.1 hm
  rw [show fndQ F L k = none by unfold fndQ; rw [hh]; rfl, show fndP L k = 0 by unfold fndP; rw [hh]; rfl] at hF
  replace hF : Calls Tryd.prog 33 #[.pointer (some ⟨B, 0, none⟩), eI k] w fun e w' => e = .returned (.tuple #[.pointer none, eI 0]) ∧ ∃ n, w' = w.drewN n := hF
  have hr := tmod_id (k := k) (by omega)
  have hqq := tdiv_id (k := k) (by omega)
  have hrn : (k % 64) = (((k % 64).toNat : Nat) : Int) := by omega
  have hwr : IntKind.i64.wrap (k % 64) = k % 64 := i64_id (by omega)
  have hwq : IntKind.i64.wrap (k / 64) = k / 64 := i64_id (by omega)
  have hr64 : (k % 64).toNat < 64 := by omega
  obtain ⟨s1, s2, s3⟩ := shl_one hr64
  have hop := Lib.hid (fun n => open_any (h.below (below_drewN (Below.refl _ w) n)) (k / 64) (by omega))
  have hw2 : IntKind.i64.wrap ((L.length : Int) + 1) = ((L.length + 1 : Nat) : Int) := by rw [i64_id (by omega)]; omega
  rw [hrn] at hr hwr
  have hr0 : ¬ (((k % 64).toNat : Nat) : Int) < 0 := by omega
  have hr1 : min (k % 64).toNat 64 = (k % 64).toNat := by omega
  have hput : insI ⟨k, v⟩ L = putI k v L := (putI_ok (putE_ok hm hh)).symm
  have hgood : Good (insI ⟨k, v⟩ L) := by rw [hput]; exact h.good.put hv
  have hrise := h.good.rise
  generalize hj : (k % 64).toNat = j at *
  clear h
  go_enter Tryd.func16, Tryd.ntmps16
  go_upto_region 8 with (first
    | (go_at_call 34; (with_reducible refine hW.mono ?_); rintro e w1 ⟨rfl, rfl⟩)
    | (go_at_call 33; (with_reducible refine hF.mono ?_); rintro e w1 ⟨rfl, n1, rfl⟩)
    | (go_at_call 35; (with_reducible refine (hop.out n1).mono ?_); rintro e w2 ⟨q, χ2, N2, F2, G2, vn2, rfl, t1, t2, t3, t4⟩))
  obtain ⟨x, p1, p2, p3, p4, p5⟩ := t2.page _ _ t3
  have hrp := rise_pg (p := k / 64) hrise
  have hhp : hasI k (pgI (k / 64) L) = false := by rw [has_pg]; exact hh
  have hlow := bits_low p2 hrise j (by omega)
  rw [show 64 * (k / 64) + ((j : Nat) : Int) = k by omega] at hlow
  have hlowle := (low_take k hrp).2.2
  have hpl64 : (pgI (k / 64) L).length ≤ 64 := by
    have := bits_low p2 hrise 64 (Nat.le_refl _)
    have hall : lowN (64 * (k / 64) + ((64 : Nat) : Int)) (pgI (k / 64) L) = (pgI (k / 64) L).length := by
      unfold lowN
      rw [List.countP_eq_length]
      intro a ha
      have := (mem_pg.1 ha).2
      simp; omega
    rw [← hall, ← this]
    exact popN_le _ _
  have nqG : (G2 (k / 64)).ownBlock ≠ some q := own_not p3 p1 (by decide)
  have nqB : q ≠ B := box_ne p1 t2.box (by decide)
  have hpl := Lib.hid (fun (W : World) (T : Below w2.heap.size w2 W) => by
    have := place_any x j p2.1 hr64 (p1.below T)
    rw [hlow] at this
    exact this)
  have hvins := vals_ins (v := v) hrp hhp
  have hins := Lib.hid (fun (W : World) (vb : Nat) (T : Below w2.heap.size w2 W) (hx : Box W vb #[eU v] 25) (hvb : w2.heap.size ≤ vb) => insU_any hx (own_below p3 T) (fun e => by have := (p3.lt _ e).2; omega) hlowle (by omega) (vals_one _) rfl (Nat.zero_le _))
  have haft := Lib.hid (fun (W w3 : World) (v' : Value) (T : Below w2.heap.size w2 W) k1 k2 k3 => after_ins (n := (pgI (k / 64) L).length) (r := 0) (vb := 0) (u := undef) (v' := v') (wc := W) (w3 := w3) (xs := (valsI (pgI (k / 64) L)).take (lowN k (pgI (k / 64) L)) ++ eU v :: (valsI (pgI (k / 64) L)).drop (lowN k (pgI (k / 64) L))) p1 nqG (fun g e => (p3.lt g e).2) T k1 k2 k3)
  have hq1 := p1.cell 1
  have hor := u64_or_nat x (2 ^ j) p2.1 (by omega)
  have hbits : BitsP (x ||| 2 ^ j) (k / 64) (insI ⟨k, v⟩ L) := by rw [← hj]; exact bits_put p2
  have hturn := Lib.hid (fun (wx : World) (vv : Value) (O : Off (fun k' => k' = q ∨ (G2 (k / 64)).ownBlock = some k') w2 wx) hbox hown hvv => t2.turn t3 (L' := insI ⟨k, v⟩ L) (vv := vv) (x := x ||| 2 ^ j) O hbox hbits hown hvv (fun r hr => ⟨by rw [pg_ins hrise hh, if_neg (fun e => hr e.symm)], fun y hy => bits_put_other hy hr⟩) hgood)
  have hne := Lib.hid (show ∀ p ∈ N2, pgI p (insI ⟨k, v⟩ L) ≠ [] from fun p hp => by
    by_cases e : k / 64 = p
    · exact pg_nil_ins hrise hh e
    · rw [pg_ins hrise hh, if_neg e]
      rcases (t4 p).1 hp with h | h
      · exact absurd h.symm e
      · exact hfull p h)
  have hpg : pgI (k / 64) (insI ⟨k, v⟩ L) = insI ⟨k, v⟩ (pgI (k / 64) L) := by rw [pg_ins hrise hh, if_pos rfl]
  have hlenI := ins_len ⟨k, v⟩ L
  have hlenP := ins_len ⟨k, v⟩ (pgI (k / 64) L)
  have hB2 := Lib.hid t2.box
  have hB2p : (G2 (k / 64)).ownBlock ≠ some B := own_not p3 t2.box (by decide)
  have hqlt := p1.lt
  have hone := Lib.hid p1
  clear hW hF hop
  go_cut [] (fun wx => AfterI w2 q (x : Int) (G2 (k / 64)) (pgI (k / 64) L).length ((valsI (pgI (k / 64) L)).take (lowN k (pgI (k / 64) L)) ++ eU v :: (valsI (pgI (k / 64) L)).drop (lowN k (pgI (k / 64) L))) wx)
  case first =>
    clear t1 t2 p1 p2 p3 hturn hbits hor
    generalize lowN k (pgI (k / 64) L) = r at *
    generalize (pgI (k / 64) L).length = n at *
    generalize valsI (pgI (k / 64) L) = xs at *
    generalize G2 (k / 64) = vv at *
    have Ea : Below w2.heap.size w2 w2.drew := (Below.refl _ w2).drew
    have Eb : Below w2.heap.size w2 (w2.alloc (.cells #[eU v] 25)).drew := (up1 w2 _).drew
    have bx2 : Box (w2.alloc (.cells #[eU v] 25)).drew w2.heap.size #[eU v] 25 := (Box.new w2 25 #[eU v]).drew
    have hqc := Lib.hid (show ∀ W, Below w2.heap.size w2 W → W.cell? ⟨q, 1, none⟩ = some vv from fun W T => (hone.out.below T).cell 1)
    have hst := Lib.hid (show ∀ (W w4 : World), Below w2.heap.size w2 W → W.grownBy w4 vv.ownBlock → Box w4 q #[eU (x : Int), vv] 72 from fun W w4 T k => (hone.out.below T).grown k (fun e => nqG e.symm))
    have ca := hqc.out _ Ea
    have cb := hqc.out _ Eb
    have cc : (w2.alloc (.cells #[eU v] 25)).cell? ⟨q, 1, none⟩ = some vv := cb
    go_region_law (first
        | (go_simp; go_at_call 37; (with_reducible refine (hpl.out _ Ea).mono ?_); rintro e w3 ⟨rfl, n3, hw3⟩; have E3 : Below w2.heap.size w2 w3 := (by rw [hw3]; exact below_drewN Ea n3); have E4 := ups E3 (up1 w3 (.cells #[eU v] 25)) E3.size; have bx3 := Box.new w3 25 #[eU v]; have le3 := E3.size; have c3 := hqc.out _ E3; have c3' := hqc.out _ E4; clear hw3)
        | (go_simp; go_at_call 37; (with_reducible refine (hpl.out _ Eb).mono ?_); rintro e w3 ⟨rfl, n3, hw3⟩; have E3 : Below w2.heap.size w2 w3 := (by rw [hw3]; exact below_drewN Eb n3); have E4 := E3; have bx3 : Box w3 w2.heap.size #[eU v] 25 := (by rw [hw3]; exact bx2.below (below_drewN (Below.refl _ _) n3)); have le3 := Nat.le_refl w2.heap.size; have c3 := hqc.out _ E3; clear hw3)
        | (go_simp; go_at_call 36; (with_reducible refine (hins.out _ _ E4 bx3 le3).mono ?_); rintro e w4 ⟨v', rfl, k1, k2, k3⟩; obtain ⟨a', cap', rfl, _, _⟩ := own_len k1; have b4 := hst.out _ _ E4 k2; have c4 := b4.cell 1; have f4 := b4.thaw 1; have hA := haft.out _ w4 _ E4 k1 k2 k3))
    all_goals go_wp2_with fail
    all_goals go_meet
    all_goals exact hA
  case rest =>
    rename World => w5
    obtain ⟨v', O, bx, ow, hvv⟩ := hcut
    rw [hvins, ← hpg] at ow
    rw [show (pgI (k / 64) L).length + 1 = (pgI (k / 64) (insI ⟨k, v⟩ L)).length by rw [hpg, hlenP]] at ow
    have bB5 : Box w5 B #[.map (some Bm), vn2, eI (L.length : Int)] 50 := O.box hB2.out (by
      rintro (e | e)
      · exact nqB e.symm
      · exact hB2p e)
    have c0 := bx.cell 0
    have f0 := bx.thaw 0
    have hxh := Lib.hid hlenI
    generalize hP : 2 ^ j = P at *
    generalize hY : x ||| P = y at *
    clear hpl hins haft hone hq1 hvins hpg hlenI hlenP p1 p2 p3 hlow hlowle hpl64 hhp hrp hP hY hbits t3 hB2
    go_upto_region 9 with fail
    go_still_tail 9, (by kernel_rfl)
    change wpList _ _ _ _ _ w5.drew
    go_upto_region 10 with fail
    have hsw : w5.drew.setCell ⟨q, 0, none⟩ (eU (y : Int)) = (w5.setCell ⟨q, 0, none⟩ (eU (y : Int))).drew := rfl
    have O6 := Off.set (S := fun k' => k' = q ∨ (G2 (k / 64)).ownBlock = some k') O.drew (B := q) (.inl rfl) 0 (eU (y : Int))
    have b6 := (bx.drew).set 0 (eU (y : Int))
    have bB6 := (bB5.drew).setNe (a := ⟨q, 0, none⟩) (fun e => nqB e.symm) (eU (y : Int))
    have ow6 : (w5.drew.setCell ⟨q, 0, none⟩ (eU (y : Int))).ownsRow 0 25 1 v' (pgI (k / 64) (insI ⟨k, v⟩ L)).length (valsI (pgI (k / 64) (insI ⟨k, v⟩ L))) := (Off.set (S := fun k => k = q) (Off.of (Below.refl _ w5.drew)) (B := q) rfl 0 _).owns ow (fun g e e' => by
      subst e'
      rcases hvv g e with h | h
      · exact nqG h
      · omega)
    obtain ⟨u1, u2⟩ := hturn.out _ _ O6 (by simpa using b6) ow6 hvv
    rw [hsw] at bB6 u1 u2
    obtain ⟨w6, hw6⟩ : ∃ W, (w5.setCell ⟨q, 0, none⟩ (eU (y : Int))).drew = W := ⟨_, rfl⟩
    rw [hw6] at bB6 u1 u2 ⊢
    have c6 := bB6.cell 2
    have f6 := bB6.thaw 2
    obtain ⟨z1, z2⟩ := u1.count (insI ⟨k, v⟩ L).length
    rw [hxh.out] at z1 z2
    have hz1 := Lib.hid z1
    have hz2 := Lib.hid z2
    have hu2 := Lib.hid u2
    have ht1 := Lib.hid t1
    have ht2 := Lib.hid t4
    clear c0 f0 O6 b6 bB6 ow6 u1 u2 z1 z2 hw6 hsw O bx ow bB5 t1 t2 hturn
    generalize L.length + 1 = l1 at *
    go_wp2
    go_ret
    exact ⟨rfl, _, N2, F2, _, vn2, (((Col.of (below_drewN (Below.refl _ w) n1)).trans ht1.out).trans hu2.out).trans hz2.out, by rw [hxh.out]; exact hz1.out, hne.out⟩
/-- Put, whatever the id. -/
theorem putx_any (h : TbX w χ c B Bm N F G vn L.length L) (hfull : ∀ p ∈ N, pgI p L ≠ []) (hlen : L.length ≤ 100000) (k v : Int) (hv : Wo v) : Calls Tryd.prog 16 #[.pointer (some ⟨B, 0, none⟩), eI k, eU v] w fun e w' => e = .returned (eI (putE k L)) ∧ Left w w' χ c B Bm (putI k v L) := by
  have hF := find_any h k
  have hW := wrong_may h.box k
  cases hm : mayI k with
  | false =>
    rw [putE_arg hm, putI_no (by rw [putE_arg hm]; decide)]
    rw [hm] at hW
    have hP : Left w w χ c B Bm L := ⟨χ, N, F, G, vn, Col.of (Below.refl _ _), h, hfull⟩
    clear h hm hF hfull
    go_enter Tryd.func16, Tryd.ntmps16
    go_wp2_with (go_at_call 34; (with_reducible refine hW.mono ?_); rintro e w1 ⟨rfl, rfl⟩)
    go_ret
    exact ⟨rfl, hP⟩
  | true =>
    rw [hm] at hW
    cases hh : hasI k L with
    | true =>
      rw [putE_twice hm hh, putI_no (by rw [putE_twice hm hh]; decide)]
      obtain ⟨q, z, g, cap, hq, e1, e2, e3, e4, h1, h2, h3, h4, h5, h6⟩ := h.there hh
      rw [e1, e2] at hF
      replace hF : Calls Tryd.prog 33 #[.pointer (some ⟨B, 0, none⟩), eI k] w fun e w' => e = .returned (.tuple #[.pointer (some ⟨q, 0, none⟩), eI (lowN k (pgI (k / 64) L) : Int)]) ∧ ∃ n, w' = w.drewN n := hF
      have hP : ∀ n, Left w (w.drewN n) χ c B Bm L := fun n => ⟨χ, N, F, G, vn, Col.of (below_drewN (Below.refl _ w) n), h.below (below_drewN (Below.refl _ w) n), hfull⟩
      clear h hh hm hfull h1 h2 h3 h4 h5 h6 e1 e2 e3 e4 hq
      generalize lowN k (pgI (k / 64) L) = r at *
      go_enter Tryd.func16, Tryd.ntmps16
      go_wp2_with (first
        | (go_at_call 34; (with_reducible refine hW.mono ?_); rintro e w1 ⟨rfl, rfl⟩)
        | (go_at_call 33; (with_reducible refine hF.mono ?_); rintro e w1 ⟨rfl, n1, rfl⟩))
      go_ret
      exact ⟨rfl, hP _⟩
    | false =>
      rw [putE_ok hm hh, putI_ok (putE_ok hm hh)]
      exact put_core h hfull hlen k v hv hm hh
end
end Go.Proofs.YtenghpgnhmglpaaDoor
