/- Copies are left out as time goes on. -/
import Derived.Test.YtejolaifdjcghaaGreatSgV
import Derived.BigQuiet
namespace Go.Proofs.YtejolaifdjcghaaGreat
open Go.RowKit Go.Shelf W
set_option linter.unusedVariables false
set_option maxRecDepth 100000
namespace W
theorem cmp6 (u v : Int) : cmpW (hi6 u) (lo6 u) (hi6 v) (lo6 v) = cmpN u v := by unfold cmpW; rw [V_hl6, V_hl6]
end W
/-- How many the run in block B keeps. -/
def lenAt (w : World) (B : Nat) : Nat := match w.cell? ⟨B, 6, none⟩ with | some (.slice _ n _) => n | _ => 0
/-- A slice's first element is left out. -/
theorem SgB.put {w : World} {B : Nat} {f l r x k : Int} {v : Value} {md : Bool} (h : SgB w B f l r v x k md) (u : Value) : SgB (w.setCell ⟨B, 6, none⟩ u) B f l r u x k md := Box.set h 6 u
set_option maxHeartbeats 4000000 in
theorem sg_age (m B : Nat) (K : List (Int × Int)) (f l r x k : Int) (v : Value) (w : World) (hn2 : K.length ≤ 1000) (hS : SgB w B f l r v x k true) (hR : KeptAt w m v K) (hc : CvS f l r) (hx : 0 ≤ x ∧ x ≤ 9223372036854775808)
    (hK : ∀ k ∈ K, 0 ≤ k.1 ∧ k.1 ≤ x ∧ 0 ≤ k.2 ∧ k.2 ≤ 4611686018427387904) :
    Calls Tryz.prog 105 #[.pointer (some ⟨B, 0, none⟩)] w fun e w' => e = .returned (.tuple #[]) ∧ (∃ v', SgB w' B f l r v' x k true ∧ KeptAt w' m v' (ageF f l r x K) ∧ v'.ownBlock = v.ownBlock) ∧ But B w w' := by
  obtain ⟨hf, hl, hr, hm, hfr⟩ := hc
  obtain ⟨hf1, hr1, hl1, _⟩ := id hm
  have hBr := hR.ne hS (by decide)
  go_enter Tryz.func105, Tryz.ntmps105
  go_wp2
  go_loopw [] (fun wr => ∃ (K1 : List (Int × Int)) (v1 : Value), K1.length ≤ 1000 ∧ SgB wr B f l r v1 x k true ∧ KeptAt wr m v1 K1 ∧ v1.ownBlock = v.ownBlock ∧ ageF f l r x K1 = ageF f l r x K ∧ (∀ k ∈ K1, 0 ≤ k.1 ∧ k.1 ≤ x ∧ 0 ≤ k.2 ∧ k.2 ≤ 4611686018427387904) ∧ But B w wr) (fun wr => lenAt wr B)
  case atStart => exact ⟨K, v, hn2, hS, hR, rfl, rfl, hK, But.refl _ _⟩
  case round =>
    obtain ⟨K1, v1, hn1, hS1, hR1, ho, he, hK1, T⟩ := hrel
    rcases K1 with _ | ⟨a, _ | ⟨b, K2⟩⟩
    · obtain ⟨ad, cap, rfl, _⟩ := hR1.len
      have hE := Lib.hid (show ageF f l r x [] = ageF f l r x K from he)
      have hRh := Lib.hid hR1
      have hoh := Lib.hid ho
      have hSh := Lib.hid hS1
      obtain ⟨c0, c1, c2, c3, c4, c5, c6, c7, c8, c9⟩ := hS1.cells
      simp only [List.length_nil] at c6
      clear hK1 hR1 ho he hS1
      go_upto_region 0 with fail
      go_quiet (fail)
      go_wp2
      go_end0
      have dn : Below wr.heap.size wr (wr.drewN nq) := below_drewN (Below.refl _ wr) nq
      refine ⟨rfl, ⟨_, hSh.out.below dn, ?_, hoh.out⟩, T.trans (But.of dn)⟩
      rw [← hE.out]
      exact hRh.out.below dn
    · obtain ⟨ad, cap, rfl, _⟩ := hR1.len
      have hE := Lib.hid (show ageF f l r x [a] = ageF f l r x K from he)
      have hRh := Lib.hid hR1
      have hoh := Lib.hid ho
      have hSh := Lib.hid hS1
      obtain ⟨c0, c1, c2, c3, c4, c5, c6, c7, c8, c9⟩ := hS1.cells
      simp only [List.length_nil, List.length_cons] at c6
      clear hK1 hR1 ho he hS1
      go_upto_region 0 with fail
      go_quiet (fail)
      go_wp2
      go_end0
      have dn : Below wr.heap.size wr (wr.drewN nq) := below_drewN (Below.refl _ wr) nq
      refine ⟨rfl, ⟨_, hSh.out.below dn, ?_, hoh.out⟩, T.trans (But.of dn)⟩
      rw [← hE.out]
      exact hRh.out.below dn
    · obtain ⟨g, o, cap, rfl, hmg, hRow⟩ := hR1.some (by simp)
      obtain ⟨q1, q2⟩ := hRow.le
      obtain ⟨za0, za1⟩ := hRow.cell (j := 0) (by simp)
      obtain ⟨zb0, zb1⟩ := hRow.cell (j := 1) (by simp)
      simp only [List.getElem_cons_zero, List.getElem_cons_succ, Nat.zero_mul, Nat.one_mul, Nat.add_zero] at za0 za1 zb0 zb1
      have ka := hK1 a (by simp)
      have kb := hK1 b (by simp)
      have hA := fun w => b_whole_any a f l r x w (by unfold Word; omega) (by unfold Word; omega) ⟨hf.1, hf1⟩ hl ⟨hr.1, hr1⟩ (by unfold Word; omega) ka.2.1
      have hB := fun w => b_whole_any b f l r x w (by unfold Word; omega) (by unfold Word; omega) ⟨hf.1, hf1⟩ hl ⟨hr.1, hr1⟩ (by unfold Word; omega) kb.2.1
      obtain ⟨u1, u2⟩ := hv_big ⟨hf.1, hf1⟩ hl.1 ⟨hr.1, hr1⟩ (show Word x by unfold Word; omega) (show Word a.1 by unfold Word; omega) (show Word a.2 by unfold Word; omega) ka.2.1
      obtain ⟨v1, v2⟩ := hv_big ⟨hf.1, hf1⟩ hl.1 ⟨hr.1, hr1⟩ (show Word x by unfold Word; omega) (show Word b.1 by unfold Word; omega) (show Word b.2 by unfold Word; omega) kb.2.1
      have hC := fun w => Cmp_any (hi6 (hv f l r b x)) (lo6 (hv f l r b x)) (hi6 (hv f l r a x)) (lo6 (hv f l r a x)) w (lo6_word _) (lo6_word _)
      rw [cmp6] at hC
      have hage : ageF f l r x (a :: b :: K2) = if hv f l r b x ≤ hv f l r a x then ageF f l r x (b :: K2) else a :: b :: K2 := rfl
      have hcmp : decide (cmpN (hv f l r b x) (hv f l r a x) ≤ 0) = decide (hv f l r b x ≤ hv f l r a x) := by
        unfold cmpN
        split
        · simp; omega
        · split
          · simp; omega
          · simp; omega
      have hl1 := hn1
      simp only [List.length_cons] at hn1 q1
      obtain ⟨n, hnn⟩ : ∃ n, (a :: b :: K2).length = n := ⟨_, rfl⟩
      have hlen := hnn
      have hnK : n = K2.length + 2 := by rw [← hnn]; rfl
      have hS2 := hS1
      rw [hlen] at hS2
      have S0 : ∀ w', Below wr.heap.size wr w' → SgC w' B f l r (.slice (some ⟨g, o, none⟩) n cap) x k true ∧ (w'.cell? ⟨g, o, none⟩ = some (.int .u64 a.1) ∧ w'.cell? ⟨g, o + 1, none⟩ = some (.int .u64 a.2)) ∧ w'.cell? ⟨g, o + 2, none⟩ = some (.int .u64 b.1) ∧ w'.cell? ⟨g, o + 2 + 1, none⟩ = some (.int .u64 b.2) := fun w' hb' =>
        ⟨(hS2.below hb').cells, ⟨hb'.cellAt za0, hb'.cellAt za1⟩, hb'.cellAt zb0, hb'.cellAt zb1⟩
      have S00 := S0 wr (Below.refl _ _)
      have hS0 := Lib.hid S0
      have hd1 : (1 : Int) < (n : Int) := by omega
      have hd2 : (0 : Int) < (n : Int) := by omega
      have hd3 : (n : Int) ≤ (cap : Int) := by omega
      have hd4 : 0 < n := by omega
      have hd5 : 1 ≤ n := by omega
      have hd6 : ¬ cap = 1 := by omega
      have hnnh := Lib.hid hnn
      have hnKh := Lib.hid hnK
      have hq1 : n ≤ cap := by omega
      obtain ⟨cc, hcc⟩ : ∃ cc, cmpN (hv f l r b x) (hv f l r a x) = cc := ⟨_, rfl⟩
      rw [hcc] at hC hcmp
      obtain ⟨A1, hA1⟩ : ∃ z, hi6 (hv f l r a x) = z := ⟨_, rfl⟩
      obtain ⟨A2, hA2⟩ : ∃ z, lo6 (hv f l r a x) = z := ⟨_, rfl⟩
      obtain ⟨B1, hB1⟩ : ∃ z, hi6 (hv f l r b x) = z := ⟨_, rfl⟩
      obtain ⟨B2, hB2⟩ : ∃ z, lo6 (hv f l r b x) = z := ⟨_, rfl⟩
      rw [hA1, hA2] at hA hC
      rw [hB1, hB2] at hB hC
      obtain ⟨ys, hys⟩ : ∃ ys : Bool, decide (cc ≤ 0) = ys := ⟨_, rfl⟩
      have hys2 := Lib.hid (show ys = decide (hv f l r b x ≤ hv f l r a x) from by rw [← hys, hcmp])
      have hageh := Lib.hid hage
      have hRh := Lib.hid hRow
      have hKh := Lib.hid hK1
      have heh := Lib.hid he
      have hoh := Lib.hid ho
      have hl1h := Lib.hid hl1
      have hSh := Lib.hid hS2
      have S1 := Lib.hid S00
      clear hnn hnK hlen q1 hn1 hcc hcmp hA1 hA2 hB1 hB2 hage u1 u2 v1 v2 ka kb hRow hK1 he ho hl1 hS1 hS2 S0 za0 za1 zb0 zb1 hR1
      go_upto_region 0 with fail
      go_cut [41] (fun s41 wx => s41 = .bool ys ∧ Below wr.heap.size wr wx)
      case first =>
        obtain ⟨⟨c0, c1, c2, c3, c4, c5, c6, c7, c8, c9⟩, ⟨za0, za1⟩, zb0, zb1⟩ := S1.out
        go_region_held3 (fun w' => SgC w' B f l r (.slice (some ⟨g, o, none⟩) n cap) x k true ∧ (w'.cell? ⟨g, o, none⟩ = some (.int .u64 a.1) ∧ w'.cell? ⟨g, o + 1, none⟩ = some (.int .u64 a.2)) ∧ w'.cell? ⟨g, o + 2, none⟩ = some (.int .u64 b.1) ∧ w'.cell? ⟨g, o + 2 + 1, none⟩ = some (.int .u64 b.2))
          (first | exact S1.out | exact hS0.out _ hb2 | exact hS0.out _ (up hb2 hb3 hb2.size) | exact hS0.out _ (up (up hb2 hb3 hb2.size) hb4 (up hb2 hb3 hb2.size).size) | exact hS0.out _ hb3 | exact hS0.out _ (up hb3 hb2 hb3.size) | exact hS0.out _ (up (up hb3 hb2 hb3.size) hb4 (up hb3 hb2 hb3.size).size))
          (first
            | (go_at_call 111; (with_reducible refine (hA _).mono ?_); rintro e w2 ⟨rfl, hb2⟩; (first | replace hb2 := undrew hb2 | replace hb2 := undrewN hb2 | skip))
            | (go_at_call 111; (with_reducible refine (hB _).mono ?_); rintro e w3 ⟨rfl, hb3⟩; (first | replace hb3 := undrew hb3 | replace hb3 := undrewN hb3 | skip))
            | (go_at_call 53; (with_reducible refine (hC _).mono ?_); rintro e w4 ⟨rfl, hb4⟩; (first | replace hb4 := undrew hb4 | replace hb4 := undrewN hb4 | skip)))
        all_goals go_wp2_with fail
        all_goals go_meet
        all_goals first
          | exact ⟨rfl, up (up hb2 hb3 hb2.size) hb4 (up hb2 hb3 hb2.size).size⟩
          | exact ⟨rfl, up (up hb3 hb2 hb3.size) hb4 (up hb3 hb2 hb3.size).size⟩
      case rest =>
        obtain ⟨rfl, Tx⟩ := hcut
        clear hA hB hC
        have hSx := hSh.out.below Tx
        have Tb := T.trans (But.of Tx)
        cases ys
        · go_wp2
          go_end0
          refine ⟨rfl, ⟨_, hSx, ?_, hoh.out⟩, Tb⟩
          have e := hageh.out
          have hy := hys2.out
          rw [if_neg (by simpa using hy.symm), heh.out] at e
          rw [e]
          exact .inr ⟨g, o, cap, by rw [hnnh.out], hmg, hRh.out.below Tx⟩
        · obtain ⟨c0, c1, c2, c3, c4, c5, c6, c7, c8, c9⟩ := hSx.cells
          have f6 := Box.thaw hSx 6
          clear c0 c1 c2 c3 c4 c5 c7 c8 c9
          go_wp2
          have hy := hys2.out
          have e := hageh.out
          rw [if_pos (by simpa using hy.symm), heh.out] at e
          have eK := hnKh.out
          have hput := hSx.put (.slice (some ⟨g, o + 2, none⟩) (n - 1) (cap - 1))
          have hRx := (hRh.out.below Tx).drop1
          have hgB : g ≠ B := (hRh.out.below Tx).ne hSx (by decide)
          refine ⟨⟨b :: K2, _, by have := hl1h.out; simp at this ⊢; omega, hput, .inr ⟨g, o + 2, cap - 1, by rw [show (b :: K2).length = n - 1 by simp; omega], hmg, hRx.of (Below.heap_setCell _ _ _ g hgB)⟩, hoh.out, e.symm, fun q hq => hKh.out q (List.mem_cons_of_mem _ hq), Tb.set 6 _⟩, ?_⟩
          unfold lenAt
          rw [hput.cells.2.2.2.2.2.2.1, hSh.out.cells.2.2.2.2.2.2.1]
          show n - 1 < n
          omega
end Go.Proofs.YtejolaifdjcghaaGreat
