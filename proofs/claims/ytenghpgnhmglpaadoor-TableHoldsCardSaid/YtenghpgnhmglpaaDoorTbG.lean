/- Get, Len and Set of a table. No condition but words. -/
import Derived.Test.YtenghpgnhmglpaaDoorTbF
namespace Go.Proofs.YtenghpgnhmglpaaDoor
open Go.RowKit
set_option linter.unusedVariables false
def Wo (x : Int) : Prop := 0 ≤ x ∧ x < 18446744073709551616
theorem own_set1 {w : World} {base g n cap : Nat} {e : TypeId} {xs : List Value} {i : Nat} (h : w.ownsRow base e 1 (.slice (some ⟨g, 0, none⟩) n cap) n xs) (v : Value) : (w.setCell ⟨g, i, none⟩ v).ownsRow base e 1 (.slice (some ⟨g, 0, none⟩) n cap) n (xs.set i v) := by
  obtain ⟨h1, h2 | ⟨g', cap', cur, e', h3, h4, h5, h6, h7, h8⟩⟩ := h
  · cases h2.1
  · cases e'
    refine ⟨by simpa using h1, .inr ⟨g, cap, cur.setIfInBounds i v, rfl, h3, Box.set (show Box w g cur e from h4) i v, h5, h6, by simpa using h7, ?_⟩⟩
    rw [Nat.mul_one] at h8 ⊢
    rw [← h8, Array.toList_setIfInBounds, List.take_set]
section
variable {w w' : World} {χ χ' : Nat → Nat} {c d B Bm m : Nat} {N : List Int} {F : Int → Option Nat} {G : Int → Value} {vn : Value} {L : List Im}
theorem len_any {v1 v2 : Value} (h : Box w B #[v1, v2, eI (m : Int)] 50) : Calls Tryd.prog 13 #[.pointer (some ⟨B, 0, none⟩)] w fun e w' => e = .returned (eI (m : Int)) ∧ w = w' := by
  have c2 := h.cell 2
  go_enter Tryd.func13, Tryd.ntmps13
  go_wp2
  go_ret
  exact ⟨rfl, rfl⟩
/-- An id that is there: its page, its place, its value. -/
theorem TbX.there (h : TbX w χ c B Bm N F G vn m L) {k : Int} (hh : hasI k L = true) : ∃ q z g cap, F (k / 64) = some q ∧ fndQ F L k = some q ∧ fndP L k = (lowN k (pgI (k / 64) L) : Int) ∧ getI k L = some z ∧ G (k / 64) = .slice (some ⟨g, 0, none⟩) (pgI (k / 64) L).length cap ∧
    lowN k (pgI (k / 64) L) < (pgI (k / 64) L).length ∧ (pgI (k / 64) L).length ≤ cap ∧ cap ≤ maxLen ∧ w.cell? ⟨g, lowN k (pgI (k / 64) L), none⟩ = some (eU z) ∧ w.frozen? ⟨g, lowN k (pgI (k / 64) L), none⟩ = false ∧ (pgI (k / 64) L).length ≤ 64 := by
  have hp : hasI k (pgI (k / 64) L) = true := by rw [has_pg]; exact hh
  have hr := rise_pg (p := k / 64) h.good.rise
  obtain ⟨hi, _⟩ := low_at hr hp
  have hs := (h.mem (k / 64)).2 (h.sub _ (fun e => by rw [e] at hp; cases hp))
  obtain ⟨q, hq⟩ := Option.isSome_iff_exists.1 hs
  obtain ⟨z, hz⟩ := getI_some hh
  obtain ⟨x, p1, p2, p3, p4, p5⟩ := h.page _ _ hq
  obtain ⟨g, cap, cur, e, _, _, hcap, hcm, hbx, hc⟩ := own_some p3 (by omega)
  have hz2 : getI k (pgI (k / 64) L) = some z := by rw [get_pg h.good.rise]; exact hz
  have hcell := hc _ _ (vals_at hr hz2)
  rw [add_plain, Nat.zero_add] at hcell
  have hlen : (pgI (k / 64) L).length ≤ 64 := by
    have := bits_low p2 h.good.rise 64 (Nat.le_refl _)
    have hall : lowN (64 * (k / 64) + ((64 : Nat) : Int)) (pgI (k / 64) L) = (pgI (k / 64) L).length := by
      unfold lowN
      rw [List.countP_eq_length]
      intro a ha
      have := (mem_pg.1 ha).2
      simp; omega
    rw [← hall, ← this]
    exact popN_le _ _
  exact ⟨q, z, g, cap, hq, by unfold fndQ; rw [if_pos hh, hq], by unfold fndP; rw [if_pos hh], hz, e, hi, hcap, hcm, hcell, hbx.thaw _, hlen⟩
set_option maxHeartbeats 1000000 in
theorem get_any (h : TbX w χ c B Bm N F G vn m L) (k : Int) : Calls Tryd.prog 15 #[.pointer (some ⟨B, 0, none⟩), eI k] w fun e w' => e = .returned (.tuple #[eU ((getI k L).getD 0), .bool (hasI k L)]) ∧ Below w.heap.size w w' := by
  have hF := find_any h k
  cases hh : hasI k L with
  | false =>
    rw [show fndQ F L k = none by unfold fndQ; rw [hh]; rfl, show fndP L k = 0 by unfold fndP; rw [hh]; rfl] at hF
    rw [getI_none hh]
    replace hF : Calls Tryd.prog 33 #[.pointer (some ⟨B, 0, none⟩), eI k] w fun e w' => e = .returned (.tuple #[.pointer none, eI 0]) ∧ ∃ n, w' = w.drewN n := hF
    clear h hh
    go_enter Tryd.func15, Tryd.ntmps15
    go_wp2_with (go_at_call 33; (with_reducible refine hF.mono ?_); rintro e w1 ⟨rfl, n1, rfl⟩)
    go_ret2
    exact ⟨rfl, below_drewN (Below.refl _ _) _⟩
  | true =>
    obtain ⟨q, z, g, cap, hq, e1, e2, e3, e4, h1, h2, h3, h4, h5, h6⟩ := h.there hh
    obtain ⟨x, p1, p2, p3, p4, p5⟩ := h.page _ _ hq
    rw [e1, e2] at hF
    rw [e3]
    replace hF : Calls Tryd.prog 33 #[.pointer (some ⟨B, 0, none⟩), eI k] w fun e w' => e = .returned (.tuple #[.pointer (some ⟨q, 0, none⟩), eI (lowN k (pgI (k / 64) L) : Int)]) ∧ ∃ n, w' = w.drewN n := hF
    rw [e4] at p1
    have cq := p1.cell 1
    clear p3 p2 p1 h hq hh e4 e1 e2 e3
    generalize lowN k (pgI (k / 64) L) = r at *
    generalize (pgI (k / 64) L).length = n at *
    have i1 : (r : Int) < (n : Int) := by omega
    have i2 : (0 : Int) ≤ (r : Int) := by omega
    go_enter Tryd.func15, Tryd.ntmps15
    go_wp2_with (go_at_call 33; (with_reducible refine hF.mono ?_); rintro e w1 ⟨rfl, n1, rfl⟩)
    go_ret2
    exact ⟨rfl, below_drewN (Below.refl _ _) _⟩
set_option maxHeartbeats 1000000 in
theorem setx_any (h : TbX w χ c B Bm N F G vn m L) (k v : Int) (hv : Wo v) : Calls Tryd.prog 18 #[.pointer (some ⟨B, 0, none⟩), eI k, eU v] w fun e w' => e = .returned (eI (askE k L)) ∧ ∃ χ', Col χ χ' c w w' ∧ TbX w' χ' c B Bm N F G vn m (setT k v L) := by
  have hF := find_any h k
  have hW := wrong_may h.box k
  cases hm : mayI k with
  | false =>
    rw [askE_arg hm, setT_no (by rw [askE_arg hm]; decide)]
    rw [hm] at hW
    have hP : TbX w χ c B Bm N F G vn m L := h
    clear h hm
    go_enter Tryd.func18, Tryd.ntmps18
    go_wp2_with (go_at_call 34; (with_reducible refine hW.mono ?_); rintro e w1 ⟨rfl, rfl⟩)
    go_ret
    exact ⟨rfl, χ, Col.of (Below.refl _ _), hP⟩
  | true =>
    rw [hm] at hW
    cases hh : hasI k L with
    | false =>
      rw [askE_no hm hh, setT_no (by rw [askE_no hm hh]; decide)]
      rw [show fndQ F L k = none by unfold fndQ; rw [hh]; rfl, show fndP L k = 0 by unfold fndP; rw [hh]; rfl] at hF
      replace hF : Calls Tryd.prog 33 #[.pointer (some ⟨B, 0, none⟩), eI k] w fun e w' => e = .returned (.tuple #[.pointer none, eI 0]) ∧ ∃ n, w' = w.drewN n := hF
      have hP := fun n => h.below (below_drewN (Below.refl _ w) n)
      clear h hh hm
      go_enter Tryd.func18, Tryd.ntmps18
      go_wp2_with (first
        | (go_at_call 34; (with_reducible refine hW.mono ?_); rintro e w1 ⟨rfl, rfl⟩)
        | (go_at_call 33; (with_reducible refine hF.mono ?_); rintro e w1 ⟨rfl, n1, rfl⟩))
      go_ret
      exact ⟨rfl, χ, Col.of (below_drewN (Below.refl _ _) _), hP _⟩
    | true =>
      rw [askE_ok hm hh, setT_ok (askE_ok hm hh)]
      obtain ⟨q, z, g, cap, hq, e1, e2, e3, e4, h1, h2, h3, h4, h5, h6⟩ := h.there hh
      obtain ⟨x, p1, p2, p3, p4, p5⟩ := h.page _ _ hq
      have hpost : ∀ n1, ∃ χ', Col χ χ' c w ((w.drewN n1).setCell ⟨g, lowN k (pgI (k / 64) L), none⟩ (eU v)) ∧ TbX ((w.drewN n1).setCell ⟨g, lowN k (pgI (k / 64) L), none⟩ (eU v)) χ' c B Bm N F G vn m (setI k v L) := fun n1 => by
        have hx := h.below (below_drewN (Below.refl _ w) n1)
        have p3' : (w.drewN n1).ownsRow 0 25 1 (G (k / 64)) (pgI (k / 64) L).length (valsI (pgI (k / 64) L)) := own_below p3 (below_drewN (Below.refl _ w) n1)
        have p1' : Box (w.drewN n1) q #[eU (x : Int), G (k / 64)] 72 := p1.below (below_drewN (Below.refl _ w) n1)
        have hgq : g ≠ q := fun e => by subst e; exact own_not p3 p1 (by decide) (by rw [e4]; rfl)
        have hset : setI k v L = setT k v L := (setT_ok (askE_ok hm hh)).symm
        have hgood : Good (setI k v L) := by rw [hset]; exact h.good.set hv
        have hlen : (pgI (k / 64) (setI k v L)).length = (pgI (k / 64) L).length := by rw [pg_set]; unfold setI; simp
        have hvals : valsI (pgI (k / 64) (setI k v L)) = (valsI (pgI (k / 64) L)).set (lowN k (pgI (k / 64) L)) (eU v) := by
          rw [pg_set, vals_set (rise_pg h.good.rise) (by rw [has_pg]; exact hh)]
        have hown : ((w.drewN n1).setCell ⟨g, lowN k (pgI (k / 64) L), none⟩ (eU v)).ownsRow 0 25 1 (G (k / 64)) (pgI (k / 64) (setI k v L)).length (valsI (pgI (k / 64) (setI k v L))) := by
          rw [hlen, hvals]
          rw [e4] at p3' ⊢
          exact own_set1 p3' _
        obtain ⟨t1, t2⟩ := hx.turn hq (w' := (w.drewN n1).setCell ⟨g, lowN k (pgI (k / 64) L), none⟩ (eU v)) (Off.set (S := fun k' => k' = q ∨ (G (k / 64)).ownBlock = some k') (Off.of (Below.refl _ _)) (B := g) (.inr (by rw [e4]; rfl)) _ _)
          (p1'.setNe (by show q ≠ g; exact fun e => hgq e.symm) _) (bits_set p2) hown (fun g' e => .inl e) (fun r hr => ⟨pg_set_other (fun e => hr e.symm), fun y hy => bits_set hy⟩) hgood
        have hG : (fun r => if r = k / 64 then G (k / 64) else G r) = G := by funext r; split <;> simp_all
        rw [hG] at t1
        exact ⟨_, (Col.of (below_drewN (Below.refl _ w) n1)).trans t2, t1⟩
      have hpo := Lib.hid hpost
      rw [e1, e2] at hF
      replace hF : Calls Tryd.prog 33 #[.pointer (some ⟨B, 0, none⟩), eI k] w fun e w' => e = .returned (.tuple #[.pointer (some ⟨q, 0, none⟩), eI (lowN k (pgI (k / 64) L) : Int)]) ∧ ∃ n, w' = w.drewN n := hF
      rw [e4] at p1
      have cq := p1.cell 1
      clear hpost p3 p2 p1 h hq hh e4 e1 e2 e3 hm
      generalize lowN k (pgI (k / 64) L) = r at *
      generalize (pgI (k / 64) L).length = n at *
      have i1 : (r : Int) < (n : Int) := by omega
      have i2 : (0 : Int) ≤ (r : Int) := by omega
      go_enter Tryd.func18, Tryd.ntmps18
      go_wp2_with (first
        | (go_at_call 34; (with_reducible refine hW.mono ?_); rintro e w1 ⟨rfl, rfl⟩)
        | (go_at_call 33; (with_reducible refine hF.mono ?_); rintro e w1 ⟨rfl, n1, rfl⟩))
      go_ret
      exact ⟨rfl, hpo.out _⟩
end
end Go.Proofs.YtenghpgnhmglpaaDoor
