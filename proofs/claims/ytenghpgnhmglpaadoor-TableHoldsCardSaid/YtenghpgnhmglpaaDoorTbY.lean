/- Next of a table. No condition but words. -/
import Derived.Test.YtenghpgnhmglpaaDoorTbW
namespace Go.Proofs.YtenghpgnhmglpaaDoor
open Go.RowKit
set_option linter.unusedVariables false
section
variable {w w' : World} {χ χ' : Nat → Nat} {c d B Bm m : Nat} {N : List Int} {F : Int → Option Nat} {G : Int → Value} {vn : Value} {L : List Im}
theorem riseK_get {N : List Int} (h : RiseK N) {i j : Nat} (hij : i ≤ j) (hj : j < N.length) : N[i] ≤ N[j] := by
  by_cases e : i = j
  · subst e; exact Int.le_refl _
  · exact Int.le_of_lt (List.pairwise_iff_getElem.1 h i j (by omega) hj (by omega))
/-- No id at or above that one stands on the first pages from there on. -/
def NoneYet (N : List Int) (L : List Im) (l : Int) (at_ t : Nat) : Prop := ∀ i, i < t → ∀ p, N[at_ + i]? = some p → ∀ a ∈ L, l ≤ a.id → a.id / 64 ≠ p
set_option maxHeartbeats 4000000 in
theorem next_loop (h : TbX w χ c B Bm N F G vn m L) (hfull : ∀ p ∈ N, pgI p L ≠ []) (k l : Int) (hk : k < 65535) (hl : l = max k 0 + 1) (hki : Inte k) (hat : lowK (l / 64) N < N.length) : Calls Tryd.prog 25 #[.pointer (some ⟨B, 0, none⟩), eI k] w fun e w' => e = .returned (nextV (nextI k L)) ∧ Below w.heap.size w w' := by
  have hM := made_yes h.box
  have hlen := h.long
  have l1 : 1 ≤ l := by omega
  have l2 : l ≤ 65535 := by omega
  have l3 : k < l := by omega
  have l4 : ∀ i : Int, 1 ≤ i → k < i → l ≤ i := fun i h1 h2 => by omega
  have hS := search_any h (l / 64)
  obtain ⟨g, cap, e, hnc, _, hgl⟩ : ∃ g cap, vn = .slice (some ⟨g, 0, none⟩) N.length cap ∧ N.length ≤ cap ∧ 0 ≤ g ∧ g < w.heap.size := by
    rcases own_form h.nums with ⟨_, h0⟩ | ⟨g, cap, e, h1, h2, h3⟩
    · omega
    · exact ⟨g, cap, e, h1, h2, h3⟩
  obtain ⟨l5, l6, l7⟩ := lowK_take (l / 64) h.rise
  have hcell : ∀ i (hi : i < N.length), w.cell? ⟨g, i, none⟩ = some (eI N[i]) := fun i hi => by
    have := h.nums.cells (g := g) (by rw [e]; rfl) i (eI N[i]) (by unfold kC; rw [List.getElem?_map, List.getElem?_eq_getElem hi]; rfl)
    rw [add_plain, Nat.zero_add] at this
    exact this
  have hcm : cap ≤ 9223372036854775807 := by
    obtain ⟨_, _, e', _, hm⟩ := own_len h.nums
    rw [e] at e'; cases e'
    unfold maxLen at hm; omega
  subst e
  have c0 := h.box.cell 0
  have c1 := h.box.cell 1
  have hq1 : Int.tdiv l 64 = l / 64 := tdiv_id (by omega)
  have hq2 : IntKind.i64.wrap (l / 64) = l / 64 := i64_id (by omega)
  have hq3 : IntKind.i64.wrap l = l := i64_id (by omega)
  have hq4 : IntKind.i64.wrap (max k 0 + 1) = l := by rw [← hl]; exact hq3
  have hk1 : ¬ (65535 : Int) ≤ k := by omega
  have hhid := Lib.hid h
  generalize hat0 : lowK (l / 64) N = at_ at *
  have z1 : ¬ (cap = at_) := by omega
  have z2 : (at_ : Int) ≤ (N.length : Int) := by omega
  have z3 : (0 : Int) ≤ (at_ : Int) := by omega
  have z4 : at_ ≤ N.length := by omega
  have l6h := Lib.hid l6
  have l5h := Lib.hid l5
  have hch := Lib.hid hcell
  have l4h := Lib.hid l4
  clear h l5 l6 l7 hcell l4 hat0 hl
  have hmx : k ≤ 0 ∨ 0 < k := by omega
  go_enter Tryd.func25, Tryd.ntmps25
  go_wp2_with (first
    | (go_at_call 26; (with_reducible refine hM.mono ?_); rintro e w1 ⟨rfl, rfl⟩)
    | (go_at_call 41; (with_reducible refine hS.mono ?_); rintro e w1 ⟨rfl, n1, rfl⟩))
  go_loopw [41] (fun s41 wr => ∃ t : Nat, s41 = .int .i64 t ∧ t ≤ N.length - at_ ∧ wr = w.drewN n1 ∧ NoneYet N L l at_ t) (fun s41 _ => N.length - (intOf s41).toNat)
  case atStart => exact ⟨0, rfl, Nat.zero_le _, rfl, fun i hi => by omega⟩
  case round =>
    obtain ⟨t, rfl, ht, rfl, hny⟩ := hrel
    have hny := Lib.hid hny
    by_cases hlt : t < N.length - at_
    · have hi : at_ + t < N.length := by omega
      obtain ⟨p, hp⟩ : ∃ p, N[at_ + t] = p := ⟨_, rfl⟩
      have cN := hch.out (at_ + t) hi
      rw [hp] at cN
      have hpN : p ∈ N := by rw [← hp]; exact List.getElem_mem hi
      have hpd : l / 64 ≤ p := l6h.out p (by
        have : p ∈ N.drop at_ := by
          rw [List.mem_drop_iff_getElem]
          exact ⟨t, by omega, by rw [← hp]⟩
        exact this)
      have hrng := hhid.out.rng p hpN
      have hIp : Inte p := by unfold Inte; omega
      have hlk := (hhid.out.below (below_drewN (Below.refl _ w) n1)).map.look hIp
      obtain ⟨q, hq⟩ := Option.isSome_iff_exists.1 ((hhid.out.mem p).2 hpN)
      obtain ⟨x, p1, p2, p3, p4, p5⟩ := hhid.out.page _ _ hq
      rw [hq] at hlk
      replace hlk : (Instr.lookup 47 (.map (some Bm)) (eI p) false).run Tryd.prog (w.drewN n1) = .ok (.pointer (some ⟨q, 0, none⟩)) (w.drewN n1) := hlk
      obtain ⟨one, ho1, ho2⟩ : ∃ one : Nat, max (l - p * 64) 0 = (one : Int) ∧ one < 64 := ⟨(max (l - p * 64) 0).toNat, by omega, by omega⟩
      have hFr := from_any (w := w.drewN n1) p2.1 ho2 (hhid.out.tab.below (below_drewN (Below.refl _ w) n1)) (p1.below (below_drewN (Below.refl _ w) n1))
      have y1 : IntKind.i64.wrap (p * 64) = p * 64 := i64_id (by omega)
      have y2 : IntKind.i64.wrap (l - p * 64) = l - p * 64 := i64_id (by omega)
      have y3 : (t : Int) < ((N.length - at_ : Nat) : Int) := by omega
      have y4 : (t : Int) < (N.length : Int) - (at_ : Int) := by omega
      have y5 : (0 : Int) ≤ (t : Int) := by omega
      have c0' : (w.drewN n1).cell? ⟨B, 0, none⟩ = some (.map (some Bm)) := c0
      have hgh := Lib.hid hny.out
      have hmax := Lib.hid ho1
      have hpg := Lib.hid p2
      clear hny hq p1 p3 p4 p5 p2
      go_upto_region 10 with (go_at_call 42; (with_reducible refine hFr.mono ?_); rintro e w4 ⟨j, rfl, rfl, hj1, hj2, hj3⟩)
      by_cases hj : j < 64
      · obtain ⟨q1, q2⟩ := hj2 hj
        have hjd : (j : Int) < 64 := by omega
        have y6 : IntKind.i64.wrap (p * 64 + (j : Int)) = p * 64 + (j : Int) := i64_id (by omega)
        have hn : RowKit.Hid (nextI k L = some (p * 64 + (j : Int))) := by
          refine nextI_of hhid.out.good.rise ?_ (by omega) (fun a ha hka => ?_)
          · have := hpg.out.2 j hj
            rw [show p * 64 + (j : Int) = 64 * p + (j : Int) by omega, ← this]; exact q2
          · have ha1 := (hhid.out.good.each a ha).1
            have hla := l4h.out a.id ha1.1 hka
            have hap := hhid.out.sub (a.id / 64) (fun e => by
              have : a ∈ pgI (a.id / 64) L := mem_pg.2 ⟨ha, rfl⟩
              rw [e] at this; cases this)
            have hdiv : l / 64 ≤ a.id / 64 := by omega
            -- not on an earlier page
            have hnot : ¬ a.id / 64 < p := fun hlt2 => by
              obtain ⟨i, hi2, hi3⟩ := List.getElem_of_mem hap
              have hat2 : at_ ≤ i := by
                rcases Nat.lt_or_ge i at_ with g | g
                · have := l5h.out (a.id / 64) (by rw [List.mem_take_iff_getElem]; exact ⟨i, by omega, hi3⟩)
                  omega
                · exact g
              have hit : i < at_ + t := by
                rcases Nat.lt_or_ge i (at_ + t) with g | g
                · exact g
                · have := riseK_get hhid.out.rise g hi2
                  rw [hp, hi3] at this
                  omega
              exact hgh.out (i - at_) (by omega) (a.id / 64) (by rw [show at_ + (i - at_) = i by omega, List.getElem?_eq_getElem hi2, hi3]) a ha hla rfl
            by_cases hsame : a.id / 64 = p
            · rcases Nat.lt_or_ge (a.id % 64).toNat j with g | g
              · have h1 : one ≤ (a.id % 64).toNat := by omega
                have h2 := hj3 _ h1 g
                rw [hpg.out.2 _ (by omega), hasI_no] at h2
                exact absurd (by omega) (h2 a ha)
              · omega
            · omega
        go_wp2
        go_ret2
        refine ⟨?_, below_drewN (Below.refl _ _) _⟩
        rw [hn.out]
        rfl
      · have hjd : ¬ (j : Int) < 64 := by omega
        have y6 : IntKind.i64.wrap ((t : Int) + 1) = (t : Int) + 1 := i64_id (by omega)
        go_wp2
        refine ⟨⟨t + 1, by simp, by omega, trivial, fun i hi2 p' hp' a ha hla => ?_⟩, by simp [intOf]; omega⟩
        by_cases hit : i < t
        · exact hgh.out i hit p' hp' a ha hla
        · obtain rfl : i = t := by omega
          rw [List.getElem?_eq_getElem hi, hp] at hp'
          cases hp'
          intro hsame
          have h2 := hj3 (a.id % 64).toNat (by omega) (by omega)
          rw [hpg.out.2 _ (by omega), hasI_no] at h2
          exact absurd (by omega) (h2 a ha)
    · obtain rfl : t = N.length - at_ := by omega
      have y3 : ¬ ((N.length - at_ : Nat) : Int) < ((N.length - at_ : Nat) : Int) := by omega
      have hn : RowKit.Hid (nextI k L = none) := nextI_no (fun a ha => by
        rcases Int.lt_or_le k a.id with hka | hka
        · exfalso
          have ha1 := (hhid.out.good.each a ha).1
          have hla := l4h.out a.id ha1.1 hka
          have hap := hhid.out.sub (a.id / 64) (fun e => by
            have : a ∈ pgI (a.id / 64) L := mem_pg.2 ⟨ha, rfl⟩
            rw [e] at this; cases this)
          obtain ⟨i, hi2, hi3⟩ := List.getElem_of_mem hap
          have hat2 : at_ ≤ i := by
            rcases Nat.lt_or_ge i at_ with g | g
            · have := l5h.out (a.id / 64) (by rw [List.mem_take_iff_getElem]; exact ⟨i, by omega, hi3⟩)
              omega
            · exact g
          exact hny.out (i - at_) (by omega) (a.id / 64) (by rw [show at_ + (i - at_) = i by omega, List.getElem?_eq_getElem hi2, hi3]) a ha hla rfl
        · exact hka)
      go_wp2
      go_ret2
      refine ⟨?_, below_drewN (Below.refl _ _) _⟩
      rw [hn.out]
      rfl
set_option maxHeartbeats 2000000 in
theorem next_end (h : TbX w χ c B Bm N F G vn m L) (k l : Int) (hk : k < 65535) (hl : l = max k 0 + 1) (hki : Inte k) (hat : ¬ lowK (l / 64) N < N.length) : Calls Tryd.prog 25 #[.pointer (some ⟨B, 0, none⟩), eI k] w fun e w' => e = .returned (nextV (nextI k L)) ∧ Below w.heap.size w w' := by
  have hM := made_yes h.box
  have hlen := h.long
  have l1 : 1 ≤ l := by omega
  have l2 : l ≤ 65535 := by omega
  have hS := search_any h (l / 64)
  obtain ⟨l5, l6, l7⟩ := lowK_take (l / 64) h.rise
  have e0 : lowK (l / 64) N = N.length := by omega
  rw [e0] at l5 hS
  rw [List.take_length] at l5
  have hn : RowKit.Hid (nextI k L = none) := nextI_no (fun a ha => by
    rcases Int.lt_or_le k a.id with hka | hka
    · exfalso
      have ha1 := (h.good.each a ha).1
      have hap := h.sub (a.id / 64) (fun e => by
        have : a ∈ pgI (a.id / 64) L := mem_pg.2 ⟨ha, rfl⟩
        rw [e] at this; cases this)
      have := l5 _ hap
      omega
    · exact hka)
  have c0 := h.box.cell 0
  have c1 := h.box.cell 1
  have hq1 : Int.tdiv l 64 = l / 64 := tdiv_id (by omega)
  have hq2 : IntKind.i64.wrap (l / 64) = l / 64 := i64_id (by omega)
  have hq3 : IntKind.i64.wrap l = l := i64_id (by omega)
  have hq4 : IntKind.i64.wrap (max k 0 + 1) = l := by rw [← hl]; exact hq3
  have hk1 : ¬ (65535 : Int) ≤ k := by omega
  obtain ⟨a, cap, e, hnc, hm⟩ := own_len h.nums
  have hcm : cap ≤ 9223372036854775807 := by unfold maxLen at hm; omega
  have hform := own_form h.nums
  clear h l5 l6 l7 hat e0 hl
  generalize N.length = n at *
  generalize hcon : N.contains (l / 64) = bb at *
  clear hcon
  subst e
  have z2 : (n : Int) ≤ (n : Int) := Int.le_refl _
  have z3 : (0 : Int) ≤ (n : Int) := by omega
  rcases hform with ⟨e, e2⟩ | ⟨g, cap', e, h1, h2, h3⟩
  · cases e
    go_enter Tryd.func25, Tryd.ntmps25
    go_wp2_with (first
      | (go_at_call 26; (with_reducible refine hM.mono ?_); rintro e w1 ⟨rfl, rfl⟩)
      | (go_at_call 41; (with_reducible refine hS.mono ?_); rintro e w1 ⟨rfl, n1, rfl⟩))
    go_loopw [41] (fun s41 wr => s41 = .int .i64 0 ∧ wr = w.drewN n1) (fun s41 _ => 0)
    case atStart => exact ⟨rfl, rfl⟩
    case round =>
      obtain ⟨rfl, rfl⟩ := hrel
      go_wp2
      go_ret2
      refine ⟨?_, below_drewN (Below.refl _ _) _⟩
      rw [hn.out]
      rfl
  · cases e
    by_cases hc : cap = n
    · subst hc
      go_enter Tryd.func25, Tryd.ntmps25
      go_wp2_with (first
        | (go_at_call 26; (with_reducible refine hM.mono ?_); rintro e w1 ⟨rfl, rfl⟩)
        | (go_at_call 41; (with_reducible refine hS.mono ?_); rintro e w1 ⟨rfl, n1, rfl⟩))
      go_loopw [41] (fun s41 wr => s41 = .int .i64 0 ∧ wr = w.drewN n1) (fun s41 _ => 0)
      case atStart => exact ⟨rfl, rfl⟩
      case round =>
        obtain ⟨rfl, rfl⟩ := hrel
        go_wp2
        go_ret2
        refine ⟨?_, below_drewN (Below.refl _ _) _⟩
        rw [hn.out]
        rfl
    · go_enter Tryd.func25, Tryd.ntmps25
      go_wp2_with (first
        | (go_at_call 26; (with_reducible refine hM.mono ?_); rintro e w1 ⟨rfl, rfl⟩)
        | (go_at_call 41; (with_reducible refine hS.mono ?_); rintro e w1 ⟨rfl, n1, rfl⟩))
      go_loopw [41] (fun s41 wr => s41 = .int .i64 0 ∧ wr = w.drewN n1) (fun s41 _ => 0)
      case atStart => exact ⟨rfl, rfl⟩
      case round =>
        obtain ⟨rfl, rfl⟩ := hrel
        go_wp2
        go_ret2
        refine ⟨?_, below_drewN (Below.refl _ _) _⟩
        rw [hn.out]
        rfl
/-- Next, whatever the id. -/
theorem next_any (h : TbX w χ c B Bm N F G vn m L) (hfull : ∀ p ∈ N, pgI p L ≠ []) (k : Int) (hki : Inte k) : Calls Tryd.prog 25 #[.pointer (some ⟨B, 0, none⟩), eI k] w fun e w' => e = .returned (nextV (nextI k L)) ∧ Below w.heap.size w w' := by
  by_cases hk : k < 65535
  · by_cases hat : lowK ((max k 0 + 1) / 64) N < N.length
    · exact next_loop h hfull k _ hk rfl hki hat
    · exact next_end h k _ hk rfl hki hat
  · have hM := made_yes h.box
    have hn : RowKit.Hid (nextI k L = none) := nextI_no (fun a ha => by have := (h.good.each a ha).1; omega)
    have hk1 : (65535 : Int) ≤ k := by omega
    have c0 := h.box.cell 0
    clear h
    go_enter Tryd.func25, Tryd.ntmps25
    go_wp2_with (go_at_call 26; (with_reducible refine hM.mono ?_); rintro e w1 ⟨rfl, rfl⟩)
    go_ret2
    refine ⟨?_, Below.refl _ _⟩
    rw [hn.out]
    rfl
end
end Go.Proofs.YtenghpgnhmglpaaDoor
