/- The library's choice of a pivot among words. -/
import Derived.Test.YtmhmoebdojkbpaaMed
import Derived.Sort.Walk11
namespace Go.Proofs.Ytmhmoebdojkbpaa
open Go.RowKit Go.Shelf Go.Sort W
set_option linter.unusedVariables false
theorem Cnt.fin {w w' : World} {t : Nat} (h : Cnt (w.alloc (.cells #[.int .i64 0] 3)) w.heap.size 0 t w') : ∃ n os, w' = grow (Sort.ahead w n) os := by
  obtain ⟨n, rfl⟩ := h
  obtain ⟨os, e⟩ := counter_grow w n t
  exact ⟨n, os, e⟩
theorem Cnt.zero (w : World) (h : Holds eI (w.alloc (.cells #[.int .i64 0] 3)) w.heap.size 0 (one 0)) : Cnt (w.alloc (.cells #[.int .i64 0] 3)) w.heap.size 0 0 (w.alloc (.cells #[.int .i64 0] 3)) := ⟨0, (putRow_self _ _ _ _ _ h).symm⟩
set_option maxHeartbeats 4000000 in
set_option maxRecDepth 100000 in
theorem piv_any (blk off cap a b : Nat) (d : Array Int) (w : World) (hH : Holds eU w blk off d) (hblk : blk < w.heap.size) (hab : a < b) (hb : b ≤ d.size) (hsz : d.size < 4611686018427387904) :
    Calls Try.prog 76 #[.slice (some ⟨blk, off, none⟩) d.size cap, .int .i64 a, .int .i64 b] w fun e w' =>
      e = .returned (.tuple #[.int .i64 (choosePivot lt d a b).1, .int .i64 (hintCode (choosePivot lt d a b).2)]) ∧ ∃ n os, w' = grow (Sort.ahead w n) os := by
  have hne : w.heap.size ≠ blk := by omega
  obtain ⟨W0, hW0⟩ : ∃ W0, W0 = w.alloc (.cells #[.int .i64 0] 3) := ⟨_, rfl⟩
  have hH0 : Holds eU W0 blk off d := by rw [hW0, alloc_eq_grow]; exact holds_grow _ _ _ _ _ _ hblk hH
  have hS0 : Holds eI W0 w.heap.size 0 (one 0) := fun j hj => by
    obtain rfl : j = 0 := by simpa using hj
    rw [hW0]
    simp
  have fin : ∀ t w', Cnt W0 w.heap.size 0 t w' → ∃ n os, w' = grow (Sort.ahead w n) os := fun t w' h => by rw [hW0] at h; exact h.fin
  have K0 : Cnt W0 w.heap.size 0 0 W0 := ⟨0, (putRow_self _ _ _ _ _ hS0).symm⟩
  have MA : ∀ x s wx, Cnt W0 w.heap.size 0 s wx → 1 ≤ x → x + 1 < d.size → s + 3 < 4611686018427387904 → Calls Try.prog 89 #[.slice (some ⟨blk, off, none⟩) d.size cap, .int .i64 (x : Nat), .pointer (some ⟨w.heap.size, 0, none⟩)] wx fun e w' => e = .returned (.int .i64 ((medianAdjacent lt d x s).1 : Int)) ∧ Cnt W0 w.heap.size 0 (medianAdjacent lt d x s).2 w' := fun x s wx k h1 h2 h3 =>
    (adj_any blk off cap x w.heap.size 0 s d wx (k.row hH0 hne) h1 h2 (by omega) hne (k.cnt hS0) h3).mono (by rintro e w' ⟨he, h⟩; exact ⟨he, k.trans h⟩)
  have MD : ∀ x y z s wx, Cnt W0 w.heap.size 0 s wx → x < d.size → y < d.size → z < d.size → s + 3 < 4611686018427387904 → Calls Try.prog 90 #[.slice (some ⟨blk, off, none⟩) d.size cap, .int .i64 (x : Nat), .int .i64 (y : Nat), .int .i64 (z : Nat), .pointer (some ⟨w.heap.size, 0, none⟩)] wx fun e w' => e = .returned (.int .i64 ((median lt d x y z s).1 : Int)) ∧ Cnt W0 w.heap.size 0 (median lt d x y z s).2 w' := fun x y z s wx k h1 h2 h3 h4 =>
    (med_any blk off cap x y z w.heap.size 0 s d wx (k.row hH0 hne) h1 h2 h3 hne (k.cnt hS0) h4).mono (by rintro e w' ⟨he, h⟩; exact ⟨he, k.trans h⟩)
  have cel : ∀ s wx, Cnt W0 w.heap.size 0 s wx → wx.cell? ⟨w.heap.size, 0, none⟩ = some (.int .i64 s) := fun s wx k => (one_cell (k.cnt hS0)).1
  clear hH hH0 hS0
  rw [choosePivot_eq]
  obtain ⟨I, hI⟩ : ∃ I : Nat, I = a + (b - a) / 4 * 1 := ⟨_, rfl⟩
  obtain ⟨J, hJ⟩ : ∃ J : Nat, J = a + (b - a) / 4 * 2 := ⟨_, rfl⟩
  obtain ⟨K, hK⟩ : ∃ K : Nat, K = a + (b - a) / 4 * 3 := ⟨_, rfl⟩
  have eI1 : ((a : Int) + ((b : Int) - (a : Int)) / 4) = (I : Int) := by omega
  have eJ1 : ((a : Int) + ((b : Int) - (a : Int)) / 4 * 2) = (J : Int) := by omega
  have eK1 : ((a : Int) + ((b : Int) - (a : Int)) / 4 * 3) = (K : Int) := by omega
  replace hW0 : w.alloc (.cells #[.int .i64 0] 3) = W0 := hW0.symm
  replace fin := Lib.hid fin
  by_cases h8 : b - a ≥ 8
  · by_cases h50 : b - a ≥ 50
    · obtain ⟨i1, s1, h1⟩ : ∃ i1 s1, medianAdjacent lt d I 0 = (i1, s1) := ⟨_, _, rfl⟩
      obtain ⟨j1, s2, h2⟩ : ∃ j1 s2, medianAdjacent lt d J s1 = (j1, s2) := ⟨_, _, rfl⟩
      obtain ⟨k1, s3, h3⟩ : ∃ k1 s3, medianAdjacent lt d K s2 = (k1, s3) := ⟨_, _, rfl⟩
      obtain ⟨p, s, h4⟩ : ∃ p s, median lt d i1 j1 k1 s3 = (p, s) := ⟨_, _, rfl⟩
      have hraw : rawPivot lt d a b = (p, s) := by simp only [rawPivot, if_pos h8, if_pos h50, ← hI, ← hJ, ← hK, h1, h2, h3, h4]
      have m1 := medianAdjacent_mem lt d I 0; rw [h1] at m1
      have m2 := medianAdjacent_mem lt d J s1; rw [h2] at m2
      have m3 := medianAdjacent_mem lt d K s2; rw [h3] at m3
      have n1 := medianAdjacent_count lt d I 0; rw [h1] at n1
      have n2 := medianAdjacent_count lt d J s1; rw [h2] at n2
      have n3 := medianAdjacent_count lt d K s2; rw [h3] at n3
      simp only [] at m1 m2 m3 n1 n2 n3
      have c1 := MA I 0 W0 K0 (by omega) (by omega) (by omega)
      have c2 := fun wx (k : Cnt W0 w.heap.size 0 s1 wx) => MA J s1 wx k (by omega) (by omega) (by omega)
      have c3 := fun wx (k : Cnt W0 w.heap.size 0 s2 wx) => MA K s2 wx k (by omega) (by omega) (by omega)
      have c4 := fun wx (k : Cnt W0 w.heap.size 0 s3 wx) => MD i1 j1 k1 s3 wx k (by omega) (by omega) (by omega) (by omega)
      rw [h1] at c1
      rw [h2] at c2
      rw [h3] at c3
      rw [h4] at c4
      rw [hraw]
      obtain ⟨Hc, hHc⟩ : ∃ Hc : Int, Hc = hintCode (hintOf s) := ⟨_, rfl⟩
      have hh0 : s = 0 → Hc = 1 := fun h => by rw [hHc, h]; rfl
      have hh12 : s = 12 → Hc = 2 := fun h => by rw [hHc, h]; rfl
      have hhx : s ≠ 0 → s ≠ 12 → Hc = 0 := fun h1 h2 => by rw [hHc]; unfold hintOf; rw [if_neg h1, if_neg h2]; rfl
      show Calls Try.prog 76 _ w fun e w' => e = .returned (.tuple #[.int .i64 (p : Int), .int .i64 (hintCode (hintOf s))]) ∧ ∃ n os, w' = grow (Sort.ahead w n) os
      rw [← hHc]
      clear hHc hraw
      clear h1 h2 h3 h4 MA MD hI hJ hK m1 m2 m3
      go_enter Try.func76, Try.ntmps76
      go_wp2_with (first
        | (go_at_call_has 89 (Value.int .i64 (I : Int)); refine c1.mono ?_; rintro e w' ⟨rfl, k1⟩)
        | (go_at_call_has 89 (Value.int .i64 (J : Int)); refine (c2 _ k1).mono ?_; rintro e w' ⟨rfl, k2⟩)
        | (go_at_call_has 89 (Value.int .i64 (K : Int)); refine (c3 _ k2).mono ?_; rintro e w' ⟨rfl, k3⟩)
        | (go_at_call 90; refine (c4 _ k3).mono ?_; rintro e w' ⟨rfl, k4⟩; have cs := cel _ _ k4))
      all_goals
        go_ret2
        refine ⟨?_, fin.out _ _ k4⟩
        first
          | (have e0 : (s : Int) = 0 := of_beq_int (by assumption)
             rw [hh0 (by omega)]; rfl)
          | (have e1 : (s : Int) = 12 := of_beq_int (by assumption)
             rw [hh12 (by omega)]; rfl)
          | (have e0 : (s : Int) ≠ 0 := of_bne_int (by assumption)
             have e1 : (s : Int) ≠ 12 := of_bne_int (by assumption)
             rw [hhx (by omega) (by omega)]; rfl)
          | (rw [hh0 (by omega)]; rfl)
    · obtain ⟨p, s, h4⟩ : ∃ p s, median lt d I J K 0 = (p, s) := ⟨_, _, rfl⟩
      have hraw : rawPivot lt d a b = (p, s) := by simp only [rawPivot, if_pos h8, if_neg h50, ← hI, ← hJ, ← hK, h4]
      have c4 := MD I J K 0 W0 K0 (by omega) (by omega) (by omega) (by omega)
      rw [h4] at c4
      rw [hraw]
      obtain ⟨Hc, hHc⟩ : ∃ Hc : Int, Hc = hintCode (hintOf s) := ⟨_, rfl⟩
      have hh0 : s = 0 → Hc = 1 := fun h => by rw [hHc, h]; rfl
      have hh12 : s = 12 → Hc = 2 := fun h => by rw [hHc, h]; rfl
      have hhx : s ≠ 0 → s ≠ 12 → Hc = 0 := fun h1 h2 => by rw [hHc]; unfold hintOf; rw [if_neg h1, if_neg h2]; rfl
      show Calls Try.prog 76 _ w fun e w' => e = .returned (.tuple #[.int .i64 (p : Int), .int .i64 (hintCode (hintOf s))]) ∧ ∃ n os, w' = grow (Sort.ahead w n) os
      rw [← hHc]
      clear hHc hraw
      clear h4 MA MD hI hJ hK
      go_enter Try.func76, Try.ntmps76
      go_wp2_with (first | (go_at_call 90; refine c4.mono ?_; rintro e w' ⟨rfl, k4⟩; have cs := cel _ _ k4))
      all_goals
        go_ret2
        refine ⟨?_, fin.out _ _ k4⟩
        first
          | (have e0 : (s : Int) = 0 := of_beq_int (by assumption)
             rw [hh0 (by omega)]; rfl)
          | (have e1 : (s : Int) = 12 := of_beq_int (by assumption)
             rw [hh12 (by omega)]; rfl)
          | (have e0 : (s : Int) ≠ 0 := of_bne_int (by assumption)
             have e1 : (s : Int) ≠ 12 := of_bne_int (by assumption)
             rw [hhx (by omega) (by omega)]; rfl)
          | (rw [hh0 (by omega)]; rfl)
  · obtain ⟨p, hp⟩ : ∃ p : Nat, p = J := ⟨_, rfl⟩
    obtain ⟨s, hs⟩ : ∃ s : Nat, s = 0 := ⟨_, rfl⟩
    have hraw : rawPivot lt d a b = (p, s) := by simp only [rawPivot, if_neg h8, ← hJ, hp, hs]
    rw [hraw]
    obtain ⟨Hc, hHc⟩ : ∃ Hc : Int, Hc = hintCode (hintOf s) := ⟨_, rfl⟩
    have hh0 : s = 0 → Hc = 1 := fun h => by rw [hHc, h]; rfl
    have hh12 : s = 12 → Hc = 2 := fun h => by rw [hHc, h]; rfl
    have hhx : s ≠ 0 → s ≠ 12 → Hc = 0 := fun h1 h2 => by rw [hHc]; unfold hintOf; rw [if_neg h1, if_neg h2]; rfl
    show Calls Try.prog 76 _ w fun e w' => e = .returned (.tuple #[.int .i64 (p : Int), .int .i64 (hintCode (hintOf s))]) ∧ ∃ n os, w' = grow (Sort.ahead w n) os
    rw [← hHc]
    clear hHc hraw
    subst hp
    clear MA MD hI hJ hK
    have cs := cel 0 W0 K0
    have cs2 : W0.cell? ⟨w.heap.size, 0, none⟩ = some (.int .i64 (s : Int)) := by rw [hs]; exact cs
    clear cs
    go_enter Try.func76, Try.ntmps76
    go_wp2
    all_goals
      go_ret2
      refine ⟨?_, fin.out _ _ K0⟩
      first
        | (have e0 : (s : Int) = 0 := of_beq_int (by assumption)
           rw [hh0 (by omega)]; rfl)
        | (have e1 : (s : Int) = 12 := of_beq_int (by assumption)
           rw [hh12 (by omega)]; rfl)
        | (have e0 : (s : Int) ≠ 0 := of_bne_int (by assumption)
           have e1 : (s : Int) ≠ 12 := of_bne_int (by assumption)
           rw [hhx (by omega) (by omega)]; rfl)
        | (rw [hh0 (by omega)]; rfl)
end Go.Proofs.Ytmhmoebdojkbpaa
