/- The document's copies: the least of all, at a tick. -/
import Derived.Test.YtejolaifdjcghaaGreatCpQ
namespace Go.Proofs.YtejolaifdjcghaaGreat
open Go.RowKit Go.Shelf W
set_option linter.unusedVariables false
set_option maxRecDepth 100000
namespace W
def hiW (v : Int) : Int := v / 18446744073709551616
def loW (v : Int) : Int := v % 18446744073709551616
theorem V_hl (v : Int) : V (hiW v) (loW v) = v := by unfold V hiW loW; omega
theorem hiW_word {v : Int} (h : 0 ≤ v ∧ v < 340282366920938463463374607431768211456) : Word (hiW v) := by unfold Word hiW; omega
theorem loW_word (v : Int) : Word (loW v) := by unfold Word loW; omega
/-- The least of the first k + 1. -/
def minV (G : Nat → Int) : Nat → Int
  | 0 => G 0
  | k + 1 => min (minV G k) (G (k + 1))
theorem minV_le (G : Nat → Int) : ∀ {n k : Nat}, k ≤ n → minV G n ≤ G k
  | 0, k, h => by
    obtain rfl : k = 0 := by omega
    exact Int.le_refl _
  | n + 1, k, h => by
    show min _ _ ≤ _
    rcases Nat.lt_or_ge n k with h1 | h1
    · obtain rfl : k = n + 1 := by omega
      exact Int.min_le_right _ _
    · exact Int.le_trans (Int.min_le_left _ _) (minV_le G h1)
theorem minV_ex (G : Nat → Int) : ∀ n : Nat, ∃ k, k ≤ n ∧ minV G n = G k
  | 0 => ⟨0, Nat.le_refl _, rfl⟩
  | n + 1 => by
    obtain ⟨k, hk, e⟩ := minV_ex G n
    rcases Int.le_total (minV G n) (G (n + 1)) with h | h
    · exact ⟨k, by omega, by show min _ _ = _; rw [Int.min_eq_left h, e]⟩
    · exact ⟨n + 1, by omega, by show min _ _ = _; rw [Int.min_eq_right h]⟩
end W
set_option maxHeartbeats 4000000 in
theorem c_wide (B n : Nat) (t : Int) (G : Nat → Int) (Rr : World → Prop) (hRb : ∀ w w', Rr w → Below w.heap.size w w' → Rr w') (hlen : ∀ w, Rr w → ∃ a cap, w.cell? ⟨B, 3, none⟩ = some (.slice a n cap))
    (hO : ∀ k w, k < n → Rr w → Calls Tryz.prog 49 #[.pointer (some ⟨B, 0, none⟩), .int .i64 k, eU t] w fun e w' => e = .returned (.agg #[eU (hiW (G k)), eU (loW (G k))]) ∧ Below w.heap.size w w')
    (hG : ∀ k, k < n → 0 ≤ G k ∧ G k < 340282366920938463463374607431768211456) (hn : 0 < n) (hn2 : n ≤ 1000) (w : World) (h : Rr w) :
    Calls Tryz.prog 42 #[.pointer (some ⟨B, 0, none⟩), eU t] w fun e w' => e = .returned (.agg #[eU (hiW (minV G (n - 1))), eU (loW (minV G (n - 1)))]) ∧ Below w.heap.size w w' := by
  have hR : ∀ w', Below w.heap.size w w' → Rr w' := fun w' T => hRb _ _ h T
  have hO0 := fun w (h : Rr w) => hO 0 w hn h
  simp only [Int.cast_ofNat_Int] at hO0
  have O := Own.new w 0 0
  have T := up1 w (.cells #[eU 0, eU 0] 79)
  have hRh := Lib.hid hR
  have hOh := Lib.hid hO
  have hLh := Lib.hid hlen
  have hGh := Lib.hid hG
  clear hRb hlen hO h hR hG
  go_enter Tryz.func42, Tryz.ntmps42
  go_wp2_with (go_at_call 49; (with_reducible refine (hO0 _ (hRh.out _ (by first | exact T | exact T.drew))).mono ?_); rintro e w1 ⟨rfl, hb⟩; (first | replace hb := undrew hb | skip); replace T := up T hb T.size; replace O := O.below hb; clear hb)
  have hlt := O.lt
  have hne : w.heap.size ≠ w1.heap.size := Nat.ne_of_lt hlt
  have hsz := T.size
  have P0 := Own.new w1 (hiW (G 0)) (loW (G 0))
  replace O := O.alloc (.cells #[eU (hiW (G 0)), eU (loW (G 0))] 79)
  replace T := T.alloc T.size (.cells #[eU (hiW (G 0)), eU (loW (G 0))] 79)
  obtain ⟨M, hM⟩ : ∃ M, w1.heap.size = M := ⟨_, rfl⟩
  rw [hM] at P0 hlt hsz hne
  rw [hM]
  clear hO0
  go_loopw [6] (fun s6 wr => ∃ k : Nat, s6 = .int .i64 k ∧ 1 ≤ k ∧ k ≤ n ∧ Own wr M (hiW (minV G (k - 1))) (loW (minV G (k - 1))) ∧ Own wr w.heap.size 0 0 ∧ Below w.heap.size w wr) (fun s6 _ => n - (intOf s6).toNat)
  case atStart => exact ⟨1, rfl, by omega, by omega, P0, O, T⟩
  case round =>
    clear P0 O T
    obtain ⟨k, rfl, hk1, hk, P, O, T⟩ := hrel
    obtain ⟨a, cap, c3⟩ := hLh.out _ (hRh.out _ T)
    obtain ⟨⟨_, p0, p1⟩, _, _⟩ := id P
    by_cases hk2 : k < n
    · have i1 : (k : Int) < (n : Int) := by omega
      have hOk := fun w (h : Rr w) => hOh.out k w hk2 h
      obtain ⟨z, hz⟩ : ∃ z, cmpW (hiW (G k)) (loW (G k)) (hiW (minV G (k - 1))) (loW (minV G (k - 1))) = z := ⟨_, rfl⟩
      have hC := fun w => rCmp_any (hiW (G k)) (loW (G k)) (hiW (minV G (k - 1))) (loW (minV G (k - 1))) w (loW_word _) (loW_word _)
      rw [hz] at hC
      have hm : minV G k = min (minV G (k - 1)) (G k) := by
        obtain ⟨j, rfl⟩ : ∃ j, k = j + 1 := ⟨k - 1, by omega⟩
        rfl
      have hzz : (z < 0 ∧ minV G k = G k) ∨ (¬ z < 0 ∧ minV G k = minV G (k - 1)) := by
        rcases Int.lt_or_le (G k) (minV G (k - 1)) with q | q
        · left
          rw [cmpW_lt (by rw [V_hl, V_hl]; exact q)] at hz
          omega
        · right
          rcases Int.lt_or_eq_of_le q with q' | q'
          · rw [cmpW_gt (by rw [V_hl, V_hl]; exact q')] at hz
            omega
          · rw [cmpW_eq (by rw [V_hl, V_hl]; exact q')] at hz
            omega
      obtain ⟨g1, hg1⟩ : ∃ v, hiW (G k) = v := ⟨_, rfl⟩
      obtain ⟨g2, hg2⟩ : ∃ v, loW (G k) = v := ⟨_, rfl⟩
      obtain ⟨l1, hl1⟩ : ∃ v, hiW (minV G (k - 1)) = v := ⟨_, rfl⟩
      obtain ⟨l2, hl2⟩ : ∃ v, loW (minV G (k - 1)) = v := ⟨_, rfl⟩
      rw [hg1, hg2] at hOk hC
      rw [hl1, hl2] at hC P
      rw [hl1] at p0
      rw [hl2] at p1
      have hE := Lib.hid (And.intro hg1 (And.intro hg2 (And.intro hl1 hl2)))
      clear hg1 hg2 hl1 hl2 hz hm
      have hT := T.size
      rcases hzz with ⟨hz0, hmk⟩ | ⟨hz0, hmk⟩
      all_goals have hmk' := Lib.hid hmk
      all_goals clear hmk
      all_goals go_wp2_with (first
        | (go_at_call 49; (with_reducible refine (hOk _ (hRh.out _ (by first | exact T | exact T.drew))).mono ?_); rintro e w2 ⟨rfl, hb⟩; (first | replace hb := undrew hb | skip); replace T := up T hb T.size; replace O := O.below hb; replace P := P.below hb; clear hb p0 p1; have hT2 := T.size; have F := Has.new w2 g1 g2; replace T := T.alloc T.size (.cells #[eU g1, eU g2] 79); replace O := O.alloc (.cells #[eU g1, eU g2] 79); have hPl := P.lt; replace P := P.alloc (.cells #[eU g1, eU g2] 79); obtain ⟨⟨_, p0, p1⟩, q0, q1⟩ := id P; obtain ⟨_, f0, f1⟩ := id F)
        | (go_at_call 50; (with_reducible refine (hC _).mono ?_); rintro e w3 ⟨rfl, hb⟩; (first | replace hb := undrew hb | skip); replace T := up T hb T.size; replace O := O.below hb; replace P := P.below hb; replace F := F.below hb; clear hb p0 p1 q0 q1 f0 f1; obtain ⟨⟨_, p0, p1⟩, q0, q1⟩ := id P; obtain ⟨_, f0, f1⟩ := id F))
      all_goals go_roundw
      all_goals first
        | (simp [intOf]; omega)
        | exact ⟨k + 1, rfl, by omega, by omega, by rw [show k + 1 - 1 = k from rfl, hmk'.out, hE.out.1, hE.out.2.1]; exact P.store g1 g2, (O.setNe (by exact hne) _).setNe (by exact hne) _, (T.setCell (by exact hsz) _).setCell (by exact hsz) _⟩
        | exact ⟨k + 1, rfl, by omega, by omega, by rw [show k + 1 - 1 = k from rfl, hmk'.out, hE.out.2.2.1, hE.out.2.2.2]; exact P, O, T⟩
    · obtain rfl : k = n := by omega
      have i1 : ¬ (k : Int) < (k : Int) := by omega
      obtain ⟨⟨_, o0, o1⟩, g0, g1⟩ := id O
      obtain ⟨⟨_, r1, r2⟩, _⟩ := O.store (hiW (minV G (k - 1))) (loW (minV G (k - 1)))
      go_wp2
      exact bodyPost_ret (v := .agg #[eU (hiW (minV G (k - 1))), eU (loW (minV G (k - 1)))]) (by simp [results, Tryz.results42, go_sem, r1, r2]) rfl ⟨rfl, (T.setCell (by exact Nat.le_refl _) _).setCell (by exact Nat.le_refl _) _⟩
end Go.Proofs.YtejolaifdjcghaaGreat
