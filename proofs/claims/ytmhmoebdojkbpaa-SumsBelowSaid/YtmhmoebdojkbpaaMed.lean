/- The library's medians of three words: only a counter of swaps, in a block of its own, is written. -/
import Derived.Test.YtmhmoebdojkbpaaHps
import Derived.Sort.WalkD1
namespace Go.Proofs.Ytmhmoebdojkbpaa
open Go.RowKit Go.Shelf Go.Sort W
set_option linter.unusedVariables false
abbrev eI : Int → Value := Value.int .i64
/-- A world that has come of w by draws, and by turns of the counter in block sb: it holds t. -/
def Cnt (w : World) (sb so t : Nat) (w' : World) : Prop := ∃ n, w' = putRow eI (Sort.ahead w n) sb so (one t)
theorem Cnt.row {w w' : World} {blk off sb so t : Nat} {d : Array Int} (h : Cnt w sb so t w') (hH : Holds eU w blk off d) (hne : sb ≠ blk) : Holds eU w' blk off d := by
  obtain ⟨n, rfl⟩ := h
  intro j hj
  exact ⟨by rw [cell?_putRow_other _ _ _ _ _ _ (Or.inl (Ne.symm hne))]; exact (hH j hj).1, by rw [frozen?_putRow]; exact (hH j hj).2⟩
theorem Cnt.cnt {w w' : World} {sb so s t : Nat} (h : Cnt w sb so t w') (hS : Holds eI w sb so (one s)) : Holds eI w' sb so (one t) := by
  obtain ⟨n, rfl⟩ := h
  exact holds_one hS
theorem Cnt.trans {w w' w'' : World} {sb so s t : Nat} (h : Cnt w sb so s w') (h' : Cnt w' sb so t w'') : Cnt w sb so t w'' := by
  obtain ⟨n, rfl⟩ := h
  obtain ⟨m, rfl⟩ := h'
  exact ⟨n + m, one_one w n m sb so s t⟩
set_option maxHeartbeats 1000000 in
theorem two_any (blk off cap a b sb so s : Nat) (d : Array Int) (w : World) (hH : Holds eU w blk off d) (ha : a < d.size) (hb : b < d.size) (hS : Holds eI w sb so (one s)) (hs : s < 4611686018427387904) :
    Calls Try.prog 91 #[.slice (some ⟨blk, off, none⟩) d.size cap, .int .i64 a, .int .i64 b, .pointer (some ⟨sb, so, none⟩)] w fun e w' =>
      e = .returned (.tuple #[.int .i64 (Sort.order2 lt d a b s).1, .int .i64 (Sort.order2 lt d a b s).2.1]) ∧ Cnt w sb so (Sort.order2 lt d a b s).2.2 w' := by
  obtain ⟨G, hG⟩ : ∃ G : Nat → Int, ∀ t, G t = d[t]! := ⟨fun t => d[t]!, fun _ => rfl⟩
  have ca : w.cell? ⟨blk, off + a, none⟩ = some (.int .u64 (G a)) := by rw [hG]; exact (hH a ha).1
  have cb : w.cell? ⟨blk, off + b, none⟩ = some (.int .u64 (G b)) := by rw [hG]; exact (hH b hb).1
  obtain ⟨cs, fs⟩ := one_cell hS
  have yes : lt (G b) (G a) = true → Sort.order2 lt d a b s = (b, a, s + 1) := fun h => by rw [hG, hG] at h; unfold Sort.order2; rw [if_pos h]
  have no : lt (G b) (G a) = false → Sort.order2 lt d a b s = (a, b, s) := fun h => by rw [hG, hG] at h; unfold Sort.order2; rw [if_neg (by rw [h]; exact Bool.false_ne_true)]
  have hy := Lib.hid yes
  have hn := Lib.hid no
  clear yes no hG
  go_enter Try.func91, Try.ntmps91
  go_wp2
  go_region_with (go_at_call 79; refine (less_any _ _ _).mono ?_; rintro e w' ⟨rfl, rfl⟩)
  all_goals (try go_wp2)
  all_goals first
    | (have hl : lt (G b) (G a) = true := by assumption
       go_ret2
       rw [hy.out hl]
       refine ⟨rfl, 1, ?_⟩
       rw [putRow_ahead, ← one_set hS (s + 1)]
       simp [drew_eq_ahead])
    | (have hl : lt (G b) (G a) = false := by assumption
       go_ret2
       rw [hn.out hl]
       refine ⟨rfl, 1, ?_⟩
       rw [putRow_ahead, putRow_self _ _ _ _ _ hS]
       rfl)
theorem two_in (d : Array Int) {a b n : Nat} (s : Nat) (ha : a < n) (hb : b < n) : (Sort.order2 lt d a b s).1 < n ∧ (Sort.order2 lt d a b s).2.1 < n ∧ (Sort.order2 lt d a b s).2.2 ≤ s + 1 := by
  unfold Sort.order2
  split
  · exact ⟨hb, ha, Nat.le_refl _⟩
  · exact ⟨ha, hb, Nat.le_succ _⟩
set_option maxHeartbeats 1000000 in
set_option maxRecDepth 100000 in
theorem med_any (blk off cap a b c sb so s : Nat) (d : Array Int) (w : World) (hH : Holds eU w blk off d) (ha : a < d.size) (hb : b < d.size) (hc : c < d.size) (hne : sb ≠ blk) (hS : Holds eI w sb so (one s)) (hs : s + 3 < 4611686018427387904) :
    Calls Try.prog 90 #[.slice (some ⟨blk, off, none⟩) d.size cap, .int .i64 a, .int .i64 b, .int .i64 c, .pointer (some ⟨sb, so, none⟩)] w fun e w' =>
      e = .returned (.int .i64 (Sort.median lt d a b c s).1) ∧ Cnt w sb so (Sort.median lt d a b c s).2 w' := by
  have l1 := two_in d s ha hb
  obtain ⟨r1, h1⟩ : ∃ r, r = Sort.order2 lt d a b s := ⟨_, rfl⟩
  rw [← h1] at l1
  have l2 := two_in d r1.2.2 l1.2.1 hc
  obtain ⟨r2, h2⟩ : ∃ r, r = Sort.order2 lt d r1.2.1 c r1.2.2 := ⟨_, rfl⟩
  rw [← h2] at l2
  obtain ⟨r3, h3⟩ : ∃ r, r = Sort.order2 lt d r1.1 r2.1 r2.2.2 := ⟨_, rfl⟩
  have hm : Sort.median lt d a b c s = (r3.2.1, r3.2.2) := by simp only [Sort.median, ← h1, ← h2, ← h3]
  have c1 := two_any blk off cap a b sb so s d w hH ha hb hS (by omega)
  rw [← h1] at c1
  have c2 : ∀ w1, Cnt w sb so r1.2.2 w1 → Calls Try.prog 91 #[.slice (some ⟨blk, off, none⟩) d.size cap, .int .i64 r1.2.1, .int .i64 c, .pointer (some ⟨sb, so, none⟩)] w1 fun e w' => e = .returned (.tuple #[.int .i64 r2.1, .int .i64 r2.2.1]) ∧ Cnt w1 sb so r2.2.2 w' := fun w1 k => by
    rw [h2]; exact two_any blk off cap r1.2.1 c sb so r1.2.2 d w1 (k.row hH hne) l1.2.1 hc (k.cnt hS) (by omega)
  have c3 : ∀ w1, Cnt w sb so r2.2.2 w1 → Calls Try.prog 91 #[.slice (some ⟨blk, off, none⟩) d.size cap, .int .i64 r1.1, .int .i64 r2.1, .pointer (some ⟨sb, so, none⟩)] w1 fun e w' => e = .returned (.tuple #[.int .i64 r3.1, .int .i64 r3.2.1]) ∧ Cnt w1 sb so r3.2.2 w' := fun w1 k => by
    rw [h3]; exact two_any blk off cap r1.1 r2.1 sb so r2.2.2 d w1 (k.row hH hne) l1.1 l2.1 (k.cnt hS) (by omega)
  rw [hm]
  clear h1 h2 h3 hm l1 l2
  go_enter Try.func90, Try.ntmps90
  go_wp2_with (go_at_call_of 91 (Value.int .i64 (b : Int)); refine c1.mono ?_; rintro e w' ⟨rfl, k1⟩)
  go_wp2_with (go_at_call_of 91 (Value.int .i64 (c : Int)); refine (c2 _ k1).mono ?_; rintro e w' ⟨rfl, k2⟩)
  go_wp2_with (go_at_call_of 91 (Value.int .i64 (r1.1 : Int)); refine (c3 _ (k1.trans k2)).mono ?_; rintro e w' ⟨rfl, k3⟩)
  go_ret
  exact ⟨rfl, (k1.trans k2).trans k3⟩
set_option maxHeartbeats 1000000 in
theorem adj_any (blk off cap a sb so s : Nat) (d : Array Int) (w : World) (hH : Holds eU w blk off d) (ha0 : 1 ≤ a) (ha : a + 1 < d.size) (hsz : d.size < 4611686018427387904) (hne : sb ≠ blk) (hS : Holds eI w sb so (one s)) (hs : s + 3 < 4611686018427387904) :
    Calls Try.prog 89 #[.slice (some ⟨blk, off, none⟩) d.size cap, .int .i64 a, .pointer (some ⟨sb, so, none⟩)] w fun e w' =>
      e = .returned (.int .i64 (Sort.medianAdjacent lt d a s).1) ∧ Cnt w sb so (Sort.medianAdjacent lt d a s).2 w' := by
  have h := med_any blk off cap (a - 1) a (a + 1) sb so s d w hH (by omega) (by omega) ha hne hS hs
  rw [show ((a - 1 : Nat) : Int) = (a : Int) - 1 by omega, show ((a + 1 : Nat) : Int) = (a : Int) + 1 by omega] at h
  go_enter Try.func89, Try.ntmps89
  go_wp2_with (go_at_call 90; refine h.mono ?_; rintro e w' ⟨rfl, k1⟩)
  go_ret
  exact ⟨rfl, k1⟩
end Go.Proofs.Ytmhmoebdojkbpaa
