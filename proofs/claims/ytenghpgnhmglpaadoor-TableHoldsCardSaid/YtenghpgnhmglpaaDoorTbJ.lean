/- slices.Insert of one value into a row that the call owns, at elements of one cell. No condition but that it isn't long. -/
import Derived.Test.YtenghpgnhmglpaaDoorTbC
import Derived.Lib.AppendZerosOnto
import Derived.Lib.AppendZeros
import Derived.Lib.Overlaps
import Derived.Laws.Externs
import Derived.Lib.Walk
import Derived.Lib.SliceRun
import Derived.Laws.NewBlocks
namespace Go.Proofs.YtenghpgnhmglpaaDoor
open Go.RowKit
set_option linter.unusedVariables false
set_option linter.unusedSimpArgs false
theorem rowI : RowTy Tryd.prog 48 3 1 := ⟨Tryd.underlying48, by decide, by
  obtain ⟨i, h1, h2, h3, h4⟩ := info_parts (show (Tryd.prog.info? 3).map (fun i => (i.zero, i.size, i.bytes)) = some (some (.int .i64 0), 1, 8) by kernel_rfl)
  exact ⟨i, _, 8, h1, h2, h3, h4, rfl, by decide⟩⟩
section
variable {w : World} {base n i vb : Nat} {v x : Value} {xs : List Value}
/-- What Insert leaves. -/
def InsI (w : World) (base n i : Nat) (v x : Value) (xs : List Value) (e : Ending) (w' : World) : Prop :=
  ∃ v', e = .returned v' ∧ w'.ownsRow base 3 1 v' (n + 1) (xs.take i ++ x :: xs.drop i) ∧ w.grownBy w' v.ownBlock ∧ ∀ g, v'.ownBlock = some g → v.ownBlock = some g ∨ w.heap.size ≤ g
set_option maxHeartbeats 4000000 in
set_option maxRecDepth 100000 in
theorem insI_end (hx : Box w vb #[x] 3) (hown : w.ownsRow base 3 1 v n xs) (hn : n ≤ 100000) (hone : x.oneCell' = true) (hb : base ≤ w.heap.size) :
    Calls Tryd.prog 44 #[v, eI (n : Int), .slice (some ⟨vb, 0, none⟩) 1 1] w (InsI w base n n v x xs) := by
  obtain ⟨i0, z, b, hi, hz0, hz1, hz2, hz3, hz4⟩ := (rowI).info
  have hbytes : (n + 1) * b ≤ 140737488355328 := Nat.le_trans (Nat.mul_le_mul (show n + 1 ≤ 1000000 by omega) hz4) (by decide)
  have hxl : xs.length = n := by have := hown.1; omega
  have hpost : ∀ v' w', (w'.ownsRow base 3 1 v' (n + 1) (xs ++ [x]) ∧ w.grownBy w' v.ownBlock ∧ ∀ g, v'.ownBlock = some g → v.ownBlock = some g ∨ w.heap.size ≤ g) → InsI w base n n v x xs (.returned v') w' := fun v' w' ⟨h1, h2, h3⟩ =>
    ⟨v', rfl, by rw [List.take_of_length_le (by omega), List.drop_eq_nil_of_le (by omega)]; exact h1, h2, h3⟩
  obtain ⟨v', w', hr, k2, k3, k4, k5⟩ := run_append_own_at (P := Tryd.prog) (w := w) base 48 48 3 i0 z 1 b Tryd.underlying48 hi hz0 hz1 hz2 hz3 (by decide) v n xs hown ⟨vb, 0, none⟩ 1 1 [x] rfl
    (fun j u hu => by
      rw [add_plain, Nat.zero_add, hx.cell j]
      cases j with
      | zero => simpa using hu
      | succ j => simp at hu) (by simpa using hone) (by unfold maxLen; omega) hbytes hb
  replace hpost := hpost v' w' ⟨k2, k3, fun g e => by
    rcases k5 with k5 | k5
    · exact .inl (by rw [← k5]; exact e)
    · rw [k5] at e; cases e; exact .inr (Nat.le_refl _)⟩
  obtain ⟨a, cap, rfl, hk, hm⟩ := own_len hown
  have hm' : cap ≤ 9223372036854775807 := by unfold maxLen at hm; omega
  clear hown hx k2 k3 k4 k5
  by_cases hc : cap = n
  · subst hc
    go_enter Tryd.func44, Tryd.ntmps44
    go_wp2_with (at_builtin; refine Lib.wpList_append_run _ rfl _ _ 48 48 rfl _ _ rfl rfl _ _ hr ?_)
    go_ret
    exact hpost
  · go_enter Tryd.func44, Tryd.ntmps44
    go_wp2_with (at_builtin; refine Lib.wpList_append_run _ rfl _ _ 48 48 rfl _ _ rfl rfl _ _ hr ?_)
    go_ret
    exact hpost
set_option maxHeartbeats 4000000 in
set_option maxRecDepth 100000 in
theorem insI_room (hx : Box w vb #[x] 3) (g cap : Nat) (cur : Array Value) (hg : Box w g cur 3) (hgb : base ≤ g) (hcap : cap ≤ maxLen) (hcs : cur.size = cap) (hcur : cur.toList.take n = xs) (hxl : xs.length = n) (hne : vb ≠ g) (hi : i < n) (hroom : n + 1 ≤ cap) (hone : ∀ u ∈ xs, u.oneCell' = true) (hone' : x.oneCell' = true) :
    Calls Tryd.prog 44 #[.slice (some ⟨g, 0, none⟩) n cap, eI (i : Int), .slice (some ⟨vb, 0, none⟩) 1 1] w (InsI w base n i (.slice (some ⟨g, 0, none⟩) n cap) x xs) := by
  have hm' : cap ≤ 9223372036854775807 := by unfold maxLen at hcap; omega
  have hov : ∀ lb cb, (callFunc 52 #[.slice (some ⟨vb, 0, none⟩) 1 1, .slice (some ⟨g, i + 1, none⟩) lb cb]).run Tryd.prog w = .ok (.value (.bool false)) w := fun lb cb => by
    rw [run_callFunc_extern Tryd.func52 (by kernel_rfl) (by kernel_rfl) (by kernel_rfl) (e := Extern.SlicesOverlaps.overlaps #[48, 48] #[4]) (by kernel_rfl),
      Lib.run_overlaps_apart w 48 4 3 Tryd.underlying48 1 (fun W => by obtain ⟨i0, z, b, hi, hz0, hz1, _⟩ := (rowI).info; simp [sizeOf, typeInfo, hi, hz1]) ⟨vb, 0, none⟩ ⟨g, i + 1, none⟩ 1 1 lb cb hne 3 3 1 cap (by show w.shape? vb = _; unfold World.shape?; rw [show w.heap[vb]? = _ from hx]; rfl) (by show w.shape? g = _; unfold World.shape?; rw [show w.heap[g]? = _ from hg]; rw [← hcs]) (by omega) (hx.thaw 0) (hx.thaw 1)]
    rfl
  have hDl : cur.toList.length = cap := by simpa using hcs
  have hg0 : Box w g cur.toList.toArray 3 := by simpa using hg
  have hsrc : ∀ j u, (xs.drop i)[j]? = some u → w.cell? ((⟨g, i, none⟩ : Addr).add j) = some u := fun j u hu => by
    rw [add_plain, hg.cell]
    rw [← hcur, List.getElem?_drop, List.getElem?_take] at hu
    split at hu
    · simpa using hu
    · cases hu
  obtain ⟨W1, hW1⟩ : ∃ W1 : World → World → Prop, W1 = fun a b => Box b g (overV cur.toList (i + 1) (xs.drop i)).toArray 3 ∧ a.grownBy b (some g) := ⟨_, rfl⟩
  have hin : i ≤ n := by omega
  have hz1 : ¬ ((1 : Int) = 0) := by omega
  have hz2 : ¬ ((i : Int) = (n : Int)) := by omega
  have hz3 : ¬ ((cap : Int) < (n : Int) + 1) := by omega
  have hw1 : IntKind.i64.wrap ((i : Int) + 1) = (i : Int) + 1 := i64_id (by omega)
  have hw2 : IntKind.i64.wrap ((n : Int) + 1) = (n : Int) + 1 := i64_id (by omega)
  have hb1 : (0 : Int) ≤ (i : Int) + 1 := by omega
  have htn : ((i : Int) + 1).toNat = i + 1 := by omega
  have htn2 : ((n : Int) + 1).toNat = n + 1 := by omega
  have hb2 : ¬ (cap = i + 1) := by omega
  have hb3 : (i : Int) ≤ (n : Int) + 1 := by omega
  have hb4 : ¬ (cap = i) := by omega
  have hb5 : (i : Int) + 1 ≤ (n : Int) + 1 := by omega
  have hb6 : (n : Int) + 1 ≤ (cap : Int) := by omega
  have hb7 : (0 : Int) ≤ (n : Int) + 1 := by omega
  have hxs := Lib.hid hone
  have hpost : ∀ w2 w3, (Box w2 g (overV cur.toList (i + 1) (xs.drop i)).toArray 3 ∧ w.drew.grownBy w2 (some g)) → (Box w3 g (overV (overV cur.toList (i + 1) (xs.drop i)) i [x]).toArray 3 ∧ w2.grownBy w3 (some g)) → InsI w base n i (.slice (some ⟨g, 0, none⟩) n cap) x xs (.returned (.slice (some ⟨g, 0, none⟩) (n + 1) cap)) w3 := fun w2 w3 ⟨h1, h2⟩ ⟨h3, h4⟩ => by
    have e := over_ins (D := cur.toList) (x := x) hxl hcur hin (by omega)
    refine ⟨_, rfl, ⟨by simp; omega, .inr ⟨g, cap, _, rfl, hgb, h3, hroom, hcap, ?_, by simpa using e⟩⟩, ?_, fun g' e => .inl e⟩
    · rw [List.size_toArray, overV_length _ _ _ (by rw [overV_length _ _ _ (by rw [List.length_drop]; omega)]; simp; omega), overV_length _ _ _ (by rw [List.length_drop]; omega), hDl, Nat.mul_one]
    · exact World.grownBy.trans (⟨h2.os, h2.tape, h2.output, h2.size, h2.block⟩ : w.grownBy w2 (some g)) h4
  have hpo := Lib.hid hpost
  have hl1 : (overV cur.toList (i + 1) (xs.drop i)).length = cap := by rw [overV_length _ _ _ (by rw [List.length_drop]; omega), hDl]
  have hL1 := Lib.hid hl1
  have hxB : ∀ w2, w.drew.grownBy w2 (some g) → Box w2 vb #[x] 3 := fun w2 h => (hx.drew).grown h (fun e => hne (by cases e; rfl))
  have hxb := Lib.hid hxB
  have hsr := Lib.hid hsrc
  have hcu := Lib.hid hcur
  clear hone hpost hl1 hxB hsrc hcur hW1
  go_enter Tryd.func44, Tryd.ntmps44
  go_wp2_with (simp only [hov])
  go_region_law (first
    | (refine step_copy1 rowI rfl _ _ rfl g (i + 1) (n + 1 - (i + 1)) (cap - (i + 1)) (some ⟨g, i + 1, none⟩) (some ⟨g, i, none⟩) (n + 1 - i) (cap - i) (by simp [Act.eval, Act.put]) (by simp [Act.eval, Act.put]) cur.toList (xs.drop i) (n - i) (by rw [List.length_drop, hxl]) (by simp only [Nat.min_def]; split <;> omega) (fun u hu => hxs.out u (List.mem_of_mem_drop hu)) hg0.drew (fun _ => ⟨rfl, _, rfl, hsr.out⟩) (by omega) ?_; intro w2 hB2 hg2))
  have hX2 := hxb.out _ hg2
  go_wp2_with ((refine wpList_copy1 rowI rfl _ _ rfl g i (n + 1 - i) (cap - i) (some ⟨g, i, none⟩) (some ⟨vb, 0, none⟩) 1 1 rfl rfl (overV cur.toList (i + 1) (xs.drop i)) [x] 1 rfl (by simp only [Nat.min_def]; split <;> omega) (by simpa using hone') hB2 (fun _ => ⟨rfl, _, rfl, fun j u hu => by rw [add_plain, Nat.zero_add, hX2.cell j]; simpa using hu⟩) (by rw [hL1.out]; omega) ?_); intro w3 hB3 hg3)
  go_ret
  exact hpo.out _ _ ⟨hB2, hg2⟩ ⟨hB3, hg3⟩
theorem over_growI {D xs : List Value} {n i : Nat} {x : Value} (hx : xs.length = n) (h : D.take i = xs.take i) (hi : i ≤ n) (hn : n + 1 ≤ D.length) : (overV (overV D i [x]) (i + 1) (xs.drop i)).take (n + 1) = xs.take i ++ x :: xs.drop i := by
  have l1 : (D.take i).length = i := by rw [List.length_take]; omega
  have h1 : (overV D i [x]).take (i + 1) = xs.take i ++ [x] := by
    unfold overV
    rw [← List.append_assoc, List.take_append_of_le_length (by simp; omega), List.take_of_length_le (by simp; omega), h]
  show ((overV D i [x]).take (i + 1) ++ (xs.drop i ++ (overV D i [x]).drop (i + 1 + (xs.drop i).length))).take (n + 1) = _
  rw [h1, ← List.append_assoc, List.take_append_of_le_length (by simp; omega), List.take_of_length_le (by simp; omega)]
  simp
set_option maxHeartbeats 4000000 in
set_option maxRecDepth 100000 in
theorem insI_grow (hx : Box w vb #[x] 3) (g cap : Nat) (cur : Array Value) (hg : Box w g cur 3) (hbase : base ≤ w.heap.size) (hcap : cap ≤ maxLen) (hcs : cur.size = cap) (hcur : cur.toList.take n = xs) (hxl : xs.length = n) (hi : i < n) (hnc : n ≤ cap) (hroom : cap < n + 1) (hn : n ≤ 100000) (hone : ∀ u ∈ xs, u.oneCell' = true) (hone' : x.oneCell' = true) :
    Calls Tryd.prog 44 #[.slice (some ⟨g, 0, none⟩) n cap, eI (i : Int), .slice (some ⟨vb, 0, none⟩) 1 1] w (InsI w base n i (.slice (some ⟨g, 0, none⟩) n cap) x xs) := by
  obtain ⟨i0, hi0, hz0, hzs, hzb⟩ := info_parts (show (Tryd.prog.info? 3).map (fun i => (i.zero, i.size, i.bytes)) = some (some (.int .i64 0), 1, 8) by kernel_rfl)
  have hm' : cap ≤ 9223372036854775807 := by unfold maxLen at hcap; omega
  have hsrc : ∀ k j u, ((xs.drop k)[j]? = some u) → w.cell? ((⟨g, k, none⟩ : Addr).add j) = some u := fun k j u hu => by
    rw [add_plain, hg.cell]
    rw [← hcur, List.getElem?_drop, List.getElem?_take] at hu
    split at hu
    · simpa using hu
    · cases hu
  have hsr0 : ∀ j u, (xs.take i)[j]? = some u → w.cell? ((⟨g, 0, none⟩ : Addr).add j) = some u := fun j u hu => by
    refine hsrc 0 j u ?_
    rw [List.getElem?_take] at hu
    split at hu
    · simpa using hu
    · cases hu
  have hold : (Builtin.firstCells i0.size i (.slice (some ⟨g, 0, none⟩) i cap)).run Tryd.prog w.drew = .ok (xs.take i).toArray w.drew := by
    rw [hzs]
    exact run_firstCells_some w.drew 1 i ⟨g, 0, none⟩ i cap (xs.take i) (by rw [List.length_take]; omega) hsr0
  have hrz : ∃ (W1 : World) (G : Nat) (D : List Value), (∀ ty, (Builtin.append_ #[48, 3] ty #[.slice (some ⟨g, 0, none⟩) i cap, .int .i64 ((n : Int) + 1 - (i : Int))]).run Tryd.prog w = .ok (.slice (some ⟨w.heap.size, 0, none⟩) (n + 1) G) W1) ∧ Box W1 w.heap.size D.toArray 3 ∧ w.grownBy W1 none ∧ D.take i = xs.take i ∧ D.length = G ∧ n + 1 ≤ G ∧ G ≤ maxLen := by
    have hik : i + (n + 1 - i) = n + 1 := by omega
    have hkk : (n : Int) + 1 - (i : Int) = ((n + 1 - i : Nat) : Int) := by omega
    refine ⟨w.drew.alloc (.cells (((xs.take i).toArray ++ Builtin.zeroCells (.int .i64 0 : Value).cells (n + 1 - i) ++ Builtin.zeroCells (.int .i64 0 : Value).cells (grownCap w (n + 1) cap 3 - (n + 1))).toList.toArray) 3), grownCap w (n + 1) cap 3, _, fun ty => ?_, Box.new w.drew 3 _, ⟨rfl, rfl, rfl, by simp, fun k hk _ => Below.heap_alloc w.drew _ k hk⟩, ?_, ?_, grownCap_ge w _ _ _, grownCap_le_maxLen w (n + 1) cap 3 (by unfold maxLen; omega)⟩
    · have h := Lib.run_append_grow_zeros w 48 3 ty 3 i0 _ .i64 .i64 Tryd.underlying48 Tryd.underlying3 hi0 hz0 (some ⟨g, 0, none⟩) i cap (xs.take i) hold (n + 1 - i) (by omega) (by omega) (by omega) (by omega) (by rw [hzb]; omega) (by rw [hzb, hik]; exact growslice_fits hroom (by omega))
      rw [hik] at h
      rw [hkk, Array.toArray_toList]
      exact h
    · simp
      rw [List.take_append_of_le_length (by rw [List.length_take]; omega), List.take_take, Nat.min_self]
    · have := grownCap_ge w (n + 1) cap 3
      simp [Builtin.zeroCells, Value.cells]
      omega
  obtain ⟨W1, G, D, hr, hD, hgr, hDt, hDl, hG1, hG2⟩ := hrz
  have hG3 : G ≤ 9223372036854775807 := by unfold maxLen at hG2; omega
  have hvlt := hx.lt
  have hglt := hg.lt
  have hX1 : Box W1 vb #[x] 3 := hx.grown hgr (by simp)
  have hg1 : Box W1 g cur 3 := hg.grown hgr (by simp)
  have hl1 : (overV D i [x]).length = G := by rw [overV_length _ _ _ (by simp; omega), hDl]
  have hin : i ≤ n := by omega
  have hz1 : ¬ ((1 : Int) = 0) := by omega
  have hz2 : ¬ ((i : Int) = (n : Int)) := by omega
  have hz3 : (cap : Int) < (n : Int) + 1 := by omega
  have hw1 : IntKind.i64.wrap ((i : Int) + 1) = (i : Int) + 1 := i64_id (by omega)
  have hw2 : IntKind.i64.wrap ((n : Int) + 1) = (n : Int) + 1 := i64_id (by omega)
  have hw3 : IntKind.i64.wrap ((n : Int) + 1 - (i : Int)) = (n : Int) + 1 - (i : Int) := i64_id (by omega)
  have hb1 : (0 : Int) ≤ (i : Int) + 1 := by omega
  have htn : ((i : Int) + 1).toNat = i + 1 := by omega
  have hb2 : ¬ (G = i + 1) := by omega
  have hb3 : (i : Int) ≤ (n : Int) + 1 := by omega
  have hb4 : ¬ (cap = i) := by omega
  have hb5 : (i : Int) + 1 ≤ (n : Int) + 1 := by omega
  have hb6 : ¬ (G = i) := by omega
  have hpost : ∀ w2 w3, (Box w2 w.heap.size (overV D i [x]).toArray 3 ∧ W1.grownBy w2 (some w.heap.size)) → (Box w3 w.heap.size (overV (overV D i [x]) (i + 1) (xs.drop i)).toArray 3 ∧ w2.drew.grownBy w3 (some w.heap.size)) → InsI w base n i (.slice (some ⟨g, 0, none⟩) n cap) x xs (.returned (.slice (some ⟨w.heap.size, 0, none⟩) (n + 1) G)) w3 := fun w2 w3 ⟨h1, h2⟩ ⟨h3, h4⟩ => by
    have e := over_growI (D := D) (x := x) hxl hDt hin (by omega)
    refine ⟨_, rfl, ⟨by simp; omega, .inr ⟨w.heap.size, G, _, rfl, hbase, h3, hG1, hG2, ?_, by simpa using e⟩⟩, ?_, fun g' e => .inr (by cases e; exact Nat.le_refl _)⟩
    · rw [List.size_toArray, overV_length _ _ _ (by rw [hl1, List.length_drop]; omega), hl1, Nat.mul_one]
    · refine ⟨h4.os.trans (h2.os.trans hgr.os), h4.tape.trans (h2.tape.trans hgr.tape), h4.output.trans (h2.output.trans hgr.output), Nat.le_trans hgr.size (Nat.le_trans h2.size h4.size), fun k hk hne => ?_⟩
      have hk1 : k < W1.heap.size := Nat.lt_of_lt_of_le hk hgr.size
      rw [h4.block k (Nat.lt_of_lt_of_le hk1 h2.size) (fun e => by cases e; omega)]
      show w2.heap[k]? = _
      rw [h2.block k hk1 (fun e => by cases e; omega), hgr.block k hk (by simp)]
  have hpo := Lib.hid hpost
  have hL1 := Lib.hid hl1
  have hxs := Lib.hid hone
  have hsr : ∀ w2, Box w2 g cur 3 → ∀ j u, (xs.drop i)[j]? = some u → w2.cell? ((⟨g, i, none⟩ : Addr).add j) = some u := fun w2 h2 j u hu => by
    have h := hsrc i j u hu
    rw [add_plain, hg.cell] at h
    rw [add_plain, h2.cell]; exact h
  have hsrh := Lib.hid hsr
  have hg2 : ∀ w2, W1.grownBy w2 (some w.heap.size) → Box w2 g cur 3 := fun w2 h => hg1.grown h (fun e => by cases e; omega)
  have hgh := Lib.hid hg2
  have hDl' := Lib.hid hDl
  clear hpost hl1 hone hsrc hsr0 hold hsr hg2 hcur hDt hDl
  go_enter Tryd.func44, Tryd.ntmps44
  go_wp2_with (first
    | (at_builtin; refine Lib.wpList_append_run _ rfl _ _ 48 3 rfl _ _ rfl rfl _ _ (hr _) ?_)
    | (refine wpList_copy1 rowI rfl _ _ rfl w.heap.size i (n + 1 - i) (G - i) (some ⟨w.heap.size, i, none⟩) (some ⟨vb, 0, none⟩) 1 1 rfl rfl D [x] 1 rfl (by simp only [Nat.min_def]; split <;> omega) (by simpa using hone') hD (fun _ => ⟨rfl, _, rfl, fun j u hu => by rw [add_plain, Nat.zero_add, hX1.cell j]; simpa using hu⟩) (by rw [hDl'.out]; omega) ?_; intro w2 hB2 hg2))
  go_region_law (first
    | (refine step_copy1 rowI rfl _ _ rfl w.heap.size (i + 1) (n + 1 - (i + 1)) (G - (i + 1)) (some ⟨w.heap.size, i + 1, none⟩) (some ⟨g, i, none⟩) (n - i) (cap - i) (by simp [Act.eval, Act.put]) (by simp [Act.eval, Act.put]) (overV D i [x]) (xs.drop i) (n - i) (by rw [List.length_drop, hxl]) (by simp only [Nat.min_def]; split <;> omega) (fun u hu => hxs.out u (List.mem_of_mem_drop hu)) hB2.drew (fun _ => ⟨rfl, _, rfl, hsrh.out _ (hgh.out _ hg2).drew⟩) (by rw [hL1.out]; omega) ?_; intro w3 hB3 hg3))
  go_wp2
  go_ret
  exact hpo.out _ _ ⟨hB2, hg2⟩ ⟨hB3, hg3⟩
/-- One value put between, at a place of the row. -/
theorem insI_any (hx : Box w vb #[x] 3) (hown : w.ownsRow base 3 1 v n xs) (hv : v.ownBlock ≠ some vb) (hi : i ≤ n) (hn : n ≤ 100000) (hone : ∀ u ∈ xs, u.oneCell' = true) (hone' : x.oneCell' = true) (hb : base ≤ w.heap.size) :
    Calls Tryd.prog 44 #[v, eI (i : Int), .slice (some ⟨vb, 0, none⟩) 1 1] w (InsI w base n i v x xs) := by
  by_cases hin : i = n
  · subst hin
    exact insI_end hx hown hn hone' hb
  · have hxl : xs.length = n := by have := hown.1; omega
    rcases hown.2 with ⟨rfl, h0⟩ | ⟨g, cap, cur, rfl, h1, h2, h3, h4, h5, h6⟩
    · omega
    · rw [Nat.mul_one] at h5 h6
      by_cases hr : n + 1 ≤ cap
      · exact insI_room hx g cap cur h2 h1 h4 h5 h6 hxl (fun e => hv (by rw [e]; rfl)) (by omega) hr hone hone'
      · exact insI_grow hx g cap cur h2 hb h4 h5 h6 hxl (by omega) h3 (by omega) hn hone hone'
end
end Go.Proofs.YtenghpgnhmglpaaDoor
