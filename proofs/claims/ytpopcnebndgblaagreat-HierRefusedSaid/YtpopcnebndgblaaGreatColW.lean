/- What an iterator gives, collected into a slice of the call's own, and sorted, by what the sort is said to do. No condition but how much comes. -/
import Derived.Test.YtpopcnebndgblaaGreatKeyW
import Derived.Sort.Grow
namespace Go.Proofs.YtpopcnebndgblaaGreat
open Go.RowKit Go.Shelf Go.Maps Go.Sort W
set_option linter.unusedVariables false
attribute [local go_sem] Oper.semAt_some
abbrev keySeq (n g : Nat) (lb : Array Value) (S Sp : List Int → Prop) (N : Nat) (w : World) : Prop := SeqStopsK Fence.wide n Tryz.prog g lb (fun x : Int => #[eU x]) KeepsWalks S Sp N w
theorem keySeq.later {n g : Nat} {lb : Array Value} {S Sp : List Int → Prop} {N : Nat} {w w' : World} (h : keySeq n g lb S Sp N w) (hb : Below w.heap.size w w') : keySeq n g lb S Sp N w' :=
  fun l J Jx W hW hJ hJx hY h0 => h l J Jx W (hb.trans (hW.mono hb.size)) hJ hJx hY h0
set_option maxRecDepth 100000 in
set_option maxHeartbeats 2000000 in
theorem appendSeq_go (n g : Nat) (hn : 3 ≤ n) (lb : Array Value) (eg : ∀ args w, (callFunc g args).run Tryz.prog w = .ok (.enter g args) w) (S Sp : List Int → Prop) (N : Nat) (hN : N ≤ 1000) (w : World) (hseq : keySeq (n - 1) g lb S Sp N w) :
    CallsIn Fence.wide n Tryz.prog 123 #[.slice none 0 0, .func (.func g) #[] lb] w fun e W' => ∃ v ss, e = .returned v ∧ S ss ∧ W'.ownsRow w.heap.size 30 1 v ss.length (ss.map eU) ∧ (v = .slice none 0 0 ↔ ss = []) ∧ Below w.heap.size w W' := by
  have h1 : 1 ≤ n := by omega
  obtain ⟨i0, hi, hz0, hz1, hz2⟩ := info_parts infoU
  refine callsIn_of_wp_marks Tryz.func123 rfl trivial ?_ rfl
  simp only [Tryz.ntmps123, List.size_toArray, List.length_cons, List.length_nil, Nat.reduceAdd, Nat.reduceSub, Array.replicate_succ, Array.replicate_zero, List.push_toArray, List.append_toArray, List.nil_append, List.cons_append]
  gi_wp2
  have bO := Boxed.new w 86 (.slice none 0 0)
  have hB0 : Below w.heap.size w (w.alloc (.cells #[.slice none 0 0] 86)) := (Below.refl _ w).alloc (Nat.le_refl _) _
  refine wpIn_rangeFunc_ownG rfl h1 (gf := g) (lb := lb) rfl trivial eg (hseq.later hB0) walksK_t walksK_b (Below.refl _ _) (fun _ => rfl)
    (fun pre W => (∃ v, Boxed W w.heap.size 86 v ∧ W.ownsRow w.heap.size 30 1 v pre.length (pre.map eU) ∧ (v = .slice none 0 0 ↔ pre = [])) ∧ Below w.heap.size w W)
    (fun _ _ _ => False)
    (OwnFrom.and (Go.Own.from (holdsRow_own w.heap.size w.heap.size 86 30 1 (fun pre => pre.length) (fun pre => pre.map eU) (fun pre v => v = .slice none 0 0 ↔ pre = [])) _) (ownFrom_below (Nat.le_refl _) (by simp)))
    (fun _ _ _ _ _ hs _ _ => hs)
    ⟨⟨_, bO, World.ownsRow_nil _ _ _ _, by simp⟩, hB0⟩
    (fun x => { tmps := #[.slice none 0 0, .func (.func g) #[] lb, .pointer (some ⟨w.heap.size, 0, none⟩), undef, .slice none 0 0, eU x, .func (.func g) #[] lb, eU x, undef, undef, undef, undef, undef], defers := [] }) ?assign ?body ?done ?stop
  case assign =>
    intro l x W K hK
    gi_wp2
    exact hK
  case body =>
    rintro l pre x W ⟨⟨v, hv, hrow, hnil⟩, hB⟩ hlt
    have hc := hv.cell
    have hf := hv.frozen
    have hmx : ∀ k, k ≤ 1001 → k ≤ maxLen := fun k hk => Nat.le_trans hk (by decide)
    gi_wp2_with (gi_at_builtin; refine wpListIn_append_own _ rfl _ _ 86 rfl w.heap.size 30 i0 (.int .u64 0) 1 8 Tryz.underlying86 hi hz0 hz1 hz2 rfl (by decide) _ _ _ rfl (hrow.alloc _) ⟨W.heap.size, 0, none⟩ 1 1 [eU x] rfl rfl (cell_one_new _ _ _) (by simp [Value.oneCell']) (hmx _ (by omega)) (by omega) (by have := hB.size; simp; omega) ?_; intro v' w1 hown' hgrow _; obtain ⟨g', cap', rfl⟩ := ownsRow_succ hown'; obtain ⟨hv1, hv2, hr2, hk2, hb2⟩ := hv.appended (by decide) hrow hB.size (Nat.le_refl _) hown' hgrow; have hc1 := hv1.cell; have hf1 := hv1.frozen)
    exact ⟨hk2.from _, hk2.walks, ⟨_, hv2, by simpa using hr2, by simp⟩, hB.trans hb2⟩
  case done =>
    rintro D ys W hD hS' ⟨⟨v, hv, hrow, hnil⟩, hB⟩ hK
    have hc := hv.cell
    gi_wp2
    refine ⟨by simp, .inl ⟨_, _, rfl, run_takeDeferred hK, ?_⟩⟩
    exact ⟨_, results_tmp rfl _ _ _, v, ys, rfl, hS', ownsRow_putObj hrow _ hK rfl, hnil, hB.trans (belowK_b (w := w) (Nat.le_refl _) W D _ _ (by simp at hD; omega) hK rfl rfl)⟩
  case stop =>
    rintro D c pre W _ _ h _
    exact h.elim
set_option maxHeartbeats 1000000 in
theorem collect_go (n g : Nat) (hn : 4 ≤ n) (lb : Array Value) (eg : ∀ args w, (callFunc g args).run Tryz.prog w = .ok (.enter g args) w) (S Sp : List Int → Prop) (N : Nat) (hN : N ≤ 1000) (w : World) (hseq : keySeq (n - 1 - 1) g lb S Sp N w) :
    CallsIn Fence.wide n Tryz.prog 113 #[.func (.func g) #[] lb] w fun e W' => ∃ v ss, e = .returned v ∧ S ss ∧ W'.ownsRow w.heap.size 30 1 v ss.length (ss.map eU) ∧ (v = .slice none 0 0 ↔ ss = []) ∧ Below w.heap.size w W' := by
  refine callsIn_of_wp Tryz.func113 rfl trivial ?_ rfl
  simp only [Tryz.ntmps113, List.size_toArray, List.length_cons, List.length_nil, Nat.reduceAdd, Nat.reduceSub, Array.replicate_succ, Array.replicate_zero, List.push_toArray, List.append_toArray, List.nil_append, List.cons_append]
  have h1 : 1 ≤ n := by omega
  have cA := appendSeq_go (n - 1) g (by omega) lb eg S Sp N hN w hseq
  gi_wp2_with (refine ⟨trivial, ?_⟩; gi_at_call 123; refine cA.mono ?_; rintro e w' ⟨v, ss, rfl, hS, hrow, hnil, hb⟩)
  go_ret
  exact ⟨v, ss, rfl, hS, hrow, hnil, hb⟩
/-- What the sort is said to do, up to so many. -/
def SortU (m : Nat) : Prop :=
  (∀ (blk cap : Nat) (ss : List Int) (W : World), Holds eU W blk 0 ss.toArray → blk < W.heap.size → (∀ x ∈ ss, Word x) → ss.length ≤ m →
    Calls Tryz.prog 114 #[.slice (some ⟨blk, 0, none⟩) ss.length cap] W fun e w' => e = .returned (.tuple #[]) ∧ ∃ (ts : List Int) (k : Nat) (os : Array Obj), ts.Perm ss ∧ ts.Pairwise (· ≤ ·) ∧ w' = grow (putRow eU (Sort.ahead W k) blk 0 ts.toArray) os) ∧
  (∀ (W : World), Calls Tryz.prog 114 #[.slice none 0 0] W fun e w' => e = .returned (.tuple #[]) ∧ Below W.heap.size W w')
theorem holds_owned {w : World} {base g cap : Nat} {ss : List Int} (h : w.ownsRow base 30 1 (.slice (some ⟨g, 0, none⟩) ss.length cap) ss.length (ss.map eU)) (hne : ss ≠ []) : Holds eU w g 0 ss.toArray := by
  intro j hj
  have hj' : j < ss.length := by simpa using hj
  have a1 := owns_cell h hj'
  rw [Nat.zero_add]
  rcases h.2 with ⟨h', _⟩ | ⟨g', cap', cur, e, hbase, hg, h1, h2, h3, h4⟩
  · cases h'
  · cases e
    exact ⟨by simpa [hj'] using a1, by simp [World.frozen?, hg]⟩
theorem sorted_heap {w : World} {g n : Nat} {os : Array Obj} {cur : Array Value} {e : TypeId} {fr : Nat × Nat} (d : Array Int) (hb : w.heap[g]? = some (.cells cur e fr)) :
    (grow (putRow eU (Sort.ahead w n) g 0 d) os).heap[g]? = some (.cells (putCells eU 0 d cur) e fr) := by
  have hg : g < w.heap.size := (Array.getElem?_eq_some_iff.1 hb).1
  rw [heap_grow_old _ _ (by simpa using hg)]
  simp [putRow, mapBlock, Sort.ahead, Array.getElem?_modify, hb, onCells]
theorem sorted_grown {w : World} {g n : Nat} {os : Array Obj} (d : Array Int) : w.grownBy (grow (putRow eU (Sort.ahead w n) g 0 d) os) (some g) := by
  refine ⟨rfl, rfl, rfl, by simp, fun k hk hne => ?_⟩
  rw [heap_grow_old _ _ (by simpa using hk)]
  have : g ≠ k := fun e => hne (by rw [e])
  simp [putRow, mapBlock, Sort.ahead, Array.getElem?_modify, this]
theorem taken_cells (cur : Array Value) (ts : List Int) (h : ts.length ≤ cur.size) : (putCells eU 0 ts.toArray cur).toList.take ts.length = ts.map eU := by
  apply List.ext_getElem?
  intro j
  by_cases hj : j < ts.length
  · rw [List.getElem?_take_of_lt hj, Array.getElem?_toList]
    simp [putCells, hj, show j < cur.size by omega]
  · rw [List.getElem?_take_eq_none (by omega), List.getElem?_eq_none (by simp; omega)]
theorem sorted_owns {w : World} {base g cap n : Nat} {os : Array Obj} {ss ts : List Int} (h : w.ownsRow base 30 1 (.slice (some ⟨g, 0, none⟩) ss.length cap) ss.length (ss.map eU)) (hl : ts.length = ss.length) :
    (grow (putRow eU (Sort.ahead w n) g 0 ts.toArray) os).ownsRow base 30 1 (.slice (some ⟨g, 0, none⟩) ss.length cap) ts.length (ts.map eU) := by
  rcases h.2 with ⟨h', _⟩ | ⟨g', cap', cur, e, hbase, hg, h1, h2, h3, h4⟩
  · cases h'
  · cases e
    exact ⟨by simp, .inr ⟨g, cap, _, by rw [hl], hbase, sorted_heap _ hg, by omega, h2, by simp [putCells, h3], by rw [Nat.mul_one]; exact taken_cells cur ts (by omega)⟩⟩
set_option maxHeartbeats 2000000 in
theorem sorted_go (m : Nat) (hsort : SortU m) (n g : Nat) (hn : 5 ≤ n) (lb : Array Value) (eg : ∀ args w, (callFunc g args).run Tryz.prog w = .ok (.enter g args) w) (S Sp : List Int → Prop) (N : Nat) (hN : N ≤ 1000) (w : World) (hseq : keySeq (n - 1 - 1 - 1) g lb S Sp N w)
    (hm : ∀ ss, S ss → ss.length ≤ m ∧ ∀ x ∈ ss, Word x) :
    CallsIn Fence.wide n Tryz.prog 105 #[.func (.func g) #[] lb] w fun e W' => ∃ v ss ts, e = .returned v ∧ S ss ∧ List.Perm ts ss ∧ ts.Pairwise (· ≤ ·) ∧ W'.ownsRow w.heap.size 30 1 v ts.length (ts.map eU) ∧ Below w.heap.size w W' := by
  refine callsIn_of_wp Tryz.func105 rfl trivial ?_ rfl
  simp only [Tryz.ntmps105, List.size_toArray, List.length_cons, List.length_nil, Nat.reduceAdd, Nat.reduceSub, Array.replicate_succ, Array.replicate_zero, List.push_toArray, List.append_toArray, List.nil_append, List.cons_append]
  have h1 : 1 ≤ n := by omega
  have cC := collect_go (n - 1) g (by omega) lb eg S Sp N hN w hseq
  gi_wp2_with (refine ⟨trivial, ?_⟩; gi_at_call 113; refine cC.mono ?_; rintro e W ⟨v, ss, rfl, hS, hrow, hnil, hb⟩)
  obtain ⟨hlm, hwd⟩ := hm ss hS
  by_cases hss : ss = []
  · subst hss
    obtain rfl := hnil.2 rfl
    have cS := hsort.2 W
    gi_wp2_with (refine ⟨trivial, ?_⟩; gi_at_call 114; refine (callsIn_wide.2 cS).mono ?_; rintro e w' ⟨rfl, hb2⟩)
    go_ret
    exact ⟨_, [], [], rfl, hS, List.Perm.refl _, List.Pairwise.nil, owns_below hrow hb2, hb.trans (hb2.mono hb.size)⟩
  · have h0 : 0 < ss.length := List.length_pos_iff.2 hss
    obtain ⟨gb, cap, rfl, hcap, hbase, hglt⟩ := owns_some hrow h0
    have cS := hsort.1 gb cap ss W (holds_owned hrow hss) hglt hwd hlm
    gi_wp2_with (refine ⟨trivial, ?_⟩; gi_at_call 114; refine (callsIn_wide.2 cS).mono ?_; rintro e w' ⟨rfl, ts, k, os, hp, hpw, rfl⟩)
    go_ret
    exact ⟨_, ss, ts, rfl, hS, hp, hpw, sorted_owns hrow hp.length_eq, hb.grown (sorted_grown _) hb.size (fun j hj => by cases hj; exact hbase)⟩
end Go.Proofs.YtpopcnebndgblaaGreat
