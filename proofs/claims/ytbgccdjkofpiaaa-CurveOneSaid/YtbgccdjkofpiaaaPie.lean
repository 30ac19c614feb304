/- The pieces of a curve, one behind the other: the contract of the iterator: two pieces, or one where the curve is straight. No condition. -/
import Derived.Test.YtbgccdjkofpiaaaCur
import Derived.Test.YtbgccdjkofpiaaaRnd
namespace Go.Proofs.Ytbgccdjkofpiaaa
open Go.RowKit Go.Shelf W
set_option linter.unusedVariables false
attribute [local go_sem] Oper.semAt_some
/-- Block B lies as it lay. -/
def KeepsAt (B : Nat) (W W' : World) : Prop := W.heap.size ≤ W'.heap.size ∧ W'.heap[B]? = W.heap[B]?
theorem KeepsAt.trans {B : Nat} {X Y Z : World} (h : KeepsAt B X Y) (k : KeepsAt B Y Z) : KeepsAt B X Z := ⟨Nat.le_trans h.1 k.1, k.2.trans h.2⟩
theorem KeepsAt.tri {B : Nat} {W W' : World} {x y z : Int} (h : KeepsAt B W W') (t : Tri W B x y z) : Tri W' B x y z := by
  obtain ⟨a, b, c, d⟩ := t
  exact ⟨Nat.lt_of_lt_of_le a h.1, (World.cell?_of_block (a := ⟨B, 0, none⟩) h.2).trans b, (World.cell?_of_block (a := ⟨B, 1, none⟩) h.2).trans c, (World.cell?_of_block (a := ⟨B, 2, none⟩) h.2).trans d⟩
theorem KeepsAt.putObj {B : Nat} {w : World} (hB : B < w.heap.size) (W : World) (l : Nat) (o o' : Obj) (hl : w.heap.size ≤ l) (h : W.heap[l]? = some o) (_ : o.isCells = false) (_ : o.isWalk = false) : KeepsAt B W (W.putObj l o') :=
  ⟨by simp, World.putObj_heap_other (by omega)⟩
theorem KeepsAt.alloc {B : Nat} (W : World) (hB : B < W.heap.size) (o : Obj) : KeepsAt B W (W.alloc o) := ⟨by simp, Below.heap_alloc W o B hB⟩
theorem KeepsAt.below {B : Nat} {W W' : World} (hB : B < W.heap.size) (h : Below W.heap.size W W') : KeepsAt B W W' := ⟨h.size, h.block B hB⟩
theorem KeepsAt.setCell {B : Nat} (W : World) {b : Nat} (hB : B ≠ b) (v : Value) : KeepsAt B W (W.setCell ⟨b, 0, none⟩ v) := ⟨by simp [World.setCell], Below.heap_setCell _ _ _ B hB⟩
/-- The first piece (false), the second one (true). -/
def pieceV (f l r : Int) : Bool → Value
  | false => .agg #[.int .u64 f, .int .u64 0, .int .u64 l]
  | true => .agg #[.int .u64 r, .int .u64 l, .int .u64 18446744073709551615]
theorem pieces_any (f l r : Int) (w : World) :
    Calls Try.prog 35 #[.agg #[.int .u64 f, .int .u64 l, .int .u64 r]] w fun e w' =>
      e = .returned (.func (.func 50) #[] #[.pointer (some ⟨w.heap.size, 0, none⟩)]) ∧ w' = w.alloc (.cells #[.int .u64 f, .int .u64 l, .int .u64 r] 24) := by
  go_enter Try.func35, Try.ntmps35
  go_wp2
  go_ret
  exact ⟨rfl, rfl⟩
set_option maxRecDepth 100000 in
set_option maxHeartbeats 1000000 in
theorem pieces1_bent (n : Nat) (hn : 1 ≤ n) (l0 Bn : Nat) (f l r : Int) (hl : (l == 0) = false) (J Jx : List Bool → World → Prop)
    (hY : ∀ pre x W, J pre W → pre.length < 2 → YieldAt Fence.wide (n - 1) Try.prog l0 #[pieceV f l r x] W fun e W' =>
      (e = .returned (.bool true) ∧ J (pre ++ [x]) W' ∧ KeepsAt Bn W W') ∨ (e = .returned (.bool false) ∧ Jx (pre ++ [x]) W'))
    (hJ : ∀ pre W W', J pre W → Below W.heap.size W W' → J pre W')
    (W : World) (hB : Tri W Bn f l r) (h0 : J [] W) :
    CallsIn Fence.wide n Try.prog 50 #[.func (.yield l0) #[] #[], .pointer (some ⟨Bn, 0, none⟩)] W fun e W' => (∃ v, e = .returned v) ∧
      ((∃ ys, ys = [false, true] ∧ J ys W') ∨ (∃ pre, (pre = [false] ∨ pre = [false, true]) ∧ Jx pre W')) := by
  have hS := fun w => straight_any f l r w
  rw [hl] at hS
  refine callsIn_of_wp Try.func50 rfl trivial ?_ rfl
  simp only [Try.ntmps50, List.size_toArray, List.length_cons, List.length_nil, Nat.reduceAdd, Nat.reduceSub, Array.replicate_succ, Array.replicate_zero, List.push_toArray, List.append_toArray, List.nil_append, List.cons_append]
  obtain ⟨b1, b2, b3, b4⟩ := hB
  gi_wp2_with (refine ⟨trivial, ?_⟩; gi_at_call 20; (refine (callsIn_wide.2 (hS _)).mono ?_); rintro e w1 ⟨rfl, hb1⟩; have hB1 := Tri.below ⟨b1, b2, b3, b4⟩ hb1; obtain ⟨c1, c2, c3, c4⟩ := id hB1; obtain ⟨fn, tmps, assign, body, hy, hR⟩ := hY [] false w1 (hJ _ _ _ h0 hb1) (by simp); dsimp only [pieceV] at hy)
  refine hR.mono ?_
  rintro e W2 (⟨rfl, hJ2, hk2⟩ | ⟨rfl, hx2⟩)
  · obtain ⟨d1, d2, d3, d4⟩ : Tri W2 Bn f l r := hk2.tri ⟨c1, c2, c3, c4⟩
    obtain ⟨fn2, tmps2, assign2, body2, hy2, hR2⟩ := hY [false] true W2 hJ2 (by simp)
    dsimp only [pieceV] at hy2
    gi_wp2
    refine hR2.mono ?_
    rintro e W3 (⟨rfl, hJ3, _⟩ | ⟨rfl, hx3⟩)
    · gi_wp2
      go_end0
      exact ⟨⟨_, rfl⟩, .inl ⟨_, rfl, hJ3⟩⟩
    · gi_wp2
      go_end0
      exact ⟨⟨_, rfl⟩, .inr ⟨_, .inr rfl, hx3⟩⟩
  · gi_wp2
    refine bodyPost_ret (results_none rfl _ _ _) rfl ?_
    exact ⟨⟨_, rfl⟩, .inr ⟨_, .inl rfl, hx2⟩⟩
set_option maxRecDepth 100000 in
set_option maxHeartbeats 1000000 in
theorem pieces1_straight (n : Nat) (hn : 1 ≤ n) (l0 Bn : Nat) (f l r : Int) (hl : (l == 0) = true) (J Jx : List Bool → World → Prop)
    (hY : ∀ pre x W, J pre W → pre.length < 1 → YieldAt Fence.wide (n - 1) Try.prog l0 #[pieceV f l r x] W fun e W' =>
      (e = .returned (.bool true) ∧ J (pre ++ [x]) W' ∧ KeepsAt Bn W W') ∨ (e = .returned (.bool false) ∧ Jx (pre ++ [x]) W'))
    (hJ : ∀ pre W W', J pre W → Below W.heap.size W W' → J pre W')
    (W : World) (hB : Tri W Bn f l r) (h0 : J [] W) :
    CallsIn Fence.wide n Try.prog 50 #[.func (.yield l0) #[] #[], .pointer (some ⟨Bn, 0, none⟩)] W fun e W' => (∃ v, e = .returned v) ∧
      ((∃ ys, ys = [true] ∧ J ys W') ∨ (∃ pre, pre = [true] ∧ Jx pre W')) := by
  have hS := fun w => straight_any f l r w
  rw [hl] at hS
  refine callsIn_of_wp Try.func50 rfl trivial ?_ rfl
  simp only [Try.ntmps50, List.size_toArray, List.length_cons, List.length_nil, Nat.reduceAdd, Nat.reduceSub, Array.replicate_succ, Array.replicate_zero, List.push_toArray, List.append_toArray, List.nil_append, List.cons_append]
  obtain ⟨b1, b2, b3, b4⟩ := hB
  gi_wp2_with (refine ⟨trivial, ?_⟩; gi_at_call 20; (refine (callsIn_wide.2 (hS _)).mono ?_); rintro e w1 ⟨rfl, hb1⟩; have hB1 := Tri.below ⟨b1, b2, b3, b4⟩ hb1; obtain ⟨c1, c2, c3, c4⟩ := id hB1; obtain ⟨fn, tmps, assign, body, hy, hR⟩ := hY [] true w1 (hJ _ _ _ h0 hb1) (by simp); dsimp only [pieceV] at hy)
  refine ⟨fun _ h => (by cases h), ?_⟩
  gi_wp2
  refine hR.mono ?_
  rintro e W3 (⟨rfl, hJ3, _⟩ | ⟨rfl, hx3⟩)
  · gi_wp2
    go_end0
    exact ⟨⟨_, rfl⟩, .inl ⟨_, rfl, hJ3⟩⟩
  · gi_wp2
    go_end0
    exact ⟨⟨_, rfl⟩, .inr ⟨_, rfl, hx3⟩⟩
/-- The pieces in their order. -/
def ps (l : Int) : List Bool := if l == 0 then [true] else [false, true]
theorem pieces_stops (n : Nat) (hn : 1 ≤ n) (Bn : Nat) (f l r : Int) (w : World) (hB : Tri w Bn f l r) :
    SeqStopsK Fence.wide n Try.prog 50 #[.pointer (some ⟨Bn, 0, none⟩)] (fun x : Bool => #[pieceV f l r x]) (KeepsAt Bn) (fun ys => ys = ps l) (fun pre => pre ≠ [] ∧ pre <+: ps l) (ps l).length w := fun l0 J Jx W hW hJ _ hY h0 => by
  have hJ' : ∀ pre W W', J pre W → Below W.heap.size W W' → J pre W' := fun pre W W' h hb => hJ pre W W' none h ⟨hb.os, hb.tape, hb.output, hb.size, fun k hk _ => hb.block k hk⟩ (fun r e => by cases e)
  have hB' : Tri W Bn f l r := hB.below hW
  by_cases hl : (l == 0) = true
  · have e : ps l = [true] := by unfold ps; rw [if_pos hl]
    rw [e] at hY ⊢
    refine CallsIn.mono (pieces1_straight n hn l0 Bn f l r hl J Jx hY hJ' W hB' h0) ?_
    rintro e w' ⟨h1, h2 | ⟨pre, h2, h3⟩⟩
    · exact ⟨h1, .inl h2⟩
    · exact ⟨h1, .inr ⟨pre, by subst h2; simp, h3⟩⟩
  · have hl' : (l == 0) = false := by simpa using hl
    have e : ps l = [false, true] := by unfold ps; rw [if_neg hl]
    rw [e] at hY ⊢
    refine CallsIn.mono (pieces1_bent n hn l0 Bn f l r hl' J Jx hY hJ' W hB' h0) ?_
    rintro e w' ⟨h1, h2 | ⟨pre, h2, h3⟩⟩
    · exact ⟨h1, .inl h2⟩
    · exact ⟨h1, .inr ⟨pre, by rcases h2 with rfl | rfl <;> simp [List.prefix_iff_eq_take], h3⟩⟩
end Go.Proofs.Ytbgccdjkofpiaaa
