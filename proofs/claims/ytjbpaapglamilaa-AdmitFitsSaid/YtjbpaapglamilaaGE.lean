/- A region that draws its order, in a round of a loop over a function: what holds of it outside a round holds in it, where it defers nothing and does not let out. No condition but those. A block of memory that holds a curve (or a piece): three words; and the plain calls of curve. No condition. The pieces of a curve, one behind the other: the contract of the iterator: two pieces, or one where the curve is straight. No condition. What a piece has in its first ticks; a box of three words. No condition. The steepest slope of a curve, gone over by its pieces. No condition but that words are words. What a curve has at a tick, gone over by its pieces. No condition but that words are words. When a curve reaches an amount, gone over by its pieces. No condition but that words are words. -/
import Derived.Test.YtjbpaapglamilaaGC
import Derived.RangeFuncNested
import Derived.RangeFuncBound
import Derived.RangeFuncCalls
import Derived.RangeFuncLeaves
import Derived.Shelf.Abstract
import Derived.Shelf.RegionOpen
import Derived.WalkKit
import Derived.OwnWalkIn
import Derived.TacticsInMore
import Derived.LoopNIn
import Derived.LoopIn
import Derived.Deep.RegionHeld3
import Derived.WalkSmall
namespace Go.Proofs.Ytjbpaapglamilaa
open Go.RowKit W
set_option linter.unusedVariables false
section
variable {l n : Nat} {P : Program} {ops : Array Oper} {Q : Exit → Act → World → Prop} {md : Region.Mode}
theorem rowsIn_round {row : String} {args : Array Value} {w : World} {R : Value → World → Prop} (h : Rows P row args w R) : RowsIn (Fence.wide.inRound l) n P row args w R :=
  fun c cs _ => let ⟨v, w', r, s⟩ := h c cs; ⟨v, w', r, (fenced_inRound P Fence.wide l) ▸ stepsIn_wide.2 s⟩
theorem opIn_round {o : Oper} {a : Act} {w : World} {K : Act → World → Prop} (hd : ∀ c, o.op ≠ .defer c) (h : o.wp P a w K Q) : o.wpIn (Fence.wide.inRound l) n P a w K Q := by
  refine ⟨fun _ _ => trivial, ?_⟩
  rw [Fence.inRound_round, Oper.semAt_eq _ _ _ hd]
  unfold Oper.wp at h
  generalize (execOp a.eval o).run P w = r at *
  cases r with
  | ok x w' =>
    cases x <;> simp only [Oper.upon, Oper.uponIn] at h ⊢ <;>
      first
        | exact ⟨(fun hs => by cases hs), CallsIn.inRound l (callsIn_wide.2 h)⟩
        | exact ⟨(fun hs => by cases hs), rowsIn_round h⟩
        | exact h
        | exact h.elim
  | halt x w' => cases x <;> simp only [Oper.upon, Oper.uponIn] at h ⊢ <;> exact h
/-- Whatever order is picked outside a round: so in it. -/
theorem any_round (hd : ∀ (i : Nat) (o : Oper) c, ops[i]? = some o → o.op ≠ .defer c) (hL : ¬ LetsOut Q) :
    ∀ (fuel : Nat) (listed : Array Bool) (a : Act) (w : World), wpAny P md ops Q fuel listed a w → wpAnyIn (Fence.wide.inRound l) n P md ops Q fuel listed a w
  | 0, _, _, _, h => h
  | fuel + 1, listed, a, w, h => by
    refine ⟨h.1, fun i hi => ?_⟩
    have h2 := h.2 i hi
    unfold wpOp at h2
    unfold wpOpIn
    cases ho : ops[i]? with
    | none =>
      rw [ho] at h2
      exact any_round hd hL fuel _ a w h2
    | some o =>
      rw [ho] at h2
      dsimp only at h2 ⊢
      by_cases hw : Region.wanted o (yielded ops a.tmps) = true
      · rw [if_pos hw] at h2 ⊢
        rcases h2 with h2 | h2
        · exact Oper.wpIn_mono (fun a w => any_round hd hL fuel _ a w) (opIn_round (hd i o · ho) h2)
        · exact (hL h2.2).elim
      · rw [if_neg hw] at h2 ⊢
        exact ⟨fun _ _ => trivial, any_round hd hL fuel _ _ w h2⟩
/-- No operation of the region defers. -/
def calm (ops : Array Oper) : Bool := ops.all fun o => match o.op with | .defer _ => false | _ => true
theorem calm_spec (h : calm ops = true) : ∀ (i : Nat) (o : Oper) c, ops[i]? = some o → o.op ≠ .defer c := by
  intro i o c hi he
  unfold calm at h
  rw [Array.all_eq_true] at h
  obtain ⟨hlt, hk⟩ := Array.getElem?_eq_some_iff.1 hi
  have := h i hlt
  rw [hk, he] at this
  cases this
/-- THE BEGINNING of a region that draws, in a round: a condition S for the whole region. -/
theorem round_held {S : World → Prop} {id : Nat} {a : Act} {w : World} (hm : P.follows .mixedOrders = true) (hc : calm ops = true) (hL : ¬ LetsOut Q) (hS : S w.drew)
    (h : S w.drew → wpAnyH P .any ops Q S ops.size (Array.replicate ops.size false) a w.drew) : (Code.region id ops true).wpIn (Fence.wide.inRound l) n P Q a w :=
  wpIn_region_any hm (any_round (calm_spec hc) hL _ _ _ _ (wpAny_of_held _ _ _ _ (h hS)))
end
/-- What lies below W's end lies on: so does all else that lay in W. -/
theorem Below.keeps {W W' : World} (h : Below W.heap.size W W') (B : Nat) : KeepsFrom B W W' :=
  ⟨h.size, fun k o _ hk _ => (h.block k (Array.getElem?_eq_some_iff.1 hk).1).trans hk⟩
end Go.Proofs.Ytjbpaapglamilaa
namespace Go.Proofs.Ytjbpaapglamilaa
open Go.RowKit W
set_option linter.unusedVariables false
/-- Block B holds the words x, y and z. -/
def Tri (w : World) (B : Nat) (x y z : Int) : Prop := B < w.heap.size ∧ w.cell? ⟨B, 0, none⟩ = some (.int .u64 x) ∧ w.cell? ⟨B, 1, none⟩ = some (.int .u64 y) ∧ w.cell? ⟨B, 2, none⟩ = some (.int .u64 z)
theorem Tri.new (w : World) (x y z : Int) (t : Nat) : Tri (w.alloc (.cells #[.int .u64 x, .int .u64 y, .int .u64 z] t)) w.heap.size x y z := by
  refine ⟨by simp, ?_, ?_, ?_⟩ <;> simp
theorem Tri.below {W w : World} {B : Nat} {x y z : Int} (h : Tri W B x y z) (hb : Below W.heap.size W w) : Tri w B x y z := by
  obtain ⟨a, b, c, d⟩ := h
  exact ⟨Nat.lt_of_lt_of_le a hb.size, (hb.cell (p := ⟨B, 0, none⟩) a).trans b, (hb.cell (p := ⟨B, 1, none⟩) a).trans c, (hb.cell (p := ⟨B, 2, none⟩) a).trans d⟩
theorem Tri.alloc {w : World} {B : Nat} {x y z : Int} (h : Tri w B x y z) (o : Obj) : Tri (w.alloc o) B x y z := h.below (up1 w o)

theorem straight_any (f l r : Int) (w : World) :
    Calls Try.prog 50 #[.agg #[.int .u64 f, .int .u64 l, .int .u64 r]] w fun e w' => e = .returned (.bool (l == 0)) ∧ Below w.heap.size w w' := by
  go_enter Try.func50, Try.ntmps50
  go_wp2
  go_ret
  exact ⟨rfl, up1 _ _⟩
theorem none_any (f l r : Int) (w : World) :
    Calls Try.prog 34 #[.agg #[.int .u64 f, .int .u64 l, .int .u64 r]] w fun e w' => e = .returned (.bool (decide (f = 0 ∧ l = 0 ∧ r = 0))) ∧ Below w.heap.size w w' := by
  go_enter Try.func34, Try.ntmps34
  go_wp2
  all_goals go_ret
  all_goals exact ⟨by simp [*], up1 _ _⟩
end Go.Proofs.Ytjbpaapglamilaa
namespace Go.Proofs.Ytjbpaapglamilaa
open Go.RowKit Go.Shelf W
set_option linter.unusedVariables false
attribute [local go_sem] Oper.semAt_some
/-- Block B lies as it lay. -/
def KeepsAt (B : Nat) (W W' : World) : Prop := W.heap.size ≤ W'.heap.size ∧ W'.heap[B]? = W.heap[B]?
theorem KeepsAt.trans {B : Nat} {X Y Z : World} (h : KeepsAt B X Y) (k : KeepsAt B Y Z) : KeepsAt B X Z := ⟨Nat.le_trans h.1 k.1, k.2.trans h.2⟩
theorem KeepsAt.tri {B : Nat} {W W' : World} {x y z : Int} (h : KeepsAt B W W') (t : Tri W B x y z) : Tri W' B x y z := by
  obtain ⟨a, b, c, d⟩ := t
  exact ⟨Nat.lt_of_lt_of_le a h.1, (World.cell?_of_block (a := ⟨B, 0, none⟩) h.2).trans b, (World.cell?_of_block (a := ⟨B, 1, none⟩) h.2).trans c, (World.cell?_of_block (a := ⟨B, 2, none⟩) h.2).trans d⟩
theorem KeepsAt.putObj {B : Nat} {w : World} (hB : B < w.heap.size) (W : World) (l : Nat) (o o' : Obj) (hl : w.heap.size ≤ l) (h : W.heap[l]? = some o) (_ : o.isCells = false) (_ : o.isWalk = false) : KeepsAt B W (W.putObj l o') :=
  ⟨by simp, World.putObj_heap_other (by omega)⟩
theorem KeepsAt.alloc {B : Nat} (W : World) (hB : B < W.heap.size) (o : Obj) : KeepsAt B W (W.alloc o) := ⟨by simp, Below.heap_alloc W o B hB⟩
theorem KeepsAt.below {B : Nat} {W W' : World} (hB : B < W.heap.size) (h : Below W.heap.size W W') : KeepsAt B W W' := ⟨h.size, h.block B hB⟩
theorem KeepsAt.setCell {B : Nat} (W : World) {b : Nat} (hB : B ≠ b) (v : Value) : KeepsAt B W (W.setCell ⟨b, 0, none⟩ v) := ⟨by simp [World.setCell], Below.heap_setCell _ _ _ B hB⟩
/-- The first piece (false), the second one (true). -/
def pieceV (f l r : Int) : Bool → Value
  | false => .agg #[.int .u64 f, .int .u64 0, .int .u64 l]
  | true => .agg #[.int .u64 r, .int .u64 l, .int .u64 18446744073709551615]
theorem pieces_any (f l r : Int) (w : World) :
    Calls Try.prog 49 #[.agg #[.int .u64 f, .int .u64 l, .int .u64 r]] w fun e w' =>
      e = .returned (.func (.func 56) #[] #[.pointer (some ⟨w.heap.size, 0, none⟩)]) ∧ w' = w.alloc (.cells #[.int .u64 f, .int .u64 l, .int .u64 r] 25) := by
  go_enter Try.func49, Try.ntmps49
  go_wp2
  go_ret
  exact ⟨rfl, rfl⟩
set_option maxRecDepth 100000 in
set_option maxHeartbeats 1000000 in
theorem pieces1_bent (n : Nat) (hn : 1 ≤ n) (l0 Bn : Nat) (f l r : Int) (hl : (l == 0) = false) (J Jx : List Bool → World → Prop)
    (hY : ∀ pre x W, J pre W → pre.length < 2 → YieldAt Fence.wide (n - 1) Try.prog l0 #[pieceV f l r x] W fun e W' =>
      (e = .returned (.bool true) ∧ J (pre ++ [x]) W' ∧ KeepsAt Bn W W') ∨ (e = .returned (.bool false) ∧ Jx (pre ++ [x]) W'))
    (hJ : ∀ pre W W', J pre W → Below W.heap.size W W' → J pre W')
    (W : World) (hB : Tri W Bn f l r) (h0 : J [] W) :
    CallsIn Fence.wide n Try.prog 56 #[.func (.yield l0) #[] #[], .pointer (some ⟨Bn, 0, none⟩)] W fun e W' => (∃ v, e = .returned v) ∧
      ((∃ ys, ys = [false, true] ∧ J ys W') ∨ (∃ pre, (pre = [false] ∨ pre = [false, true]) ∧ Jx pre W')) := by
  have hS := fun w => straight_any f l r w
  rw [hl] at hS
  refine callsIn_of_wp Try.func56 rfl trivial ?_ rfl
  simp only [Try.ntmps56, List.size_toArray, List.length_cons, List.length_nil, Nat.reduceAdd, Nat.reduceSub, Array.replicate_succ, Array.replicate_zero, List.push_toArray, List.append_toArray, List.nil_append, List.cons_append]
  obtain ⟨b1, b2, b3, b4⟩ := hB
  gi_wp2_with (refine ⟨trivial, ?_⟩; gi_at_call 50; (refine (callsIn_wide.2 (hS _)).mono ?_); rintro e w1 ⟨rfl, hb1⟩; have hB1 := Tri.below ⟨b1, b2, b3, b4⟩ hb1; obtain ⟨c1, c2, c3, c4⟩ := id hB1; obtain ⟨fn, tmps, assign, body, hy, hR⟩ := hY [] false w1 (hJ _ _ _ h0 hb1) (by simp); dsimp only [pieceV] at hy)
  refine hR.mono ?_
  rintro e W2 (⟨rfl, hJ2, hk2⟩ | ⟨rfl, hx2⟩)
  · obtain ⟨d1, d2, d3, d4⟩ : Tri W2 Bn f l r := hk2.tri ⟨c1, c2, c3, c4⟩
    obtain ⟨fn2, tmps2, assign2, body2, hy2, hR2⟩ := hY [false] true W2 hJ2 (by simp)
    dsimp only [pieceV] at hy2
    gi_wp2
    refine hR2.mono ?_
    rintro e W3 (⟨rfl, hJ3, _⟩ | ⟨rfl, hx3⟩)
    · gi_wp2
      go_end0
      exact ⟨⟨_, rfl⟩, .inl ⟨_, rfl, hJ3⟩⟩
    · gi_wp2
      go_end0
      exact ⟨⟨_, rfl⟩, .inr ⟨_, .inr rfl, hx3⟩⟩
  · gi_wp2
    refine bodyPost_ret (results_none rfl _ _ _) rfl ?_
    exact ⟨⟨_, rfl⟩, .inr ⟨_, .inl rfl, hx2⟩⟩
set_option maxRecDepth 100000 in
set_option maxHeartbeats 1000000 in
theorem pieces1_straight (n : Nat) (hn : 1 ≤ n) (l0 Bn : Nat) (f l r : Int) (hl : (l == 0) = true) (J Jx : List Bool → World → Prop)
    (hY : ∀ pre x W, J pre W → pre.length < 1 → YieldAt Fence.wide (n - 1) Try.prog l0 #[pieceV f l r x] W fun e W' =>
      (e = .returned (.bool true) ∧ J (pre ++ [x]) W' ∧ KeepsAt Bn W W') ∨ (e = .returned (.bool false) ∧ Jx (pre ++ [x]) W'))
    (hJ : ∀ pre W W', J pre W → Below W.heap.size W W' → J pre W')
    (W : World) (hB : Tri W Bn f l r) (h0 : J [] W) :
    CallsIn Fence.wide n Try.prog 56 #[.func (.yield l0) #[] #[], .pointer (some ⟨Bn, 0, none⟩)] W fun e W' => (∃ v, e = .returned v) ∧
      ((∃ ys, ys = [true] ∧ J ys W') ∨ (∃ pre, pre = [true] ∧ Jx pre W')) := by
  have hS := fun w => straight_any f l r w
  rw [hl] at hS
  refine callsIn_of_wp Try.func56 rfl trivial ?_ rfl
  simp only [Try.ntmps56, List.size_toArray, List.length_cons, List.length_nil, Nat.reduceAdd, Nat.reduceSub, Array.replicate_succ, Array.replicate_zero, List.push_toArray, List.append_toArray, List.nil_append, List.cons_append]
  obtain ⟨b1, b2, b3, b4⟩ := hB
  gi_wp2_with (refine ⟨trivial, ?_⟩; gi_at_call 50; (refine (callsIn_wide.2 (hS _)).mono ?_); rintro e w1 ⟨rfl, hb1⟩; have hB1 := Tri.below ⟨b1, b2, b3, b4⟩ hb1; obtain ⟨c1, c2, c3, c4⟩ := id hB1; obtain ⟨fn, tmps, assign, body, hy, hR⟩ := hY [] true w1 (hJ _ _ _ h0 hb1) (by simp); dsimp only [pieceV] at hy)
  refine ⟨fun _ h => (by cases h), ?_⟩
  gi_wp2
  refine hR.mono ?_
  rintro e W3 (⟨rfl, hJ3, _⟩ | ⟨rfl, hx3⟩)
  · gi_wp2
    go_end0
    exact ⟨⟨_, rfl⟩, .inl ⟨_, rfl, hJ3⟩⟩
  · gi_wp2
    go_end0
    exact ⟨⟨_, rfl⟩, .inr ⟨_, rfl, hx3⟩⟩
/-- The pieces in their order. -/
def ps (l : Int) : List Bool := if l == 0 then [true] else [false, true]
theorem pieces_stops (n : Nat) (hn : 1 ≤ n) (Bn : Nat) (f l r : Int) (w : World) (hB : Tri w Bn f l r) :
    SeqStopsK Fence.wide n Try.prog 56 #[.pointer (some ⟨Bn, 0, none⟩)] (fun x : Bool => #[pieceV f l r x]) (KeepsAt Bn) (fun ys => ys = ps l) (fun pre => pre ≠ [] ∧ pre <+: ps l) (ps l).length w := fun l0 J Jx W hW hJ _ hY h0 => by
  have hJ' : ∀ pre W W', J pre W → Below W.heap.size W W' → J pre W' := fun pre W W' h hb => hJ pre W W' none h ⟨hb.os, hb.tape, hb.output, hb.size, fun k hk _ => hb.block k hk⟩ (fun r e => by cases e)
  have hB' : Tri W Bn f l r := hB.below hW
  by_cases hl : (l == 0) = true
  · have e : ps l = [true] := by unfold ps; rw [if_pos hl]
    rw [e] at hY ⊢
    refine CallsIn.mono (pieces1_straight n hn l0 Bn f l r hl J Jx hY hJ' W hB' h0) ?_
    rintro e w' ⟨h1, h2 | ⟨pre, h2, h3⟩⟩
    · exact ⟨h1, .inl h2⟩
    · exact ⟨h1, .inr ⟨pre, by subst h2; simp, h3⟩⟩
  · have hl' : (l == 0) = false := by simpa using hl
    have e : ps l = [false, true] := by unfold ps; rw [if_neg hl]
    rw [e] at hY ⊢
    refine CallsIn.mono (pieces1_bent n hn l0 Bn f l r hl' J Jx hY hJ' W hB' h0) ?_
    rintro e w' ⟨h1, h2 | ⟨pre, h2, h3⟩⟩
    · exact ⟨h1, .inl h2⟩
    · exact ⟨h1, .inr ⟨pre, by rcases h2 with rfl | rfl <;> simp [List.prefix_iff_eq_take], h3⟩⟩
end Go.Proofs.Ytjbpaapglamilaa
namespace Go.Proofs.Ytjbpaapglamilaa
open Go.RowKit Go.Shelf W
set_option linter.unusedVariables false
attribute [local go_sem] Oper.semAt_some
/-- Block B is a block of those values. -/
def Box (W : World) (B : Nat) (vs : Array Value) (t : TypeId) : Prop := W.heap[B]? = some (.cells vs t (0, 0))
theorem Box.lt {W : World} {B : Nat} {t : TypeId} {v : Array Value} (h : Box W B v t) : B < W.heap.size := (Array.getElem?_eq_some_iff.1 h).1
theorem Box.new (W : World) (t : TypeId) (v : Array Value) : Box (W.alloc (.cells v t)) W.heap.size v t := World.alloc_heap_new W _
theorem Box.alloc {W : World} {B : Nat} {t : TypeId} {v : Array Value} (h : Box W B v t) (o : Obj) : Box (W.alloc o) B v t := (Below.heap_alloc W o B h.lt).trans h
theorem Box.below {W w : World} {B : Nat} {t : TypeId} {v : Array Value} (h : Box W B v t) (hb : Below W.heap.size W w) : Box w B v t := (hb.block B h.lt).trans h
theorem Box.other {W : World} {B B' : Nat} {t : TypeId} {v : Array Value} (h : Box W B v t) (hne : B ≠ B') (u : Value) : Box (W.setCell ⟨B', 0, none⟩ u) B v t := (Below.heap_setCell _ _ _ B hne).trans h
theorem box_own {β : Type} (B : Nat) (t : TypeId) (v : Array Value) : Go.Own (fun (_ : β) W => Box W B v t) := fun s X Y row hs hg hrow =>
  (hg.block B hs.lt (fun e' => by obtain ⟨o, ho, hc⟩ := hrow B e'.symm; rw [show X.heap[B]? = _ from hs] at ho; cases ho; cases hc)).trans hs
theorem Box.tri {W : World} {B : Nat} {t : TypeId} {x y z : Int} (h : Box W B #[.int .u64 x, .int .u64 y, .int .u64 z] t) : Tri W B x y z :=
  ⟨h.lt, by simp [World.cell?, show W.heap[B]? = _ from h], by simp [World.cell?, show W.heap[B]? = _ from h], by simp [World.cell?, show W.heap[B]? = _ from h]⟩
theorem Boxed.below {W w : World} {B : Nat} {t : TypeId} {v : Value} (h : Boxed W B t v) (hb : Below W.heap.size W w) : Boxed w B t v := (hb.block B h.lt).trans h

end Go.Proofs.Ytjbpaapglamilaa
namespace Go.Proofs.Ytjbpaapglamilaa
open Go.RowKit Go.Shelf W
set_option linter.unusedVariables false
attribute [local go_sem] Oper.semAt_some
/-- The slope of a piece; the steepest one of some. -/
def slo (f r : Int) : Bool → Int
  | false => f
  | true => r
def stF (f r : Int) (pre : List Bool) : Int := pre.foldl (fun s x => max s (slo f r x)) 0
theorem stF_snoc (f r : Int) (pre : List Bool) (x : Bool) : stF f r (pre ++ [x]) = max (stF f r pre) (slo f r x) := by simp [stF]
set_option maxRecDepth 100000 in
set_option maxHeartbeats 2000000 in
theorem steepest_of (f l r : Int) (w : World) :
    Calls Try.prog 39 #[.agg #[.int .u64 f, .int .u64 l, .int .u64 r]] w fun e w' => e = .returned (.int .u64 (stF f r (ps l))) ∧ Below w.heap.size w w' := by
  refine (callsIn_wide (n := 3)).1 ?_
  refine callsIn_of_wp_marks Try.func39 rfl trivial ?_ rfl
  simp only [Try.ntmps39, List.size_toArray, List.length_cons, List.length_nil, Nat.reduceAdd, Nat.reduceSub, Array.replicate_succ, Array.replicate_zero, List.push_toArray, List.append_toArray, List.nil_append, List.cons_append]
  gi_wp2_with (refine ⟨trivial, ?_⟩; gi_at_call 49; (refine (callsIn_wide.2 (pieces_any _ _ _ _)).mono ?_); rintro e w' ⟨rfl, rfl⟩)
  have bS := (Boxed.new (w.alloc (.cells #[.int .u64 f, .int .u64 l, .int .u64 r] 25)) 22 (.int .u64 0)).alloc (.cells #[.int .u64 f, .int .u64 l, .int .u64 r] 25)
  have bC := Tri.new ((w.alloc (.cells #[.int .u64 f, .int .u64 l, .int .u64 r] 25)).alloc (.cells #[.int .u64 0] 22)) f l r 25
  simp only [World.size_alloc] at bS bC
  have hB0 : Below w.heap.size w (((w.alloc (.cells #[.int .u64 f, .int .u64 l, .int .u64 r] 25)).alloc (.cells #[.int .u64 0] 22)).alloc (.cells #[.int .u64 f, .int .u64 l, .int .u64 r] 25)) := (((Below.refl _ w).alloc (Nat.le_refl _) _).alloc (by simp) _).alloc (by simp; omega) _
  have hsz : (((w.alloc (.cells #[.int .u64 f, .int .u64 l, .int .u64 r] 25)).alloc (.cells #[.int .u64 0] 22)).alloc (.cells #[.int .u64 f, .int .u64 l, .int .u64 r] 25)).heap.size = w.heap.size + 3 := by simp
  obtain ⟨W0, hW0⟩ : ∃ W0, ((w.alloc (.cells #[.int .u64 f, .int .u64 l, .int .u64 r] 25)).alloc (.cells #[.int .u64 0] 22)).alloc (.cells #[.int .u64 f, .int .u64 l, .int .u64 r] 25) = W0 := ⟨_, rfl⟩
  rw [hW0] at bS bC hB0 hsz ⊢
  clear hW0
  refine wpIn_rangeFunc_ownH rfl (by omega) (gf := 56) (lb := #[.pointer (some ⟨w.heap.size + 1 + 1, 0, none⟩)]) rfl trivial (enters_of Try.func56 (by kernel_rfl) rfl)
    (pieces_stops 2 (by omega) (w.heap.size + 1 + 1) f l r W0 bC) KeepsAt.trans (KeepsAt.putObj (by omega)) (Below.refl _ _) (fun _ => rfl)
    (fun pre W => Boxed W (w.heap.size + 1) 22 (.int .u64 (stF f r pre)) ∧ Below w.heap.size w W ∧ w.heap.size + 3 ≤ W.heap.size)
    (fun _ _ _ => False)
    (OwnFrom.and (Go.Own.from (boxed_own _ _ _) _) (OwnFrom.and (ownFrom_below (Nat.le_refl _) (by omega)) (fun _ _ _ _ hs hg _ => Nat.le_trans hs hg.size)))
    (fun _ _ _ _ _ hs _ _ => hs)
    ⟨bS, hB0, by omega⟩
    (fun x a' W => ∃ Bx, w.heap.size + 1 + 1 < Bx ∧ Box W Bx (match pieceV f l r x with | .agg vs => vs | _ => #[]) 85 ∧ a' = { tmps := #[.agg #[.int .u64 f, .int .u64 l, .int .u64 r], .pointer (some ⟨w.heap.size, 0, none⟩), .int .u64 0, .pointer (some ⟨w.heap.size + 1, 0, none⟩), .pointer (some ⟨Bx, 0, none⟩), .agg #[.int .u64 f, .int .u64 l, .int .u64 r], .func (.func 56) #[] #[.pointer (some ⟨w.heap.size + 1 + 1, 0, none⟩)], pieceV f l r x, undef, undef, undef, undef, undef], defers := [] })
    (fun x a' _ X Y row hs hg hr => by obtain ⟨Bx, h1, h2, h3⟩ := hs; exact ⟨Bx, h1, box_own Bx 85 _ () X Y row h2 hg (fun r e => (hr r e).2), h3⟩)
    ?assign ?body ?done ?stop
  case assign =>
    rintro l0 pre x W K ⟨bS1, hB1, hz1⟩ hK
    cases x
    · dsimp only [pieceV]
      gi_wp2
      exact hK _ _ ((KeepsOthers.alloc _ _).from _) (KeepsAt.alloc W (by omega) _) ⟨bS1.alloc _, hB1.alloc hB1.size _, by simp; omega⟩ ⟨W.heap.size, by omega, Box.new W 85 _, rfl⟩
    · dsimp only [pieceV]
      gi_wp2
      exact hK _ _ ((KeepsOthers.alloc _ _).from _) (KeepsAt.alloc W (by omega) _) ⟨bS1.alloc _, hB1.alloc hB1.size _, by simp; omega⟩ ⟨W.heap.size, by omega, Box.new W 85 _, rfl⟩
  case body =>
    rintro l0 pre x a' W hl ⟨rr, hr⟩ ⟨bS1, hB1, hz1⟩ ⟨Bx, hBx, bX, rfl⟩ hlt
    have cS := bS1.cell
    have fS := bS1.frozen
    cases x
    · obtain ⟨x1, x2, x3, x4⟩ := Box.tri bX
      have hS := stF_snoc f r pre false
      simp only [slo] at hS
      obtain ⟨m, em⟩ : ∃ m, stF f r pre = m := ⟨_, rfl⟩
      rw [em] at cS hS
      rcases Int.lt_trichotomy m f with h | rfl | h
      · have m1 : min m f = m := by omega
        have m2 : max m f = f := by omega
        rw [m2] at hS
        gi_wp2
        exact ⟨(KeepsOthers.setCell _ _ _).from _, KeepsAt.setCell W (by omega) _, by rw [hS]; exact bS1.set _, hB1.setCell (p := ⟨w.heap.size + 1, 0, none⟩) (by simp) _, by simpa [World.setCell] using hz1⟩
      · have m2 : max m m = m := by omega
        rw [m2] at hS
        gi_wp2
        exact ⟨(KeepsOthers.setCell _ _ _).from _, KeepsAt.setCell W (by omega) _, by rw [hS]; exact bS1.set _, hB1.setCell (p := ⟨w.heap.size + 1, 0, none⟩) (by simp) _, by simpa [World.setCell] using hz1⟩
      · have m1 : min m f = f := by omega
        have m2 : max m f = m := by omega
        rw [m2] at hS
        gi_wp2
        exact ⟨(KeepsOthers.setCell _ _ _).from _, KeepsAt.setCell W (by omega) _, by rw [hS]; exact bS1.set _, hB1.setCell (p := ⟨w.heap.size + 1, 0, none⟩) (by simp) _, by simpa [World.setCell] using hz1⟩
    · obtain ⟨x1, x2, x3, x4⟩ := Box.tri bX
      have hS := stF_snoc f r pre true
      simp only [slo] at hS
      obtain ⟨m, em⟩ : ∃ m, stF f r pre = m := ⟨_, rfl⟩
      rw [em] at cS hS
      rcases Int.lt_trichotomy m r with h | rfl | h
      · have m1 : min m r = m := by omega
        have m2 : max m r = r := by omega
        rw [m2] at hS
        gi_wp2
        exact ⟨(KeepsOthers.setCell _ _ _).from _, KeepsAt.setCell W (by omega) _, by rw [hS]; exact bS1.set _, hB1.setCell (p := ⟨w.heap.size + 1, 0, none⟩) (by simp) _, by simpa [World.setCell] using hz1⟩
      · have m2 : max m m = m := by omega
        rw [m2] at hS
        gi_wp2
        exact ⟨(KeepsOthers.setCell _ _ _).from _, KeepsAt.setCell W (by omega) _, by rw [hS]; exact bS1.set _, hB1.setCell (p := ⟨w.heap.size + 1, 0, none⟩) (by simp) _, by simpa [World.setCell] using hz1⟩
      · have m1 : min m r = r := by omega
        have m2 : max m r = m := by omega
        rw [m2] at hS
        gi_wp2
        exact ⟨(KeepsOthers.setCell _ _ _).from _, KeepsAt.setCell W (by omega) _, by rw [hS]; exact bS1.set _, hB1.setCell (p := ⟨w.heap.size + 1, 0, none⟩) (by simp) _, by simpa [World.setCell] using hz1⟩
  case done =>
    rintro D zs W hD rfl ⟨bS1, hB1, hz1⟩ hK
    have cS := bS1.cell
    gi_wp2
    refine ⟨by simp, .inl ⟨_, _, rfl, run_takeDeferred hK, ?_⟩⟩
    exact ⟨_, results_tmp rfl _ _ _, rfl, hB1.trans (belowK_b (w := w) (Nat.le_refl _) W D _ _ (by omega) hK rfl rfl)⟩
  case stop =>
    rintro D c pre W _ _ h _
    exact h.elim
end Go.Proofs.Ytjbpaapglamilaa
namespace Go.Proofs.Ytjbpaapglamilaa
open Go.RowKit Go.Shelf W
set_option linter.unusedVariables false
attribute [local go_sem] Oper.semAt_some
/-- Where a piece begins; how long it is; what it has by the tick t; what the first ones have. -/
def fro (l : Int) : Bool → Int
  | false => 0
  | true => l
def lng (l : Int) : Bool → Int
  | false => l
  | true => 18446744073709551615
def grA (f l r t : Int) (x : Bool) : Int := rT (slo f r x) (min (rM t (fro l x)) (lng l x))
def atF (f l r t : Int) (pre : List Bool) : Int := pre.foldl (fun s x => rP s (grA f l r t x)) 0
theorem atF_snoc (f l r t : Int) (pre : List Bool) (x : Bool) : atF f l r t (pre ++ [x]) = rP (atF f l r t pre) (grA f l r t x) := by simp [atF]
theorem rM_word {a b : Int} (ha : Word a) (hb : Word b) : Word (rM a b) := by
  unfold rM; split
  · unfold Word; omega
  · exact stp_word (by omega)
theorem rT_word {a b : Int} (ha : Word a) (hb : Word b) : Word (rT a b) := stp_word (Int.mul_nonneg ha.1 hb.1)
theorem rP_word {a b : Int} (ha : Word a) (hb : Word b) : Word (rP a b) := stp_word (by unfold Word at *; omega)
theorem min_word {a b : Int} (ha : Word a) (hb : Word b) : Word (min a b) := by unfold Word at *; omega
theorem slo_word {f r : Int} (hf : Word f) (hr : Word r) (x : Bool) : Word (slo f r x) := by cases x; exact hf; exact hr
theorem fro_word {l : Int} (hl : Word l) (x : Bool) : Word (fro l x) := by cases x; exact ⟨by simp [fro], by simp [fro]⟩; exact hl
theorem lng_word {l : Int} (hl : Word l) (x : Bool) : Word (lng l x) := by cases x; exact hl; exact ⟨by simp [lng], by simp [lng]⟩
theorem grA_word {f l r t : Int} (hf : Word f) (hl : Word l) (hr : Word r) (ht : Word t) (x : Bool) : Word (grA f l r t x) := rT_word (slo_word hf hr x) (min_word (rM_word ht (fro_word hl x)) (lng_word hl x))
theorem atF_word {f l r t : Int} (hf : Word f) (hl : Word l) (hr : Word r) (ht : Word t) (pre : List Bool) : Word (atF f l r t pre) := by
  unfold atF
  suffices h : ∀ (pre : List Bool) s, Word s → Word (pre.foldl (fun s x => rP s (grA f l r t x)) s) from h pre 0 ⟨by omega, by omega⟩
  intro pre
  induction pre with
  | nil => intro s hs; exact hs
  | cons x xs ih => intro s hs; exact ih _ (rP_word hs (grA_word hf hl hr ht x))
theorem pieceV_eq (f l r : Int) (x : Bool) : pieceV f l r x = .agg #[.int .u64 (slo f r x), .int .u64 (fro l x), .int .u64 (lng l x)] := by cases x <;> rfl
end Go.Proofs.Ytjbpaapglamilaa
namespace Go.Proofs.Ytjbpaapglamilaa
open Go.RowKit Go.Shelf W
set_option linter.unusedVariables false
attribute [local go_sem] Oper.semAt_some
/-- What a whole piece has; what the first ones have; where, from those on, the amount is reached. -/
def grW (f l r : Int) (x : Bool) : Int := rT (slo f r x) (min (lng l x) (lng l x))
def hadF (f l r : Int) (pre : List Bool) : Int := pre.foldl (fun s x => rP s (grW f l r x)) 0
theorem hadF_snoc (f l r : Int) (pre : List Bool) (x : Bool) : hadF f l r (pre ++ [x]) = rP (hadF f l r pre) (grW f l r x) := by simp [hadF]
def hitW (f l r y had : Int) (x : Bool) : Int := min (min (fro l x) 9223372036854775808 + qU (y - had) 1 (slo f r x)) 9223372036854775808
def rcF (f l r y : Int) : Int → List Bool → Int
  | _, [] => 9223372036854775808
  | had, x :: xs => if y ≤ rP had (grW f l r x) then hitW f l r y had x else rcF f l r y (rP had (grW f l r x)) xs
theorem grW_word {f l r : Int} (hf : Word f) (hl : Word l) (hr : Word r) (x : Bool) : Word (grW f l r x) := rT_word (slo_word hf hr x) (min_word (lng_word hl x) (lng_word hl x))
theorem hadF_word {f l r : Int} (hf : Word f) (hl : Word l) (hr : Word r) (pre : List Bool) : Word (hadF f l r pre) := by
  unfold hadF
  suffices h : ∀ (pre : List Bool) s, Word s → Word (pre.foldl (fun s x => rP s (grW f l r x)) s) from h pre 0 ⟨by omega, by omega⟩
  intro pre
  induction pre with
  | nil => intro s hs; exact hs
  | cons x xs ih => intro s hs; exact ih _ (rP_word hs (grW_word hf hl hr x))
theorem qU_nn {a b c : Int} (ha : 0 ≤ a) (hb : 0 ≤ b) (hc : 0 ≤ c) : 0 ≤ qU a b c := by
  unfold qU; split
  · omega
  · exact stp_nn (Int.ediv_nonneg (by have := Int.mul_nonneg ha hb; omega) hc)
theorem qU_cap (a b c : Int) : qU a b c ≤ 4611686018427387904 := by
  unfold qU; split
  · omega
  · exact stp_le _
end Go.Proofs.Ytjbpaapglamilaa
