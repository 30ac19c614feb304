/- The tree of ids: Ids gives all ids, by keys, in a slice of the call's own. No condition but that there aren't too many. -/
import Derived.Test.YtcpienpkpodfmaaAD
import Derived.Maps.AppendAt
import Derived.OwnWalkIn
namespace Go.Proofs.Ytcpienpkpodfmaa
open Go.RowKit Go.Shelf Go.Maps
set_option linter.unusedVariables false
attribute [local go_sem] Oper.semAt_some
theorem infoI : (Try.prog.info? 3).map (fun i => (i.zero, i.size, i.bytes)) = some (some (.int .i64 0), 1, 8) := by kernel_rfl
/-- The ids, as a slice's cells. -/
def idsV (L : List It) : List Value := L.map fun a => eI a.1.2
/-- Between two rounds. -/
def IdI (V : World) (P base : Nat) (pre : List It) (W : World) : Prop := (∃ v, Box W P #[v] 48 ∧ W.ownsRow base 3 1 v pre.length (idsV pre)) ∧ Below V.heap.size V W
theorem IdI.own (V : World) (P B c : Nat) (hP : P < B) (hV : V.heap.size ≤ B) : AbidesAll B c (IdI V P (B + c)) := by
  rintro s X Y row ⟨⟨v, h1, h2⟩, h3⟩ hg hr
  refine ⟨⟨v, h1.turn hg hr hP, h2.kept hg ?_⟩, below_turn h3 hg hr hV⟩
  cases hb : v.ownBlock with
  | none => exact .inl rfl
  | some k =>
    refine .inr (fun e => ?_)
    have := hr k e.symm
    have := (h2.lt k hb).1
    omega
theorem owns_mono {w : World} {base base' size n : Nat} {e : TypeId} {v : Value} {xs : List Value} (h : w.ownsRow base e size v n xs) (hb : base' ≤ base) : w.ownsRow base' e size v n xs := by
  obtain ⟨h1, h2⟩ := h
  refine ⟨h1, h2.imp id ?_⟩
  rintro ⟨g, cap, cur, a1, a2, a3⟩
  exact ⟨g, cap, cur, a1, Nat.le_trans hb a2, a3⟩
theorem grown_of {w w' : World} {o : Option Nat} {n : Nat} (h : w.grownBy w' o) (hn : n ≤ w.heap.size) (ho : ∀ k, o = some k → n ≤ k) : Below n w w' := (Below.refl n w).grown h hn ho
theorem mid_grown {n₀ B c : Nat} {X Y : World} {o : Option Nat} (h : X.grownBy Y o) (hX : n₀ ≤ X.heap.size) (ho : ∀ k, o = some k → n₀ ≤ k ∧ B + c ≤ k) : Mid n₀ B c X Y := by
  cases o with
  | none => exact Mid.grown0 h hX
  | some k => exact Mid.grown h (ho k rfl).1 hX (.inr (ho k rfl).2)
theorem eachA_any (p : Pt) (w : World) : Calls Try.prog 46 #[.pointer p] w fun e w' => e = .returned (.func (.func 65) #[] #[.pointer (some ⟨w.heap.size, 0, none⟩)]) ∧ w' = w.alloc (.cells #[.pointer p] 37) := eachT_any p w
set_option maxRecDepth 100000 in
set_option maxHeartbeats 4000000 in
theorem aug_ids {w W : World} {m B : Nat} {L : List It} (hm : m ≤ 1000) (h : Aug w W m B L) :
    Calls Try.prog 21 #[.pointer (some ⟨B, 0, none⟩)] W fun e w' => ∃ v, e = .returned v ∧ w'.ownsRow W.heap.size 3 1 v L.length (idsV L) ∧ Below W.heap.size W w' := by
  obtain ⟨i0, hi, hz0, hz1, hz2⟩ := info_parts infoI
  have hL := h.len
  obtain ⟨Bt, hO, hrow⟩ := aug_row h
  have T0 := up1 W (.cells #[.slice none 0 0] 48)
  have b1 := (Box.new W 48 #[.slice none 0 0]).alloc (.cells #[.pointer (some ⟨Bt, 0, none⟩)] 37)
  have b2 := Box.new (W.alloc (.cells #[.slice none 0 0] 48)) 37 #[.pointer (some ⟨Bt, 0, none⟩)]
  simp only [World.size_alloc] at b2
  have T1 := up2 W (.cells #[.slice none 0 0] 48) (.cells #[.pointer (some ⟨Bt, 0, none⟩)] 37)
  have hsz : ((W.alloc (.cells #[.slice none 0 0] 48)).alloc (.cells #[.pointer (some ⟨Bt, 0, none⟩)] 37)).heap.size = W.heap.size + 2 := by simp
  have hrow := hrow _ T0
  refine (callsIn_wide (n := 12)).1 ?_
  refine callsIn_of_wp_marks Try.func21 rfl trivial ?_ rfl
  simp only [Try.ntmps21, List.size_toArray, List.length_cons, List.length_nil, Nat.reduceAdd, Nat.reduceSub, Array.replicate_succ, Array.replicate_zero, List.push_toArray, List.append_toArray, List.nil_append, List.cons_append]
  gi_wp2_with (first
    | (refine ⟨trivial, ?_⟩; gi_at_call 37; (with_reducible refine (callsIn_wide.2 hrow).mono ?_); rintro e w1 ⟨rfl, rfl⟩)
    | (refine ⟨trivial, ?_⟩; gi_at_call 46; (with_reducible refine (callsIn_wide.2 (eachA_any _ _)).mono ?_); rintro e w6 ⟨rfl, rfl⟩))
  obtain ⟨V1, hV1⟩ : ∃ V1, (W.alloc (.cells #[.slice none 0 0] 48)).alloc (.cells #[.pointer (some ⟨Bt, 0, none⟩)] 37) = V1 := ⟨_, rfl⟩
  rw [hV1] at b1 b2 T1 hsz ⊢
  clear hV1 hrow h
  have hseq := ob_each 11 (W.heap.size + 1) W.heap.size V1 (by omega) (by omega) (Nat.le_refl _) hO T1 b2
  refine loopC (by omega) (gf := 65) (lb := #[.pointer (some ⟨W.heap.size + 1, 0, none⟩)]) rfl (enters_of Try.func65 (by kernel_rfl) rfl) (n₀ := W.heap.size) (by omega) hseq (fun _ => rfl)
    (IdI W W.heap.size (V1.heap.size + (4 + 2))) (fun _ _ _ => False) (IdI.own W _ V1.heap.size (4 + 2) (by omega) (by omega)) (fun c _ _ _ _ h => h.elim) ⟨⟨_, b1, World.ownsRow_nil _ _ _ _⟩, T1⟩
    (fun x a' X => ∃ Bx, V1.heap.size + 6 ≤ Bx ∧ Box X Bx #[eU x.1.1, eI x.1.2] 59 ∧ a' = { tmps := #[.pointer (some ⟨B, 0, none⟩), undef, .slice none 0 0, .pointer (some ⟨W.heap.size, 0, none⟩), .pointer (some ⟨Bx, 0, none⟩), .pointer (some ⟨B, 0, none⟩), .pointer (some ⟨Bt, 0, none⟩), .func (.func 65) #[] #[.pointer (some ⟨W.heap.size + 1, 0, none⟩)], ky x.1, mV (mkO x), undef, undef, undef, undef, undef, undef], defers := [] })
    (fun x a' _ X Y row hs hg hr => by obtain ⟨Bx, h1, h2, h3⟩ := hs; exact ⟨Bx, h1, box_own Bx 59 _ () X Y row h2 hg (fun r e => (hr r e).2), h3⟩)
    ?assign ?body ?done ?stop
  case assign =>
    rintro l0 pre x X K hzX ⟨⟨v, h1, h2⟩, h3⟩ hK
    gi_wp2
    exact hK _ _ (Mid.alloc X h3.size _) ⟨⟨v, h1.alloc _, h2.alloc _⟩, h3.alloc h3.size _⟩ ⟨X.heap.size, by omega, Box.new X 59 _, rfl⟩
  case stop =>
    rintro D c pre X hD _ h hK
    exact h.elim
  case body =>
    rintro l0 pre x a' X hzX ⟨⟨v, h1, h2⟩, h3⟩ ⟨Bx, hBx, bX, rfl⟩ hpx
    have hlen : pre.length + 1 ≤ L.length := by have := hpx.length_le; simpa using this
    have hmx : ∀ k, k ≤ 1001 → k ≤ maxLen := fun k hk => Nat.le_trans hk (by decide)
    have hc := h1.cell 0
    have hf := h1.thaw 0
    have hl1 := h1.lt
    obtain ⟨x0, x1⟩ := kyC bX
    have n1 := h1.alloc (.cells #[eI x.1.2] 3)
    have hlo : ∀ k, v.ownBlock = some k → V1.heap.size + (4 + 2) ≤ k := fun k e => (h2.lt k e).1
    have hXs : (X.alloc (.cells #[eI x.1.2] 3)).heap.size = X.heap.size + 1 := by simp
    have hzW := h3.size
    have hfin : ∀ w1 v', (X.alloc (.cells #[eI x.1.2] 3)).grownBy w1 v.ownBlock → w1.ownsRow (V1.heap.size + (4 + 2)) 3 1 v' (pre.length + 1) (idsV pre ++ [eI x.1.2]) →
        (w1.cell? ⟨W.heap.size, 0, none⟩ = some v ∧ w1.frozen? ⟨W.heap.size, 0, none⟩ = false ∧ W.heap.size < w1.heap.size) ∧ (Mid W.heap.size V1.heap.size (4 + 2) X (w1.setCell ⟨W.heap.size, 0, none⟩ v') ∧ IdI W W.heap.size (V1.heap.size + (4 + 2)) (pre ++ [x]) (w1.setCell ⟨W.heap.size, 0, none⟩ v')) := fun w1 v' hg ho => by
      have hB1 : Box w1 W.heap.size #[v] 48 := (hg.block _ n1.lt (fun e => by have := hlo _ e.symm; omega)).trans n1
      refine ⟨⟨hB1.cell 0, hB1.thaw 0, hB1.lt⟩, ((Mid.alloc X hzW _).trans (mid_grown hg (by omega) (fun k e => by have := hlo k e; omega))).trans (Mid.put w1 (Nat.le_refl _) (.inl (by omega)) 0 _), ⟨v', hB1.set 0 _, ?_⟩, ((h3.alloc hzW _).trans (grown_of hg (by omega) (fun k e => by have := hlo k e; omega))).setCell (p := ⟨W.heap.size, 0, none⟩) (Nat.le_refl _) _⟩
      have := ownsRow_setCell_below ho (a := ⟨W.heap.size, 0, none⟩) (by show W.heap.size < _; omega) v'
      simpa [idsV] using this
    gi_wp2_with (gi_at_builtin; refine wpListIn_append_own _ rfl _ _ 48 rfl (V1.heap.size + (4 + 2)) 3 i0 (.int .i64 0) 1 8 Try.underlying48 hi hz0 hz1 hz2 rfl (by decide) _ _ _ rfl (h2.alloc _) ⟨X.heap.size, 0, none⟩ 1 1 [eI x.1.2] rfl rfl (cell_one_new _ _ _) (by simp [Value.oneCell']) (hmx _ (by omega)) (by omega) (by rw [hXs]; omega) ?_; intro v' w1 hown' hgrow _; obtain ⟨⟨y1, y2, y3⟩, y4⟩ := hfin w1 v' hgrow hown'; obtain ⟨g', cap', rfl⟩ := ownsRow_succ hown')
    exact y4
  case done =>
    rintro D ys X hD rfl ⟨⟨v, h1, h2⟩, h3⟩ hK
    have hc := h1.cell 0
    gi_wp2
    refine ⟨by simp, .inl ⟨_, _, rfl, run_takeDeferred hK, ?_⟩⟩
    exact ⟨_, results_tmp rfl _ _ _, v, rfl, ownsRow_putObj (owns_mono h2 (by omega)) _ hK rfl, h3.trans (belowK_b (w := W) (Nat.le_refl _) X D _ _ (by omega) hK rfl rfl)⟩
end Go.Proofs.Ytcpienpkpodfmaa
