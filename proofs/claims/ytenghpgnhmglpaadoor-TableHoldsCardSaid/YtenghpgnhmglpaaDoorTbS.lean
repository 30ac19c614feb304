/- Ids of a table that tells a row. No condition but that it isn't long. -/
import Derived.Test.YtenghpgnhmglpaaDoorTbE
namespace Go.Proofs.YtenghpgnhmglpaaDoor
open Go.RowKit Go.Shelf
set_option linter.unusedVariables false
set_option linter.unusedSimpArgs false
attribute [local go_sem] Oper.semAt_some
theorem infoInt : (Tryd.prog.info? 3).map (fun i => (i.zero, i.size, i.bytes)) = some (some (.int .i64 0), 1, 8) := by kernel_rfl
/-- The cells of the loop. -/
def IdI (W : World) (sb b n : Nat) (tv : Value) (pre : List Im) (X : World) : Prop :=
  Box X sb #[.slice (some ⟨W.heap.size, 0, none⟩) pre.length n] 48 ∧ X.ownsRow W.heap.size 3 1 (.slice (some ⟨W.heap.size, 0, none⟩) pre.length n) pre.length (pre.map fun z => eI z.id) ∧ Below W.heap.size W X ∧ Box X b #[tv] 23
theorem own_turn {X Y : World} {base e size g n cap C : Nat} {xs : List Value} {row : Option Nat} (h : X.ownsRow base e size (.slice (some ⟨g, 0, none⟩) n cap) n xs) (hg : X.grownBy Y row) (hr : ∀ r, row = some r → C ≤ r) (hC : g < C) : Y.ownsRow base e size (.slice (some ⟨g, 0, none⟩) n cap) n xs := by
  refine (show Off (fun k => row = some k) X Y from ⟨hg.os, hg.tape, hg.output, hg.size, fun k hk hn => hg.block k hk (fun e => hn e.symm)⟩).owns h (fun g' e e' => ?_)
  have e2 : g = g' := by simpa [Value.ownBlock] using e
  have := hr _ e'
  omega
theorem IdI.turn {W X Y : World} {sb b n C : Nat} {tv : Value} {pre : List Im} {row : Option Nat} (hI : IdI W sb b n tv pre X) (hg : X.grownBy Y row) (hr : ∀ r, row = some r → C ≤ r) (hW : W.heap.size < C) (hC : sb < C) (hb : b < C) : IdI W sb b n tv pre Y := by
  obtain ⟨h1, h2, h3, h4⟩ := hI
  exact ⟨h1.turn hg hr hC, own_turn h2 hg hr hW, below_turn h3 hg hr (by omega), h4.turn hg hr hb⟩
set_option maxHeartbeats 2000000 in
theorem ids_any (p : Option Addr) (L : List Im) (W : World) (hl : L.length ≤ 1000) (hlen : ∀ X, Below W.heap.size W X → Calls Tryd.prog 13 #[.pointer p] X fun e w' => e = .returned (eI (L.length : Int)) ∧ X = w')
    (heach : ∀ X, Below W.heap.size W X → Calls Tryd.prog 14 #[.pointer p] X fun e w' => ∃ b, e = .returned (.func (.func 32) #[] #[.pointer (some ⟨b, 0, none⟩)]) ∧ Below X.heap.size X w' ∧ X.heap.size ≤ b ∧ Box w' b #[.pointer p] 23 ∧ ∀ n n₀, 8 ≤ n → W.heap.size ≤ n₀ → n₀ ≤ w'.heap.size → SeqD n 32 #[.pointer (some ⟨b, 0, none⟩)] imE n₀ (fun _ Y => Box Y b #[.pointer p] 23) (fun xs => xs = L) (fun pre => pre <+: L) (fun pre z => pre ++ [z] <+: L) w') :
    Calls Tryd.prog 24 #[.pointer p] W fun e w' => ∃ v, e = .returned v ∧ w'.ownsRow W.heap.size 3 1 v L.length (L.map fun z => eI z.id) ∧ Below W.heap.size W w' := by
  obtain ⟨i0, hi, hz0, hz1, hz2⟩ := info_parts infoInt
  have hC := hlen W (Below.refl _ _)
  refine (callsIn_wide (n := 12)).1 ?_
  refine callsIn_of_wp_marks Tryd.func24 rfl trivial ?_ rfl
  simp only [Tryd.ntmps24, List.size_toArray, List.length_cons, List.length_nil, Nat.reduceAdd, Nat.reduceSub, Array.replicate_succ, Array.replicate_zero, List.push_toArray, List.append_toArray, List.nil_append, List.cons_append]
  gi_upto_region 2 with (first
    | (refine ⟨trivial, ?_⟩; gi_at_call 13; (with_reducible refine (callsIn_wide.2 hC).mono ?_); rintro e w1 ⟨rfl, rfl⟩)
    | (refine wpListIn_make_own _ rfl _ _ 48 rfl W.heap.size 3 i0 _ 1 Tryd.underlying48 hi hz0 hz1 _ _ _ L.length rfl rfl rfl (by rw [hz2]; omega) (by unfold maxLen; omega) (Nat.le_refl _) ?_; intro w2 hown hgr))
  have hs2 : W.heap.size < w2.heap.size := (hown.lt W.heap.size rfl).2
  have T2 : Below W.heap.size W w2 := ⟨hgr.os, hgr.tape, hgr.output, hgr.size, fun k hk => hgr.block k hk (by simp)⟩
  have sbx := Box.new w2 48 #[.slice (some ⟨W.heap.size, 0, none⟩) 0 L.length]
  have own3 : (w2.alloc (.cells #[.slice (some ⟨W.heap.size, 0, none⟩) 0 L.length] 48)).ownsRow W.heap.size 3 1 (.slice (some ⟨W.heap.size, 0, none⟩) 0 L.length) 0 [] := own_below hown (up1 w2 _)
  have T3 := ups T2 (up1 w2 (.cells #[.slice (some ⟨W.heap.size, 0, none⟩) 0 L.length] 48)) T2.size
  have hz3 : (w2.alloc (.cells #[.slice (some ⟨W.heap.size, 0, none⟩) 0 L.length] 48)).heap.size = w2.heap.size + 1 := by simp
  obtain ⟨w3, hw3⟩ : ∃ x, w2.alloc (.cells #[.slice (some ⟨W.heap.size, 0, none⟩) 0 L.length] 48) = x := ⟨_, rfl⟩
  rw [hw3] at sbx own3 T3 hz3 ⊢
  have hE := heach w3 T3
  clear hw3 hown hgr T2 hC
  gi_wp2_with (first | (refine ⟨trivial, ?_⟩; gi_at_call 14; (with_reducible refine (callsIn_wide.2 hE).mono ?_); rintro e w6 ⟨b, rfl, hb6, hbb, hbx, hseq⟩))
  have hsq := (hseq 11 W.heap.size (by omega) (Nat.le_refl _) (by have := T3.size; have := hb6.size; omega)).toC
  have hs6 := hb6.size
  clear hseq hE hlen heach
  refine loopC (by omega) (gf := 32) (lb := #[.pointer (some ⟨b, 0, none⟩)]) rfl (enters_of Tryd.func32 (by kernel_rfl) rfl) (n₀ := W.heap.size) (by omega) hsq (fun _ => rfl)
    (fun pre X => IdI W w2.heap.size b L.length (.pointer p) pre X) (fun _ _ _ => False) (fun _ X Y row hI hg hr => hI.turn hg hr (by omega) (by omega) hbx.lt) (fun c _ _ _ _ h => h.elim) (fun _ _ h => h.2.2.2) ⟨sbx.below hb6, own_below own3 hb6, upp T3 hb6, hbx⟩
    (fun z a' X => a' = { tmps := #[.pointer p, undef, .slice none 0 0, .pointer (some ⟨w2.heap.size, 0, none⟩), eI z.id, .pointer p, eI (L.length : Int), .slice (some ⟨W.heap.size, 0, none⟩) 0 L.length, .pointer p, .func (.func 32) #[] #[.pointer (some ⟨b, 0, none⟩)], eI z.id, eU z.v, undef, undef, undef, undef, undef], defers := [] })
    (fun x a' _ X Y row hs hg hr => hs)
    ?assign ?body ?done ?stop
  case assign =>
    rintro l0 pre z X K hzX hI hK
    simp only [imE]
    gi_wp2
    exact hK _ _ (Mid.refl _ _ X) hI rfl
  case stop =>
    rintro D c pre X hD _ h hK
    exact h.elim
  case body =>
    rintro l0 pre z a' X hzX ⟨h1, h2, h3, h4⟩ rfl hpx
    obtain ⟨hk, hz⟩ := pre_at hpx
    have hpl : (pre ++ [z]).length = pre.length + 1 := by simp
    have hmp : (pre ++ [z]).map (fun z => eI z.id) = pre.map (fun z => eI z.id) ++ [eI z.id] := by simp
    have c1 := h1.cell 0
    have hlt1 := h1.lt
    have c1' : (X.alloc (.cells #[eI z.id] 3)).cell? ⟨w2.heap.size, 0, none⟩ = some (.slice (some ⟨W.heap.size, 0, none⟩) pre.length L.length) := (h1.alloc _).cell 0
    have own4 : (X.alloc (.cells #[eI z.id] 3)).ownsRow W.heap.size 3 1 (.slice (some ⟨W.heap.size, 0, none⟩) pre.length L.length) pre.length (pre.map fun z => eI z.id) := own_below h2 (up1 X _)
    gi_wp2_with (gi_at_builtin; refine wpListIn_append_fits _ rfl _ _ 48 rfl W.heap.size 3 i0 1 Tryd.underlying48 hi hz1 W.heap.size pre.length L.length _ rfl own4 ⟨X.heap.size, 0, none⟩ 1 1 [eI z.id] rfl rfl (cell_one_new _ _ _) (by simp [Value.oneCell']) (by omega) ?_; intro w7 own7 hgr7; have bx7 := (h1.alloc (.cells #[eI z.id] 3)).grown hgr7 (fun e => by (have e2 : w2.heap.size = W.heap.size := Option.some.inj e); omega); have c7 := bx7.cell 0; have f7 := bx7.thaw 0)
    have hX1 := (h1.alloc (.cells #[eI z.id] 3)).lt
    have T7 : Below W.heap.size W w7 := (ups h3 (up1 X _) h3.size).grown hgr7 (by simp; have := h3.size; omega) (fun k e => by cases e; exact Nat.le_refl _)
    have bb7 := (h4.alloc (.cells #[eI z.id] 3)).grown hgr7 (fun e => by (have e2 : b = W.heap.size := Option.some.inj e); omega)
    have ne1 : w2.heap.size ≠ W.heap.size := by omega
    refine ⟨?_, ?_, ?_, ?_, ?_⟩
    · refine ((Mid.alloc X (by have := h3.size; omega) _).trans (Mid.grown (n₀ := W.heap.size) (B := w6.heap.size) hgr7 (Nat.le_refl _) (by simp; have := h3.size; omega) (by omega))).trans (Mid.put w7 (b := w2.heap.size) (by omega) (by omega) 0 _)
    · rw [hpl]
      exact bx7.set 0 _
    · rw [hpl, hmp]
      exact (Off.set (S := fun k => k = w2.heap.size) (Off.of (Below.refl _ w7)) (B := w2.heap.size) rfl 0 _).owns own7 (fun g e e' => by
        have e2 : W.heap.size = g := by simpa [Value.ownBlock] using e
        omega)
    · exact T7.setCell (p := ⟨w2.heap.size, 0, none⟩) (by simp; omega) _
    · exact bb7.setNe (by show b ≠ w2.heap.size; omega) _
  case done =>
    rintro D0 ys X hD rfl ⟨h1, h2, h3, h4⟩ hKd
    have c1 := h1.cell 0
    have h2h := Lib.hid (ownsRow_putObj h2 (.deferred none) hKd rfl)
    have h3h := Lib.hid (h3.trans (belowK_b (w := W) (Nat.le_refl _) _ D0 _ (.deferred none) (by omega) hKd rfl rfl))
    clear h2 h3 h4 h1 hbx hb6
    gi_wp2
    refine ⟨by simp, .inl ⟨_, _, rfl, run_takeDeferred hKd, ?_⟩⟩
    refine ⟨_, by simp [results, Tryd.results24, go_sem], _, rfl, h2h.out, h3h.out⟩
end Go.Proofs.YtenghpgnhmglpaaDoor
