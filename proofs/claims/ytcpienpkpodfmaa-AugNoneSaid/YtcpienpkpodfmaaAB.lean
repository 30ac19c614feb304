/- The tree of ids as an object: its small calls, over a row of items. No condition but words. -/
import Derived.Test.YtcpienpkpodfmaaAA
namespace Go.Proofs.Ytcpienpkpodfmaa
open Go.RowKit Go.Shelf Go.Maps
set_option linter.unusedVariables false
/-- Block B is a tree of ids of the items L, made since w; at most m were put. -/
def Aug (w W : World) (m B : Nat) (L : List It) : Prop :=
  ∃ Bm Bt nn : Nat, Box W B #[.map (some Bm), .pointer (some ⟨Bt, 0, none⟩)] 39 ∧ MapU W Bm nn (numL L) ∧ Ob W Bt L ∧ Fine L ∧ nn ≤ m ∧ L.length ≤ m ∧ (w.heap.size ≤ B ∧ w.heap.size ≤ Bm ∧ w.heap.size ≤ Bt) ∧ Below w.heap.size w W
section
variable {w W W' : World} {m B : Nat} {L : List It}
theorem Aug.below (h : Aug w W m B L) (hb : Below W.heap.size W W') : Aug w W' m B L := by
  obtain ⟨Bm, Bt, nn, h1, h2, h3, h4, h5, h6, h7, h8⟩ := h
  exact ⟨Bm, Bt, nn, h1.below hb, h2.below hb, h3.below hb, h4, h5, h6, h7, upp h8 hb⟩
theorem Aug.world (h : Aug w W m B L) : Below w.heap.size w W := by obtain ⟨Bm, Bt, nn, h1, h2, h3, h4, h5, h6, h7, h8⟩ := h; exact h8
theorem Aug.fine (h : Aug w W m B L) : Fine L := by obtain ⟨Bm, Bt, nn, h1, h2, h3, h4, h5, h6, h7, h8⟩ := h; exact h4
theorem Aug.rise (h : Aug w W m B L) : Rise L := by obtain ⟨Bm, Bt, nn, h1, h2, h3, h4, h5, h6, h7, h8⟩ := h; exact h3.rise
theorem Aug.len (h : Aug w W m B L) : L.length ≤ m := by obtain ⟨Bm, Bt, nn, h1, h2, h3, h4, h5, h6, h7, h8⟩ := h; exact h6
theorem Aug.more {m' : Nat} (h : Aug w W m B L) (hm : m ≤ m') : Aug w W m' B L := by
  obtain ⟨Bm, Bt, nn, h1, h2, h3, h4, h5, h6, h7, h8⟩ := h
  exact ⟨Bm, Bt, nn, h1, h2, h3, h4, by omega, by omega, h7, h8⟩
theorem row_at (B Bt : Nat) (w : World) (h : w.cell? ⟨B, 1, none⟩ = some (.pointer (some ⟨Bt, 0, none⟩))) : Calls Try.prog 37 #[.pointer (some ⟨B, 0, none⟩)] w fun e w' => e = .returned (.pointer (some ⟨Bt, 0, none⟩)) ∧ w = w' := by
  go_enter Try.func37, Try.ntmps37
  go_wp2
  go_ret
  exact ⟨rfl, rfl⟩
theorem aug_row (h : Aug w W m B L) : ∃ Bt : Nat, Ob W Bt L ∧ ∀ w1, Below W.heap.size W w1 → Calls Try.prog 37 #[.pointer (some ⟨B, 0, none⟩)] w1 fun e w' => e = .returned (.pointer (some ⟨Bt, 0, none⟩)) ∧ w1 = w' := by
  obtain ⟨Bm, Bt, nn, h1, h2, h3, h4, h5, h6, h7, h8⟩ := h
  exact ⟨Bt, h3, fun w1 hb => row_at B Bt w1 ((h1.below hb).cell 1)⟩
theorem aug_len (h : Aug w W m B L) : Calls Try.prog 23 #[.pointer (some ⟨B, 0, none⟩)] W fun e w' => e = .returned (eI (L.length : Int)) ∧ W = w' := by
  obtain ⟨Bt, h1, h2⟩ := aug_row h
  have h2 := h2 W (Below.refl _ _)
  have h3 := ob_len h1
  clear h h1
  go_enter Try.func23, Try.ntmps23
  go_wp2_with (first
    | (go_at_call 37; (with_reducible refine h2.mono ?_); rintro e w1 ⟨rfl, rfl⟩)
    | (go_at_call 48; (with_reducible refine h3.mono ?_); rintro e w2 ⟨rfl, rfl⟩))
  go_ret
  exact ⟨rfl, rfl⟩
/-- The first key of none is 0's. -/
def kO (o : Option It) : Ky := match o with | none => (0, 0) | some m => m.1
theorem fstV_kO (o : Option It) : fstV o = .tuple #[.agg #[eU (kO o).1, eI (kO o).2], .bool o.isSome] := by cases o <;> rfl
theorem aug_first (h : Aug w W m B L) : Calls Try.prog 22 #[.pointer (some ⟨B, 0, none⟩)] W fun e w' => e = .returned (.tuple #[eI (kO L.head?).2, .bool L.head?.isSome]) ∧ Below W.heap.size W w' := by
  obtain ⟨Bt, h1, h2⟩ := aug_row h
  have h2 := h2 W (Below.refl _ _)
  have h3 := ob_first h1
  rw [fstV_kO] at h3
  clear h h1
  generalize kO L.head? = k at *
  generalize L.head?.isSome = s at *
  go_enter Try.func22, Try.ntmps22
  go_wp2_with (first
    | (go_at_call 37; (with_reducible refine h2.mono ?_); rintro e w1 ⟨rfl, rfl⟩)
    | (go_at_call 47; (with_reducible refine h3.mono ?_); rintro e w2 ⟨rfl, hb⟩))
  go_ret2
  exact ⟨rfl, upp hb (up1 _ _)⟩
theorem aug_lowest (h : Aug w W m B L) : Calls Try.prog 25 #[.pointer (some ⟨B, 0, none⟩)] W fun e w' => e = .returned (.tuple #[eU (low L).1, .bool (decide (L ≠ []))]) ∧ Below W.heap.size W w' := by
  obtain ⟨Bt, h1, h2⟩ := aug_row h
  have h2 := h2 W (Below.refl _ _)
  have h3 := ob_all h1
  clear h h1
  generalize low L = s at *
  generalize decide (L ≠ []) = t at *
  go_enter Try.func25, Try.ntmps25
  go_wp2_with (first
    | (go_at_call 37; (with_reducible refine h2.mono ?_); rintro e w1 ⟨rfl, rfl⟩)
    | (go_at_call 49; (with_reducible refine h3.mono ?_); rintro e w2 ⟨rfl, hb⟩))
  go_ret2
  exact ⟨rfl, upp hb (up1 _ _)⟩
theorem aug_least (q : Int) (h : Aug w W m B L) : Calls Try.prog 18 #[.pointer (some ⟨B, 0, none⟩), eU q] W fun e w' => e = .returned (.tuple #[eI (low (upto q L)).2, .bool (decide (upto q L ≠ []))]) ∧ Below W.heap.size W w' := by
  obtain ⟨Bt, h1, h2⟩ := aug_row h
  have h2 := h2 W (Below.refl _ _)
  have h3 := ob_upto q h1
  clear h h1
  generalize low (upto q L) = s at *
  generalize decide (upto q L ≠ []) = t at *
  go_enter Try.func18, Try.ntmps18
  go_wp2_with (first
    | (go_at_call 37; (with_reducible refine h2.mono ?_); rintro e w1 ⟨rfl, rfl⟩)
    | (go_at_call 43; (with_reducible refine h3.mono ?_); rintro e w2 ⟨rfl, hb⟩))
  go_ret2
  exact ⟨rfl, upp hb (up1 _ _)⟩
theorem aug_within (y : Int) (h : Aug w W m B L) : Calls Try.prog 19 #[.pointer (some ⟨B, 0, none⟩), eU y] W fun e w' => e = .returned (.tuple #[eI (kO (fnd y L)).2, .bool (fnd y L).isSome]) ∧ Below W.heap.size W w' := by
  have hmf : ∀ (fn : Fn) (first cap : Array Value) (w : World), (Instr.makeFunc fn first cap).run Try.prog w = .ok (.func fn first cap) w := fun _ _ _ _ => rfl
  obtain ⟨Bt, h1, h2⟩ := aug_row h
  have T0 := up1 W (.cells #[eU y] 29)
  have h2 := h2 _ T0
  have h3 := ob_find W.heap.size y (Box.new W 29 #[eU y]) (h1.below T0)
  rw [fstV_kO] at h3
  clear h h1
  generalize kO (fnd y L) = k at *
  generalize (fnd y L).isSome = s at *
  go_enter Try.func19, Try.ntmps19
  go_wp2_with (first
    | (go_at_call 37; (with_reducible refine h2.mono ?_); rintro e w1 ⟨rfl, rfl⟩)
    | (go_at_call 44; (with_reducible refine h3.mono ?_); rintro e w2 ⟨rfl, hb⟩))
  go_ret2
  exact ⟨rfl, upp T0 (upp hb (up1 _ _))⟩
theorem aug_new (w W : World) (h : Below w.heap.size w W) : Calls Try.prog 9 #[] W fun e w' => ∃ B : Nat, e = .returned (.pointer (some ⟨B, 0, none⟩)) ∧ Aug w w' 0 B [] ∧ Below W.heap.size W w' := by
  have hmm := @run_makeMap Try.prog
  have T := up3 W (.map #[] 0) (.cells (tree none 0) 87) (.cells #[.map (some W.heap.size), .pointer (some ⟨W.heap.size + 1, 0, none⟩)] 39)
  have hM := ((MapU.made W).alloc (.cells (tree none 0) 87)).alloc (.cells #[.map (some W.heap.size), .pointer (some ⟨W.heap.size + 1, 0, none⟩)] 39)
  have b1 := (Box.new (W.alloc (.map #[] 0)) 87 (tree none 0)).alloc (.cells #[.map (some W.heap.size), .pointer (some ⟨W.heap.size + 1, 0, none⟩)] 39)
  have b2 := Box.new ((W.alloc (.map #[] 0)).alloc (.cells (tree none 0) 87)) 39 #[.map (some W.heap.size), .pointer (some ⟨W.heap.size + 1, 0, none⟩)]
  simp only [World.size_alloc] at b1 b2
  go_enter Try.func9, Try.ntmps9
  go_wp2_with (go_at_call 27; (with_reducible refine (new_any _).mono ?_); rintro e w1 ⟨rfl, rfl⟩)
  go_ret
  have hz := h.size
  exact ⟨_, rfl, ⟨W.heap.size, W.heap.size + 1, 0, b2, hM, ⟨none, .nil, 0, b1, rfl, rfl, rfl, rfl, List.Pairwise.nil⟩, ⟨fun a ha => (by cases ha), fun a ha => (by cases ha)⟩, Nat.le_refl _, Nat.le_refl _, by omega, upp h T⟩, T⟩
theorem place_at (i : Int) (hi : Inte i) (h : Aug w W m B L) : Calls Try.prog 40 #[.pointer (some ⟨B, 0, none⟩), eI i] W fun e w' => e = .returned (.tuple #[.agg #[eU ((numL L i).getD 0), eI i], .bool (numL L i).isSome]) ∧ Below W.heap.size W w' := by
  obtain ⟨Bm, Bt, nn, h1, h2, h3, h4, h5, h6, h7, h8⟩ := h
  have T0 := up1 W (.cells #[eU 0, eI 0] 59)
  have bR := Box.new W 59 #[eU 0, eI 0]
  have c0 := (h1.below T0).cell 0
  have hM := h2.below T0
  generalize numL L = F at *
  clear h3 h4
  obtain ⟨W0, hW0⟩ : ∃ v, W.alloc (.cells #[eU 0, eI 0] 59) = v := ⟨_, rfl⟩
  rw [hW0] at T0 bR c0 hM
  obtain ⟨d0, d1⟩ := kyC (k := (0, 0)) bR
  have f0 := bR.thaw 0
  have f1 := bR.thaw 1
  have l0 := bR.lt
  go_enter Try.func40, Try.ntmps40
  go_wp2_with (at_lookup; refine look_u rfl _ _ rfl hM rfl i rfl hi ?_)
  obtain ⟨e0, e1⟩ := kyC (keyset (w := W) (k := (0, 0)) (k' := ((F i).getD 0, i)) bR)
  exact bodyPost_ret (v := .tuple #[.agg #[eU ((F i).getD 0), eI i], .bool (F i).isSome]) (by simp [results, Try.results40, go_sem, e0, e1]) rfl ⟨rfl, below_key (k := ((F i).getD 0, i)) T0 (Nat.le_refl _)⟩
end
end Go.Proofs.Ytcpienpkpodfmaa
