/- The chapter's example holds. -/
import Derived.Test.YtjfpemkdidoacaaUE
namespace Go.Proofs.Ytjfpemkdidoacaa
open Go.RowKit Go.Shelf
set_option linter.unusedVariables false
/-- A tree of the call's own, and what lay before. -/
def AwS (w W : World) (B : Nat) (t : Tr) (n : Int) : Prop := ∃ p : Pt, Box W B (tree p n) 57 ∧ Tre W p t ∧ w.heap.size ≤ B ∧ Below w.heap.size w W
def OW (w W : World) (B : Nat) (L : List It) : Prop := Ob W B L ∧ w.heap.size ≤ B ∧ Below w.heap.size w W
theorem OW.below {w W W' : World} {B : Nat} {L : List It} (h : OW w W B L) (hb : Below W.heap.size W W') : OW w W' B L := ⟨h.1.below hb, h.2.1, upp h.2.2 hb⟩
theorem aw_put {w W : World} {B : Nat} {t : Tr} {n : Int} (h : AwS w W B t n) (x : It) (hx : Word x.1.1 ∧ Inte x.1.2 ∧ Word x.2) (hg : (t.get x.1).isSome = false) (hn : IntKind.i64.wrap (n + 1) = n + 1) :
    Calls Try.prog 13 #[.pointer (some ⟨B, 0, none⟩), ky x.1, eU x.2] W fun e w' => e = .returned (eI 0) ∧ AwS w w' B ((t.put x).tint false) (n + 1) := by
  obtain ⟨p, h1, h2, h3, h4⟩ := h
  exact (put_new B p n t x hx W h1 h2 hg hn).mono fun e w' ⟨e1, p', e2, e3, e4⟩ => ⟨e1, p', e2, e3, h3, h4.trans (e4.below h3 h4.size)⟩
abbrev xA : It := ((5, 1), 7)
abbrev xB : It := ((3, 2), 9)
abbrev xC : It := ((5, 0), 8)
abbrev t1 : Tr := .nd xA false .nil .nil
abbrev t2 : Tr := .nd xA false (.nd xB true .nil .nil) .nil
abbrev t3 : Tr := .nd xC false (.nd xB false .nil .nil) (.nd xA false .nil .nil)
theorem t1_eq : (Tr.put xA .nil).tint false = t1 := rfl
theorem t2_eq : (Tr.put xB t1).tint false = t2 := rfl
theorem t3_eq : (Tr.put xC t2).tint false = t3 := rfl
abbrev L3 : List It := [xB, xC, xA]
theorem wW (n : Int) (h : 0 ≤ n ∧ n < 100) : Word n := ⟨h.1, by omega⟩
theorem wI (n : Int) (h : 0 ≤ n ∧ n < 100) : Inte n := ⟨by omega, by omega⟩
theorem aw_1 {w W : World} {B : Nat} (h : OW w W B []) : Calls Try.prog 13 #[.pointer (some ⟨B, 0, none⟩), .agg #[.int .u64 5, .int .i64 1], .int .u64 7] W fun e w' => e = .returned (eI 0) ∧ AwS w w' B t1 1 := by
  obtain ⟨⟨p, t, k, h1, h2, h3, h4, h5, h6⟩, h7, h8⟩ := h
  have : t = .nil := by cases t with
    | nil => rfl
    | nd m r a b => exact absurd h5 (Tr.nd_items_ne _ _ _ _)
  subst this
  have hh := aw_put (t := .nil) (n := 0) (w := w) (B := B) ⟨p, h1, h2, h7, h8⟩ xA ⟨wW 5 (by omega), wI 1 (by omega), wW 7 (by omega)⟩ rfl (by decide)
  rw [t1_eq] at hh
  exact hh
theorem aw_2 {w W : World} {B : Nat} (h : AwS w W B t1 1) : Calls Try.prog 13 #[.pointer (some ⟨B, 0, none⟩), .agg #[.int .u64 3, .int .i64 2], .int .u64 9] W fun e w' => e = .returned (eI 0) ∧ AwS w w' B t2 2 := by
  have hh := aw_put h xB ⟨wW 3 (by omega), wI 2 (by omega), wW 9 (by omega)⟩ rfl (by decide)
  rw [t2_eq] at hh
  exact hh
theorem aw_3 {w W : World} {B : Nat} (h : AwS w W B t2 2) : Calls Try.prog 13 #[.pointer (some ⟨B, 0, none⟩), .agg #[.int .u64 5, .int .i64 0], .int .u64 8] W fun e w' => e = .returned (eI 0) ∧ AwS w w' B t3 3 := by
  have hh := aw_put h xC ⟨wW 5 (by omega), wI 0 (by omega), wW 8 (by omega)⟩ rfl (by decide)
  rw [t3_eq] at hh
  exact hh
theorem t3_LL : Tr.LL 2 t3 := Tr.LL.mkBlack (Tr.LL.mkBlack (h := 0) rfl rfl rfl) (Tr.LL.mkBlack (h := 0) rfl rfl rfl) rfl
theorem aw_ob {w W : World} {B : Nat} (h : AwS w W B t3 3) : OW w W B L3 := by
  obtain ⟨p, h1, h2, h3, h4⟩ := h
  refine ⟨⟨p, t3, 2, h1, h2, t3_LL, rfl, rfl, ?_⟩, h3, h4⟩
  simp [Rise, kLt]
theorem aw_4 {w W : World} {B : Nat} (h : AwS w W B t3 3) : Calls Try.prog 13 #[.pointer (some ⟨B, 0, none⟩), .agg #[.int .u64 5, .int .i64 0], .int .u64 1] W fun e w' => e = .returned (eI 80) ∧ AwS w w' B t3 3 := by
  obtain ⟨p, h1, h2, h3, h4⟩ := h
  exact (put_twice B p 3 t3 ((5, 0), 1) W h1 h2 rfl).mono fun e w' ⟨e1, e2⟩ => ⟨e1, p, h1.below e2, h2.below e2, h3, upp h4 e2⟩
theorem aw_5 {w W : World} {B : Nat} (h : AwS w W B t3 3) : Calls Try.prog 14 #[.pointer (some ⟨B, 0, none⟩), .agg #[.int .u64 4, .int .i64 0]] W fun e w' => e = .returned (eI 81) ∧ AwS w w' B t3 3 := by
  obtain ⟨p, h1, h2, h3, h4⟩ := h
  exact (drop_absent B p 3 t3 (4, 0) W h1 h2 rfl).mono fun e w' ⟨e1, e2⟩ => ⟨e1, p, h1.below e2, h2.below e2, h3, upp h4 e2⟩
theorem aw_hgt {w W : World} {B : Nat} (h : AwS w W B t3 3) : Calls Try.prog 28 #[.pointer (some ⟨B, 0, none⟩)] W fun e w' => e = .returned (eI 2) ∧ Below W.heap.size W w' := by
  obtain ⟨p, h1, h2, h3, h4⟩ := h
  exact heightT_any (.pointer (some ⟨B, 0, none⟩)) p t3 W (top_any B p _ W h1) (by decide) h2
theorem AwS.below {w W W' : World} {B : Nat} {t : Tr} {n : Int} (h : AwS w W B t n) (hb : Below W.heap.size W W') : AwS w W' B t n := by
  obtain ⟨p, h1, h2, h3, h4⟩ := h
  exact ⟨p, h1.below hb, h2.below hb, h3, upp h4 hb⟩
theorem AwS.alloc {w W : World} {B : Nat} {t : Tr} {n : Int} (h : AwS w W B t n) (o : Obj) : AwS w (W.alloc o) B t n := h.below (up1 W o)
set_option maxRecDepth 100000 in
set_option maxHeartbeats 4000000 in
theorem awake_any (w : World) : Calls Try.prog 34 #[] w fun e w' => e = .returned (.bool true) ∧ Below w.heap.size w w' := by
  have hmf : ∀ (fn : Fn) (first cap : Array Value) (w : World), (Instr.makeFunc fn first cap).run Try.prog w = .ok (.func fn first cap) w := fun _ _ _ _ => rfl
  have hN := ob_new w
  have hP : ∀ W B, AwS w W B t3 3 → Calls Try.prog 25 #[.pointer (some ⟨B, 0, none⟩)] W fun e w' => e = .returned (.tuple #[.agg #[.int .u64 3, .int .i64 2], .bool true]) ∧ AwS w w' B t3 3 ∧ Below W.heap.size W w' := fun W B h =>
    (ob_first (aw_ob h).1).mono fun e w' ⟨e1, e2⟩ => ⟨e1, h.below e2, e2⟩
  have hU4 : ∀ W B, AwS w W B t3 3 → Calls Try.prog 19 #[.pointer (some ⟨B, 0, none⟩), .int .u64 4] W fun e w' => e = .returned (.tuple #[.int .u64 9, .bool true]) ∧ AwS w w' B t3 3 ∧ Below W.heap.size W w' := fun W B h =>
    (ob_upto 4 (aw_ob h).1).mono fun e w' ⟨e1, e2⟩ => ⟨e1, h.below e2, e2⟩
  have hU2 : ∀ W B, AwS w W B t3 3 → Calls Try.prog 19 #[.pointer (some ⟨B, 0, none⟩), .int .u64 2] W fun e w' => e = .returned (.tuple #[.int .u64 0, .bool false]) ∧ AwS w w' B t3 3 ∧ Below W.heap.size W w' := fun W B h =>
    (ob_upto 2 (aw_ob h).1).mono fun e w' ⟨e1, e2⟩ => ⟨e1, h.below e2, e2⟩
  have hAll : ∀ W B, AwS w W B t3 3 → Calls Try.prog 21 #[.pointer (some ⟨B, 0, none⟩)] W fun e w' => e = .returned (.tuple #[.int .u64 7, .bool true]) ∧ W = w' := fun W B h => ob_all (aw_ob h).1
  have hF : ∀ W B, AwS w W B t3 3 → Calls Try.prog 22 #[.pointer (some ⟨B, 0, none⟩), .func (.func 23) #[.int .u64 8] #[]] W fun e w' => e = .returned (.tuple #[.agg #[.int .u64 5, .int .i64 0], .bool true]) ∧ AwS w w' B t3 3 ∧ Below W.heap.size W w' := fun W B h =>
    (ob_find 8 (aw_ob h).1).mono fun e w' ⟨e1, e2⟩ => ⟨e1, h.below e2, e2⟩
  have hLen : ∀ W B, AwS w W B t3 3 → Calls Try.prog 27 #[.pointer (some ⟨B, 0, none⟩)] W fun e w' => e = .returned (.int .i64 3) ∧ W = w' := fun W B h => ob_len (aw_ob h).1
  have hH : ∀ W B, AwS w W B t3 3 → Calls Try.prog 28 #[.pointer (some ⟨B, 0, none⟩)] W fun e w' => e = .returned (.int .i64 2) ∧ AwS w w' B t3 3 ∧ Below W.heap.size W w' := fun W B h => (aw_hgt h).mono fun e w' ⟨e1, e2⟩ => ⟨e1, h.below e2, e2⟩
  have hW : ∀ W B, AwS w W B t3 3 → Calls Try.prog 29 #[.pointer (some ⟨B, 0, none⟩), .func (.func 30) #[] #[]] W fun e w' => e = .returned (.bool true) ∧ AwS w w' B t3 3 ∧ Below W.heap.size W w' := fun W B h =>
    (ob_well (by decide) (aw_ob h).1).mono fun e w' ⟨e1, e2⟩ => ⟨e1, h.below e2, e2⟩
  go_enter Try.func34, Try.ntmps34
  go_upto_region 4 with (first
    | (go_at_call 10; (with_reducible refine hN.mono ?_); rintro e w1 ⟨B, rfl, hB, hO, hb1⟩; have H0 : OW w w1 B [] := ⟨hO, hB, hb1⟩)
    | (go_at_call 13; (with_reducible refine (aw_1 H0).mono ?_); clear H0; rintro e w2 ⟨rfl, H1⟩)
    | (go_at_call 13; (with_reducible refine (aw_2 H1).mono ?_); clear H1; rintro e w3 ⟨rfl, H2⟩)
    | (go_at_call 13; (with_reducible refine (aw_3 H2).mono ?_); clear H2; rintro e w4 ⟨rfl, H3⟩)
    | (go_at_call 13; (with_reducible refine (aw_4 H3).mono ?_); rintro e w5 ⟨rfl, H4⟩; clear H3)
    | (go_at_call 14; (with_reducible refine (aw_5 H4).mono ?_); rintro e w6 ⟨rfl, H5⟩; clear H4))
  go_wp2_with (first
    | (go_at_call 25; (with_reducible refine (hP _ _ H5).mono ?_); rintro e w7 ⟨rfl, H6, hb7⟩; clear H5; have H7 := H6.alloc (.cells #[.int .u64 3, .int .i64 2] 32); have K1 := Box.new w7 32 #[eU 3, eI 2])
    | (go_at_call 19; (with_reducible refine (hU4 _ _ H7).mono ?_); rintro e w8 ⟨rfl, H8, hb8⟩; replace K1 := K1.below hb8; clear H7)
    | (go_at_call 21; (with_reducible refine (hAll _ _ H8).mono ?_); rintro e w8' ⟨rfl, rfl⟩)
    | (go_at_call 19; (with_reducible refine (hU2 _ _ H8).mono ?_); rintro e w9 ⟨rfl, H9, hb9⟩; replace K1 := K1.below hb9; clear H8)
    | (go_at_call 22; (with_reducible refine (hF _ _ H9).mono ?_); rintro e w10 ⟨rfl, H10, hb10⟩; replace K1 := (K1.below hb10).alloc (.cells #[.int .u64 5, .int .i64 0] 32); clear H9; have H11 := H10.alloc (.cells #[.int .u64 5, .int .i64 0] 32); have K2 := Box.new w10 32 #[eU 5, eI 0]; obtain ⟨k0, k1⟩ := kyC (k := (3, 2)) K1; obtain ⟨j0, j1⟩ := kyC (k := (5, 0)) K2)
    | (go_at_call 27; (with_reducible refine (hLen _ _ H11).mono ?_); rintro e w11 ⟨rfl, rfl⟩)
    | (go_at_call 28; (with_reducible refine (hH _ _ H11).mono ?_); rintro e w12 ⟨rfl, H12, hb12⟩)
    | (go_at_call 29; (with_reducible refine (hW _ _ H12).mono ?_); rintro e w13 ⟨rfl, H13, hb13⟩))
  go_ret
  obtain ⟨_, _, _, _, T⟩ := H13
  exact ⟨rfl, T⟩
end Go.Proofs.Ytjfpemkdidoacaa
