/- What the program's call 'quotient' answers, for both roundings; and Down, Up, Over. No condition but that words are words. -/
import Derived.Test.YtbgccdjkofpiaaaStopW
import Derived.Test.YtbgccdjkofpiaaaDiv
import Derived.Test.YtbgccdjkofpiaaaOwn
import Derived.Deep.CutRange
namespace Go.Proofs.Ytbgccdjkofpiaaa
open Go.RowKit W
set_option linter.unusedVariables false
/-- Block B holds, in its first cell, v. -/
def Cel (w : World) (B : Nat) (v : Value) : Prop := B < w.heap.size ∧ w.cell? ⟨B, 0, none⟩ = some v
theorem Cel.below {W w : World} {B : Nat} {v : Value} (h : Cel W B v) (hb : Below W.heap.size W w) : Cel w B v :=
  ⟨Nat.lt_of_lt_of_le h.1 hb.size, (hb.cell (p := ⟨B, 0, none⟩) h.1).trans h.2⟩
theorem Cel.alloc {w : World} {B : Nat} {v : Value} (h : Cel w B v) (o : Obj) : Cel (w.alloc o) B v := h.below (up1 w o)
theorem Cel.setNe {w : World} {B : Nat} {v : Value} (h : Cel w B v) {a : Addr} (hl : B ≠ a.block) (u : Value) : Cel (w.setCell a u) B v :=
  ⟨by simpa [World.setCell] using h.1, (World.cell?_of_block (a := ⟨B, 0, none⟩) (Below.heap_setCell w a u B hl)).trans h.2⟩
theorem Own.new2 (w : World) (o : Obj) (x y : Int) : Own ((w.alloc o).alloc (.cells #[.int .u64 x, .int .u64 y] 54)) (w.heap.size + 1) x y := by
  have := Own.new (w.alloc o) x y
  simpa using this
theorem Own.lt {w : World} {B : Nat} {x y : Int} (h : Own w B x y) : B < w.heap.size := h.1.1
theorem down1_any (n : Int) (w : World) :
    Calls Try.prog 43 #[.int .u64 n] w fun e w' => e = .returned (.int .u64 0) ∧ Below w.heap.size w w' := by
  go_enter Try.func43, Try.ntmps43
  go_wp2
  go_ret
  exact ⟨rfl, Below.refl _ _⟩
theorem up1_any (n : Int) (w : World) (h0 : 1 ≤ n) (h1 : n < 18446744073709551616) :
    Calls Try.prog 52 #[.int .u64 n] w fun e w' => e = .returned (.int .u64 (n - 1)) ∧ Below w.heap.size w w' := by
  go_enter Try.func52, Try.ntmps52
  go_wp2
  go_ret
  exact ⟨rfl, Below.refl _ _⟩

set_option maxRecDepth 100000 in
set_option maxHeartbeats 2000000 in
theorem quotD_of (a b c d H L Q R E z : Int) (w : World) (ha : Word a) (hb' : Word b) (c0 : 1 ≤ c)
    (hM : ∀ w, Calls Try.prog 41 #[.int .u64 a, .int .u64 b] w fun e w' => e = .returned (.agg #[.int .u64 (xH a b), .int .u64 (xL a b)]) ∧ Below w.heap.size w w')
    (hF : ∀ w, Calls Try.prog 43 #[.int .u64 c] w fun e w' => e = .returned (.int .u64 d) ∧ Below w.heap.size w w')
    (hP : ∀ w, Calls Try.prog 45 #[.agg #[.int .u64 (xH a b), .int .u64 (xL a b)], .agg #[.int .u64 0, .int .u64 d]] w fun e w' => e = .returned (.tuple #[.agg #[.int .u64 H, .int .u64 L], .int .i64 0]) ∧ Below w.heap.size w w')
    (hD : ∀ w, Calls Try.prog 56 #[.agg #[.int .u64 H, .int .u64 L], .int .u64 c] w fun e w' => e = .returned (.tuple #[.int .u64 Q, .int .u64 R, .int .i64 E]) ∧ Below w.heap.size w w') (hE : Hid ((E = 10 ∧ z = 4611686018427387904) ∨ (E = 0 ∧ ∀ w, Calls Try.prog 47 #[.int .u64 Q, .int .u64 4611686018427387904, .func (.func 48) #[] #[]] w fun e w' => e = .returned (.int .u64 z) ∧ Below w.heap.size w w'))) :
    Calls Try.prog 42 #[.int .u64 a, .int .u64 b, .int .u64 c, .agg #[.func (.func 43) #[] #[]]] w fun e w' => e = .returned (.tuple #[.int .u64 z, .int .i64 0]) ∧ Below w.heap.size w w' := by
  have hc : (c == 0) = false := by simp; omega
  have T := up1 w (.cells #[.func (.func 43) #[] #[]] 59)
  have HF : Cel (w.alloc (.cells #[.func (.func 43) #[] #[]] 59)) w.heap.size (.func (.func 43) #[] #[]) := ⟨by simp, by simp⟩
  obtain ⟨xF, yF⟩ := id HF
  obtain ⟨xh, exh⟩ : ∃ x, xH a b = x := ⟨_, rfl⟩
  obtain ⟨xl, exl⟩ : ∃ x, xL a b = x := ⟨_, rfl⟩
  rw [exh, exl] at hM hP
  clear exh exl
  go_enter Try.func42, Try.ntmps42
  go_upto_region 3 with (fail)
  go_cut [10] from 17 (fun s10 wx => ∃ M : Nat, s10 = .pointer (some ⟨M, 0, none⟩) ∧ Has wx M H L ∧ Below w.heap.size w wx)
  case first =>
    go_region_held3 (fun w' => w'.cell? ⟨w.heap.size, 0, none⟩ = some (.func (.func 43) #[] #[]))
      (first | exact HF.2 | exact (HF.alloc _).2 | exact ((HF.setNe (by have := HN.lt; have := hN; simp; omega) _).setNe (by simp; omega) _).2 | go_keep)
      (first
        | (go_at_call 41; (with_reducible refine (hM _).mono ?_); rintro e w1 ⟨rfl, hb⟩; (first | replace hb := undrew hb | replace hb := undrewN hb | skip); (first | (have HN := (Own.new2 _ _ 0 0).below hb; have hN : w.heap.size ≤ w.heap.size + 1 := Nat.le_succ _; replace T := up (T.alloc T.size _) hb (T.alloc T.size _).size; replace HF := (HF.alloc _).below hb) | (have HN := (Own.new _ 0 0).below hb; have hN := T.size; replace T := up (T.alloc T.size _) hb (T.alloc T.size _).size; replace HF := (HF.alloc _).below hb) | (replace HN := HN.below hb; replace T := up T hb T.size; replace HF := HF.below hb) | (replace T := up T hb T.size; replace HF := HF.below hb)); (try (obtain ⟨⟨xN, yN, zN⟩, fN, gN⟩ := id HN)); obtain ⟨xF, yF⟩ := id HF; clear hb)
        | (go_at_call 43; (with_reducible refine (hF _).mono ?_); rintro e w2 ⟨rfl, hb⟩; (first | replace hb := undrew hb | replace hb := undrewN hb | skip); (first | (have HN := (Own.new2 _ _ 0 0).below hb; have hN : w.heap.size ≤ w.heap.size + 1 := Nat.le_succ _; replace T := up (T.alloc T.size _) hb (T.alloc T.size _).size; replace HF := (HF.alloc _).below hb) | (have HN := (Own.new _ 0 0).below hb; have hN := T.size; replace T := up (T.alloc T.size _) hb (T.alloc T.size _).size; replace HF := (HF.alloc _).below hb) | (replace HN := HN.below hb; replace T := up T hb T.size; replace HF := HF.below hb) | (replace T := up T hb T.size; replace HF := HF.below hb)); (try (obtain ⟨⟨xN, yN, zN⟩, fN, gN⟩ := id HN)); obtain ⟨xF, yF⟩ := id HF; clear hb)
        | (go_at_call 44; (with_reducible refine (word_any _ _).mono ?_); rintro e w3 ⟨rfl, hb⟩; (first | replace hb := undrew hb | replace hb := undrewN hb | skip); (first | (have HN := (Own.new2 _ _ 0 0).below hb; have hN : w.heap.size ≤ w.heap.size + 1 := Nat.le_succ _; replace T := up (T.alloc T.size _) hb (T.alloc T.size _).size; replace HF := (HF.alloc _).below hb) | (have HN := (Own.new _ 0 0).below hb; have hN := T.size; replace T := up (T.alloc T.size _) hb (T.alloc T.size _).size; replace HF := (HF.alloc _).below hb) | (replace HN := HN.below hb; replace T := up T hb T.size; replace HF := HF.below hb) | (replace T := up T hb T.size; replace HF := HF.below hb)); (try (obtain ⟨⟨xN, yN, zN⟩, fN, gN⟩ := id HN)); obtain ⟨xF, yF⟩ := id HF; clear hb)
        | (go_at_call 45; (with_reducible refine (hP _).mono ?_); rintro e w4 ⟨rfl, hb⟩; (first | replace hb := undrew hb | replace hb := undrewN hb | skip); (first | (have HN := (Own.new2 _ _ 0 0).below hb; have hN : w.heap.size ≤ w.heap.size + 1 := Nat.le_succ _; replace T := up (T.alloc T.size _) hb (T.alloc T.size _).size; replace HF := (HF.alloc _).below hb) | (have HN := (Own.new _ 0 0).below hb; have hN := T.size; replace T := up (T.alloc T.size _) hb (T.alloc T.size _).size; replace HF := (HF.alloc _).below hb) | (replace HN := HN.below hb; replace T := up T hb T.size; replace HF := HF.below hb) | (replace T := up T hb T.size; replace HF := HF.below hb)); (try (obtain ⟨⟨xN, yN, zN⟩, fN, gN⟩ := id HN)); obtain ⟨xF, yF⟩ := id HF; clear hb))
    all_goals
      go_wp2_with fail
      go_meet
      first
        | exact ⟨_, rfl, Has.new _ _ _, T.alloc T.size _⟩
        | exact ⟨_, rfl, (HN.store H L).1, (T.setCell hN _).setCell hN _⟩
  case rest =>
    clear T HF xF yF hM hF hP
    obtain ⟨M, rfl, HQ, T⟩ := hcut
    obtain ⟨xQ, yQ, zQ⟩ := id HQ
    rcases hE.out with ⟨rfl, rfl⟩ | ⟨rfl, hS⟩
    · clear hE
      go_wp2_with (go_at_call 56; (with_reducible refine (hD _).mono ?_); rintro e w5 ⟨rfl, hb5⟩)
      go_ret2
      exact ⟨rfl, up T hb5 T.size⟩
    · clear hE
      go_wp2_with (first
        | (go_at_call 56; (with_reducible refine (hD _).mono ?_); rintro e w5 ⟨rfl, hb5⟩)
        | (go_at_call 47; (with_reducible refine (hS _).mono ?_); rintro e w6 ⟨rfl, hb6⟩))
      go_ret2
      exact ⟨rfl, up (up T hb5 T.size) hb6 (up T hb5 T.size).size⟩

set_option maxRecDepth 100000 in
set_option maxHeartbeats 2000000 in
theorem quotU_of (a b c d H L Q R E z : Int) (w : World) (ha : Word a) (hb' : Word b) (c0 : 1 ≤ c)
    (hM : ∀ w, Calls Try.prog 41 #[.int .u64 a, .int .u64 b] w fun e w' => e = .returned (.agg #[.int .u64 (xH a b), .int .u64 (xL a b)]) ∧ Below w.heap.size w w')
    (hF : ∀ w, Calls Try.prog 52 #[.int .u64 c] w fun e w' => e = .returned (.int .u64 d) ∧ Below w.heap.size w w')
    (hP : ∀ w, Calls Try.prog 45 #[.agg #[.int .u64 (xH a b), .int .u64 (xL a b)], .agg #[.int .u64 0, .int .u64 d]] w fun e w' => e = .returned (.tuple #[.agg #[.int .u64 H, .int .u64 L], .int .i64 0]) ∧ Below w.heap.size w w')
    (hD : ∀ w, Calls Try.prog 56 #[.agg #[.int .u64 H, .int .u64 L], .int .u64 c] w fun e w' => e = .returned (.tuple #[.int .u64 Q, .int .u64 R, .int .i64 E]) ∧ Below w.heap.size w w') (hE : Hid ((E = 10 ∧ z = 4611686018427387904) ∨ (E = 0 ∧ ∀ w, Calls Try.prog 47 #[.int .u64 Q, .int .u64 4611686018427387904, .func (.func 48) #[] #[]] w fun e w' => e = .returned (.int .u64 z) ∧ Below w.heap.size w w'))) :
    Calls Try.prog 42 #[.int .u64 a, .int .u64 b, .int .u64 c, .agg #[.func (.func 52) #[] #[]]] w fun e w' => e = .returned (.tuple #[.int .u64 z, .int .i64 0]) ∧ Below w.heap.size w w' := by
  have hc : (c == 0) = false := by simp; omega
  have T := up1 w (.cells #[.func (.func 52) #[] #[]] 59)
  have HF : Cel (w.alloc (.cells #[.func (.func 52) #[] #[]] 59)) w.heap.size (.func (.func 52) #[] #[]) := ⟨by simp, by simp⟩
  obtain ⟨xF, yF⟩ := id HF
  obtain ⟨xh, exh⟩ : ∃ x, xH a b = x := ⟨_, rfl⟩
  obtain ⟨xl, exl⟩ : ∃ x, xL a b = x := ⟨_, rfl⟩
  rw [exh, exl] at hM hP
  clear exh exl
  go_enter Try.func42, Try.ntmps42
  go_upto_region 3 with (fail)
  go_cut [10] from 17 (fun s10 wx => ∃ M : Nat, s10 = .pointer (some ⟨M, 0, none⟩) ∧ Has wx M H L ∧ Below w.heap.size w wx)
  case first =>
    go_region_held3 (fun w' => w'.cell? ⟨w.heap.size, 0, none⟩ = some (.func (.func 52) #[] #[]))
      (first | exact HF.2 | exact (HF.alloc _).2 | exact ((HF.setNe (by have := HN.lt; have := hN; simp; omega) _).setNe (by simp; omega) _).2 | go_keep)
      (first
        | (go_at_call 41; (with_reducible refine (hM _).mono ?_); rintro e w1 ⟨rfl, hb⟩; (first | replace hb := undrew hb | replace hb := undrewN hb | skip); (first | (have HN := (Own.new2 _ _ 0 0).below hb; have hN : w.heap.size ≤ w.heap.size + 1 := Nat.le_succ _; replace T := up (T.alloc T.size _) hb (T.alloc T.size _).size; replace HF := (HF.alloc _).below hb) | (have HN := (Own.new _ 0 0).below hb; have hN := T.size; replace T := up (T.alloc T.size _) hb (T.alloc T.size _).size; replace HF := (HF.alloc _).below hb) | (replace HN := HN.below hb; replace T := up T hb T.size; replace HF := HF.below hb) | (replace T := up T hb T.size; replace HF := HF.below hb)); (try (obtain ⟨⟨xN, yN, zN⟩, fN, gN⟩ := id HN)); obtain ⟨xF, yF⟩ := id HF; clear hb)
        | (go_at_call 52; (with_reducible refine (hF _).mono ?_); rintro e w2 ⟨rfl, hb⟩; (first | replace hb := undrew hb | replace hb := undrewN hb | skip); (first | (have HN := (Own.new2 _ _ 0 0).below hb; have hN : w.heap.size ≤ w.heap.size + 1 := Nat.le_succ _; replace T := up (T.alloc T.size _) hb (T.alloc T.size _).size; replace HF := (HF.alloc _).below hb) | (have HN := (Own.new _ 0 0).below hb; have hN := T.size; replace T := up (T.alloc T.size _) hb (T.alloc T.size _).size; replace HF := (HF.alloc _).below hb) | (replace HN := HN.below hb; replace T := up T hb T.size; replace HF := HF.below hb) | (replace T := up T hb T.size; replace HF := HF.below hb)); (try (obtain ⟨⟨xN, yN, zN⟩, fN, gN⟩ := id HN)); obtain ⟨xF, yF⟩ := id HF; clear hb)
        | (go_at_call 44; (with_reducible refine (word_any _ _).mono ?_); rintro e w3 ⟨rfl, hb⟩; (first | replace hb := undrew hb | replace hb := undrewN hb | skip); (first | (have HN := (Own.new2 _ _ 0 0).below hb; have hN : w.heap.size ≤ w.heap.size + 1 := Nat.le_succ _; replace T := up (T.alloc T.size _) hb (T.alloc T.size _).size; replace HF := (HF.alloc _).below hb) | (have HN := (Own.new _ 0 0).below hb; have hN := T.size; replace T := up (T.alloc T.size _) hb (T.alloc T.size _).size; replace HF := (HF.alloc _).below hb) | (replace HN := HN.below hb; replace T := up T hb T.size; replace HF := HF.below hb) | (replace T := up T hb T.size; replace HF := HF.below hb)); (try (obtain ⟨⟨xN, yN, zN⟩, fN, gN⟩ := id HN)); obtain ⟨xF, yF⟩ := id HF; clear hb)
        | (go_at_call 45; (with_reducible refine (hP _).mono ?_); rintro e w4 ⟨rfl, hb⟩; (first | replace hb := undrew hb | replace hb := undrewN hb | skip); (first | (have HN := (Own.new2 _ _ 0 0).below hb; have hN : w.heap.size ≤ w.heap.size + 1 := Nat.le_succ _; replace T := up (T.alloc T.size _) hb (T.alloc T.size _).size; replace HF := (HF.alloc _).below hb) | (have HN := (Own.new _ 0 0).below hb; have hN := T.size; replace T := up (T.alloc T.size _) hb (T.alloc T.size _).size; replace HF := (HF.alloc _).below hb) | (replace HN := HN.below hb; replace T := up T hb T.size; replace HF := HF.below hb) | (replace T := up T hb T.size; replace HF := HF.below hb)); (try (obtain ⟨⟨xN, yN, zN⟩, fN, gN⟩ := id HN)); obtain ⟨xF, yF⟩ := id HF; clear hb))
    all_goals
      go_wp2_with fail
      go_meet
      first
        | exact ⟨_, rfl, Has.new _ _ _, T.alloc T.size _⟩
        | exact ⟨_, rfl, (HN.store H L).1, (T.setCell hN _).setCell hN _⟩
  case rest =>
    clear T HF xF yF hM hF hP
    obtain ⟨M, rfl, HQ, T⟩ := hcut
    obtain ⟨xQ, yQ, zQ⟩ := id HQ
    rcases hE.out with ⟨rfl, rfl⟩ | ⟨rfl, hS⟩
    · clear hE
      go_wp2_with (go_at_call 56; (with_reducible refine (hD _).mono ?_); rintro e w5 ⟨rfl, hb5⟩)
      go_ret2
      exact ⟨rfl, up T hb5 T.size⟩
    · clear hE
      go_wp2_with (first
        | (go_at_call 56; (with_reducible refine (hD _).mono ?_); rintro e w5 ⟨rfl, hb5⟩)
        | (go_at_call 47; (with_reducible refine (hS _).mono ?_); rintro e w6 ⟨rfl, hb6⟩))
      go_ret2
      exact ⟨rfl, up (up T hb5 T.size) hb6 (up T hb5 T.size).size⟩
end Go.Proofs.Ytbgccdjkofpiaaa
