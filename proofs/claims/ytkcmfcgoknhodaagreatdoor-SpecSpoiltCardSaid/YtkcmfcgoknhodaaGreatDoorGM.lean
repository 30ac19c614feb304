/- What the program's own Dot answers. Conditions: words; rows as long as an int can count. What both calls of Dot answer, rows of whatever length. Conditions: words; rows as long as an int can count. -/
import Derived.Test.YtkcmfcgoknhodaaGreatDoorGC
import Derived.Test.YtkcmfcgoknhodaaGreatDoorGA
import Derived.WalkLawsBesides
import Derived.Deep.RegionHeld3
import Derived.LoopTactic
import Derived.Deep.RegionWith
import Derived.Deep.CutRange
namespace Go.Proofs.YtkcmfcgoknhodaaGreatDoor
open Go.RowKit W
set_option linter.unusedVariables false
set_option maxRecDepth 100000 in
set_option maxHeartbeats 8000000 in
theorem Dot_pos (f g : Nat → Int) (n la ca lb cb ba oa bb ob : Nat) (w : World) (hn : n = min la lb) (hla : la ≤ 9223372036854775807) (hlb : lb ≤ 9223372036854775807)
    (hf : ∀ j, j < n → Word (f j)) (hg : ∀ j, j < n → Word (g j)) (hba : ba < w.heap.size) (hbb : bb < w.heap.size)
    (cf : ∀ j, j < n → w.cell? ⟨ba, oa + j, none⟩ = some (.int .u64 (f j))) (cg : ∀ j, j < n → w.cell? ⟨bb, ob + j, none⟩ = some (.int .u64 (g j))) :
    Calls Tryz.prog 26 #[.slice (some ⟨ba, oa, none⟩) la ca, .slice (some ⟨bb, ob, none⟩) lb cb] w fun e w' =>
      e = .returned (.tuple #[.agg #[.int .u64 (sH (S f g n)), .int .u64 (sL (S f g n))], .int .i64 (sE (S f g n))]) ∧ Below w.heap.size w w' := by
  have hcf := Lib.hid cf
  have hcg := Lib.hid cg
  have hmono := Lib.hid (S_mono hf hg)
  have hf' := Lib.hid hf
  have hg' := Lib.hid hg
  clear cf cg hf hg
  have hcase : (n = la ∧ la ≤ lb) ∨ (n = lb ∧ lb < la) := by omega
  clear hn
  rcases hcase with ⟨rfl, hle⟩ | ⟨rfl, hle⟩
  all_goals
    go_enter Tryz.func26, Tryz.ntmps26
    go_wp2
    go_loopw [14] (fun s14 wr => ∃ k : Nat, k ≤ n ∧ s14 = .int .i64 k ∧ S f g k < 340282366920938463463374607431768211456 ∧ Own wr (w.heap.size + 1) (S f g k / 18446744073709551616) (S f g k % 18446744073709551616) ∧ Own wr w.heap.size 0 0 ∧ Below w.heap.size w wr) (fun s14 _ => n - (intOf s14).toNat)
    case atStart => exact ⟨0, Nat.zero_le _, rfl, by unfold S; omega, by have := Own.new (w.alloc (.cells #[.int .u64 0, .int .u64 0] 38)) 0 0; simpa [S] using this, (Own.new w 0 0).alloc _, up2 _ _ _⟩
    case round =>
      obtain ⟨k, hk, rfl, hS, HA, HB, T⟩ := hrel
      by_cases hlt : k < n
      · have ca := (T.cell (p := ⟨ba, oa + k, none⟩) hba).trans (hcf.out k hlt)
        have cb := (T.cell (p := ⟨bb, ob + k, none⟩) hbb).trans (hcg.out k hlt)
        have wf := hf'.out k hlt
        have wg := hg'.out k hlt
        have hSk := Lib.hid (show S f g (k + 1) = S f g k + f k * g k from rfl)
        have hm0 := (hmono.out k hk).1
        obtain ⟨e1, e2, e3⟩ := p_s (S f g k) (f k) (g k)
        have hP := fun w => Plus_any (S f g k / 18446744073709551616) (S f g k % 18446744073709551616) (xH (f k) (g k)) (xL (f k) (g k)) w (by unfold Word; omega) (by unfold Word; omega) (xH_word wf wg) (xL_word _ _)
        have hM := fun w => Mul_any (f k) (g k) w wf wg
        rw [e1, e2, e3, ← hSk.out] at hP
        clear e1 e2 e3
        obtain ⟨sh, esh⟩ : ∃ x, S f g k / 18446744073709551616 = x := ⟨_, rfl⟩
        obtain ⟨sl, esl⟩ : ∃ x, S f g k % 18446744073709551616 = x := ⟨_, rfl⟩
        rw [esh, esl] at HA hP
        clear esh esl
        obtain ⟨⟨xA, yA, zA⟩, fA, gA⟩ := id HA
        obtain ⟨⟨xB, yB, zB⟩, fB, gB⟩ := id HB
        have i1 : (k : Int) < (n : Int) := by omega
        have i2 : (0 : Int) ≤ (k : Int) := by omega
        try (have i4 : (k : Int) < (lb : Int) := by omega)
        try (have i3 : (k : Int) < (la : Int) := by omega)
        go_upto_region 6 with fail
        go_cut [8] from 15 to 35 (fun s8 wx => s8 = .int .i64 (sE (S f g (k + 1))) ∧ Own wx (w.heap.size + 1) (sH (S f g (k + 1))) (sL (S f g (k + 1))) ∧ Own wx w.heap.size 0 0 ∧ Below w.heap.size w wx)
        case first =>
          go_region_with (first
            | (go_at_call 45; (with_reducible refine (hM _).mono ?_); rintro e w1 ⟨rfl, hb⟩; (first | replace hb := undrew hb | replace hb := undrewN hb | skip); have ca := (hb.cell (p := ⟨ba, oa + k, none⟩) (Nat.lt_of_lt_of_le hba T.size)).trans ca; have cb := (hb.cell (p := ⟨bb, ob + k, none⟩) (Nat.lt_of_lt_of_le hbb T.size)).trans cb; replace HA := HA.below hb; replace HB := HB.below hb; replace T := up T hb T.size; clear hb; obtain ⟨⟨xA, yA, zA⟩, fA, gA⟩ := id HA; obtain ⟨⟨xB, yB, zB⟩, fB, gB⟩ := id HB)
            | (go_at_call 44; (with_reducible refine (hP _).mono ?_); rintro e w1 ⟨rfl, hb⟩; (first | replace hb := undrew hb | replace hb := undrewN hb | skip); have ca := (hb.cell (p := ⟨ba, oa + k, none⟩) (Nat.lt_of_lt_of_le hba T.size)).trans ca; have cb := (hb.cell (p := ⟨bb, ob + k, none⟩) (Nat.lt_of_lt_of_le hbb T.size)).trans cb; replace HA := HA.below hb; replace HB := HB.below hb; replace T := up T hb T.size; clear hb; obtain ⟨⟨xA, yA, zA⟩, fA, gA⟩ := id HA; obtain ⟨⟨xB, yB, zB⟩, fB, gB⟩ := id HB))
          all_goals
            go_wp2_with fail
            go_meet
            exact ⟨rfl, HA.store _ _, (HB.setNe (by simp) _).setNe (by simp) _, (T.setCell (by simp) _).setCell (by simp) _⟩
        case rest =>
          clear HA HB T xA yA zA fA gA xB yB zB fB gB hP hM ca cb
          obtain ⟨rfl, HA, HB, T⟩ := hcut
          by_cases hS2 : S f g (k + 1) < 340282366920938463463374607431768211456
          · obtain ⟨e1, e2, e3⟩ := s_ok hS2
            rw [e2, e3] at HA
            rw [e1]
            clear e1 e2 e3
            obtain ⟨⟨xA, yA, zA⟩, fA, gA⟩ := id HA
            obtain ⟨⟨xB, yB, zB⟩, fB, gB⟩ := id HB
            go_wp2
            go_roundw
            case rel => exact ⟨k + 1, by omega, by go_num, hS2, HA, HB, T⟩
            case measure => simp [intOf]; omega
          · have hfin : sE (S f g n) = 10 ∧ sH (S f g n) = 0 ∧ sL (S f g n) = 0 := by
              have := (hmono.out (k + 1) hlt).2 (n - (k + 1)) (by omega)
              rw [show k + 1 + (n - (k + 1)) = n by omega] at this
              exact s_no (by omega)
            obtain ⟨e1, e2, e3⟩ := s_no hS2
            rw [e2, e3] at HA
            rw [e1]
            clear e1 e2 e3
            obtain ⟨⟨xA, yA, zA⟩, fA, gA⟩ := id HA
            obtain ⟨⟨xB, yB, zB⟩, fB, gB⟩ := id HB
            have hfin' := Lib.hid hfin
            clear hfin
            go_wp2
            exact bodyPost_ret (v := .tuple #[.agg #[.int .u64 0, .int .u64 0], .int .i64 10]) (by simp [results, Tryz.results26, go_sem, yB, zB]) rfl ⟨by rw [hfin'.out.1, hfin'.out.2.1, hfin'.out.2.2], (T.setCell (by simp) _).setCell (by simp) _⟩
      · obtain rfl : k = n := by omega
        obtain ⟨⟨xA, yA, zA⟩, fA, gA⟩ := id HA
        obtain ⟨⟨xB, yB, zB⟩, fB, gB⟩ := id HB
        go_wp2
        exact bodyPost_ret (v := .tuple #[.agg #[.int .u64 (S f g k / 18446744073709551616), .int .u64 (S f g k % 18446744073709551616)], .int .i64 0]) (by simp [results, Tryz.results26, go_sem, yB, zB]) rfl ⟨by rw [(s_ok hS).1, (s_ok hS).2.1, (s_ok hS).2.2], (T.setCell (by simp) _).setCell (by simp) _⟩
end Go.Proofs.YtkcmfcgoknhodaaGreatDoor
namespace Go.Proofs.YtkcmfcgoknhodaaGreatDoor
open Go.RowKit W
set_option linter.unusedVariables false
/-- A row of n words f 0, f 1, .. at an address. -/
def Row (w : World) (ad : Option Addr) (n : Nat) (f : Nat → Int) : Prop := n = 0 ∨ ∃ b o, ad = some ⟨b, o, none⟩ ∧ b < w.heap.size ∧ ∀ j, j < n → w.cell? ⟨b, o + j, none⟩ = some (.int .u64 (f j))
theorem Row.below {W w : World} {ad : Option Addr} {n : Nat} {f : Nat → Int} (h : Row W ad n f) (hb : Below W.heap.size W w) : Row w ad n f := by
  rcases h with h | ⟨b, o, h1, h2, h3⟩
  · exact .inl h
  · exact .inr ⟨b, o, h1, Nat.lt_of_lt_of_le h2 hb.size, fun j hj => (hb.cell (p := ⟨b, o + j, none⟩) h2).trans (h3 j hj)⟩
theorem Row.alloc {w : World} {ad : Option Addr} {n : Nat} {f : Nat → Int} (h : Row w ad n f) (x : Obj) : Row (w.alloc x) ad n f := h.below (up1 w x)

theorem Dot_zero (ad bd : Option Addr) (la ca lb cb : Nat) (w : World) (hla : la ≤ 9223372036854775807) (hlb : lb ≤ 9223372036854775807) (h : la = 0 ∨ lb = 0) :
    Calls Tryz.prog 26 #[.slice ad la ca, .slice bd lb cb] w fun e w' => e = .returned (.tuple #[.agg #[.int .u64 0, .int .u64 0], .int .i64 0]) ∧ Below w.heap.size w w' := by
  by_cases h1 : la = 0
  · subst h1
    clear h
    go_enter Tryz.func26, Tryz.ntmps26
    go_wp2
    refine wp_loop_rounds 1 ?_
    rw [rounds_succ]
    go_wp2
    exact bodyPost_ret (v := .tuple #[.agg #[.int .u64 0, .int .u64 0], .int .i64 0]) (by simp [results, Tryz.results26, go_sem]) rfl ⟨rfl, up2 _ _ _⟩
  · obtain rfl : lb = 0 := by omega
    clear h
    have h2 : 0 < la := by omega
    go_enter Tryz.func26, Tryz.ntmps26
    go_wp2
    refine wp_loop_rounds 1 ?_
    rw [rounds_succ]
    go_wp2
    exact bodyPost_ret (v := .tuple #[.agg #[.int .u64 0, .int .u64 0], .int .i64 0]) (by simp [results, Tryz.results26, go_sem]) rfl ⟨rfl, up2 _ _ _⟩
theorem Dot_any (f g : Nat → Int) (ad bd : Option Addr) (la ca lb cb : Nat) (w : World) (hla : la ≤ 9223372036854775807) (hlb : lb ≤ 9223372036854775807) (hf : ∀ j, j < la → Word (f j)) (hg : ∀ j, j < lb → Word (g j)) (ra : Row w ad la f) (rb : Row w bd lb g) :
    Calls Tryz.prog 26 #[.slice ad la ca, .slice bd lb cb] w fun e w' =>
      e = .returned (.tuple #[.agg #[.int .u64 (sH (S f g (min la lb))), .int .u64 (sL (S f g (min la lb)))], .int .i64 (sE (S f g (min la lb)))]) ∧ Below w.heap.size w w' := by
  by_cases h : la = 0 ∨ lb = 0
  · have e : min la lb = 0 := by omega
    rw [e]
    exact Dot_zero ad bd la ca lb cb w hla hlb h
  · rcases ra with ra | ⟨ba, oa, rfl, h1, h2⟩
    · omega
    · rcases rb with rb | ⟨bb, ob, rfl, h3, h4⟩
      · omega
      · exact Dot_pos f g _ la ca lb cb ba oa bb ob w rfl hla hlb (fun j hj => hf j (by omega)) (fun j hj => hg j (by omega)) h1 h3 (fun j hj => h2 j (by omega)) (fun j hj => h4 j (by omega))
end Go.Proofs.YtkcmfcgoknhodaaGreatDoor
