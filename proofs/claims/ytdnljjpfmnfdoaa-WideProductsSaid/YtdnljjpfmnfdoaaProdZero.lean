/- The walk of WideProducts at an empty first row, and at rows that are too long, over what its callees answer. -/
import Derived.Test.YtdnljjpfmnfdoaaProdPos
import Derived.Laws.AppendOwnNone
namespace Go.Proofs.Ytdnljjpfmnfdoaa
open Go.RowKit W
set_option linter.unusedVariables false
theorem products_long (a b c d : Int) (ad bd : Option Addr) (la ca lb cb : Nat) (w : World) (h : 20 < la ∨ 20 < lb) (hla : la ≤ 9223372036854775807) (hlb : lb ≤ 9223372036854775807) :
    Calls Try.prog 4 #[.int .u64 a, .int .u64 b, .int .u64 c, .int .u64 d, .slice ad la ca, .slice bd lb cb] w fun e w' => e = .returned (.bool true) ∧ Below w.heap.size w w' := by
  by_cases h1 : 20 < la
  · clear h
    go_enter Try.func4, Try.ntmps4
    go_wp2
    go_ret
    exact ⟨rfl, Below.refl _ _⟩
  · have h2 : 20 < lb := by omega
    have d1 : decide (20 < (la : Int)) = false := by simp; omega
    clear h h1
    go_enter Try.func4, Try.ntmps4
    go_wp2
    go_ret
    exact ⟨rfl, Below.refl _ _⟩

set_option maxHeartbeats 2000000 in
theorem products_nil (f g : Nat → Int) (a b c d p1 p2 fr x1 x2 xe : Int) (bd : Option Addr) (lb cb : Nat) (w : World) (h3 : lb ≤ 20) (rb : Row w bd lb g)
    (D1 : ∀ ad ca w, Row w ad 0 f → Row w bd lb g → Calls Try.prog 18 #[.slice ad ((0 : Nat)) ca, .slice bd lb cb] w fun e w' => e = .returned (.tuple #[.agg #[.int .u64 x1, .int .u64 x2], .int .i64 xe]) ∧ Below w.heap.size w w')
    (D2 : ∀ ad ca w, Row w ad 0 f → Row w bd lb g → Calls Try.prog 19 #[.slice ad ((0 : Nat)) ca, .slice bd lb cb] w fun e w' => e = .returned (.tuple #[.agg #[.int .u64 x1, .int .u64 x2], .int .i64 xe]) ∧ Below w.heap.size w w')
    (M1 : ∀ w, Calls Try.prog 20 #[.int .u64 a, .int .u64 b] w fun e w' => e = .returned (.agg #[.int .u64 p1, .int .u64 p2]) ∧ Below w.heap.size w w') (M2 : ∀ w, Calls Try.prog 21 #[.int .u64 a, .int .u64 b] w fun e w' => e = .returned (.agg #[.int .u64 p1, .int .u64 p2]) ∧ Below w.heap.size w w')
    (F1 : ∀ w, Calls Try.prog 22 #[.int .u64 a, .int .u64 b, .int .u64 c, .int .u64 d] w fun e w' => e = .returned (.int .i64 fr) ∧ Below w.heap.size w w') (F2 : ∀ w, Calls Try.prog 23 #[.int .u64 a, .int .u64 b, .int .u64 c, .int .u64 d] w fun e w' => e = .returned (.int .i64 fr) ∧ Below w.heap.size w w') :
    Calls Try.prog 4 #[.int .u64 a, .int .u64 b, .int .u64 c, .int .u64 d, .slice none 0 0, .slice bd lb cb] w fun e w' => e = .returned (.bool true) ∧ Below w.heap.size w w' := by
  obtain ⟨i0, hi, hz0, hz1, hz2⟩ := info_parts info22
  have hi' := Lib.hid hi
  have hz0' := Lib.hid hz0
  have hz1' := Lib.hid hz1
  have hz2' := Lib.hid hz2
  clear hi hz0 hz1 hz2
  have d2 : decide (20 < (lb : Int)) = false := by simp; omega
  go_enter Try.func4, Try.ntmps4
  go_wp2_with (at_builtin; refine wpList_append_own_none rfl _ _ 37 rfl w.heap.size 22 i0 1 Try.underlying37 hi'.out _ 0 [] rfl (World.ownsRow_lit w #[] 0 (Nat.le_refl _) (by decide) (by simp)) rfl ?_)
  · have hb0 : Below w.heap.size w (w.alloc (.cells #[] 22)) := up1 w _
    have RB := rb.below hb0
    have Z : ∀ w ad, Row w ad 0 f := fun _ _ => .inl rfl
    go_wp2_with (first
      | (go_at_call 18; (with_reducible refine (D1 _ _ _ (Z _ _) RB).mono ?_); rintro e w2 ⟨rfl, hb⟩; have RB2 := (RB.below hb).alloc (.cells #[.int .u64 x1, .int .u64 x2] 24); have HP2 := Has.new w2 x1 x2; have T2 := (up hb0 hb hb0.size).alloc (up hb0 hb hb0.size).size (.cells #[.int .u64 x1, .int .u64 x2] 24))
      | (go_at_call 19; (with_reducible refine (D2 _ _ _ (Z _ _) RB2).mono ?_); rintro e w3 ⟨rfl, hb3⟩; have HP := (HP2.below hb3).alloc (.cells #[.int .u64 x1, .int .u64 x2] 24); have HQ := Has.new w3 x1 x2; have T := (up T2 hb3 T2.size).alloc (up T2 hb3 T2.size).size (.cells #[.int .u64 x1, .int .u64 x2] 24); obtain ⟨xP, yP, zP⟩ := id HP; obtain ⟨xQ, yQ, zQ⟩ := id HQ))
    refine wp_loop_rounds 1 ?_
    rw [rounds_succ]
    go_wp2_with (first
      | (go_at_call 20; (with_reducible refine (M1 _).mono ?_); rintro e w' ⟨rfl, hb⟩; replace HP := HP.below hb; replace HQ := HQ.below hb; replace T := up T hb T.size; clear hb; obtain ⟨xP, yP, zP⟩ := id HP; obtain ⟨xQ, yQ, zQ⟩ := id HQ)
      | (go_at_call 21; (with_reducible refine (M2 _).mono ?_); rintro e w' ⟨rfl, hb⟩; replace HP := HP.below hb; replace HQ := HQ.below hb; replace T := up T hb T.size; clear hb; obtain ⟨xP, yP, zP⟩ := id HP; obtain ⟨xQ, yQ, zQ⟩ := id HQ)
      | (go_at_call 22; (with_reducible refine (F1 _).mono ?_); rintro e w' ⟨rfl, hb⟩; replace HP := HP.below hb; replace HQ := HQ.below hb; replace T := up T hb T.size; clear hb; obtain ⟨xP, yP, zP⟩ := id HP; obtain ⟨xQ, yQ, zQ⟩ := id HQ)
      | (go_at_call 23; (with_reducible refine (F2 _).mono ?_); rintro e w' ⟨rfl, hb⟩; replace HP := HP.below hb; replace HQ := HQ.below hb; replace T := up T hb T.size; clear hb; obtain ⟨xP, yP, zP⟩ := id HP; obtain ⟨xQ, yQ, zQ⟩ := id HQ))
    go_ret
    exact ⟨rfl, T⟩

set_option maxHeartbeats 2000000 in
theorem products_zero (f g : Nat → Int) (a b c d p1 p2 fr x1 x2 xe : Int) (ad : Addr) (ca : Nat) (bd : Option Addr) (lb cb : Nat) (w : World) (h3 : lb ≤ 20) (rb : Row w bd lb g)
    (D1 : ∀ ad ca w, Row w ad 0 f → Row w bd lb g → Calls Try.prog 18 #[.slice ad ((0 : Nat)) ca, .slice bd lb cb] w fun e w' => e = .returned (.tuple #[.agg #[.int .u64 x1, .int .u64 x2], .int .i64 xe]) ∧ Below w.heap.size w w')
    (D2 : ∀ ad ca w, Row w ad 0 f → Row w bd lb g → Calls Try.prog 19 #[.slice ad ((0 : Nat)) ca, .slice bd lb cb] w fun e w' => e = .returned (.tuple #[.agg #[.int .u64 x1, .int .u64 x2], .int .i64 xe]) ∧ Below w.heap.size w w')
    (M1 : ∀ w, Calls Try.prog 20 #[.int .u64 a, .int .u64 b] w fun e w' => e = .returned (.agg #[.int .u64 p1, .int .u64 p2]) ∧ Below w.heap.size w w') (M2 : ∀ w, Calls Try.prog 21 #[.int .u64 a, .int .u64 b] w fun e w' => e = .returned (.agg #[.int .u64 p1, .int .u64 p2]) ∧ Below w.heap.size w w')
    (F1 : ∀ w, Calls Try.prog 22 #[.int .u64 a, .int .u64 b, .int .u64 c, .int .u64 d] w fun e w' => e = .returned (.int .i64 fr) ∧ Below w.heap.size w w') (F2 : ∀ w, Calls Try.prog 23 #[.int .u64 a, .int .u64 b, .int .u64 c, .int .u64 d] w fun e w' => e = .returned (.int .i64 fr) ∧ Below w.heap.size w w') :
    Calls Try.prog 4 #[.int .u64 a, .int .u64 b, .int .u64 c, .int .u64 d, .slice (some ad) 0 ca, .slice bd lb cb] w fun e w' => e = .returned (.bool true) ∧ Below w.heap.size w w' := by
  obtain ⟨i0, hi, hz0, hz1, hz2⟩ := info_parts info22
  have hi' := Lib.hid hi
  have hz0' := Lib.hid hz0
  have hz1' := Lib.hid hz1
  have hz2' := Lib.hid hz2
  clear hi hz0 hz1 hz2
  have d2 : decide (20 < (lb : Int)) = false := by simp; omega
  go_enter Try.func4, Try.ntmps4
  go_wp2_with (at_builtin; refine wpList_append_own _ rfl _ _ 37 rfl w.heap.size 22 i0 (.int .u64 0) 1 8 Try.underlying37 hi'.out hz0'.out hz1'.out hz2'.out rfl (by decide) _ 0 [] rfl (World.ownsRow_lit w #[] 0 (Nat.le_refl _) (by decide) (by simp)) ad 0 ca [] rfl (by simp) (by simp) (by simp) (by decide) (by omega) (by simp) ?_)
  · intro v' w1 hown hgrow hnil
    have hb0 : Below w.heap.size w w1 := (up1 w (.cells #[] 22)).grown hgrow (by simp) (by rintro k hk; simp [Value.ownBlock] at hk; omega)
    obtain ⟨hlen, ho⟩ := hown
    rcases ho with ⟨hv, _⟩ | ⟨gg, cap, cur, rfl, hgb, hblk, hcap, hmax, hsz, htk⟩
    · exact absurd hv (by simpa using hnil)
    clear hnil hgrow hlen htk hsz hmax hcap hblk hgb
    have RB := rb.below hb0
    have Z : ∀ w ad, Row w ad 0 f := fun _ _ => .inl rfl
    go_wp2_with (first
      | (go_at_call 18; (with_reducible refine (D1 _ _ _ (Z _ _) RB).mono ?_); rintro e w2 ⟨rfl, hb⟩; have RB2 := (RB.below hb).alloc (.cells #[.int .u64 x1, .int .u64 x2] 24); have HP2 := Has.new w2 x1 x2; have T2 := (up hb0 hb hb0.size).alloc (up hb0 hb hb0.size).size (.cells #[.int .u64 x1, .int .u64 x2] 24))
      | (go_at_call 19; (with_reducible refine (D2 _ _ _ (Z _ _) RB2).mono ?_); rintro e w3 ⟨rfl, hb3⟩; have HP := (HP2.below hb3).alloc (.cells #[.int .u64 x1, .int .u64 x2] 24); have HQ := Has.new w3 x1 x2; have T := (up T2 hb3 T2.size).alloc (up T2 hb3 T2.size).size (.cells #[.int .u64 x1, .int .u64 x2] 24); obtain ⟨xP, yP, zP⟩ := id HP; obtain ⟨xQ, yQ, zQ⟩ := id HQ))
    refine wp_loop_rounds 1 ?_
    rw [rounds_succ]
    go_wp2_with (first
      | (go_at_call 20; (with_reducible refine (M1 _).mono ?_); rintro e w' ⟨rfl, hb⟩; replace HP := HP.below hb; replace HQ := HQ.below hb; replace T := up T hb T.size; clear hb; obtain ⟨xP, yP, zP⟩ := id HP; obtain ⟨xQ, yQ, zQ⟩ := id HQ)
      | (go_at_call 21; (with_reducible refine (M2 _).mono ?_); rintro e w' ⟨rfl, hb⟩; replace HP := HP.below hb; replace HQ := HQ.below hb; replace T := up T hb T.size; clear hb; obtain ⟨xP, yP, zP⟩ := id HP; obtain ⟨xQ, yQ, zQ⟩ := id HQ)
      | (go_at_call 22; (with_reducible refine (F1 _).mono ?_); rintro e w' ⟨rfl, hb⟩; replace HP := HP.below hb; replace HQ := HQ.below hb; replace T := up T hb T.size; clear hb; obtain ⟨xP, yP, zP⟩ := id HP; obtain ⟨xQ, yQ, zQ⟩ := id HQ)
      | (go_at_call 23; (with_reducible refine (F2 _).mono ?_); rintro e w' ⟨rfl, hb⟩; replace HP := HP.below hb; replace HQ := HQ.below hb; replace T := up T hb T.size; clear hb; obtain ⟨xP, yP, zP⟩ := id HP; obtain ⟨xQ, yQ, zQ⟩ := id HQ))
    go_ret
    exact ⟨rfl, T⟩
end Go.Proofs.Ytdnljjpfmnfdoaa
