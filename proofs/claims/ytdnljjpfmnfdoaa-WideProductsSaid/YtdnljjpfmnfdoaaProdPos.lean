/- The walk of WideProducts at a first row that is not empty, over what its callees answer. -/
import Derived.Test.YtdnljjpfmnfdoaaDotAny
import Derived.Laws.AppendOwn
import Derived.Laws.OwnMore
import Derived.BigQuiet
import Derived.Deep.QuietTactic
import Derived.LoopTactic
namespace Go.Proofs.Ytdnljjpfmnfdoaa
open Go.RowKit W
set_option linter.unusedVariables false
theorem Row.at {w : World} {b o n : Nat} {f : Nat → Int} (h : Row w (some ⟨b, o, none⟩) n f) {k : Nat} (hk : k < n) : w.cell? ⟨b, o + k, none⟩ = some (.int .u64 (f k)) := by
  rcases h with h | ⟨b', o', h1, h2, h3⟩
  · omega
  · obtain ⟨rfl, rfl⟩ : b = b' ∧ o = o' := by simpa using h1
    exact h3 k hk
theorem info22 : (Try.prog.info? 22).map (fun i => (i.zero, i.size, i.bytes)) = some (some (.int .u64 0), 1, 8) := by kernel_rfl
/-- What is appended. -/
def newsOf (f : Nat → Int) (n : Nat) : List Value := (List.range n).map fun j => .int .u64 (f j)
theorem newsOf_len (f : Nat → Int) (n : Nat) : (newsOf f n).length = n := by simp [newsOf]
theorem newsOf_at (f : Nat → Int) (n j : Nat) (h : j < n) : (newsOf f n)[j]? = some (.int .u64 (f j)) := by simp [newsOf, h]
theorem newsOf_of (f : Nat → Int) (n j : Nat) (u : Value) (h : (newsOf f n)[j]? = some u) : j < n ∧ u = .int .u64 (f j) := by
  have hj : j < n := by
    have := (List.getElem?_eq_some_iff.1 h).1
    simpa [newsOf] using this
  rw [newsOf_at f n j hj] at h
  exact ⟨hj, (Option.some.inj h).symm⟩
set_option maxHeartbeats 2000000 in
theorem products_pos (f g : Nat → Int) (a b c d p1 p2 fr x1 x2 xe : Int) (ba oa la ca : Nat) (bd : Option Addr) (lb cb : Nat) (w : World) (h1 : 0 < la) (h2 : la ≤ 20) (h3 : lb ≤ 20)
    (hba : ba < w.heap.size) (cf : ∀ j, j < la → w.cell? ⟨ba, oa + j, none⟩ = some (.int .u64 (f j))) (rb : Row w bd lb g)
    (D1 : ∀ ad ca w, Row w ad la f → Row w bd lb g → Calls Try.prog 18 #[.slice ad la ca, .slice bd lb cb] w fun e w' => e = .returned (.tuple #[.agg #[.int .u64 x1, .int .u64 x2], .int .i64 xe]) ∧ Below w.heap.size w w')
    (D2 : ∀ w, Row w (some ⟨ba, oa, none⟩) la f → Row w bd lb g → Calls Try.prog 19 #[.slice (some ⟨ba, oa, none⟩) la ca, .slice bd lb cb] w fun e w' => e = .returned (.tuple #[.agg #[.int .u64 x1, .int .u64 x2], .int .i64 xe]) ∧ Below w.heap.size w w')
    (M1 : ∀ w, Calls Try.prog 20 #[.int .u64 a, .int .u64 b] w fun e w' => e = .returned (.agg #[.int .u64 p1, .int .u64 p2]) ∧ Below w.heap.size w w') (M2 : ∀ w, Calls Try.prog 21 #[.int .u64 a, .int .u64 b] w fun e w' => e = .returned (.agg #[.int .u64 p1, .int .u64 p2]) ∧ Below w.heap.size w w')
    (F1 : ∀ w, Calls Try.prog 22 #[.int .u64 a, .int .u64 b, .int .u64 c, .int .u64 d] w fun e w' => e = .returned (.int .i64 fr) ∧ Below w.heap.size w w') (F2 : ∀ w, Calls Try.prog 23 #[.int .u64 a, .int .u64 b, .int .u64 c, .int .u64 d] w fun e w' => e = .returned (.int .i64 fr) ∧ Below w.heap.size w w') :
    Calls Try.prog 4 #[.int .u64 a, .int .u64 b, .int .u64 c, .int .u64 d, .slice (some ⟨ba, oa, none⟩) la ca, .slice bd lb cb] w fun e w' => e = .returned (.bool true) ∧ Below w.heap.size w w' := by
  obtain ⟨i0, hi, hz0, hz1, hz2⟩ := info_parts info22
  have hi' := Lib.hid hi
  have hz0' := Lib.hid hz0
  have hz1' := Lib.hid hz1
  have hz2' := Lib.hid hz2
  clear hi hz0 hz1 hz2
  have hcf := Lib.hid cf
  clear cf
  have d1 : decide (20 < (la : Int)) = false := by simp; omega
  have d2 : decide (20 < (lb : Int)) = false := by simp; omega
  go_enter Try.func4, Try.ntmps4
  go_wp2_with (at_builtin; refine wpList_append_own _ rfl _ _ 37 rfl w.heap.size 22 i0 (.int .u64 0) 1 8 Try.underlying37 hi'.out hz0'.out hz1'.out hz2'.out rfl (by decide) _ 0 [] rfl (World.ownsRow_lit w #[] 0 (Nat.le_refl _) (by decide) (by simp)) ⟨ba, oa, none⟩ la ca (newsOf f la) rfl ?c1 ?c2 ?c3 ?c4 ?c5 ?c6 ?_)
  case c1 => rw [newsOf_len, Nat.mul_one]
  case c2 =>
    intro j u hj
    obtain ⟨k1, rfl⟩ := newsOf_of f la j u hj
    have hb : Below w.heap.size w (w.alloc (.cells #[] 22)) := up1 w _
    have hadd : (⟨ba, oa, none⟩ : Addr).add j = ⟨ba, oa + j, none⟩ := by unfold Addr.add; split <;> simp_all
    rw [hadd]
    exact (hb.cell (p := ⟨ba, oa + j, none⟩) hba).trans (hcf.out j k1)
  case c3 =>
    intro u hu
    simp [newsOf] at hu
    obtain ⟨j, _, rfl⟩ := hu
    rfl
  case c4 => unfold maxLen; omega
  case c5 => omega
  case c6 => simp
  · intro v' w1 hown hgrow hnil
    have hb0 : Below w.heap.size w w1 := (up1 w (.cells #[] 22)).grown hgrow (by simp) (by rintro k hk; simp [Value.ownBlock] at hk; omega)
    have hown' := hown
    obtain ⟨hlen, ho⟩ := hown
    rcases ho with ⟨hv, _⟩ | ⟨gg, cap, cur, rfl, hgb, hblk, hcap, hmax, hsz, htk⟩
    · exact absurd hv hnil
    have hcs := hown'.cells (g := gg) rfl
    have hlt : gg < w1.heap.size := (Array.getElem?_eq_some_iff.1 hblk).1
    have R : Row w1 (some ⟨gg, 0, none⟩) la f := .inr ⟨gg, 0, rfl, hlt, fun j hj => by
      have := hcs j _ (newsOf_at f la j hj)
      have hadd : (⟨gg, 0, none⟩ : Addr).add j = ⟨gg, 0 + j, none⟩ := by unfold Addr.add; split <;> simp_all
      rwa [hadd] at this⟩
    have RB := rb.below hb0
    have RA : Row w1 (some ⟨ba, oa, none⟩) la f := .inr ⟨ba, oa, rfl, Nat.lt_of_lt_of_le hba hb0.size, fun j hj => (hb0.cell (p := ⟨ba, oa + j, none⟩) hba).trans (hcf.out j hj)⟩
    clear hnil hgrow hlen hown' hcs htk hsz hmax hcap hblk hgb hlt
    go_wp2_with (first
      | (go_at_call 18; (with_reducible refine (D1 _ _ _ R RB).mono ?_); rintro e w2 ⟨rfl, hb⟩; have R2 := (R.below hb).alloc (.cells #[.int .u64 x1, .int .u64 x2] 24); have RA2 := (RA.below hb).alloc (.cells #[.int .u64 x1, .int .u64 x2] 24); have RB2 := (RB.below hb).alloc (.cells #[.int .u64 x1, .int .u64 x2] 24); have HP2 := Has.new w2 x1 x2; have T2 := (up hb0 hb hb0.size).alloc (up hb0 hb hb0.size).size (.cells #[.int .u64 x1, .int .u64 x2] 24))
      | (go_at_call 19; (with_reducible refine (D2 _ RA2 RB2).mono ?_); rintro e w3 ⟨rfl, hb3⟩; have R3 := (R2.below hb3).alloc (.cells #[.int .u64 x1, .int .u64 x2] 24); have RA3 := (RA2.below hb3).alloc (.cells #[.int .u64 x1, .int .u64 x2] 24); have HP3 := (HP2.below hb3).alloc (.cells #[.int .u64 x1, .int .u64 x2] 24); have HQ3 := Has.new w3 x1 x2; have T3 := (up T2 hb3 T2.size).alloc (up T2 hb3 T2.size).size (.cells #[.int .u64 x1, .int .u64 x2] 24)))
    obtain ⟨W, hW⟩ : ∃ W, W = w3.alloc (.cells #[.int .u64 x1, .int .u64 x2] 24) := ⟨_, rfl⟩
    rw [← hW] at R3 RA3 HP3 HQ3 T3
    go_loopw [18] (fun s18 wr => ∃ k m : Nat, k ≤ la ∧ s18 = .int .i64 k ∧ wr = W.drewN m) (fun s18 _ => la - (intOf s18).toNat)
    case atStart => exact ⟨0, 0, Nat.zero_le _, rfl, hW.symm⟩
    case round =>
      obtain ⟨k, m, hk, rfl, rfl⟩ := hrel
      have hW' := Lib.hid hW
      clear hW
      by_cases hlt : k < la
      · have c1 := R3.at hlt
        have c2 := RA3.at hlt
        rw [Nat.zero_add] at c1
        have i1 : (k : Int) < (la : Int) := by omega
        have i2 : (0 : Int) ≤ (k : Int) := by omega
        go_wp2
        go_quiet (fail)
        go_wp2
        go_roundw
        case rel => exact ⟨k + 1, _, by omega, by go_num, rfl⟩
        case measure => simp [intOf]; omega
      · obtain rfl : k = la := by omega
        obtain ⟨xP, yP, zP⟩ := id HP3
        obtain ⟨xQ, yQ, zQ⟩ := id HQ3
        have T := below_drewN T3 m
        have HP := HP3.drewN m
        have HQ := HQ3.drewN m
        go_wp2_with (first
          | (go_at_call 20; (with_reducible refine (M1 _).mono ?_); rintro e w' ⟨rfl, hb⟩; replace HP := HP.below hb; replace HQ := HQ.below hb; replace T := up T hb T.size; clear hb; obtain ⟨xP, yP, zP⟩ := id HP; obtain ⟨xQ, yQ, zQ⟩ := id HQ)
          | (go_at_call 21; (with_reducible refine (M2 _).mono ?_); rintro e w' ⟨rfl, hb⟩; replace HP := HP.below hb; replace HQ := HQ.below hb; replace T := up T hb T.size; clear hb; obtain ⟨xP, yP, zP⟩ := id HP; obtain ⟨xQ, yQ, zQ⟩ := id HQ)
          | (go_at_call 22; (with_reducible refine (F1 _).mono ?_); rintro e w' ⟨rfl, hb⟩; replace HP := HP.below hb; replace HQ := HQ.below hb; replace T := up T hb T.size; clear hb; obtain ⟨xP, yP, zP⟩ := id HP; obtain ⟨xQ, yQ, zQ⟩ := id HQ)
          | (go_at_call 23; (with_reducible refine (F2 _).mono ?_); rintro e w' ⟨rfl, hb⟩; replace HP := HP.below hb; replace HQ := HQ.below hb; replace T := up T hb T.size; clear hb; obtain ⟨xP, yP, zP⟩ := id HP; obtain ⟨xQ, yQ, zQ⟩ := id HQ))
        go_ret
        exact ⟨rfl, T⟩
end Go.Proofs.Ytdnljjpfmnfdoaa
