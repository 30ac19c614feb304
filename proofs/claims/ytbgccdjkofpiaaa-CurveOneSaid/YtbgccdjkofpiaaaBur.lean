/- Reach of a curve that may be; Burst, Scale. No condition but that words are words. -/
import Derived.Test.YtbgccdjkofpiaaaRefR
import Derived.Test.YtbgccdjkofpiaaaRefQ
namespace Go.Proofs.Ytbgccdjkofpiaaa
open Go.RowKit W
set_option linter.unusedVariables false
theorem At_any (f l r t : Int) (w : World) (hf : Word f) (hl : Word l) (hr : Word r) (ht : Word t) :
    Calls Try.prog 23 #[.agg #[.int .u64 f, .int .u64 l, .int .u64 r], .int .u64 t] w fun e w' => e = .returned (.int .u64 (cAt f l r t)) ∧ Below w.heap.size w w' := by
  have := at_of f l r t w hf hl hr ht
  rwa [atF_eq hf hl hr ht] at this
theorem Steepest_any (f l r : Int) (w : World) (hf : Word f) (hl : Word l) (hr : Word r) :
    Calls Try.prog 21 #[.agg #[.int .u64 f, .int .u64 l, .int .u64 r]] w fun e w' => e = .returned (.int .u64 (cSt f l r)) ∧ Below w.heap.size w w' := by
  have := steepest_of f l r w
  rwa [stF_eq hf hl hr] at this
theorem Reach_is (f l r y n : Int) (w : World) (hf : Word f) (hl : Word l) (hr : Word r) (hy : Word y) (hm : cMay f l r) (hn : IsReach f l r y n) :
    Calls Try.prog 25 #[.agg #[.int .u64 f, .int .u64 l, .int .u64 r], .int .u64 y] w fun e w' => e = .returned (.int .u64 n) ∧ Below w.heap.size w w' := by
  rcases Int.lt_or_eq_of_le hy.1 with h | h
  · rw [hn.unique hf.1 hr.1 (rcF_reach hf hl hr hy h hm)]
    exact reach_of f l r y w hf hl hr hy h
  · subst h
    have : n = 0 := hn.unique hf.1 hr.1 (.inr ⟨by omega, by omega, by rw [cAt_zero hl.1]; omega, .inl rfl⟩)
    rw [this]
    exact reach_zero f l r w
/-- It is reached somewhere, or never. -/
theorem reach_ex (f l r y : Int) (hf : Word f) (hl : Word l) (hr : Word r) : ∃ n, IsReach f l r y n := by
  by_cases h : cAt f l r 9223372036854775807 < y
  · exact ⟨_, .inl ⟨rfl, h⟩⟩
  · suffices hs : ∀ k : Nat, (k : Int) ≤ 9223372036854775807 → y ≤ cAt f l r k → ∃ n, IsReach f l r y n by
      have := hs 9223372036854775807 (by omega) (by simpa using Int.not_lt.1 h)
      exact this
    intro k
    induction k with
    | zero => intro _ hk; exact ⟨0, .inr ⟨by omega, by omega, hk, .inl rfl⟩⟩
    | succ k ih =>
      intro h1 h2
      by_cases h3 : y ≤ cAt f l r k
      · exact ih (by omega) h3
      · exact ⟨((k + 1 : Nat) : Int), .inr ⟨by omega, by omega, h2, .inr (by rw [show ((k + 1 : Nat) : Int) - 1 = k by omega]; omega)⟩⟩
/-- By how much a bent one's Rest is above 0, put on backwards. -/
def buO (f l r : Int) : Int := if r < f then rT (f - r) l else 0
set_option maxRecDepth 100000 in
set_option maxHeartbeats 1000000 in
theorem burst_any (f l r : Int) (w : World) (hf : Word f) (hl : Word l) (hr : Word r) :
    Calls Try.prog 12 #[.agg #[.int .u64 f, .int .u64 l, .int .u64 r]] w fun e w' => e = .returned (.tuple #[.int .u64 (buO f l r), .bool (decide (r < f))]) ∧ Below w.heap.size w w' := by
  have hB := fun w => bent_any f l r w
  have BC := Box.new w 24 #[.int .u64 f, .int .u64 l, .int .u64 r]
  have T := up1 w (.cells #[.int .u64 f, .int .u64 l, .int .u64 r] 24)
  unfold buO
  by_cases h : r < f
  · rw [if_pos h]
    have hd : decide (r < f) = true := by simpa using h
    rw [hd] at hB ⊢
    have hM := fun w => rMinus'_any f r w hf hr
    have hT := fun w => rTimes'_any (rM f r) l w (rM_word hf hr) hl
    have e : rT (rM f r) l = rT (f - r) l := by
      unfold rT rM
      rw [if_neg (by omega)]
      exact W.stp_mul (by omega) hl.1
    rw [e] at hT
    obtain ⟨d, ed⟩ : ∃ d, rM f r = d := ⟨_, rfl⟩
    obtain ⟨g, eg⟩ : ∃ g, rT (f - r) l = g := ⟨_, rfl⟩
    rw [ed] at hM hT
    rw [eg] at hT ⊢
    clear e ed eg h hd
    go_enter Try.func12, Try.ntmps12
    go_upto_region 3 with (go_at_call 18; (with_reducible refine (hB _).mono ?_); rintro e w1 ⟨rfl, hb1⟩; replace BC := BC.below hb1; replace T := up T hb1 T.size; clear hb1)
    obtain ⟨c0, c1, c2, c3⟩ := BC.tri
    go_region_held3 (fun w' => w'.cell? ⟨w.heap.size, 0, none⟩ = some (.int .u64 f) ∧ w'.cell? ⟨w.heap.size, 1, none⟩ = some (.int .u64 l) ∧ w'.cell? ⟨w.heap.size, 2, none⟩ = some (.int .u64 r))
      (first | exact ⟨c1, c2, c3⟩ | exact (BC.below hb2).tri.2 | exact (BC.below (up hb2 hb3 hb2.size)).tri.2)
      (first
        | (go_at_call 33; (with_reducible refine (hM _).mono ?_); rintro e w2 ⟨rfl, hb2⟩; (first | replace hb2 := undrew hb2 | replace hb2 := undrewN hb2 | skip))
        | (go_at_call 28; (with_reducible refine (hT _).mono ?_); rintro e w3 ⟨rfl, hb3⟩; (first | replace hb3 := undrew hb3 | replace hb3 := undrewN hb3 | skip)))
    go_wp2
    go_ret2
    exact ⟨rfl, up (up T hb2 T.size) hb3 (up T hb2 T.size).size⟩
  · rw [if_neg h]
    have hd : decide (r < f) = false := by simpa using h
    rw [hd] at hB ⊢
    go_enter Try.func12, Try.ntmps12
    go_wp2_with (go_at_call 18; (with_reducible refine (hB _).mono ?_); rintro e w1 ⟨rfl, hb1⟩)
    go_ret2
    exact ⟨rfl, up T hb1 T.size⟩
theorem kBurst_any (f l r : Int) (w : World) (hf : Word f) (hl : Word l) (hr : Word r) :
    Calls Try.prog 13 #[.agg #[.int .u64 f, .int .u64 l, .int .u64 r]] w fun e w' => e = .returned (.tuple #[.int .u64 (buO f l r), .bool (decide (r < f))]) ∧ Below w.heap.size w w' := by
  have hB := fun w => bent'_any f l r w
  have BC := Box.new w 24 #[.int .u64 f, .int .u64 l, .int .u64 r]
  have T := up1 w (.cells #[.int .u64 f, .int .u64 l, .int .u64 r] 24)
  unfold buO
  by_cases h : r < f
  · rw [if_pos h]
    have hd : decide (r < f) = true := by simpa using h
    rw [hd] at hB ⊢
    have hT := fun w => kTimes_any (f - r) l w (by unfold Word at *; omega) hl
    have hw : IntKind.u64.wrap (f - r) = f - r := IntWalk.u64_in _ (by unfold Word at *; omega)
    obtain ⟨g, eg⟩ : ∃ g, rT (f - r) l = g := ⟨_, rfl⟩
    rw [eg] at hT ⊢
    clear eg h hd
    go_enter Try.func13, Try.ntmps13
    go_wp2_with (first
      | (go_at_call 19; (with_reducible refine (hB _).mono ?_); rintro e w1 ⟨rfl, hb1⟩; replace BC := BC.below hb1; replace T := up T hb1 T.size; clear hb1; obtain ⟨c0, c1, c2, c3⟩ := BC.tri)
      | (go_at_call 34; (with_reducible refine (hT _).mono ?_); rintro e w2 ⟨rfl, hb2⟩))
    go_ret2
    exact ⟨rfl, up T hb2 T.size⟩
  · rw [if_neg h]
    have hd : decide (r < f) = false := by simpa using h
    rw [hd] at hB ⊢
    go_enter Try.func13, Try.ntmps13
    go_wp2_with (go_at_call 19; (with_reducible refine (hB _).mono ?_); rintro e w1 ⟨rfl, hb1⟩)
    go_ret2
    exact ⟨rfl, up T hb1 T.size⟩
end Go.Proofs.Ytbgccdjkofpiaaa
