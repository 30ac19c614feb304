/- Whatever copies of a curve start, a run tells what the document's copies tell. -/
import Derived.Test.YtdhfblcheoahaaaRunW
namespace Go.Proofs.Ytdhfblcheoahaaa
open Go.RowKit Go.Shelf W
set_option linter.unusedVariables false
set_option maxRecDepth 100000
set_option maxHeartbeats 1000000 in
theorem run_long (f l r : Int) (a : Option Addr) (n c : Nat) (at' : Int) (w : World) (hn : 40 < n) :
    Calls Try.prog 3 #[.agg #[eU f, eU l, eU r], .slice a n c, .int .i64 at'] w fun e w' => e = .returned (.bool true) ∧ Below w.heap.size w w' := by
  have T := up1 w (.cells #[eU f, eU l, eU r] 24)
  have hn' : ((40 : Int) < (n : Int)) := by omega
  go_enter Try.func3, Try.ntmps3
  go_wp2
  go_ret
  exact ⟨rfl, T⟩
set_option maxHeartbeats 1000000 in
theorem run_not (f l r : Int) (a : Option Addr) (n c : Nat) (at' : Int) (w : World) (hn : n ≤ 40)
    (hN9 : ∀ w, Calls Try.prog 9 #[.agg #[eU f, eU l, eU r]] w fun e w' => e = .returned (.tuple #[.pointer none, eI 30]) ∧ Below w.heap.size w w')
    (hN10 : ∀ w, Calls Try.prog 10 #[.agg #[eU f, eU l, eU r]] w fun e w' => e = .returned (.tuple #[.pointer none, eI 30]) ∧ Below w.heap.size w w') :
    Calls Try.prog 3 #[.agg #[eU f, eU l, eU r], .slice a n c, .int .i64 at'] w fun e w' => e = .returned (.bool true) ∧ Below w.heap.size w w' := by
  have BC := Box.new w 24 #[eU f, eU l, eU r]
  have T := up1 w (.cells #[eU f, eU l, eU r] 24)
  have hn' : ¬ ((40 : Int) < (n : Int)) := by omega
  go_enter Try.func3, Try.ntmps3
  go_wp2_with (first
    | (go_at_call 9; (with_reducible refine (hN9 _).mono ?_); rintro e w1 ⟨rfl, hb⟩; replace BC := BC.below hb; replace T := up T hb T.size; clear hb; obtain ⟨c0, c1, c2, c3⟩ := BC.tri)
    | (go_at_call 10; (with_reducible refine (hN10 _).mono ?_); rintro e w2 ⟨rfl, hb⟩; replace T := up T hb T.size; clear hb c0 c1 c2 c3))
  go_ret
  exact ⟨rfl, T⟩
theorem BentRuns_walk (f l r : Int) (a : Option Addr) (n c : Nat) (xs : Nat → Ac) (at' : Int) (w : World) (hf : Word f) (hl : Word l) (hr : Word r) (hI : IsAcs w a n c xs) (hw : ∀ i, (xs i).word) (hcm : c ≤ maxLen) (hnn : a = none → n = 0 ∧ c = 0) (ht : -9223372036854775808 ≤ at' ∧ at' < 9223372036854775808) :
    Calls Try.prog 3 #[.agg #[eU f, eU l, eU r], .slice a n c, .int .i64 at'] w fun e w' => e = .returned (.bool true) ∧ Below w.heap.size w w' := by
  by_cases hn : n ≤ 40
  · have h9 := fun w => bn_new_any f l r w hf hl hr
    have h10 := fun w => c_new_any f l r w hf hl hr
    by_cases hc : CvB f l r
    · refine run_ok f l r a n c xs at' w hc hw hI hn (fun w => (h9 w).mono fun e w' h => ?_) (fun w => (h10 w).mono fun e w' h => ?_)
      · obtain ⟨h1, h2⟩ := h
        rcases h1 with ⟨_, B, e1, e2, e3⟩ | ⟨h1, _⟩
        · exact ⟨B, e1, e2, e3, h2⟩
        · exact absurd hc h1
      · obtain ⟨h1, h2⟩ := h
        rcases h1 with ⟨_, B, e1, e2, e3⟩ | ⟨h1, _⟩
        · exact ⟨B, e1, e2, ⟨_, _, e3⟩, h2⟩
        · exact absurd hc h1
    · refine run_not f l r a n c at' w hn (fun w => (h9 w).mono fun e w' h => ?_) (fun w => (h10 w).mono fun e w' h => ?_)
      · obtain ⟨h1, h2⟩ := h
        rcases h1 with ⟨h1, _⟩ | ⟨_, h1⟩
        · exact absurd h1 hc
        · exact ⟨h1, h2⟩
      · obtain ⟨h1, h2⟩ := h
        rcases h1 with ⟨h1, _⟩ | ⟨_, h1⟩
        · exact absurd h1 hc
        · exact ⟨h1, h2⟩
  · exact run_long f l r a n c at' w (by omega)
end Go.Proofs.Ytdhfblcheoahaaa
