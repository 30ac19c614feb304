/- The walks of RatioSums and RatioRounds. No condition but that words are words. -/
import Derived.Test.YtiieehnfbemleaaDownUp
import Derived.Test.YtiieehnfbemleaaRefQ
namespace Go.Proofs.Ytiieehnfbemleaa
open Go.RowKit W
set_option linter.unusedVariables false
set_option maxRecDepth 100000 in
theorem RatioSums_walk (a b : Int) (ha : Word a) (hb : Word b) (w : World) :
    Calls Try.prog 4 #[.int .u64 a, .int .u64 b] w fun e w' => e = .returned (.bool true) ∧ Below w.heap.size w w' := by
  have T := Below.refl w.heap.size w
  go_enter Try.func4, Try.ntmps4
  go_wp2_with (first
    | (go_at_call 14; (with_reducible refine (Over_any a b _ ha hb).mono ?_); rintro e w1 ⟨rfl, hb1⟩; replace T := up T hb1 T.size; clear hb1)
    | (go_at_call 15; (with_reducible refine (kOver_any a b _ ha hb).mono ?_); rintro e w2 ⟨rfl, hb1⟩; replace T := up T hb1 T.size; clear hb1)
    | (go_at_call 16; (with_reducible refine (rPlus'_any a b _ ha hb).mono ?_); rintro e w3 ⟨rfl, hb1⟩; replace T := up T hb1 T.size; clear hb1)
    | (go_at_call 17; (with_reducible refine (kPlus_any a b _ ha hb).mono ?_); rintro e w4 ⟨rfl, hb1⟩; replace T := up T hb1 T.size; clear hb1)
    | (go_at_call 18; (with_reducible refine (rMinus'_any a b _ ha hb).mono ?_); rintro e w5 ⟨rfl, hb1⟩; replace T := up T hb1 T.size; clear hb1)
    | (go_at_call 19; (with_reducible refine (kMinus_any a b _ ha hb).mono ?_); rintro e w6 ⟨rfl, hb1⟩; replace T := up T hb1 T.size; clear hb1)
    | (go_at_call 20; (with_reducible refine (rTimes'_any a b _ ha hb).mono ?_); rintro e w7 ⟨rfl, hb1⟩; replace T := up T hb1 T.size; clear hb1)
    | (go_at_call 21; (with_reducible refine (kTimes_any a b _ ha hb).mono ?_); rintro e w8 ⟨rfl, hb1⟩; replace T := up T hb1 T.size; clear hb1)
    | (go_at_call 22; (with_reducible refine (rHalf'_any a b _ ha hb).mono ?_); rintro e w9 ⟨rfl, hb1⟩; replace T := up T hb1 T.size; clear hb1)
    | (go_at_call 23; (with_reducible refine (kHalf_any a b _ ha hb).mono ?_); rintro e w10 ⟨rfl, hb1⟩; replace T := up T hb1 T.size; clear hb1))
  go_ret
  exact ⟨rfl, T⟩
set_option maxRecDepth 100000 in
theorem RatioRounds_walk (a b c : Int) (ha : Word a) (hb : Word b) (hc : Word c) (w : World) :
    Calls Try.prog 5 #[.int .u64 a, .int .u64 b, .int .u64 c] w fun e w' => e = .returned (.bool true) ∧ Below w.heap.size w w' := by
  have T := Below.refl w.heap.size w
  go_enter Try.func5, Try.ntmps5
  go_wp2_with (first
    | (go_at_call 24; (with_reducible refine (Down_any a b c _ ha hb hc).mono ?_); rintro e w1 ⟨rfl, hb1⟩; replace T := up T hb1 T.size; clear hb1)
    | (go_at_call 25; (with_reducible refine (kDown_any a b c _ ha hb hc).mono ?_); rintro e w2 ⟨rfl, hb1⟩; replace T := up T hb1 T.size; clear hb1)
    | (go_at_call 26; (with_reducible refine (Up_any a b c _ ha hb hc).mono ?_); rintro e w3 ⟨rfl, hb1⟩; replace T := up T hb1 T.size; clear hb1)
    | (go_at_call 27; (with_reducible refine (kUp_any a b c _ ha hb hc).mono ?_); rintro e w4 ⟨rfl, hb1⟩; replace T := up T hb1 T.size; clear hb1))
  go_ret
  exact ⟨rfl, T⟩
end Go.Proofs.Ytiieehnfbemleaa
