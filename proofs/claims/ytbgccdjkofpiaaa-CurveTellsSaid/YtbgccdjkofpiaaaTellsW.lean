/- The walk of CurveTells. No condition but that words are words. -/
import Derived.Test.YtbgccdjkofpiaaaHasW
namespace Go.Proofs.Ytbgccdjkofpiaaa
open Go.RowKit W
set_option linter.unusedVariables false
set_option maxRecDepth 100000 in
set_option maxHeartbeats 8000000 in
theorem tells_of (f l r a b x y z g u s : Int) (v m n o : Bool) (w : World)
    (hS : ∀ w, Calls Try.prog 10 #[.agg #[.int .u64 f, .int .u64 l, .int .u64 r], .int .u64 a, .int .u64 b] w fun e w' => e = .returned (.tuple #[.agg #[.int .u64 x, .int .u64 y, .int .u64 z], .int .i64 g]) ∧ Below w.heap.size w w')
    (kS : ∀ w, Calls Try.prog 11 #[.agg #[.int .u64 f, .int .u64 l, .int .u64 r], .int .u64 a, .int .u64 b] w fun e w' => e = .returned (.tuple #[.agg #[.int .u64 x, .int .u64 y, .int .u64 z], .int .i64 g]) ∧ Below w.heap.size w w')
    (hU : ∀ w, Calls Try.prog 12 #[.agg #[.int .u64 f, .int .u64 l, .int .u64 r]] w fun e w' => e = .returned (.tuple #[.int .u64 u, .bool v]) ∧ Below w.heap.size w w')
    (kU : ∀ w, Calls Try.prog 13 #[.agg #[.int .u64 f, .int .u64 l, .int .u64 r]] w fun e w' => e = .returned (.tuple #[.int .u64 u, .bool v]) ∧ Below w.heap.size w w')
    (hM : ∀ w, Calls Try.prog 14 #[.agg #[.int .u64 f, .int .u64 l, .int .u64 r]] w fun e w' => e = .returned (.bool m) ∧ Below w.heap.size w w')
    (kM : ∀ w, Calls Try.prog 15 #[.agg #[.int .u64 f, .int .u64 l, .int .u64 r]] w fun e w' => e = .returned (.bool m) ∧ Below w.heap.size w w')
    (hN : ∀ w, Calls Try.prog 16 #[.agg #[.int .u64 f, .int .u64 l, .int .u64 r]] w fun e w' => e = .returned (.bool n) ∧ Below w.heap.size w w')
    (kN : ∀ w, Calls Try.prog 17 #[.agg #[.int .u64 f, .int .u64 l, .int .u64 r]] w fun e w' => e = .returned (.bool n) ∧ Below w.heap.size w w')
    (hB : ∀ w, Calls Try.prog 18 #[.agg #[.int .u64 f, .int .u64 l, .int .u64 r]] w fun e w' => e = .returned (.bool o) ∧ Below w.heap.size w w')
    (kB : ∀ w, Calls Try.prog 19 #[.agg #[.int .u64 f, .int .u64 l, .int .u64 r]] w fun e w' => e = .returned (.bool o) ∧ Below w.heap.size w w')
    (hT : ∀ w, Calls Try.prog 20 #[.agg #[.int .u64 f, .int .u64 l, .int .u64 r]] w fun e w' => e = .returned (.bool (l == 0)) ∧ Below w.heap.size w w')
    (hP : ∀ w, Calls Try.prog 21 #[.agg #[.int .u64 f, .int .u64 l, .int .u64 r]] w fun e w' => e = .returned (.int .u64 s) ∧ Below w.heap.size w w')
    (kP : ∀ w, Calls Try.prog 22 #[.agg #[.int .u64 f, .int .u64 l, .int .u64 r]] w fun e w' => e = .returned (.int .u64 s) ∧ Below w.heap.size w w') :
    Calls Try.prog 3 #[.agg #[.int .u64 f, .int .u64 l, .int .u64 r], .int .u64 a, .int .u64 b] w fun e w' => e = .returned (.bool true) ∧ Below w.heap.size w w' := by
  have BC := Box.new w 24 #[.int .u64 f, .int .u64 l, .int .u64 r]
  have T := up1 w (.cells #[.int .u64 f, .int .u64 l, .int .u64 r] 24)
  go_enter Try.func3, Try.ntmps3
  go_upto_region 5 with (first
    | (go_at_call 10; (with_reducible refine (hS _).mono ?_); rintro e w1 ⟨rfl, hb⟩; replace BC := BC.below hb; replace T := up T hb T.size; obtain ⟨c0, c1, c2, c3⟩ := BC.tri; clear hb)
    | (go_at_call 11; (with_reducible refine (kS _).mono ?_); rintro e w2 ⟨rfl, hb⟩; replace BC := BC.alloc (.cells #[.int .u64 x, .int .u64 y, .int .u64 z] 24); replace T := T.alloc T.size (.cells #[.int .u64 x, .int .u64 y, .int .u64 z] 24); have BX := (Box.new w1 24 #[.int .u64 x, .int .u64 y, .int .u64 z]).below hb; replace BC := BC.below hb; replace T := up T hb T.size; obtain ⟨c0, c1, c2, c3⟩ := BC.tri; clear hb)
    | (go_at_call 12; (with_reducible refine (hU _).mono ?_); rintro e w3 ⟨rfl, hb⟩; replace BC := BC.alloc (.cells #[.int .u64 x, .int .u64 y, .int .u64 z] 24); replace T := T.alloc T.size (.cells #[.int .u64 x, .int .u64 y, .int .u64 z] 24); have BY := (Box.new w2 24 #[.int .u64 x, .int .u64 y, .int .u64 z]).below hb; replace BX := (BX.alloc (.cells #[.int .u64 x, .int .u64 y, .int .u64 z] 24)).below hb; replace BC := BC.below hb; replace T := up T hb T.size; obtain ⟨c0, c1, c2, c3⟩ := BC.tri; clear hb)
    | (go_at_call 13; (with_reducible refine (kU _).mono ?_); rintro e w4 ⟨rfl, hb⟩; replace BX := BX.below hb; replace BY := BY.below hb; replace BC := BC.below hb; replace T := up T hb T.size; obtain ⟨c0, c1, c2, c3⟩ := BC.tri; clear hb))
  obtain ⟨x0, x1, x2, x3⟩ := BX.tri
  obtain ⟨y0, y1, y2, y3⟩ := BY.tri
  have E := Below.refl w4.heap.size w4
  have TW := T
  clear T
  go_region_held3 (fun w' => (w'.cell? ⟨w.heap.size, 0, none⟩ = some (.int .u64 f) ∧ w'.cell? ⟨w.heap.size, 1, none⟩ = some (.int .u64 l) ∧ w'.cell? ⟨w.heap.size, 2, none⟩ = some (.int .u64 r)) ∧
      (w'.cell? ⟨w1.heap.size, 0, none⟩ = some (.int .u64 x) ∧ w'.cell? ⟨w1.heap.size, 1, none⟩ = some (.int .u64 y) ∧ w'.cell? ⟨w1.heap.size, 2, none⟩ = some (.int .u64 z)) ∧
      (w'.cell? ⟨w2.heap.size, 0, none⟩ = some (.int .u64 x) ∧ w'.cell? ⟨w2.heap.size, 1, none⟩ = some (.int .u64 y) ∧ w'.cell? ⟨w2.heap.size, 2, none⟩ = some (.int .u64 z)))
    (first | exact ⟨⟨c1, c2, c3⟩, ⟨x1, x2, x3⟩, ⟨y1, y2, y3⟩⟩ | exact ⟨(BC.below E).tri.2, (BX.below E).tri.2, (BY.below E).tri.2⟩)
    (first
      | (go_at_call 14; (with_reducible refine (hM _).mono ?_); rintro e w10 ⟨rfl, hb⟩; (first | replace hb := undrew hb | skip); replace E := up E hb E.size; clear hb)
      | (go_at_call 15; (with_reducible refine (kM _).mono ?_); rintro e w11 ⟨rfl, hb⟩; (first | replace hb := undrew hb | skip); replace E := up E hb E.size; clear hb)
      | (go_at_call 16; (with_reducible refine (hN _).mono ?_); rintro e w12 ⟨rfl, hb⟩; (first | replace hb := undrew hb | skip); replace E := up E hb E.size; clear hb)
      | (go_at_call 17; (with_reducible refine (kN _).mono ?_); rintro e w13 ⟨rfl, hb⟩; (first | replace hb := undrew hb | skip); replace E := up E hb E.size; clear hb)
      | (go_at_call 18; (with_reducible refine (hB _).mono ?_); rintro e w14 ⟨rfl, hb⟩; (first | replace hb := undrew hb | skip); replace E := up E hb E.size; clear hb)
      | (go_at_call 19; (with_reducible refine (kB _).mono ?_); rintro e w15 ⟨rfl, hb⟩; (first | replace hb := undrew hb | skip); replace E := up E hb E.size; clear hb)
      | (go_at_call 20; (with_reducible refine (hT _).mono ?_); rintro e w16 ⟨rfl, hb⟩; (first | replace hb := undrew hb | skip); replace E := up E hb E.size; clear hb)
      | (go_at_call 21; (with_reducible refine (hP _).mono ?_); rintro e w17 ⟨rfl, hb⟩; (first | replace hb := undrew hb | skip); replace E := up E hb E.size; clear hb)
      | (go_at_call 22; (with_reducible refine (kP _).mono ?_); rintro e w18 ⟨rfl, hb⟩; (first | replace hb := undrew hb | skip); replace E := up E hb E.size; clear hb))
  go_wp2
  go_ret
  exact ⟨by simp, up TW E TW.size⟩
theorem CurveTells_walk (f l r a b : Int) (hf : Word f) (hl : Word l) (hr : Word r) (ha : Word a) (hb : Word b) (w : World) :
    Calls Try.prog 3 #[.agg #[.int .u64 f, .int .u64 l, .int .u64 r], .int .u64 a, .int .u64 b] w fun e w' => e = .returned (.bool true) ∧ Below w.heap.size w w' :=
  tells_of f l r a b _ _ _ _ _ _ _ _ _ _ w (fun w => scale_any f l r a b w hf hl hr ha hb) (fun w => kscale_any f l r a b w hf hl hr ha hb) (fun w => burst_any f l r w hf hl hr) (fun w => kBurst_any f l r w hf hl hr)
    (fun w => may_any f l r w hf hl hr) (fun w => kMay_any f l r w hf hl hr) (fun w => none_any f l r w) (fun w => kNone_any f l r w) (fun w => bent_any f l r w) (fun w => bent'_any f l r w) (fun w => straight_any f l r w)
    (fun w => Steepest_any f l r w hf hl hr) (fun w => kSteepest_any f l r w hl)
end Go.Proofs.Ytbgccdjkofpiaaa
