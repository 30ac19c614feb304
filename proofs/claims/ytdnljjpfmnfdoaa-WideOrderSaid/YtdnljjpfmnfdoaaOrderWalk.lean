/- The walk of WideOrder, over what its callees answer. -/
import Derived.Test.YtdnljjpfmnfdoaaAwake
import Derived.Test.YtdnljjpfmnfdoaaHasB
import Derived.WalkKit
import Derived.ProofKit
import Derived.Deep.RegionHeld3
import Derived.Deep.DeepCutAuto
namespace Go.Proofs.Ytdnljjpfmnfdoaa.wideOrder
open Go.RowKit W
set_option linter.unusedVariables false

/-- What a call of Mul, Plus, Minus, Cmp answers. -/
abbrev Mu (a b x y : Int) : Prop := ∀ w, Calls Try.prog 20 #[.int .u64 a, .int .u64 b] w fun e w' => e = .returned (.agg #[.int .u64 x, .int .u64 y]) ∧ Below w.heap.size w w'
abbrev Pl (a b c d x y e : Int) : Prop := ∀ w, Calls Try.prog 10 #[.agg #[.int .u64 a, .int .u64 b], .agg #[.int .u64 c, .int .u64 d]] w fun e' w' => e' = .returned (.tuple #[.agg #[.int .u64 x, .int .u64 y], .int .i64 e]) ∧ Below w.heap.size w w'
abbrev Mi (a b c d x y e : Int) : Prop := ∀ w, Calls Try.prog 12 #[.agg #[.int .u64 a, .int .u64 b], .agg #[.int .u64 c, .int .u64 d]] w fun e' w' => e' = .returned (.tuple #[.agg #[.int .u64 x, .int .u64 y], .int .i64 e]) ∧ Below w.heap.size w w'
abbrev Cm (a b c d z : Int) : Prop := ∀ w, Calls Try.prog 16 #[.agg #[.int .u64 a, .int .u64 b], .agg #[.int .u64 c, .int .u64 d]] w fun e' w' => e' = .returned (.int .i64 z) ∧ Below w.heap.size w w'

/-- What goes together: w to x, and back; x to y; w to y. -/
def T1 (ah al bh bl wx xw xy wy : Int) : Prop := ((wx = 0 ∧ xw = 0 ∧ ah = bh ∧ al = bl) ∨ (wx = -1 ∧ xw = 1 ∧ ¬ (ah = bh ∧ al = bl)) ∨ (wx = 1 ∧ xw = -1 ∧ ¬ (ah = bh ∧ al = bl))) ∧ (wx ≤ 0 → xy ≤ 0 → wy ≤ 0)
/-- What goes together: both sums' errors. -/
def T2 (p1 p2 q1 q2 wx e f : Int) : Prop := (e = 0 ∧ f = 0 ∧ Cm p1 p2 q1 q2 wx) ∨ (e = 0 ∧ f = 10) ∨ (e = 10 ∧ f = 10) ∨ (e = 10 ∧ f = 0 ∧ 0 < wx)
/-- What goes together: the difference's error; the products. -/
def T3 (wx g i j k z : Int) : Prop := ((g = 10 ∧ wx < 0) ∨ (g = 0 ∧ 0 ≤ wx)) ∧ ((k = 0 ∧ z = 0) ∨ (0 < k ∧ z = -1 ∧ i < j) ∨ (0 < k ∧ z = 0 ∧ i = j) ∨ (0 < k ∧ z = 1 ∧ j < i))

set_option maxRecDepth 100000 in
set_option maxHeartbeats 8000000 in
theorem core (ah al bh bl ch cl i j k wx xw xy wy p1 p2 e q1 q2 f d1 d2 g m1 m2 n1 n2 z : Int) (w : World) (k0 : 0 ≤ k)
    (C1 : Cm ah al bh bl wx) (C2 : Cm bh bl ch cl xy) (C3 : Cm ah al ch cl wy) (C4 : Cm bh bl ah al xw) (P1 : Pl ah al ch cl p1 p2 e) (P2 : Pl bh bl ch cl q1 q2 f) (D : Mi ah al bh bl d1 d2 g) (M1 : Mu i k m1 m2) (M2 : Mu j k n1 n2) (C6 : Cm m1 m2 n1 n2 z) (C7 : i = j → Cm m1 m2 m1 m2 0)
    (h1 : T1 ah al bh bl wx xw xy wy) (h2 : T2 p1 p2 q1 q2 wx e f) (h3 : T3 wx g i j k z) :
    Calls Try.prog 7 #[.agg #[.int .u64 ah, .int .u64 al], .agg #[.int .u64 bh, .int .u64 bl], .agg #[.int .u64 ch, .int .u64 cl], .int .u64 i, .int .u64 j, .int .u64 k] w fun e w' => e = .returned (.bool true) ∧ Below w.heap.size w w' := by
  have HA := ((Has.new w ah al).alloc (.cells #[.int .u64 bh, .int .u64 bl] 24)).alloc (.cells #[.int .u64 ch, .int .u64 cl] 24)
  have HB := (Has.new2 w (.cells #[.int .u64 ah, .int .u64 al] 24) bh bl).alloc (.cells #[.int .u64 ch, .int .u64 cl] 24)
  have HC : Has (((w.alloc (.cells #[.int .u64 ah, .int .u64 al] 24)).alloc (.cells #[.int .u64 bh, .int .u64 bl] 24)).alloc (.cells #[.int .u64 ch, .int .u64 cl] 24)) (w.heap.size + 1 + 1) ch cl := by
    have := Has.new2 (w.alloc (.cells #[.int .u64 ah, .int .u64 al] 24)) (.cells #[.int .u64 bh, .int .u64 bl] 24) ch cl
    simpa using this
  have T := up3 w (.cells #[.int .u64 ah, .int .u64 al] 24) (.cells #[.int .u64 bh, .int .u64 bl] 24) (.cells #[.int .u64 ch, .int .u64 cl] 24)
  go_enter Try.func7, Try.ntmps7
  go_upto_region 3 with (go_at_call 24; (with_reducible refine (awake_any _).mono ?_); rintro e w' ⟨rfl, hb⟩; (first | replace hb := undrew hb | replace hb := undrewN hb | skip); (first | replace HA := HA.below hb | replace HA := (HA.alloc _).below hb); obtain ⟨xA, yA, zA⟩ := id HA; (first | replace HB := HB.below hb | replace HB := (HB.alloc _).below hb); obtain ⟨xB, yB, zB⟩ := id HB; (first | replace HC := HC.below hb | replace HC := (HC.alloc _).below hb); obtain ⟨xC, yC, zC⟩ := id HC; (first | replace T := up T hb T.size | replace T := up (T.alloc T.size _) hb (T.alloc T.size _).size); clear hb)
  go_cut [13, 14, 15] from 23 (fun s13 s14 s15 wr => s13 = .int .i64 wx ∧ s14 = .int .i64 xy ∧ s15 = .int .i64 wy ∧ Has wr w.heap.size ah al ∧ Has wr (w.heap.size + 1) bh bl ∧ Has wr (w.heap.size + 1 + 1) ch cl ∧ Below w.heap.size w wr)
  case first =>
    go_region_held3 (fun w' => w'.cell? ⟨w.heap.size, 0, none⟩ = some (.int .u64 ah) ∧ w'.cell? ⟨w.heap.size, 1, none⟩ = some (.int .u64 al) ∧ w'.cell? ⟨w.heap.size + 1, 0, none⟩ = some (.int .u64 bh) ∧ w'.cell? ⟨w.heap.size + 1, 1, none⟩ = some (.int .u64 bl) ∧ w'.cell? ⟨w.heap.size + 1 + 1, 0, none⟩ = some (.int .u64 ch) ∧ w'.cell? ⟨w.heap.size + 1 + 1, 1, none⟩ = some (.int .u64 cl))
      (exact ⟨HA.2.1, HA.2.2, HB.2.1, HB.2.2, HC.2.1, HC.2.2⟩)
      (first
        | (go_at_call 16; (with_reducible refine (C1 _).mono ?_); rintro e w' ⟨rfl, hb⟩; (first | replace hb := undrew hb | replace hb := undrewN hb | skip); (first | replace HA := HA.below hb | replace HA := (HA.alloc _).below hb); obtain ⟨xA, yA, zA⟩ := id HA; (first | replace HB := HB.below hb | replace HB := (HB.alloc _).below hb); obtain ⟨xB, yB, zB⟩ := id HB; (first | replace HC := HC.below hb | replace HC := (HC.alloc _).below hb); obtain ⟨xC, yC, zC⟩ := id HC; (first | replace T := up T hb T.size | replace T := up (T.alloc T.size _) hb (T.alloc T.size _).size); clear hb)
        | (go_at_call 16; (with_reducible refine (C2 _).mono ?_); rintro e w' ⟨rfl, hb⟩; (first | replace hb := undrew hb | replace hb := undrewN hb | skip); (first | replace HA := HA.below hb | replace HA := (HA.alloc _).below hb); obtain ⟨xA, yA, zA⟩ := id HA; (first | replace HB := HB.below hb | replace HB := (HB.alloc _).below hb); obtain ⟨xB, yB, zB⟩ := id HB; (first | replace HC := HC.below hb | replace HC := (HC.alloc _).below hb); obtain ⟨xC, yC, zC⟩ := id HC; (first | replace T := up T hb T.size | replace T := up (T.alloc T.size _) hb (T.alloc T.size _).size); clear hb)
        | (go_at_call 16; (with_reducible refine (C3 _).mono ?_); rintro e w' ⟨rfl, hb⟩; (first | replace hb := undrew hb | replace hb := undrewN hb | skip); (first | replace HA := HA.below hb | replace HA := (HA.alloc _).below hb); obtain ⟨xA, yA, zA⟩ := id HA; (first | replace HB := HB.below hb | replace HB := (HB.alloc _).below hb); obtain ⟨xB, yB, zB⟩ := id HB; (first | replace HC := HC.below hb | replace HC := (HC.alloc _).below hb); obtain ⟨xC, yC, zC⟩ := id HC; (first | replace T := up T hb T.size | replace T := up (T.alloc T.size _) hb (T.alloc T.size _).size); clear hb))
    all_goals
      go_wp2_with fail
      go_meet
      exact ⟨rfl, rfl, rfl, HA, HB, HC, T⟩
  case rest =>
    clear HA HB HC T
    obtain ⟨rfl, rfl, rfl, HA, HB, HC, T⟩ := hcut
    obtain ⟨xA, yA, zA⟩ := id HA
    obtain ⟨xB, yB, zB⟩ := id HB
    obtain ⟨xC, yC, zC⟩ := id HC
    go_upto_region 4 with fail
    go_cut [67] from 23 (fun s67 wr => s67 = .bool false ∧ Has wr w.heap.size ah al ∧ Has wr (w.heap.size + 1) bh bl ∧ Has wr (w.heap.size + 1 + 1) ch cl ∧ Below w.heap.size w wr)
    case first =>
      obtain ⟨h4, h5⟩ := h1
      clear h2 h3
      have hcase : (wx = 0 ∧ xw = 0 ∧ ah = bh ∧ al = bl) ∨ (wx = -1 ∧ xw = 1 ∧ ah = bh ∧ ¬ al = bl) ∨ (wx = -1 ∧ xw = 1 ∧ ¬ ah = bh) ∨ (wx = 1 ∧ xw = -1 ∧ ah = bh ∧ ¬ al = bl) ∨ (wx = 1 ∧ xw = -1 ∧ ¬ ah = bh) := by omega
      clear h4
      rcases hcase with ⟨rfl, rfl, rfl, rfl⟩ | ⟨rfl, rfl, rfl, h6⟩ | ⟨rfl, rfl, h6⟩ | ⟨rfl, rfl, rfl, h6⟩ | ⟨rfl, rfl, h6⟩
      · by_cases h7 : xy ≤ 0
        · have h8 := h5 (by omega) h7
          have h8b : decide (0 < wy) = false := by simpa using h8
          clear h5
          go_wp2_with (go_at_call 16; (with_reducible refine (C4 _).mono ?_); rintro e w' ⟨rfl, hb⟩; (first | replace hb := undrew hb | replace hb := undrewN hb | skip); (first | replace HA := HA.below hb | replace HA := (HA.alloc _).below hb); obtain ⟨xA, yA, zA⟩ := id HA; (first | replace HB := HB.below hb | replace HB := (HB.alloc _).below hb); obtain ⟨xB, yB, zB⟩ := id HB; (first | replace HC := HC.below hb | replace HC := (HC.alloc _).below hb); obtain ⟨xC, yC, zC⟩ := id HC; (first | replace T := up T hb T.size | replace T := up (T.alloc T.size _) hb (T.alloc T.size _).size); clear hb)
          go_meet
          exact ⟨rfl, HA, HB, HC, T⟩
        · clear h5
          go_wp2_with (go_at_call 16; (with_reducible refine (C4 _).mono ?_); rintro e w' ⟨rfl, hb⟩; (first | replace hb := undrew hb | replace hb := undrewN hb | skip); (first | replace HA := HA.below hb | replace HA := (HA.alloc _).below hb); obtain ⟨xA, yA, zA⟩ := id HA; (first | replace HB := HB.below hb | replace HB := (HB.alloc _).below hb); obtain ⟨xB, yB, zB⟩ := id HB; (first | replace HC := HC.below hb | replace HC := (HC.alloc _).below hb); obtain ⟨xC, yC, zC⟩ := id HC; (first | replace T := up T hb T.size | replace T := up (T.alloc T.size _) hb (T.alloc T.size _).size); clear hb)
          go_meet
          exact ⟨rfl, HA, HB, HC, T⟩
      · have h9 : (al == bl) = false := by simpa using h6
        clear h6
        by_cases h7 : xy ≤ 0
        · have h8 := h5 (by omega) h7
          have h8b : decide (0 < wy) = false := by simpa using h8
          clear h5
          go_wp2_with (go_at_call 16; (with_reducible refine (C4 _).mono ?_); rintro e w' ⟨rfl, hb⟩; (first | replace hb := undrew hb | replace hb := undrewN hb | skip); (first | replace HA := HA.below hb | replace HA := (HA.alloc _).below hb); obtain ⟨xA, yA, zA⟩ := id HA; (first | replace HB := HB.below hb | replace HB := (HB.alloc _).below hb); obtain ⟨xB, yB, zB⟩ := id HB; (first | replace HC := HC.below hb | replace HC := (HC.alloc _).below hb); obtain ⟨xC, yC, zC⟩ := id HC; (first | replace T := up T hb T.size | replace T := up (T.alloc T.size _) hb (T.alloc T.size _).size); clear hb)
          go_meet
          exact ⟨rfl, HA, HB, HC, T⟩
        · clear h5
          go_wp2_with (go_at_call 16; (with_reducible refine (C4 _).mono ?_); rintro e w' ⟨rfl, hb⟩; (first | replace hb := undrew hb | replace hb := undrewN hb | skip); (first | replace HA := HA.below hb | replace HA := (HA.alloc _).below hb); obtain ⟨xA, yA, zA⟩ := id HA; (first | replace HB := HB.below hb | replace HB := (HB.alloc _).below hb); obtain ⟨xB, yB, zB⟩ := id HB; (first | replace HC := HC.below hb | replace HC := (HC.alloc _).below hb); obtain ⟨xC, yC, zC⟩ := id HC; (first | replace T := up T hb T.size | replace T := up (T.alloc T.size _) hb (T.alloc T.size _).size); clear hb)
          go_meet
          exact ⟨rfl, HA, HB, HC, T⟩
      · have h9 : (ah == bh) = false := by simpa using h6
        clear h6
        by_cases h7 : xy ≤ 0
        · have h8 := h5 (by omega) h7
          have h8b : decide (0 < wy) = false := by simpa using h8
          clear h5
          go_wp2_with (go_at_call 16; (with_reducible refine (C4 _).mono ?_); rintro e w' ⟨rfl, hb⟩; (first | replace hb := undrew hb | replace hb := undrewN hb | skip); (first | replace HA := HA.below hb | replace HA := (HA.alloc _).below hb); obtain ⟨xA, yA, zA⟩ := id HA; (first | replace HB := HB.below hb | replace HB := (HB.alloc _).below hb); obtain ⟨xB, yB, zB⟩ := id HB; (first | replace HC := HC.below hb | replace HC := (HC.alloc _).below hb); obtain ⟨xC, yC, zC⟩ := id HC; (first | replace T := up T hb T.size | replace T := up (T.alloc T.size _) hb (T.alloc T.size _).size); clear hb)
          go_meet
          exact ⟨rfl, HA, HB, HC, T⟩
        · clear h5
          go_wp2_with (go_at_call 16; (with_reducible refine (C4 _).mono ?_); rintro e w' ⟨rfl, hb⟩; (first | replace hb := undrew hb | replace hb := undrewN hb | skip); (first | replace HA := HA.below hb | replace HA := (HA.alloc _).below hb); obtain ⟨xA, yA, zA⟩ := id HA; (first | replace HB := HB.below hb | replace HB := (HB.alloc _).below hb); obtain ⟨xB, yB, zB⟩ := id HB; (first | replace HC := HC.below hb | replace HC := (HC.alloc _).below hb); obtain ⟨xC, yC, zC⟩ := id HC; (first | replace T := up T hb T.size | replace T := up (T.alloc T.size _) hb (T.alloc T.size _).size); clear hb)
          go_meet
          exact ⟨rfl, HA, HB, HC, T⟩
      · have h9 : (al == bl) = false := by simpa using h6
        clear h6 h5
        go_wp2_with (go_at_call 16; (with_reducible refine (C4 _).mono ?_); rintro e w' ⟨rfl, hb⟩; (first | replace hb := undrew hb | replace hb := undrewN hb | skip); (first | replace HA := HA.below hb | replace HA := (HA.alloc _).below hb); obtain ⟨xA, yA, zA⟩ := id HA; (first | replace HB := HB.below hb | replace HB := (HB.alloc _).below hb); obtain ⟨xB, yB, zB⟩ := id HB; (first | replace HC := HC.below hb | replace HC := (HC.alloc _).below hb); obtain ⟨xC, yC, zC⟩ := id HC; (first | replace T := up T hb T.size | replace T := up (T.alloc T.size _) hb (T.alloc T.size _).size); clear hb)
        go_meet
        exact ⟨rfl, HA, HB, HC, T⟩
      · have h9 : (ah == bh) = false := by simpa using h6
        clear h6 h5
        go_wp2_with (go_at_call 16; (with_reducible refine (C4 _).mono ?_); rintro e w' ⟨rfl, hb⟩; (first | replace hb := undrew hb | replace hb := undrewN hb | skip); (first | replace HA := HA.below hb | replace HA := (HA.alloc _).below hb); obtain ⟨xA, yA, zA⟩ := id HA; (first | replace HB := HB.below hb | replace HB := (HB.alloc _).below hb); obtain ⟨xB, yB, zB⟩ := id HB; (first | replace HC := HC.below hb | replace HC := (HC.alloc _).below hb); obtain ⟨xC, yC, zC⟩ := id HC; (first | replace T := up T hb T.size | replace T := up (T.alloc T.size _) hb (T.alloc T.size _).size); clear hb)
        go_meet
        exact ⟨rfl, HA, HB, HC, T⟩
    case rest =>
      clear h1 HA HB HC T xA yA zA xB yB zB xC yC zC
      obtain ⟨rfl, HA, HB, HC, T⟩ := hcut
      obtain ⟨xA, yA, zA⟩ := id HA
      obtain ⟨xB, yB, zB⟩ := id HB
      obtain ⟨xC, yC, zC⟩ := id HC
      go_upto_region 8 with (first
        | (go_at_call 10; (with_reducible refine (P1 _).mono ?_); rintro e wP ⟨rfl, hb⟩; (first | replace hb := undrew hb | replace hb := undrewN hb | skip); (first | replace HA := HA.below hb | replace HA := (HA.alloc _).below hb); obtain ⟨xA, yA, zA⟩ := id HA; (first | replace HB := HB.below hb | replace HB := (HB.alloc _).below hb); obtain ⟨xB, yB, zB⟩ := id HB; (first | replace HC := HC.below hb | replace HC := (HC.alloc _).below hb); obtain ⟨xC, yC, zC⟩ := id HC; (first | replace T := up T hb T.size | replace T := up (T.alloc T.size _) hb (T.alloc T.size _).size); clear hb)
        | (go_at_call 10; (with_reducible refine (P2 _).mono ?_); rintro e wQ ⟨rfl, hb⟩; (first | replace hb := undrew hb | replace hb := undrewN hb | skip); (first | replace HA := HA.below hb | replace HA := (HA.alloc _).below hb); obtain ⟨xA, yA, zA⟩ := id HA; (first | replace HB := HB.below hb | replace HB := (HB.alloc _).below hb); obtain ⟨xB, yB, zB⟩ := id HB; (first | replace HC := HC.below hb | replace HC := (HC.alloc _).below hb); obtain ⟨xC, yC, zC⟩ := id HC; have HP := (Has.new wP (p1) (p2)).below hb; obtain ⟨xP, yP, zP⟩ := id HP; (first | replace T := up T hb T.size | replace T := up (T.alloc T.size _) hb (T.alloc T.size _).size); clear hb))
      replace HA := HA.alloc (.cells #[.int .u64 q1, .int .u64 q2] 24)
      replace HB := HB.alloc (.cells #[.int .u64 q1, .int .u64 q2] 24)
      replace HC := HC.alloc (.cells #[.int .u64 q1, .int .u64 q2] 24)
      replace HP := HP.alloc (.cells #[.int .u64 q1, .int .u64 q2] 24)
      have HQ := Has.new wQ q1 q2
      replace T := T.alloc T.size (.cells #[.int .u64 q1, .int .u64 q2] 24)
      obtain ⟨xA, yA, zA⟩ := id HA
      obtain ⟨xB, yB, zB⟩ := id HB
      obtain ⟨xC, yC, zC⟩ := id HC
      obtain ⟨xP, yP, zP⟩ := id HP
      obtain ⟨xQ, yQ, zQ⟩ := id HQ
      go_cut [104] from 23 (fun s104 wr => s104 = .bool false ∧ Has wr w.heap.size ah al ∧ Has wr (w.heap.size + 1) bh bl ∧ Has wr (w.heap.size + 1 + 1) ch cl ∧ Below w.heap.size w wr)
      case first =>
        clear h3
        rcases h2 with ⟨rfl, rfl, C5⟩ | ⟨rfl, rfl⟩ | ⟨rfl, rfl⟩ | ⟨rfl, rfl, hp⟩
        · go_wp2_with (go_at_call 16; (with_reducible refine (C5 _).mono ?_); rintro e w' ⟨rfl, hb⟩; (first | replace hb := undrew hb | replace hb := undrewN hb | skip); (first | replace HA := HA.below hb | replace HA := (HA.alloc _).below hb); obtain ⟨xA, yA, zA⟩ := id HA; (first | replace HB := HB.below hb | replace HB := (HB.alloc _).below hb); obtain ⟨xB, yB, zB⟩ := id HB; (first | replace HC := HC.below hb | replace HC := (HC.alloc _).below hb); obtain ⟨xC, yC, zC⟩ := id HC; (first | replace T := up T hb T.size | replace T := up (T.alloc T.size _) hb (T.alloc T.size _).size); clear hb)
          go_meet
          exact ⟨rfl, HA, HB, HC, T⟩
        · go_wp2_with (fail)
          go_meet
          exact ⟨rfl, HA, HB, HC, T⟩
        · go_wp2_with (fail)
          go_meet
          exact ⟨rfl, HA, HB, HC, T⟩
        · have hp2 : decide (wx ≤ 0) = false := by simpa using hp
          go_wp2_with (fail)
          go_meet
          exact ⟨rfl, HA, HB, HC, T⟩
      case rest =>
        clear h2 HA HB HC HP HQ T xA yA zA xB yB zB xC yC zC xP yP zP xQ yQ zQ
        obtain ⟨rfl, HA, HB, HC, T⟩ := hcut
        obtain ⟨xA, yA, zA⟩ := id HA
        obtain ⟨xB, yB, zB⟩ := id HB
        obtain ⟨xC, yC, zC⟩ := id HC
        obtain ⟨hg, hm⟩ := h3
        rcases hg with ⟨rfl, hg⟩ | ⟨rfl, hg⟩ <;> rcases hm with ⟨rfl, rfl⟩ | ⟨hk, rfl, hm⟩ | ⟨hk, rfl, rfl⟩ | ⟨hk, rfl, hm⟩
        all_goals
          try (have C8 : Cm m1 m2 m1 m2 0 := C7 rfl)
          clear C7
          try (have hk2 : (k == 0) = false := (by simp; omega))
          try (have hr1 : decide (0 ≤ wx) = false := (by simp; omega))
          try (have hr2 : decide (0 ≤ wx) = true := (by simp; omega))
          try (have hr3 : decide (i < j) = true := (by simp; omega))
          try (have hr4 : decide (i < j) = false := (by simp; omega))
          try (have hm2 : (i == j) = false := (by simp; omega))
          go_wp2_with (first
            | (go_at_call 12; (with_reducible refine (D _).mono ?_); rintro e wD ⟨rfl, hb⟩; (first | replace hb := undrew hb | replace hb := undrewN hb | skip); (first | replace HA := HA.below hb | replace HA := (HA.alloc _).below hb); obtain ⟨xA, yA, zA⟩ := id HA; (first | replace HB := HB.below hb | replace HB := (HB.alloc _).below hb); obtain ⟨xB, yB, zB⟩ := id HB; (first | replace HC := HC.below hb | replace HC := (HC.alloc _).below hb); obtain ⟨xC, yC, zC⟩ := id HC; (first | replace T := up T hb T.size | replace T := up (T.alloc T.size _) hb (T.alloc T.size _).size); clear hb)
            | (go_at_call 20; (with_reducible refine (M1 _).mono ?_); rintro e w' ⟨rfl, hb⟩; (first | replace hb := undrew hb | replace hb := undrewN hb | skip); (first | replace HA := HA.below hb | replace HA := (HA.alloc _).below hb); obtain ⟨xA, yA, zA⟩ := id HA; (first | replace HB := HB.below hb | replace HB := (HB.alloc _).below hb); obtain ⟨xB, yB, zB⟩ := id HB; (first | replace HC := HC.below hb | replace HC := (HC.alloc _).below hb); obtain ⟨xC, yC, zC⟩ := id HC; (first | replace T := up T hb T.size | replace T := up (T.alloc T.size _) hb (T.alloc T.size _).size); clear hb)
            | (go_at_call 20; (with_reducible refine (M2 _).mono ?_); rintro e w' ⟨rfl, hb⟩; (first | replace hb := undrew hb | replace hb := undrewN hb | skip); (first | replace HA := HA.below hb | replace HA := (HA.alloc _).below hb); obtain ⟨xA, yA, zA⟩ := id HA; (first | replace HB := HB.below hb | replace HB := (HB.alloc _).below hb); obtain ⟨xB, yB, zB⟩ := id HB; (first | replace HC := HC.below hb | replace HC := (HC.alloc _).below hb); obtain ⟨xC, yC, zC⟩ := id HC; (first | replace T := up T hb T.size | replace T := up (T.alloc T.size _) hb (T.alloc T.size _).size); clear hb)
            | (go_at_call 16; (with_reducible refine (C6 _).mono ?_); rintro e w' ⟨rfl, hb⟩; (first | replace hb := undrew hb | replace hb := undrewN hb | skip); (first | replace HA := HA.below hb | replace HA := (HA.alloc _).below hb); obtain ⟨xA, yA, zA⟩ := id HA; (first | replace HB := HB.below hb | replace HB := (HB.alloc _).below hb); obtain ⟨xB, yB, zB⟩ := id HB; (first | replace HC := HC.below hb | replace HC := (HC.alloc _).below hb); obtain ⟨xC, yC, zC⟩ := id HC; (first | replace T := up T hb T.size | replace T := up (T.alloc T.size _) hb (T.alloc T.size _).size); clear hb)
            | (go_at_call 16; (with_reducible refine (C8 _).mono ?_); rintro e w' ⟨rfl, hb⟩; (first | replace hb := undrew hb | replace hb := undrewN hb | skip); (first | replace HA := HA.below hb | replace HA := (HA.alloc _).below hb); obtain ⟨xA, yA, zA⟩ := id HA; (first | replace HB := HB.below hb | replace HB := (HB.alloc _).below hb); obtain ⟨xB, yB, zB⟩ := id HB; (first | replace HC := HC.below hb | replace HC := (HC.alloc _).below hb); obtain ⟨xC, yC, zC⟩ := id HC; (first | replace T := up T hb T.size | replace T := up (T.alloc T.size _) hb (T.alloc T.size _).size); clear hb))
          go_ret
          exact ⟨rfl, T⟩
end Go.Proofs.Ytdnljjpfmnfdoaa.wideOrder
