/- What a run has is the least of what all copies have, and the lesser one of both lines: the walk of the statement. -/
import Derived.Test.YtdhfblcheoahaaaShoW
import Derived.Deep.DeepCutAuto
import Derived.Deep.CutBlock
namespace Go.Proofs.Ytdhfblcheoahaaa
open Go.RowKit Go.Shelf W
set_option linter.unusedVariables false
set_option maxRecDepth 100000
theorem found_step {G : Nat → Int} {k : Nat} {g v : Int} (h : G k = g) (hb : false = true ↔ ∃ j, j < k ∧ G j = v) : (g == v) = true ↔ ∃ j, j < k + 1 ∧ G j = v := by
  constructor
  · intro e
    exact ⟨k, by omega, h.trans (by simpa using e)⟩
  · rintro ⟨j, hj, e⟩
    rcases Nat.lt_or_ge j k with h1 | h1
    · exact absurd (hb.2 ⟨j, h1, e⟩) (by simp)
    · obtain rfl : j = k := by omega
      rw [← h, e]; simp
section
variable (f l r : Int) (a : Option Addr) (n c : Nat) (t : Int) (w : World)
set_option maxHeartbeats 1000000 in
theorem lea_no (hS : ∀ w', Below w.heap.size w w' → Calls Try.prog 21 #[.agg #[eU f, eU l, eU r], .slice a n c] w' fun e w'' => e = .returned (.pointer none) ∧ Below w'.heap.size w' w'') :
    Calls Try.prog 5 #[.agg #[eU f, eU l, eU r], .slice a n c, eU t] w fun e w' => e = .returned (.bool true) ∧ Below w.heap.size w w' := by
  have BC := Box.new w 24 #[eU f, eU l, eU r]
  have T := up1 w (.cells #[eU f, eU l, eU r] 24)
  go_enter Try.func5, Try.ntmps5
  go_wp2_with (first
    | (go_at_call 20; (with_reducible refine (awake_any _).mono ?_); rintro e w1 ⟨rfl, hb⟩; replace BC := BC.below hb; replace T := up T hb T.size; clear hb; obtain ⟨c0, c1, c2, c3⟩ := BC.tri)
    | (go_at_call 21; (with_reducible refine (hS _ T).mono ?_); rintro e w2 ⟨rfl, hb⟩; replace T := up T hb T.size; clear hb))
  go_ret
  exact ⟨rfl, T⟩
set_option maxHeartbeats 1000000 in
theorem lea_zero (R : Nat → World → Prop) (hRb : ∀ B w w', R B w → Below w.heap.size w w' → R B w')
    (hS : ∀ w', Below w.heap.size w w' → Calls Try.prog 21 #[.agg #[eU f, eU l, eU r], .slice a 0 c] w' fun e w'' => ∃ B : Nat, e = .returned (.pointer (some ⟨B, 0, none⟩)) ∧ w'.heap.size ≤ B ∧ R B w'' ∧ Below w'.heap.size w' w'')
    (hL : ∀ B w, R B w → Calls Try.prog 15 #[.pointer (some ⟨B, 0, none⟩)] w fun e w' => e = .returned (.tuple #[eU 0, .bool false]) ∧ w = w')
    (hA : ∀ B w, R B w → Calls Try.prog 18 #[.pointer (some ⟨B, 0, none⟩), eU t] w fun e w' => e = .returned (eU 0) ∧ Below w.heap.size w w') :
    Calls Try.prog 5 #[.agg #[eU f, eU l, eU r], .slice a 0 c, eU t] w fun e w' => e = .returned (.bool true) ∧ Below w.heap.size w w' := by
  have BC := Box.new w 24 #[eU f, eU l, eU r]
  have T := up1 w (.cells #[eU f, eU l, eU r] 24)
  go_enter Try.func5, Try.ntmps5
  go_wp2_with (first
    | (go_at_call 20; (with_reducible refine (awake_any _).mono ?_); rintro e w1 ⟨rfl, hb⟩; replace BC := BC.below hb; replace T := up T hb T.size; clear hb; obtain ⟨c0, c1, c2, c3⟩ := BC.tri)
    | (go_at_call 21; (with_reducible refine (hS _ T).mono ?_); rintro e w2 ⟨B, rfl, hB, hR, hb⟩; replace T := up T hb T.size; clear hb)
    | (go_at_call 15; (with_reducible refine (hL _ _ hR).mono ?_); rintro e w3 ⟨rfl, rfl⟩)
    | (go_at_call 18; (with_reducible refine (hA _ _ hR).mono ?_); rintro e w4 ⟨rfl, hb⟩; replace T := up T hb T.size; clear hb))
  go_ret
  exact ⟨rfl, T⟩
set_option maxHeartbeats 8000000 in
theorem lea_run (xs : Nat → Ac) (XX ca G : Nat → Int) (m v p q d u1 u2 z1 z2 : Int) (R : Nat → World → Prop) (hRb : ∀ B w w', R B w → Below w.heap.size w w' → R B w') (hn : 0 < n) (hn2 : n ≤ 40) (hI : IsAcs w a n c xs)
    (hm : max t (XX n) = m) (hX0 : XX 0 = 0) (hXX : ∀ k, k < n → max (XX k) (min (xs k).x 9223372036854775808) = XX (k + 1)) (hd : IntKind.u64.wrap (m - XX n) = d)
    (hwr : ∀ k, k < n → IntKind.u64.wrap (m - XX (k + 1)) = m - XX (k + 1)) (hG : ∀ k, k < n → v ≤ G k) (hE : ∃ k, k < n ∧ G k = v) (hv : min z1 z2 = v)
    (hS : ∀ w', Below w.heap.size w w' → Calls Try.prog 21 #[.agg #[eU f, eU l, eU r], .slice a n c] w' fun e w'' => ∃ B : Nat, e = .returned (.pointer (some ⟨B, 0, none⟩)) ∧ w'.heap.size ≤ B ∧ R B w'' ∧ Below w'.heap.size w' w'')
    (hL : ∀ B w, R B w → Calls Try.prog 15 #[.pointer (some ⟨B, 0, none⟩)] w fun e w' => e = .returned (.tuple #[eU (XX n), .bool true]) ∧ w = w')
    (hA : ∀ B w, R B w → Calls Try.prog 18 #[.pointer (some ⟨B, 0, none⟩), eU t] w fun e w' => e = .returned (eU v) ∧ Below w.heap.size w w')
    (hC : ∀ k, k < n → ∀ w, Calls Try.prog 23 #[.agg #[eU f, eU l, eU r], eU (m - XX (k + 1))] w fun e w' => e = .returned (eU (ca k)) ∧ Below w.heap.size w w')
    (hP : ∀ k, k < n → ∀ w, Calls Try.prog 22 #[eU (min (xs k).y 4611686018427387904), eU (ca k)] w fun e w' => e = .returned (eU (G k)) ∧ Below w.heap.size w w')
    (hLi : ∀ B w, R B w → Calls Try.prog 16 #[.pointer (some ⟨B, 0, none⟩)] w fun e w' => e = .returned (.tuple #[eU p, eU q]) ∧ Below w.heap.size w w')
    (hT1 : ∀ w, Calls Try.prog 24 #[eU f, eU d] w fun e w' => e = .returned (eU u1) ∧ Below w.heap.size w w')
    (hT2 : ∀ w, Calls Try.prog 24 #[eU r, eU d] w fun e w' => e = .returned (eU u2) ∧ Below w.heap.size w w')
    (hP1 : ∀ w, Calls Try.prog 22 #[eU p, eU u1] w fun e w' => e = .returned (eU z1) ∧ Below w.heap.size w w')
    (hP2 : ∀ w, Calls Try.prog 22 #[eU q, eU u2] w fun e w' => e = .returned (eU z2) ∧ Below w.heap.size w w') :
    Calls Try.prog 5 #[.agg #[eU f, eU l, eU r], .slice a n c, eU t] w fun e w' => e = .returned (.bool true) ∧ Below w.heap.size w w' := by
  have BC := Box.new w 24 #[eU f, eU l, eU r]
  have T := up1 w (.cells #[eU f, eU l, eU r] 24)
  obtain ⟨x, hx⟩ : ∃ x, XX n = x := ⟨_, rfl⟩
  rw [hx] at hm hd hL
  have H := Lib.hid (And.intro hX0 (And.intro hXX (And.intro hwr (And.intro hG hE))))
  have HX := Lib.hid hx
  have HC := Lib.hid hC
  have HP := Lib.hid hP
  have HI := Lib.hid hI
  clear hX0 hXX hwr hG hE hC hP hI hx
  go_enter Try.func5, Try.ntmps5
  go_upto_block 0 with (first
    | (go_at_call 20; (with_reducible refine (awake_any _).mono ?_); rintro e w1 ⟨rfl, hb⟩; replace BC := BC.below hb; replace T := up T hb T.size; clear hb; obtain ⟨c0, c1, c2, c3⟩ := BC.tri)
    | (go_at_call 21; (with_reducible refine (hS _ T).mono ?_); rintro e w2 ⟨B, rfl, hB, hR, hb⟩; replace BC := BC.below hb; replace T := up T hb T.size; clear hb c0 c1 c2 c3; obtain ⟨c0, c1, c2, c3⟩ := BC.tri)
    | (go_at_call 15; (with_reducible refine (hL _ _ hR).mono ?_); rintro e w3 ⟨rfl, rfl⟩)
    | (go_at_call 18; (with_reducible refine (hA _ _ hR).mono ?_); rintro e w4 ⟨rfl, hb⟩; replace hR := hRb _ _ _ hR hb; replace BC := BC.below hb; replace T := up T hb T.size; clear hb c0 c1 c2 c3; obtain ⟨c0, c1, c2, c3⟩ := BC.tri))
  go_cut [12, 13] (fun s12 s13 wx => s12 = eU x ∧ s13 = .bool true ∧ R B wx ∧ Box wx w.heap.size #[eU f, eU l, eU r] 24 ∧ Below w.heap.size w wx)
  case first =>
    go_wp2_with fail
    go_loopw [12, 13, 14] (fun s12 s13 s14 wr => ∃ (k : Nat) (b : Bool), s12 = eU (XX k) ∧ s13 = .bool b ∧ s14 = .int .i64 k ∧ k ≤ n ∧ (b = true ↔ ∃ j, j < k ∧ G j = v) ∧ R B wr ∧ Box wr w.heap.size #[eU f, eU l, eU r] 24 ∧ Below w.heap.size w wr) (fun _ _ s14 _ => n - (intOf s14).toNat)
    case atStart => exact ⟨0, false, by rw [H.out.1], rfl, rfl, by omega, by simp, hR, BC, T⟩
    case round =>
      clear BC T hR c0 c1 c2 c3
      obtain ⟨k, b, rfl, rfl, rfl, hk, hb0, hR, BC, T⟩ := hrel
      by_cases hlt : k < n
      · have i1 : (k : Int) < (n : Int) := by omega
        have i2 : (0 : Int) ≤ (k : Int) := by omega
        obtain ⟨h2, h3⟩ := HI.out
        rcases h3 with h3 | ⟨bb, o, rfl, h3⟩
        · omega
        · obtain ⟨y1, y2, _, _⟩ := (h3.below T).2 k hlt
          have hcs : (n : Int) ≤ (c : Int) := by omega
          have hrow := Lib.hid h3
          obtain ⟨hX0, hXX, hwr, hG, hE⟩ := H.out
          have e1 := hXX k hlt
          have e2 := hwr k hlt
          have e3 := hG k hlt
          have hC := HC.out k hlt
          have hP := HP.out k hlt
          have hkeep : ∀ w', AcRow w' bb o n xs → w'.cell? ⟨bb, o + k * 4 + 1, none⟩ = some (.int .u64 (xs k).y) := fun w' h => (h.2 k hlt).2.1
          obtain ⟨X0, x0⟩ : ∃ X0, XX k = X0 := ⟨_, rfl⟩
          obtain ⟨X1, x1⟩ : ∃ X1, XX (k + 1) = X1 := ⟨_, rfl⟩
          obtain ⟨gk, x2⟩ : ∃ gk, G k = gk := ⟨_, rfl⟩
          obtain ⟨ck, x3⟩ : ∃ ck, ca k = ck := ⟨_, rfl⟩
          obtain ⟨xk, x4⟩ : ∃ xk, (xs k).x = xk := ⟨_, rfl⟩
          obtain ⟨yk, x5⟩ : ∃ yk, (xs k).y = yk := ⟨_, rfl⟩
          rw [x0, x1, x4] at e1
          rw [x1] at e2
          rw [x2] at e3
          rw [x1, x3] at hC
          rw [x2, x3, x5] at hP
          rw [x4] at y1
          rw [x5] at y2 hkeep
          rw [x0]
          have X1e := Lib.hid x1
          have X2e := Lib.hid x2
          have e4 : ¬ gk < v := by omega
          have hK := Lib.hid hkeep
          have hB0 := Lib.hid hb0
          obtain ⟨c0, c1, c2, c3⟩ := BC.tri
          clear hX0 hXX hwr hG hE x0 x1 x2 x3 x4 x5 h3 hkeep hb0 e3
          go_upto_region 17 with fail
          go_region_held3 (fun w' => w'.cell? ⟨w.heap.size, 0, none⟩ = some (.int .u64 f) ∧ w'.cell? ⟨w.heap.size, 1, none⟩ = some (.int .u64 l) ∧ w'.cell? ⟨w.heap.size, 2, none⟩ = some (.int .u64 r) ∧ w'.cell? ⟨bb, o + k * 4 + 1, none⟩ = some (.int .u64 yk))
            (first | exact ⟨BC.tri.2.1, BC.tri.2.2.1, BC.tri.2.2.2, hK.out _ (hrow.out.below (by first | exact T | exact T.drew))⟩)
            (first
              | (go_at_call 23; (with_reducible refine (hC _).mono ?_); rintro e w5 ⟨rfl, hb⟩; (first | replace hb := undrew hb | replace hb := undrewN hb | skip); replace T := up T hb T.size; replace BC := BC.below hb; replace hR := hRb _ _ _ hR hb; clear hb)
              | (go_at_call 22; (with_reducible refine (hP _).mono ?_); rintro e w6 ⟨rfl, hb⟩; (first | replace hb := undrew hb | replace hb := undrewN hb | skip); replace T := up T hb T.size; replace BC := BC.below hb; replace hR := hRb _ _ _ hR hb; clear hb))
          all_goals cases b
          all_goals go_wp2
          all_goals go_roundw
          all_goals first
            | (simp [intOf]; omega)
            | exact ⟨k + 1, true, by rw [X1e.out], rfl, by go_num, by omega, ⟨fun _ => (hB0.out.1 rfl).elim fun j h => ⟨j, by omega, h.2⟩, fun _ => rfl⟩, hR, BC, T⟩
            | exact ⟨k + 1, gk == v, by rw [X1e.out], rfl, by go_num, by omega, found_step X2e.out hB0.out, hR, BC, T⟩
      · obtain rfl : k = n := by omega
        have hb1 : b = true := hb0.2 H.out.2.2.2.2
        subst hb1
        have i1 : ¬ (k : Int) < (k : Int) := by omega
        go_wp2
        go_meet
        case rel => exact ⟨by rw [HX.out], rfl, hR, BC, T⟩
  case rest =>
    obtain ⟨rfl, rfl, hR2, BC2, T2⟩ := hcut
    clear H HX HC HP HI BC T hR c0 c1 c2 c3
    have BC := BC2
    have T := T2
    have hR := hR2
    clear BC2 T2 hR2
    go_upto_region 23 with (go_at_call 16; (with_reducible refine (hLi _ _ hR).mono ?_); rintro e w5 ⟨rfl, hb⟩; replace T := up T hb T.size; replace BC := BC.below hb; clear hb hR)
    obtain ⟨c0, c1, c2, c3⟩ := BC.tri
    go_region_held3 (fun w' => w'.cell? ⟨w.heap.size, 0, none⟩ = some (.int .u64 f) ∧ w'.cell? ⟨w.heap.size, 1, none⟩ = some (.int .u64 l) ∧ w'.cell? ⟨w.heap.size, 2, none⟩ = some (.int .u64 r))
      (first | exact ⟨BC.tri.2.1, BC.tri.2.2.1, BC.tri.2.2.2⟩)
      (first
        | (go_at_call 24; (with_reducible refine (hT1 _).mono ?_); rintro e w6 ⟨rfl, hb⟩; (first | replace hb := undrew hb | replace hb := undrewN hb | skip); replace T := up T hb T.size; replace BC := BC.below hb; clear hb)
        | (go_at_call 24; (with_reducible refine (hT2 _).mono ?_); rintro e w7 ⟨rfl, hb⟩; (first | replace hb := undrew hb | replace hb := undrewN hb | skip); replace T := up T hb T.size; replace BC := BC.below hb; clear hb)
        | (go_at_call 22; (with_reducible refine (hP1 _).mono ?_); rintro e w8 ⟨rfl, hb⟩; (first | replace hb := undrew hb | replace hb := undrewN hb | skip); replace T := up T hb T.size; replace BC := BC.below hb; clear hb)
        | (go_at_call 22; (with_reducible refine (hP2 _).mono ?_); rintro e w9 ⟨rfl, hb⟩; (first | replace hb := undrew hb | replace hb := undrewN hb | skip); replace T := up T hb T.size; replace BC := BC.below hb; clear hb))
    all_goals go_wp2
    all_goals go_ret
    all_goals exact ⟨rfl, T⟩
end
end Go.Proofs.Ytdhfblcheoahaaa
