/- What a run has is the least of what all copies have, though few are kept; and so its line: the walk of the statement. -/
import Derived.Test.YtknpfcnjnpcboaaAwk
namespace Go.Proofs.Ytknpfcnjnpcboaa
open Go.RowKit Go.Shelf W
set_option linter.unusedVariables false
set_option maxRecDepth 100000
namespace W
def mnF (G : Nat → Int) : Nat → Int
  | 0 => 4611686018427387904
  | k + 1 => min (mnF G k) (G k)
def ebF (b : Nat → Bool) : Nat → Bool
  | 0 => true
  | k + 1 => ebF b k && b k
theorem mnF_le (G : Nat → Int) : ∀ {n k : Nat}, k < n → mnF G n ≤ G k
  | n + 1, k, h => by
    show min _ _ ≤ _
    rcases Nat.lt_or_ge k n with h1 | h1
    · have := mnF_le G h1; omega
    · obtain rfl : k = n := by omega
      omega
theorem mnF_ex (G : Nat → Int) : ∀ n : Nat, mnF G n = 4611686018427387904 ∨ ∃ k, k < n ∧ mnF G n = G k
  | 0 => .inl rfl
  | n + 1 => by
    show min _ _ = _ ∨ ∃ k, k < n + 1 ∧ min _ _ = _
    rcases Int.le_total (mnF G n) (G n) with h | h
    · rw [Int.min_eq_left h]
      rcases mnF_ex G n with e | ⟨k, hk, e⟩
      · exact .inl e
      · exact .inr ⟨k, by omega, e⟩
    · exact .inr ⟨n, by omega, Int.min_eq_right h⟩
theorem ebF_all (b : Nat → Bool) : ∀ {n : Nat}, ebF b n = true → ∀ k, k < n → b k = true
  | n + 1, h, k, hk => by
    have h : (ebF b n && b n) = true := h
    rw [Bool.and_eq_true] at h
    rcases Nat.lt_or_ge k n with h1 | h1
    · exact ebF_all b h.1 k h1
    · obtain rfl : k = n := by omega
      exact h.2
end W
section
variable (f l r : Int) (a : Option Addr) (n c : Nat) (t : Int) (w : World)
set_option maxHeartbeats 1000000 in
theorem lea_no (hS : ∀ w', Below w.heap.size w w' → Calls Try.prog 22 #[.agg #[eU f, eU l, eU r], .slice a n c] w' fun e w'' => e = .returned (.pointer none) ∧ Below w'.heap.size w' w'') :
    Calls Try.prog 5 #[.agg #[eU f, eU l, eU r], .slice a n c, eU t] w fun e w' => e = .returned (.bool true) ∧ Below w.heap.size w w' := by
  have BC := Box.new w 24 #[eU f, eU l, eU r]
  have T := up1 w (.cells #[eU f, eU l, eU r] 24)
  go_enter Try.func5, Try.ntmps5
  go_wp2_with (first
    | (go_at_call 21; (with_reducible refine (awake_any _).mono ?_); rintro e w1 ⟨rfl, hb⟩; replace BC := BC.below hb; replace T := up T hb T.size; clear hb; obtain ⟨c0, c1, c2⟩ := BC.three)
    | (go_at_call 22; (with_reducible refine (hS _ T).mono ?_); rintro e w2 ⟨rfl, hb⟩; replace T := up T hb T.size; clear hb))
  go_ret
  exact ⟨rfl, T⟩
set_option maxHeartbeats 1000000 in
theorem lea_zero (R : Nat → World → Prop)
    (hS : ∀ w', Below w.heap.size w w' → Calls Try.prog 22 #[.agg #[eU f, eU l, eU r], .slice a 0 c] w' fun e w'' => ∃ B : Nat, e = .returned (.pointer (some ⟨B, 0, none⟩)) ∧ R B w'' ∧ Below w'.heap.size w' w'')
    (hL : ∀ B w, R B w → Calls Try.prog 14 #[.pointer (some ⟨B, 0, none⟩)] w fun e w' => e = .returned (.tuple #[eU 0, .bool false]) ∧ w = w')
    (hA : ∀ B w, R B w → Calls Try.prog 17 #[.pointer (some ⟨B, 0, none⟩), eU t] w fun e w' => e = .returned (eU 0) ∧ w = w')
    (hB : ∀ B w, R B w → Calls Try.prog 18 #[.pointer (some ⟨B, 0, none⟩), eU t] w fun e w' => e = .returned (eU 0) ∧ w = w')
    (hK : ∀ B w, R B w → Calls Try.prog 20 #[.pointer (some ⟨B, 0, none⟩)] w fun e w' => e = .returned (eI 0) ∧ w = w') :
    Calls Try.prog 5 #[.agg #[eU f, eU l, eU r], .slice a 0 c, eU t] w fun e w' => e = .returned (.bool true) ∧ Below w.heap.size w w' := by
  have BC := Box.new w 24 #[eU f, eU l, eU r]
  have T := up1 w (.cells #[eU f, eU l, eU r] 24)
  go_enter Try.func5, Try.ntmps5
  go_wp2_with (first
    | (go_at_call 21; (with_reducible refine (awake_any _).mono ?_); rintro e w1 ⟨rfl, hb⟩; replace BC := BC.below hb; replace T := up T hb T.size; clear hb; obtain ⟨c0, c1, c2⟩ := BC.three)
    | (go_at_call 22; (with_reducible refine (hS _ T).mono ?_); rintro e w2 ⟨B, rfl, hR, hb⟩; replace T := up T hb T.size; clear hb)
    | (go_at_call 14; (with_reducible refine (hL _ _ hR).mono ?_); rintro e w3 ⟨rfl, rfl⟩)
    | (go_at_call 17; (with_reducible refine (hA _ _ hR).mono ?_); rintro e w3 ⟨rfl, rfl⟩)
    | (go_at_call 18; (with_reducible refine (hB _ _ hR).mono ?_); rintro e w3 ⟨rfl, rfl⟩)
    | (go_at_call 20; (with_reducible refine (hK _ _ hR).mono ?_); rintro e w3 ⟨rfl, rfl⟩))
  go_ret
  exact ⟨rfl, T⟩
set_option maxHeartbeats 8000000 in
theorem lea_run (xs : Nat → Ac) (XX ca ta G H : Nat → Int) (kn : Nat) (m v u x : Int) (R : Nat → World → Prop) (hRb : ∀ B w w', R B w → Below w.heap.size w w' → R B w') (hn : 0 < n) (hn2 : n ≤ 40) (hI : IsAcs w a n c xs)
    (hx : XX n = x) (hm : max t x = m) (hX0 : XX 0 = 0) (hXX : ∀ k, k < n → max (XX k) (min (xs k).x 9223372036854775808) = XX (k + 1))
    (hwr : ∀ k, k < n → IntKind.u64.wrap (m - XX (k + 1)) = m - XX (k + 1)) (hwx : ∀ k, k < n → IntKind.u64.wrap (x - XX (k + 1)) = x - XX (k + 1))
    (hv' : mnF G n = v) (hu' : mnF H n = u) (hk1 : 1 ≤ kn) (hk2 : kn ≤ n) (hk3 : ebF (fun k => decide (l ≤ x - XX (k + 1))) n = true → kn = 1)
    (hS : ∀ w', Below w.heap.size w w' → Calls Try.prog 22 #[.agg #[eU f, eU l, eU r], .slice a n c] w' fun e w'' => ∃ B : Nat, e = .returned (.pointer (some ⟨B, 0, none⟩)) ∧ R B w'' ∧ Below w'.heap.size w' w'')
    (hL : ∀ B w, R B w → Calls Try.prog 14 #[.pointer (some ⟨B, 0, none⟩)] w fun e w' => e = .returned (.tuple #[eU x, .bool true]) ∧ w = w')
    (hA : ∀ B w, R B w → Calls Try.prog 17 #[.pointer (some ⟨B, 0, none⟩), eU t] w fun e w' => e = .returned (eU v) ∧ Below w.heap.size w w')
    (hB : ∀ B w, R B w → Calls Try.prog 18 #[.pointer (some ⟨B, 0, none⟩), eU t] w fun e w' => e = .returned (eU u) ∧ Below w.heap.size w w')
    (hK : ∀ B w, R B w → Calls Try.prog 20 #[.pointer (some ⟨B, 0, none⟩)] w fun e w' => e = .returned (eI kn) ∧ w = w')
    (hC : ∀ k, k < n → ∀ w, Calls Try.prog 24 #[.agg #[eU f, eU l, eU r], eU (m - XX (k + 1))] w fun e w' => e = .returned (eU (ca k)) ∧ Below w.heap.size w w')
    (hP : ∀ k, k < n → ∀ w, Calls Try.prog 23 #[eU (min (xs k).y 4611686018427387904), eU (ca k)] w fun e w' => e = .returned (eU (G k)) ∧ Below w.heap.size w w')
    (hT : ∀ k, k < n → ∀ w, Calls Try.prog 25 #[eU r, eU (m - XX (k + 1))] w fun e w' => e = .returned (eU (ta k)) ∧ Below w.heap.size w w')
    (hQ : ∀ k, k < n → ∀ w, Calls Try.prog 23 #[eU (min (xs k).y 4611686018427387904), eU (ta k)] w fun e w' => e = .returned (eU (H k)) ∧ Below w.heap.size w w') :
    Calls Try.prog 5 #[.agg #[eU f, eU l, eU r], .slice a n c, eU t] w fun e w' => e = .returned (.bool true) ∧ Below w.heap.size w w' := by
  have BC := Box.new w 24 #[eU f, eU l, eU r]
  have T := up1 w (.cells #[eU f, eU l, eU r] 24)
  have HH := Lib.hid (And.intro hX0 (And.intro hXX (And.intro hwr hwx)))
  have HX := Lib.hid hx
  have HV := Lib.hid (And.intro hv' hu')
  have HK3 := Lib.hid hk3
  have HC := Lib.hid hC
  have HP := Lib.hid hP
  have HT := Lib.hid hT
  have HQ := Lib.hid hQ
  have HI := Lib.hid hI
  clear hX0 hXX hwr hwx hC hP hT hQ hI hx hv' hu' hk3
  go_enter Try.func5, Try.ntmps5
  go_wp2_with (first
    | (go_at_call 21; (with_reducible refine (awake_any _).mono ?_); rintro e w1 ⟨rfl, hb⟩; replace BC := BC.below hb; replace T := up T hb T.size; clear hb; obtain ⟨c0, c1, c2⟩ := BC.three)
    | (go_at_call 22; (with_reducible refine (hS _ T).mono ?_); rintro e w2 ⟨B, rfl, hR, hb⟩; replace BC := BC.below hb; replace T := up T hb T.size; clear hb c0 c1 c2; obtain ⟨c0, c1, c2⟩ := BC.three)
    | (go_at_call 14; (with_reducible refine (hL _ _ hR).mono ?_); rintro e w3 ⟨rfl, rfl⟩))
  go_loopw [11, 12, 13, 14, 15] (fun s11 s12 s13 s14 s15 wr => ∃ k : Nat, s11 = eU (XX k) ∧ s12 = eU (mnF G k) ∧ s13 = eU (mnF H k) ∧ s14 = .bool (ebF (fun k => decide (l ≤ x - XX (k + 1))) k) ∧ s15 = .int .i64 k ∧ k ≤ n ∧ R B wr ∧ Box wr w.heap.size #[eU f, eU l, eU r] 24 ∧ Below w.heap.size w wr) (fun _ _ _ _ s15 _ => n - (intOf s15).toNat)
  case atStart => exact ⟨0, by rw [HH.out.1], rfl, rfl, rfl, rfl, by omega, hR, BC, T⟩
  case round =>
    clear BC T hR c0 c1 c2 hS hL
    obtain ⟨k, h11, h12, h13, h14, rfl, hk, hR, BC, T⟩ := hrel
    by_cases hlt : k < n
    · have i1 : (k : Int) < (n : Int) := by omega
      have i2 : (0 : Int) ≤ (k : Int) := by omega
      obtain ⟨h2, h3⟩ := HI.out
      rcases h3 with h3 | ⟨bb, o, rfl, h3⟩
      · omega
      · obtain ⟨y1, y2, _, _⟩ := (h3.below T).2 k hlt
        have hcs : (n : Int) ≤ (c : Int) := by omega
        have hrow := Lib.hid h3
        obtain ⟨hX0, hXX, hwr, hwx⟩ := HH.out
        have e1 := hXX k hlt
        have e2 := hwr k hlt
        have e3 := hwx k hlt
        have hC := HC.out k hlt
        have hP := HP.out k hlt
        have hT := HT.out k hlt
        have hQ := HQ.out k hlt
        have m1 : mnF G (k + 1) = min (mnF G k) (G k) := rfl
        have m2 : mnF H (k + 1) = min (mnF H k) (H k) := rfl
        have m3 : ebF (fun k => decide (l ≤ x - XX (k + 1))) (k + 1) = (ebF (fun k => decide (l ≤ x - XX (k + 1))) k && decide (l ≤ x - XX (k + 1))) := rfl
        obtain ⟨X0, x0⟩ : ∃ X0, XX k = X0 := ⟨_, rfl⟩
        obtain ⟨X1, x1⟩ : ∃ X1, XX (k + 1) = X1 := ⟨_, rfl⟩
        obtain ⟨gk, x2⟩ : ∃ gk, G k = gk := ⟨_, rfl⟩
        obtain ⟨hk', x6⟩ : ∃ hk', H k = hk' := ⟨_, rfl⟩
        obtain ⟨ck, x3⟩ : ∃ ck, ca k = ck := ⟨_, rfl⟩
        obtain ⟨tk, x7⟩ : ∃ tk, ta k = tk := ⟨_, rfl⟩
        obtain ⟨xk, x4⟩ : ∃ xk, (xs k).x = xk := ⟨_, rfl⟩
        obtain ⟨yk, x5⟩ : ∃ yk, (xs k).y = yk := ⟨_, rfl⟩
        obtain ⟨g0, x8⟩ : ∃ g0, mnF G k = g0 := ⟨_, rfl⟩
        obtain ⟨h0, x9⟩ : ∃ h0, mnF H k = h0 := ⟨_, rfl⟩
        obtain ⟨b0, x10⟩ : ∃ b0, ebF (fun k => decide (l ≤ x - XX (k + 1))) k = b0 := ⟨_, rfl⟩
        obtain ⟨ym, x11⟩ : ∃ ym, min yk 4611686018427387904 = ym := ⟨_, rfl⟩
        rw [x0, x1, x4] at e1
        rw [x1] at e2 e3 hC hT
        rw [x3] at hC
        rw [x7] at hT
        rw [x2, x3, x5, x11] at hP
        rw [x6, x7, x5, x11] at hQ
        rw [x4] at y1
        rw [x5] at y2
        rw [x0] at h11
        rw [x8] at h12
        rw [x9] at h13
        rw [x10] at h14
        rw [x8, x2] at m1
        rw [x9, x6] at m2
        rw [x10, x1] at m3
        subst h11 h12 h13 h14
        have M := Lib.hid (And.intro m1 (And.intro m2 (And.intro m3 x1)))
        obtain ⟨c0, c1, c2⟩ := BC.three
        clear hX0 hXX hwr hwx x0 x1 x2 x3 x4 x5 x6 x7 x8 x9 x10 h3 m1 m2 m3 hA hB hK
        cases b0
        all_goals go_wp2_with (first
          | (go_at_call 24; (with_reducible refine (hC _).mono ?_); rintro e w5 ⟨rfl, hb⟩; replace T := up T hb T.size; replace BC := BC.below hb; replace hR := hRb _ _ _ hR hb; clear hb c0 c1 c2; obtain ⟨c0, c1, c2⟩ := BC.three)
          | (go_at_call 25; (with_reducible refine (hT _).mono ?_); rintro e w7 ⟨rfl, hb⟩; replace T := up T hb T.size; replace BC := BC.below hb; replace hR := hRb _ _ _ hR hb; clear hb c0 c1 c2; obtain ⟨c0, c1, c2⟩ := BC.three)
          | (go_at_call 23; (with_reducible refine (hP _).mono ?_); rintro e w6 ⟨rfl, hb⟩; replace T := up T hb T.size; replace BC := BC.below hb; replace hR := hRb _ _ _ hR hb; clear hb c0 c1 c2; obtain ⟨c0, c1, c2⟩ := BC.three)
          | (go_at_call 23; (with_reducible refine (hQ _).mono ?_); rintro e w8 ⟨rfl, hb⟩; replace T := up T hb T.size; replace BC := BC.below hb; replace hR := hRb _ _ _ hR hb; clear hb c0 c1 c2; obtain ⟨c0, c1, c2⟩ := BC.three))
        all_goals go_roundw
        all_goals first
          | exact ⟨k + 1, by rw [M.out.2.2.2], by rw [M.out.1], by rw [M.out.2.1], by rw [M.out.2.2.1]; rfl, by go_num, by omega, hR, BC, T⟩
          | (simp [intOf]; omega)
    · obtain rfl : k = n := by omega
      rw [HX.out] at h11
      rw [HV.out.1] at h12
      rw [HV.out.2] at h13
      subst h11 h12 h13
      have i1 : ¬ (k : Int) < (k : Int) := by omega
      have j1 : (1 : Int) ≤ (kn : Int) := by omega
      have j2 : (kn : Int) ≤ (k : Int) := by omega
      have j3 : 0 < kn := by omega
      obtain ⟨b0, x10⟩ : ∃ b0, ebF (fun k => decide (l ≤ x - XX (k + 1))) k = b0 := ⟨_, rfl⟩
      rw [x10] at h14
      subst h14
      have HK := HK3.out
      rw [x10] at HK
      clear x10
      cases b0
      · go_wp2_with (first
          | (go_at_call 17; (with_reducible refine (hA _ _ hR).mono ?_); rintro e w4 ⟨rfl, hb⟩; replace hR := hRb _ _ _ hR hb; replace T := up T hb T.size; clear hb)
          | (go_at_call 18; (with_reducible refine (hB _ _ hR).mono ?_); rintro e w4 ⟨rfl, hb⟩; replace hR := hRb _ _ _ hR hb; replace T := up T hb T.size; clear hb)
          | (go_at_call 20; (with_reducible refine (hK _ _ hR).mono ?_); rintro e w3 ⟨rfl, rfl⟩))
        go_ret
        exact ⟨rfl, T⟩
      · obtain rfl := HK rfl
        clear HK
        go_wp2_with (first
          | (go_at_call 17; (with_reducible refine (hA _ _ hR).mono ?_); rintro e w4 ⟨rfl, hb⟩; replace hR := hRb _ _ _ hR hb; replace T := up T hb T.size; clear hb)
          | (go_at_call 18; (with_reducible refine (hB _ _ hR).mono ?_); rintro e w4 ⟨rfl, hb⟩; replace hR := hRb _ _ _ hR hb; replace T := up T hb T.size; clear hb)
          | (go_at_call 20; (with_reducible refine (hK _ _ hR).mono ?_); rintro e w3 ⟨rfl, rfl⟩))
        go_ret
        exact ⟨rfl, T⟩
end
namespace W
theorem join_ex {f l r x y : Int} {K : List (Int × Int)} (h : Good f l r x K) : ∃ K', IsJoin f l r x y K K' := by
  let b : Nat → Bool := fun j => decide (y ≤ hv f l r (K.getD j (0, 0)) x)
  have bat : ∀ j (hj : j < K.length), b j = decide (y ≤ hv f l r K[j] x) := fun j hj => by
    show decide (y ≤ hv f l r (K.getD j (0, 0)) x) = _
    rw [List.getD_eq_getElem?_getD, List.getElem?_eq_getElem hj]; rfl
  obtain ⟨i, h0, h1, h2⟩ := turn_ex b K.length (fun i j hij hj hb => by
    rw [bat j hj]
    rw [bat i (by omega)] at hb
    simp only [decide_eq_true_eq] at hb ⊢
    rcases Nat.lt_or_ge i j with c | c
    · have := (h.lt (by omega) hj c).2.1; omega
    · obtain rfl : i = j := by omega
      exact hb)
  have hge : ∀ q a, i ≤ q → K[q]? = some a → y ≤ hv f l r a x := fun q a hq e => by
    obtain ⟨hlt, rfl⟩ := List.getElem?_eq_some_iff.1 e
    have := h2 q hq hlt
    simp only at this
    rw [bat q hlt] at this
    simpa using this
  rcases Nat.eq_zero_or_pos i with rfl | hi
  · exact ⟨_, 0, h0, hge, .inl ⟨rfl, rfl⟩⟩
  · have hlt : i - 1 < K.length := by omega
    have hl : hv f l r K[i - 1] x < y := by
      have := h1 (i - 1) (by omega)
      simp only at this
      rw [bat _ hlt] at this
      simpa using this
    rcases Int.lt_or_le y (lv r K[i - 1] x) with c | c
    · exact ⟨_, i, h0, hge, .inr ⟨i - 1, K[i - 1], by omega, List.getElem?_eq_getElem hlt, hl, .inr ⟨c, rfl⟩⟩⟩
    · exact ⟨_, i, h0, hge, .inr ⟨i - 1, K[i - 1], by omega, List.getElem?_eq_getElem hlt, hl, .inl ⟨c, rfl⟩⟩⟩
theorem kept_ex {f l r : Int} {X Y : Nat → Int} (hc : CvS f l r) (hY : ∀ k, 0 ≤ Y k) : ∀ n, ∃ K, KeptOk f l r X Y n K
  | 0 => ⟨[], KeptOk.new f l r X Y⟩
  | n + 1 => by
    obtain ⟨K, h⟩ := kept_ex hc hY n
    obtain ⟨K', hj⟩ := join_ex (y := min (Y n) 4611686018427387904) (h.good.age hc.2.1.1 (xS_step X n).1)
    exact ⟨K', h.start hc hY hj⟩
theorem KeptOk.early {f l r : Int} {X Y : Nat → Int} {n : Nat} {K : List (Int × Int)} (h : KeptOk f l r X Y n K) (he : ∀ k, k < n → l ≤ xS X n - xS X (k + 1)) : K.length ≤ 1 := by
  rcases Nat.lt_or_ge 1 K.length with h1 | h1
  · exfalso
    have b : ∀ k ∈ K, k.1 + l ≤ xS X n := fun k hk => by
      obtain ⟨q, hq, rfl⟩ := allL_mem (h.sub k hk)
      have := he q hq
      show xS X (q + 1) + l ≤ _
      omega
    obtain ⟨a1, a2, a3⟩ := h.good.lt (show 0 < K.length by omega) h1 (by omega)
    rw [hv_line (b _ (List.getElem_mem _)), hv_line (b _ (List.getElem_mem _))] at a2
    omega
  · exact h1
theorem mnF_lst {V : Int × Int → Int} {X Y : Nat → Int} {n : Nat} {z : Int} {G : Nat → Int} (hn : 0 < n) (hG : ∀ k, k < n → G k = stp (V (cpy X Y k))) (hz : IsLst V (allL X Y n) z) : mnF G n = stp z := by
  obtain ⟨h1, c, hc, h2⟩ := hz
  obtain ⟨k, hk, rfl⟩ := allL_mem hc
  have a1 := mnF_le G hk
  rw [hG k hk, h2] at a1
  rcases mnF_ex G n with e | ⟨q, hq, e⟩
  · have := stp_le z; omega
  · rw [hG q hq] at e
    have := stp_mono (h1 _ (mem_allL (X := X) (Y := Y) hq))
    omega
end W
theorem SaggedLeast_walk (f l r : Int) (a : Option Addr) (n c : Nat) (xs : Nat → Ac) (t : Int) (w : World) (hf : Word f) (hl : Word l) (hr : Word r) (hI : IsAcs w a n c xs) (hw : ∀ i, (xs i).word) (hcm : c ≤ maxLen) (hnn : a = none → n = 0 ∧ c = 0) (ht : Word t) :
    Calls Try.prog 5 #[.agg #[eU f, eU l, eU r], .slice a n c, eU t] w fun e w' => e = .returned (.bool true) ∧ Below w.heap.size w w' := by
  have hS := fun w' (T : Below w.heap.size w w') => started_any f l r a n c xs w' hf hl hr hw (hI.below T)
  by_cases hc : CvS f l r ∧ n ≤ 40
  · have hS2 : ∀ w', Below w.heap.size w w' → Calls Try.prog 22 #[.agg #[eU f, eU l, eU r], .slice a n c] w' fun e w'' => ∃ B : Nat, e = .returned (.pointer (some ⟨B, 0, none⟩)) ∧ (∃ m K, Rg w'' m B f l r (fun i => (xs i).x) (fun i => (xs i).y) n K) ∧ Below w'.heap.size w' w'' := fun w' T => (hS w' T).mono fun e w'' h => by
      obtain ⟨h1, h2⟩ := h
      rcases h1 with ⟨_, B, K, e1, e2, e3⟩ | ⟨h1, _⟩
      · exact ⟨B, e1, ⟨_, K, e3⟩, h2⟩
      · exact absurd hc h1
    rcases Nat.eq_zero_or_pos n with rfl | hn
    · exact lea_zero f l r a c t w (fun B w => ∃ m K, Rg w m B f l r (fun i => (xs i).x) (fun i => (xs i).y) 0 K) hS2 (fun B w ⟨m, K, h⟩ => rg_last0 m B K w h) (fun B w ⟨m, K, h⟩ => sg_at_none _ t w (rg_kept0 m B K w h)) (fun B w ⟨m, K, h⟩ => sg_line_none _ t w (rg_kept0 m B K w h)) (fun B w ⟨m, K, h⟩ => rg_kept0 m B K w h)
    · have hY : ∀ k, 0 ≤ (xs k).y := fun k => (hw k).2.1.1
      obtain ⟨hcv, hn40⟩ := hc
      obtain ⟨_, _, _, hm, hfr⟩ := id hcv
      have hx0 := xS_nn (fun i => (xs i).x) n
      have hx1 := xS_never (fun i => (xs i).x) n
      have hlen : 0 < (allL (fun i => (xs i).x) (fun i => (xs i).y) n).length := by simp [allL]; exact hn
      obtain ⟨z, hz⟩ := lst_ex (fun k => hv f l r k (max t (xS (fun i => (xs i).x) n))) hlen
      obtain ⟨u, hu⟩ := lst_ex (fun k => hv 0 0 r k (max t (xS (fun i => (xs i).x) n))) hlen
      have hmw : Word (max t (xS (fun i => (xs i).x) n)) := by unfold Word at *; omega
      have hk0 : ∀ k, 0 ≤ xS (fun i => (xs i).x) (k + 1) := fun k => xS_nn _ _
      have hkn : ∀ k, k < n → xS (fun i => (xs i).x) (k + 1) ≤ xS (fun i => (xs i).x) n := fun k hk => xS_le _ (by omega)
      have hdw : ∀ k, k < n → Word (max t (xS (fun i => (xs i).x) n) - xS (fun i => (xs i).x) (k + 1)) := fun k hk => by
        have := hk0 k; have := hkn k hk
        unfold Word at *; omega
      have hyw : ∀ k, Word (min (xs k).y 4611686018427387904) := fun k => by have := (hw k).2.1; unfold Word at *; omega
      have hG : ∀ k, k < n → rP (min (xs k).y 4611686018427387904) (cAt f l r (max t (xS (fun i => (xs i).x) n) - xS (fun i => (xs i).x) (k + 1))) = stp (hv f l r (cpy (fun i => (xs i).x) (fun i => (xs i).y) k) (max t (xS (fun i => (xs i).x) n))) := fun k hk => by
        show stp (min (xs k).y 4611686018427387904 + stp (cW f l r (max t (xS (fun i => (xs i).x) n) - xS (fun i => (xs i).x) (k + 1)))) = stp (min (xs k).y 4611686018427387904 + cW f l r (max t (xS (fun i => (xs i).x) n) - xS (fun i => (xs i).x) (k + 1)))
        have h0 := cW_nn hf.1 hr.1 hl.1 (hdw k hk).1
        have h1 := stp_or (cW f l r (max t (xS (fun i => (xs i).x) n) - xS (fun i => (xs i).x) (k + 1)))
        have h2 := stp_or (min (xs k).y 4611686018427387904 + stp (cW f l r (max t (xS (fun i => (xs i).x) n) - xS (fun i => (xs i).x) (k + 1))))
        have h3 := stp_or (min (xs k).y 4611686018427387904 + cW f l r (max t (xS (fun i => (xs i).x) n) - xS (fun i => (xs i).x) (k + 1)))
        have := (hyw k).1
        omega
      have hH : ∀ k, k < n → rP (min (xs k).y 4611686018427387904) (rT r (max t (xS (fun i => (xs i).x) n) - xS (fun i => (xs i).x) (k + 1))) = stp (hv 0 0 r (cpy (fun i => (xs i).x) (fun i => (xs i).y) k) (max t (xS (fun i => (xs i).x) n))) := fun k hk => by
        have := hkn k hk
        rw [hv_straight (by show xS (fun i => (xs i).x) (k + 1) ≤ _; omega)]
        show stp (min (xs k).y 4611686018427387904 + stp (r * (max t (xS (fun i => (xs i).x) n) - xS (fun i => (xs i).x) (k + 1)))) = stp (min (xs k).y 4611686018427387904 + r * (max t (xS (fun i => (xs i).x) n) - xS (fun i => (xs i).x) (k + 1)))
        have h0 := Int.mul_nonneg hr.1 (hdw k hk).1
        have h1 := stp_or (r * (max t (xS (fun i => (xs i).x) n) - xS (fun i => (xs i).x) (k + 1)))
        have h2 := stp_or (min (xs k).y 4611686018427387904 + stp (r * (max t (xS (fun i => (xs i).x) n) - xS (fun i => (xs i).x) (k + 1))))
        have h3 := stp_or (min (xs k).y 4611686018427387904 + r * (max t (xS (fun i => (xs i).x) n) - xS (fun i => (xs i).x) (k + 1)))
        have := (hyw k).1
        omega
      obtain ⟨K0, hK0⟩ := kept_ex (X := fun i => (xs i).x) (Y := fun i => (xs i).y) hcv hY n
      refine lea_run f l r a n c t w xs (xS (fun i => (xs i).x)) (fun k => cAt f l r (max t (xS (fun i => (xs i).x) n) - xS (fun i => (xs i).x) (k + 1))) (fun k => rT r (max t (xS (fun i => (xs i).x) n) - xS (fun i => (xs i).x) (k + 1)))
        (fun k => rP (min (xs k).y 4611686018427387904) (cAt f l r (max t (xS (fun i => (xs i).x) n) - xS (fun i => (xs i).x) (k + 1)))) (fun k => rP (min (xs k).y 4611686018427387904) (rT r (max t (xS (fun i => (xs i).x) n) - xS (fun i => (xs i).x) (k + 1))))
        K0.length _ (stp z) (stp u) _ (fun B w => ∃ m K, Rg w m B f l r (fun i => (xs i).x) (fun i => (xs i).y) n K) (fun B w w' ⟨m, K, h⟩ hb => ⟨m, K, h.below hb⟩) hn hn40 hI rfl rfl rfl (fun k hk => by rw [xS_succ]; omega)
        (fun k hk => u64_id _ (hdw k hk)) (fun k hk => u64_id _ ⟨by have := hkn k hk; omega, by have := hk0 k; omega⟩) (mnF_lst hn hG hz) (mnF_lst hn hH hu) (hK0.pos hn) hK0.len ?_ hS2
        (fun B w ⟨m, K, h⟩ => rg_last m B n K w hn h) (fun B w ⟨m, K, h⟩ => rg_at hcv hY m B n K t z w hn (by omega) ht hz h) (fun B w ⟨m, K, h⟩ => rg_line hcv hY m B n K t u w hn (by omega) ht hu h)
        (fun B w ⟨m, K, h⟩ => by have := rg_kept m B n K w h; rwa [h.1.count, ← hK0.count] at this)
        (fun k hk w => At_any f l r _ w hf hl hr (hdw k hk)) (fun k hk w => rPlus'_any _ _ w (hyw k) ⟨cAt_nn hf.1 hr.1 hl.1 (hdw k hk).1, by have := cAt_le f l r (max t (xS (fun i => (xs i).x) n) - xS (fun i => (xs i).x) (k + 1)); omega⟩)
        (fun k hk w => rTimes'_any r _ w hr (hdw k hk)) (fun k hk w => rPlus'_any _ _ w (hyw k) (rT_word hr (hdw k hk)))
      intro he
      have h1 := hK0.early (fun k hk => by simpa using ebF_all _ he k hk)
      have h2 := hK0.pos hn
      omega
  · exact lea_no f l r a n c t w fun w' T => (hS w' T).mono fun e w'' h => by
      obtain ⟨h1, h2⟩ := h
      rcases h1 with ⟨h1, _⟩ | ⟨_, h1⟩
      · exact absurd h1 hc
      · exact ⟨h1, h2⟩
end Go.Proofs.Ytknpfcnjnpcboaa
