/- Of what can be kept each part can be: the walk, with the program's answers put in. -/
import Derived.Test.YtmhmoebdojkbpaaTgW
namespace Go.Proofs.Ytmhmoebdojkbpaa
open Go.RowKit Go.Shelf Go.Maps W
set_option linter.unusedVariables false
set_option maxHeartbeats 1000000 in
theorem tg_long (a : Option Addr) (n c : Nat) (rate more t at' : Int) (w : World) (hn : 40 < n) :
    Calls Try.prog 7 #[.slice a n c, eU rate, eU more, eU t, .int .i64 at'] w fun e w' => e = .returned (.bool true) ∧ Below w.heap.size w w' := by
  have T := Below.refl w.heap.size w
  have h40 : (40 : Int) < (n : Int) := by omega
  go_enter Try.func7, Try.ntmps7
  go_wp2_with (go_at_call 23; (with_reducible refine (awake_any _).mono ?_); rintro e w1 ⟨rfl, hb⟩; replace T := up T hb T.size; clear hb)
  go_ret
  exact ⟨rfl, T⟩
theorem part_of {at' : Int} {n : Nat} (hn : n ≤ 40) : ∃ k : Nat, k ≤ n ∧ wrap64 ((IntKind.u64.wrap at').tmod ((n : Int) + 1)) = (k : Int) := by
  have h0 : 0 ≤ IntKind.u64.wrap at' := by simp [IntKind.wrap, IntKind.signed, IntKind.bits]; omega
  have h1 : (IntKind.u64.wrap at').tmod ((n : Int) + 1) = IntKind.u64.wrap at' % ((n : Int) + 1) := Int.tmod_eq_emod_of_nonneg h0
  have h2 := Int.emod_nonneg (IntKind.u64.wrap at') (show (n : Int) + 1 ≠ 0 by omega)
  have h3 := Int.emod_lt_of_pos (IntKind.u64.wrap at') (show (0 : Int) < (n : Int) + 1 by omega)
  refine ⟨(IntKind.u64.wrap at' % ((n : Int) + 1)).toNat, by omega, ?_⟩
  rw [h1]
  have e : ((IntKind.u64.wrap at' % ((n : Int) + 1)).toNat : Int) = IntKind.u64.wrap at' % ((n : Int) + 1) := by omega
  rw [e]
  unfold wrap64
  omega
theorem IsLate.same {a b : List Cv} {rate n : Int} (h : ∀ t, sW a t = sW b t) (k : IsLate a rate n) : IsLate b rate n := by
  have e : ∀ t, lateAt b rate t ↔ lateAt a rate t := fun t => by unfold lateAt; rw [h t]
  unfold IsLate at k ⊢
  simpa only [e] using k
theorem sum_hl {xs : List Cv} {t : Int} (hx : ∀ c ∈ xs, c.word) (ht : Word t) (hn : xs.length ≤ 400) : Word (sW xs t / 18446744073709551616) ∧ Word (sW xs t % 18446744073709551616) := by
  have h0 := sW_nn hx ht.1
  have h1 := sW_le hx ht
  have h2 := Int.mul_le_mul_of_nonneg_right (show (xs.length : Int) ≤ 400 by omega) (show (0 : Int) ≤ 19342813113834066795298816 by omega)
  unfold Word
  omega
theorem SumsTogether_walk : ∀ (a0 : Option Addr) (n0 c0 : Nat) (xs0 : List Cv) (a1 a2 a3 : Int) (a4 : Int) (V : World), IsCvs V a0 n0 c0 xs0 → (∀ v ∈ xs0, v.word) → c0 ≤ maxLen → (a0 = none → n0 = 0 ∧ c0 = 0) → Word a1 → Word a2 → Word a3 → (-9223372036854775808 ≤ a4 ∧ a4 < 9223372036854775808) → Calls Try.prog 7 #[.slice a0 n0 c0, .int .u64 a1, .int .u64 a2, .int .u64 a3, .int .i64 a4] V fun e w' => e = .returned (.bool true) ∧ Below V.heap.size V w' := by
  intro a n c xs rate more t at' V hI hw hc hnn hr hmo ht hat
  by_cases hle : n ≤ 40
  · have hlen : xs.length = n := hI.1
    obtain ⟨k, hk, hke⟩ := part_of (at' := at') hle
    obtain ⟨m, hm⟩ := late_ex xs rate
    obtain ⟨kb, hkb⟩ : ∃ kb : Bool, kb = true ↔ kept xs rate := by
      by_cases h : kept xs rate
      · exact ⟨true, fun _ => h, fun _ => rfl⟩
      · exact ⟨false, fun h' => (by cases h'), fun h' => absurd h' h⟩
    have s0 : Word (IntKind.u64.wrap (rate + more)) := by unfold Word; simp [IntKind.wrap, IntKind.signed, IntKind.bits]; omega
    have hst := sortU 41 (by omega)
    have hAt : ∀ (ys : List Cv) (a : Option Addr) (k c : Nat) (w' : World), (∀ v ∈ ys, v.word) → ys.length ≤ 40 → IsCvs w' a k c ys → Calls Try.prog 10 #[.slice a k c, eU t] w' fun e w'' => e = .returned (.agg #[eU (sW ys t / 18446744073709551616), eU (sW ys t % 18446744073709551616)]) ∧ Below w'.heap.size w' w'' := fun ys a k c w' h1 h2 h3 => atSum_any ys t a k c w' h1 ht (by omega) h3
    have hKp : ∀ (ys : List Cv) (b : Bool) (q : Int) (a : Option Addr) (k c : Nat) (w' : World), (∀ v ∈ ys, v.word) → ys.length ≤ 40 → Word q → IsCvs w' a k c ys → (b = true ↔ kept ys q) → Calls Try.prog 17 #[.slice a k c, eU q] w' fun e w'' => e = .returned (.bool b) ∧ Below w'.heap.size w' w'' := fun ys b q a k c w' h1 h2 h3 h4 h5 => keptP_any 41 hst ys h1 (by omega) (by omega) q b h3 a k c w' h4 h5
    have hLt : ∀ (ys : List Cv) (a : Option Addr) (k c : Nat) (w' : World), (∀ v ∈ ys, v.word) → ys.length ≤ 40 → IsCvs w' a k c ys → IsLate ys rate m → Calls Try.prog 15 #[.slice a k c, eU rate] w' fun e w'' => e = .returned (eU m) ∧ Below w'.heap.size w' w'' := fun ys a k c w' h1 h2 h3 h4 => lateP_any 41 hst ys h1 (by omega) (by omega) rate m hr a k c w' h3 h4
    have hk3 : kb = true → ¬ IntKind.u64.wrap (rate + more) < rate → kept xs (IntKind.u64.wrap (rate + more)) := fun h1 h2 => kept_rate (by omega) (hkb.1 h1)
    rcases Nat.eq_zero_or_pos n with rfl | hn0
    · have ex : xs = [] := List.eq_nil_of_length_eq_zero hlen
      subst ex
      obtain rfl : k = 0 := by omega
      have hz : sW [] t / 18446744073709551616 = 0 ∧ sW [] t % 18446744073709551616 = 0 := ⟨rfl, rfl⟩
      have z : Word 0 := ⟨by omega, by omega⟩
      have hAt0 := fun a c w' => hAt [] a 0 c w' hw (by simp)
      rw [hz.1, hz.2] at hAt0
      have hPl := fun w' => Plus_any 0 0 0 0 w' z z z z
      obtain ⟨e1, e2, e3⟩ := @pOk 0 0 0 0 0 0 rfl z z
      rw [e1, e2, e3] at hPl
      have iN : ∀ w', IsCvs w' none 0 0 [] := fun w' => ⟨rfl, Nat.le_refl _, .inl rfl⟩
      cases a with
      | none =>
        obtain ⟨_, hc0⟩ := hnn rfl
        subst hc0
        exact tg_none rate more t at' _ m 0 kb V hke (Nat.le_refl _) rfl (fun w' hb => hAt0 none 0 w' (iN w')) (fun w' hb => hAt0 none 0 w' (iN w')) hPl (fun w' hb => hAt0 none 0 w' (iN w')) (fun w' hb => hLt [] none 0 0 w' hw (by simp) (iN w') hm)
          (fun w' hb => hKp [] kb rate none 0 0 w' hw (by simp) hr (iN w') hkb) (fun h w' hb => hKp [] true rate none 0 0 w' hw (by simp) hr (iN w') ⟨fun _ => hkb.1 h, fun _ => rfl⟩) (fun h w' hb => hKp [] true rate none 0 0 w' hw (by simp) hr (iN w') ⟨fun _ => hkb.1 h, fun _ => rfl⟩)
          (fun h h2 w' hb => hKp [] true _ none 0 0 w' hw (by simp) s0 (iN w') ⟨fun _ => hk3 h h2, fun _ => rfl⟩) (fun w' => hAt0 none 0 w' (iN w')) (fun w' => hLt [] none 0 0 w' hw (by simp) (iN w') hm)
      | some ad =>
        have iA : ∀ w', IsCvs w' (some ad) 0 c [] := fun w' => ⟨rfl, Nat.zero_le _, .inl rfl⟩
        exact tg_empty ad c rate more t at' _ m 0 kb V hke (Nat.le_refl _) rfl (fun w' hb => hAt0 (some ad) c w' (iA w')) (fun w' hb => hAt0 (some ad) c w' (iA w')) hPl (fun w' hb => hAt0 (some ad) c w' (iA w')) (fun w' hb => hLt [] (some ad) 0 c w' hw (by simp) (iA w') hm)
          (fun w' hb => hKp [] kb rate (some ad) 0 c w' hw (by simp) hr (iA w') hkb) (fun h w' hb => hKp [] true rate (some ad) 0 c w' hw (by simp) hr (iA w') ⟨fun _ => hkb.1 h, fun _ => rfl⟩) (fun h w' hb => hKp [] true rate (some ad) 0 c w' hw (by simp) hr (iA w') ⟨fun _ => hkb.1 h, fun _ => rfl⟩)
          (fun h h2 w' hb => hKp [] true _ (some ad) 0 c w' hw (by simp) s0 (iA w') ⟨fun _ => hk3 h h2, fun _ => rfl⟩) (fun w' => hAt0 none 0 w' (iN w')) (fun w' => hLt [] none 0 0 w' hw (by simp) (iN w') hm)
    · obtain ⟨h1, h2, h3⟩ := hI
      rcases h3 with h3 | ⟨b, o, rfl, hrow⟩
      · omega
      · have hI : ∀ w', Below V.heap.size V w' → IsCvs w' (some ⟨b, o, none⟩) n c xs := fun w' hb => ⟨h1, h2, .inr ⟨b, o, rfl, hrow.below hb⟩⟩
        have iT : ∀ w', Below V.heap.size V w' → IsCvs w' (some ⟨b, o, none⟩) k c (xs.take k) := fun w' hb => ⟨by rw [List.length_take]; omega, by omega, .inr ⟨b, o, rfl, (hrow.below hb).take k⟩⟩
        obtain ⟨adk, hadk⟩ : ∃ adk, (if c = k then (some ⟨b, o, none⟩ : Option Addr) else some ⟨b, o + k * 3, none⟩) = adk := ⟨_, rfl⟩
        have iD : ∀ w', Below V.heap.size V w' → IsCvs w' adk (n - k) (c - k) (xs.drop k) := fun w' hb => by
          refine ⟨by rw [List.length_drop]; omega, by omega, ?_⟩
          by_cases hz : n - k = 0
          · exact .inl hz
          · refine .inr ⟨b, o + k * 3, ?_, (hrow.below hb).drop k⟩
            rw [← hadk, if_neg (by omega)]
        have wT : ∀ v ∈ xs.take k, v.word := fun v hv => hw v (List.mem_of_mem_take hv)
        have wD : ∀ v ∈ xs.drop k, v.word := fun v hv => hw v (List.mem_of_mem_drop hv)
        have wR : ∀ v ∈ xs.reverse, v.word := fun v hv => hw v (List.mem_reverse.1 hv)
        have lT : (xs.take k).length ≤ 40 := by rw [List.length_take]; omega
        have lD : (xs.drop k).length ≤ 40 := by rw [List.length_drop]; omega
        have lR : xs.reverse.length ≤ 40 := by rw [List.length_reverse]; omega
        have htd : xs.take k ++ xs.drop k = xs := List.take_append_drop k xs
        have hsum : sW (xs.take k) t + sW (xs.drop k) t = sW xs t := by rw [← sW_append, htd]
        obtain ⟨a1, a2⟩ := sum_hl wT ht (by omega)
        obtain ⟨b1, b2⟩ := sum_hl wD ht (by omega)
        obtain ⟨c1, c2⟩ := sum_hl hw ht (by omega)
        have hPl := fun w' => Plus_any _ _ _ _ w' a1 a2 b1 b2
        obtain ⟨e1, e2, e3⟩ := pOk (a := sW (xs.take k) t / 18446744073709551616) (b := sW (xs.take k) t % 18446744073709551616) (c := sW (xs.drop k) t / 18446744073709551616) (d := sW (xs.drop k) t % 18446744073709551616) (h := sW xs t / 18446744073709551616) (l := sW xs t % 18446744073709551616) (by rw [V_s, V_s, V_s]; exact hsum) c2 c1
        rw [e1, e2, e3] at hPl
        have kT : kb = true → kept (xs.take k) rate := fun h => kept_of_le (b := xs) (fun u u0 _ => by
          have := sW_le_append_left (a := xs.take k) wD u0
          rwa [htd] at this) (hkb.1 h)
        have kD : kb = true → kept (xs.drop k) rate := fun h => kept_of_le (b := xs) (fun u u0 _ => by
          have := sW_le_append_right (b := xs.drop k) wT u0
          rwa [htd] at this) (hkb.1 h)
        have hAtB : ∀ (w' : World) (g cp : Nat), IsCvs w' (some ⟨g, 0, none⟩) n cp xs.reverse → Calls Try.prog 10 #[.slice (some ⟨g, 0, none⟩) n cp, eU t] w' fun e w'' => e = .returned (.agg #[eU (sW xs t / 18446744073709551616), eU (sW xs t % 18446744073709551616)]) ∧ Below w'.heap.size w' w'' := fun w' g cp h => by
          have := hAt xs.reverse (some ⟨g, 0, none⟩) n cp w' wR lR h
          rwa [sW_reverse] at this
        exact tg_some b o n c xs adk rate more t at' _ m _ _ _ _ _ _ k kb V hn0 hle h2 hc hlen hrow hadk hke hk rfl
          (fun w' hb => hAt _ _ _ _ w' wT lT (iT w' hb)) (fun w' hb => hAt _ _ _ _ w' wD lD (iD w' hb)) hPl (fun w' hb => hAt _ _ _ _ w' hw (by omega) (hI w' hb)) (fun w' hb => hLt xs _ _ _ w' hw (by omega) (hI w' hb) hm)
          (fun w' hb => hKp xs kb rate _ _ _ w' hw (by omega) hr (hI w' hb) hkb) (fun h w' hb => hKp _ true rate _ _ _ w' wT lT hr (iT w' hb) ⟨fun _ => kT h, fun _ => rfl⟩) (fun h w' hb => hKp _ true rate _ _ _ w' wD lD hr (iD w' hb) ⟨fun _ => kD h, fun _ => rfl⟩)
          (fun h h2 w' hb => hKp xs true _ _ _ _ w' hw (by omega) s0 (hI w' hb) ⟨fun _ => hk3 h h2, fun _ => rfl⟩) hAtB (fun w' g cp h => hLt xs.reverse _ _ _ w' wR lR h (hm.same (fun u => (sW_reverse xs u).symm)))
  · exact tg_long a n c rate more t at' V (by omega)
end Go.Proofs.Ytmhmoebdojkbpaa
