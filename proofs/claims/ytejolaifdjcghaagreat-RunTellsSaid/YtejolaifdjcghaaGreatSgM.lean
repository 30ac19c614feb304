/- A run of a sagging curve in plain numbers: few copies tell the least of all. -/
import Derived.Test.YtejolaifdjcghaaGreatGD
namespace Go.Proofs.YtejolaifdjcghaaGreat
namespace W
set_option linter.unusedVariables false
/-- A curve that sags (or is straight, or none), and may be. -/
def CvS (f l r : Int) : Prop := Word f ∧ Word l ∧ Word r ∧ cMay f l r ∧ f ≤ r
/-- What a copy has at a tick, without an end; and its line. -/
def hv (F L R : Int) (k : Int × Int) (t : Int) : Int := k.2 + cW F L R (t - k.1)
def lv (R : Int) (k : Int × Int) (t : Int) : Int := k.2 + R * (t - k.1)
theorem cW_max {F L R d : Int} : cW F L R d = F * d + (R - F) * max (d - L) 0 := by
  rcases Int.lt_or_le d L with h | h
  · rw [cW_lo (by omega), Int.max_eq_right (by omega), Int.mul_zero, Int.add_zero]
  · rw [cW_hi h, Int.max_eq_left (by omega), Int.sub_mul]
    have : F * d = F * L + F * (d - L) := by rw [← Int.mul_add, show L + (d - L) = d by omega]
    omega
theorem hv_corner {F L R t : Int} {k : Int × Int} (h : t ≤ k.1 + L) : hv F L R k t = k.2 + F * (t - k.1) := by unfold hv; rw [cW_lo (by omega)]
theorem hv_line {F L R t : Int} {k : Int × Int} (h : k.1 + L ≤ t) : hv F L R k t = lv R k t - (R - F) * L := by
  unfold hv lv; rw [cW_hi (by omega), show t - k.1 = L + (t - k.1 - L) by omega, Int.mul_add, Int.sub_mul]
  rw [show L + (t - k.1 - L) - L = t - k.1 - L by omega]
  omega
theorem hv_straight {R t : Int} {k : Int × Int} (h : k.1 ≤ t) : hv 0 0 R k t = lv R k t := by
  unfold hv lv; rw [cW_straight (by omega)]
theorem hv_le_lv {F L R t : Int} {k : Int × Int} (hL : 0 ≤ L) (hF : F ≤ R) (h : k.1 ≤ t) : hv F L R k t ≤ lv R k t := by
  unfold hv lv
  rw [cW_max]
  have h1 : (R - F) * max (t - k.1 - L) 0 ≤ (R - F) * (t - k.1) := Int.mul_le_mul_of_nonneg_left (by omega) (by omega)
  rw [Int.sub_mul] at h1 ⊢
  rw [Int.sub_mul] at h1
  omega
theorem hv_mono {F L R s t : Int} {k : Int × Int} (hF : 0 ≤ F) (hR : 0 ≤ R) (hs : k.1 ≤ s) (h : s ≤ t) : hv F L R k s ≤ hv F L R k t := by
  unfold hv
  have := cW_mono (L := L) hF hR (show 0 ≤ s - k.1 by omega) (show s - k.1 ≤ t - k.1 by omega)
  omega
theorem hv_nn {F L R t : Int} {k : Int × Int} (hF : 0 ≤ F) (hR : 0 ≤ R) (hL : 0 ≤ L) (hs : k.1 ≤ t) (hy : 0 ≤ k.2) : 0 ≤ hv F L R k t := by
  unfold hv
  have := cW_nn (L := L) hF hR hL (show 0 ≤ t - k.1 by omega)
  omega
theorem lv_step {R s t : Int} {k : Int × Int} : lv R k t = lv R k s + R * (t - s) := by
  unfold lv
  have : R * (t - k.1) = R * (s - k.1) + R * (t - s) := by rw [← Int.mul_add]; congr 1; omega
  omega
theorem lv_le {R s t : Int} {a b : Int × Int} (h : lv R a s ≤ lv R b s) : lv R a t ≤ lv R b t := by
  rw [lv_step (s := s) (k := a), lv_step (s := s) (k := b)]; omega
theorem lv_lt {R s t : Int} {a b : Int × Int} (h : lv R a s < lv R b s) : lv R a t < lv R b t := by
  rw [lv_step (s := s) (k := a), lv_step (s := s) (k := b)]; omega
/-- Of two copies the elder one grows by at least as much. -/
theorem hv_elder {F L R s t : Int} {a b : Int × Int} (hF : F ≤ R) (hab : a.1 ≤ b.1) (h : s ≤ t) : hv F L R b t - hv F L R b s ≤ hv F L R a t - hv F L R a s := by
  unfold hv
  rw [cW_max, cW_max, cW_max, cW_max]
  have e1 : F * (t - b.1) - F * (s - b.1) = F * (t - a.1) - F * (s - a.1) := by rw [← Int.mul_sub, ← Int.mul_sub]; congr 1; omega
  have e2 : (R - F) * (max (t - b.1 - L) 0 - max (s - b.1 - L) 0) ≤ (R - F) * (max (t - a.1 - L) 0 - max (s - a.1 - L) 0) := Int.mul_le_mul_of_nonneg_left (by omega) (by omega)
  rw [Int.mul_sub, Int.mul_sub] at e2
  omega
/-- Who is at most another one at a tick, and whose line is, is so ever after. -/
theorem hv_dom {F L R s t : Int} {a b : Int × Int} (hL : 0 ≤ L) (hF : F ≤ R) (ha : a.1 ≤ s) (hb : b.1 ≤ s) (h : s ≤ t) (h1 : hv F L R a s ≤ hv F L R b s) (h2 : lv R a s ≤ lv R b s) : hv F L R a t ≤ hv F L R b t := by
  rcases Int.le_total a.1 b.1 with hab | hab
  · have h3 := hv_elder (L := L) (s := t) (t := t + L) hF hab (by omega)
    rw [hv_line (t := t + L) (k := a) (by omega), hv_line (t := t + L) (k := b) (by omega)] at h3
    have h4 := lv_le (t := t + L) h2
    omega
  · have h3 := hv_elder (L := L) hF hab h
    omega
theorem lv_of_dom {F L R s t : Int} {a b : Int × Int} (hL : 0 ≤ L) (h1 : a.1 + L ≤ t) (h2 : b.1 + L ≤ t) (h : hv F L R a t ≤ hv F L R b t) : lv R a s ≤ lv R b s := by
  rw [hv_line h1, hv_line h2] at h
  exact lv_le (s := t) (by omega)
/-- Those kept, behind the last start x. -/
def Good (f l r x : Int) (K : List (Int × Int)) : Prop :=
  (∀ k ∈ K, 0 ≤ k.1 ∧ k.1 ≤ x ∧ 0 ≤ k.2 ∧ k.2 ≤ 4611686018427387904) ∧ K.Pairwise (fun a b => a.1 ≤ b.1 ∧ hv f l r a x < hv f l r b x ∧ lv r b x < lv r a x)
/-- Each copy of a list is beaten by one kept. -/
def Covers (f l r x : Int) (K A : List (Int × Int)) : Prop := ∀ c ∈ A, ∃ k ∈ K, hv f l r k x ≤ hv f l r c x ∧ lv r k x ≤ lv r c x
/-- What is left out as time goes on. -/
def ageF (f l r x : Int) : List (Int × Int) → List (Int × Int)
  | a :: b :: K => if hv f l r b x ≤ hv f l r a x then ageF f l r x (b :: K) else a :: b :: K
  | K => K
theorem ageF_sub (f l r x : Int) : ∀ K, ∃ d, ageF f l r x K = K.drop d ∧ (0 < K.length → d < K.length)
  | [] => ⟨0, rfl, by simp⟩
  | [a] => ⟨0, rfl, by simp⟩
  | a :: b :: K => by
    show ∃ d, (if hv f l r b x ≤ hv f l r a x then ageF f l r x (b :: K) else a :: b :: K) = _ ∧ _
    split
    · obtain ⟨d, h1, h2⟩ := ageF_sub f l r x (b :: K)
      exact ⟨d + 1, by simpa using h1, fun _ => by have := h2 (by simp); simp at this ⊢; omega⟩
    · exact ⟨0, rfl, by simp⟩
theorem Good.tail {f l r x : Int} {a : Int × Int} {K : List (Int × Int)} (h : Good f l r x (a :: K)) : Good f l r x K :=
  ⟨fun k hk => h.1 k (List.mem_cons_of_mem _ hk), h.2.of_cons⟩
theorem Good.stays {f l r x z : Int} {a b : Int × Int} {K : List (Int × Int)} (hl : 0 ≤ l) (hx : x ≤ z) (h : Good f l r x (a :: b :: K)) (hlt : hv f l r a z < hv f l r b z) : Good f l r z (a :: b :: K) := by
  obtain ⟨h1, h2⟩ := h
  rw [List.pairwise_cons] at h2
  obtain ⟨h2, h3⟩ := h2
  obtain ⟨ab1, ab2, ab3⟩ := h2 b (by simp)
  have hz : z < b.1 + l := by
    rcases Int.lt_or_le z (b.1 + l) with h | h
    · exact h
    · rw [hv_line (k := a) (by omega), hv_line (k := b) h] at hlt
      have := lv_lt (t := z) ab3
      omega
  have hb : ∀ p ∈ b :: K, b.1 ≤ p.1 := fun p hp => by
    rcases List.mem_cons.1 hp with rfl | hp
    · exact Int.le_refl _
    · exact ((List.pairwise_cons.1 h3).1 p hp).1
  have step : ∀ p ∈ b :: K, hv f l r p z = hv f l r p x + f * (z - x) := fun p hp => by
    have := hb p hp
    rw [hv_corner (t := z) (by omega), hv_corner (t := x) (by omega)]
    have : f * (z - p.1) = f * (x - p.1) + f * (z - x) := by rw [← Int.mul_add]; congr 1; omega
    omega
  refine ⟨fun k hk => by have := h1 k hk; omega, List.pairwise_cons.2 ⟨fun p hp => ?_, ?_⟩⟩
  · obtain ⟨p1, p2, p3⟩ := h2 p hp
    refine ⟨p1, ?_, lv_lt p3⟩
    rcases List.mem_cons.1 hp with rfl | hp'
    · exact hlt
    · obtain ⟨q1, q2, q3⟩ := (List.pairwise_cons.1 h3).1 p hp'
      have := step p hp
      have := step b (by simp)
      omega
  · refine h3.imp_of_mem ?_
    intro p q hp hq ⟨p1, p2, p3⟩
    have := step p hp
    have := step q hq
    exact ⟨p1, by omega, lv_lt p3⟩
theorem Good.age {f l r x z : Int} (hl : 0 ≤ l) (hx : x ≤ z) : ∀ {K : List (Int × Int)}, Good f l r x K → Good f l r z (ageF f l r z K)
  | [], h => ⟨fun k hk => (by cases hk), List.Pairwise.nil⟩
  | [a], h => ⟨fun k hk => (by have := h.1 k hk; omega), List.pairwise_singleton _ _⟩
  | a :: b :: K, h => by
    show Good f l r z (if hv f l r b z ≤ hv f l r a z then ageF f l r z (b :: K) else a :: b :: K)
    split
    · exact Good.age hl hx h.tail
    · exact h.stays hl hx (by omega)
theorem ageF_beats {f l r x z : Int} (hx : x ≤ z) : ∀ {K : List (Int × Int)}, Good f l r x K → ∀ c ∈ K, ∃ k ∈ ageF f l r z K, hv f l r k z ≤ hv f l r c z ∧ lv r k z ≤ lv r c z
  | [], h => fun c hc => by cases hc
  | [a], h => fun c hc => ⟨c, hc, Int.le_refl _, Int.le_refl _⟩
  | a :: b :: K, h => fun c hc => by
    show ∃ k ∈ (if hv f l r b z ≤ hv f l r a z then ageF f l r z (b :: K) else a :: b :: K), _
    split
    · rename_i hle
      rcases List.mem_cons.1 hc with rfl | hc
      · obtain ⟨k, hk, k1, k2⟩ := ageF_beats hx h.tail b (by simp)
        have h3 := lv_lt (t := z) ((List.pairwise_cons.1 h.2).1 b (by simp)).2.2
        exact ⟨k, hk, by omega, by omega⟩
      · exact ageF_beats hx h.tail c hc
    · exact ⟨c, hc, Int.le_refl _, Int.le_refl _⟩
theorem Covers.age {f l r x z : Int} (hl : 0 ≤ l) (hf : f ≤ r) (hx : x ≤ z) {K A : List (Int × Int)} (hg : Good f l r x K) (hA : ∀ c ∈ A, c.1 ≤ x) (h : Covers f l r x K A) : Covers f l r z (ageF f l r z K) A := fun c hc => by
  obtain ⟨k, hk, k1, k2⟩ := h c hc
  obtain ⟨m, hm, m1, m2⟩ := ageF_beats (z := z) hx hg k hk
  have := hv_dom (L := l) hl hf (hg.1 k hk).2.1 (hA c hc) hx k1 k2
  have := lv_le (t := z) k2
  exact ⟨m, hm, by omega, by omega⟩
/-- A copy that starts now is put behind those kept. -/
def IsJoin (f l r x y : Int) (K K' : List (Int × Int)) : Prop :=
  ∃ n, n ≤ K.length ∧ (∀ i a, n ≤ i → K[i]? = some a → y ≤ hv f l r a x) ∧
    ((n = 0 ∧ K' = [(x, y)]) ∨ ∃ m a, n = m + 1 ∧ K[m]? = some a ∧ hv f l r a x < y ∧ ((lv r a x ≤ y ∧ K' = K) ∨ (y < lv r a x ∧ K' = K.take n ++ [(x, y)])))
theorem hv_now {f l r x y : Int} (hl : 0 ≤ l) : hv f l r (x, y) x = y := by unfold hv; simp [cW_zero hl]
theorem lv_now {r x y : Int} : lv r (x, y) x = y := by unfold lv; simp
theorem Good.join {f l r x y : Int} {K K' : List (Int × Int)} (hl : 0 ≤ l) (x0 : 0 ≤ x) (y0 : 0 ≤ y) (y1 : y ≤ 4611686018427387904) (h : Good f l r x K) (hj : IsJoin f l r x y K K') : Good f l r x K' := by
  obtain ⟨n, hn, h1, ⟨h2, rfl⟩ | ⟨m, a, rfl, hm, h3, h4⟩⟩ := hj
  · exact ⟨fun k hk => by simp at hk; subst hk; simp; omega, List.pairwise_singleton _ _⟩
  · rcases h4 with ⟨h4, rfl⟩ | ⟨h4, rfl⟩
    · exact h
    · refine ⟨fun k hk => ?_, List.pairwise_append.2 ⟨h.2.sublist (List.take_sublist _ _), List.pairwise_singleton _ _, fun p hp q hq => ?_⟩⟩
      · rcases List.mem_append.1 hk with hk | hk
        · exact h.1 k (List.mem_of_mem_take hk)
        · simp at hk; subst hk; simp; omega
      · simp at hq; subst hq
        have hb := h.1 p (List.mem_of_mem_take hp)
        rw [hv_now hl, lv_now]
        obtain ⟨j, hj, rfl⟩ := List.getElem_of_mem hp
        have hj' : j < m + 1 := by simp at hj; omega
        obtain ⟨hm1, hm2⟩ := List.getElem?_eq_some_iff.1 hm
        rw [List.getElem_take] at hb ⊢
        rcases Nat.lt_or_ge j m with hlt | hge
        · have hp := List.pairwise_iff_getElem.1 h.2 j m (by omega) hm1 hlt
          rw [hm2] at hp
          exact ⟨hb.2.1, by omega, by omega⟩
        · obtain rfl : j = m := by omega
          rw [hm2]
          rw [hm2] at hb
          exact ⟨hb.2.1, h3, h4⟩
theorem Covers.join {f l r x y : Int} {K K' A : List (Int × Int)} (hl : 0 ≤ l) (hf : f ≤ r) (h : Good f l r x K) (hc : Covers f l r x K A) (hj : IsJoin f l r x y K K') : Covers f l r x K' (A ++ [(x, y)]) := by
  intro c hcm
  obtain ⟨n, hn, h1, ⟨h2, rfl⟩ | ⟨m, a, rfl, hm, h3, h4⟩⟩ := hj
  · refine ⟨(x, y), by simp, ?_⟩
    rw [hv_now hl, lv_now]
    rcases List.mem_append.1 hcm with hA | hA
    · obtain ⟨k, hk, k1, k2⟩ := hc c hA
      obtain ⟨i, hi, e⟩ := List.getElem_of_mem hk
      have h5 := h1 i k (by omega) (List.getElem?_eq_some_iff.2 ⟨hi, e⟩)
      have h6 := hv_le_lv (R := r) hl hf (h.1 k hk).2.1
      omega
    · simp at hA; subst hA
      rw [hv_now hl, lv_now]; omega
  · have ha : a ∈ K := List.mem_of_getElem? hm
    rcases h4 with ⟨h4, rfl⟩ | ⟨h4, rfl⟩
    · rcases List.mem_append.1 hcm with hA | hA
      · exact hc c hA
      · simp at hA; subst hA
        exact ⟨a, ha, by rw [hv_now hl]; omega, by rw [lv_now]; exact h4⟩
    · rcases List.mem_append.1 hcm with hA | hA
      · obtain ⟨k, hk, k1, k2⟩ := hc c hA
        obtain ⟨i, hi, e⟩ := List.getElem_of_mem hk
        rcases Nat.lt_or_ge i (m + 1) with hlt | hge
        · exact ⟨k, List.mem_append_left _ (by rw [← e]; exact List.mem_take_iff_getElem.2 ⟨i, by omega, rfl⟩), k1, k2⟩
        · have h5 := h1 i k hge (List.getElem?_eq_some_iff.2 ⟨hi, e⟩)
          have h6 := hv_le_lv (R := r) hl hf (h.1 k hk).2.1
          exact ⟨(x, y), by simp, by rw [hv_now hl]; omega, by rw [lv_now]; omega⟩
      · simp at hA; subst hA
        exact ⟨(x, y), by simp, Int.le_refl _, Int.le_refl _⟩
theorem IsJoin.mem {f l r x y : Int} {K K' : List (Int × Int)} (hj : IsJoin f l r x y K K') : K' ≠ [] ∧ ∀ k ∈ K', k ∈ K ∨ k = (x, y) := by
  obtain ⟨n, hn, h1, ⟨h2, rfl⟩ | ⟨m, a, rfl, hm, h3, h4⟩⟩ := hj
  · exact ⟨by simp, fun k hk => by simp at hk; exact .inr hk⟩
  · rcases h4 with ⟨h4, rfl⟩ | ⟨h4, rfl⟩
    · exact ⟨fun e => by subst e; simp at hm, fun k hk => .inl hk⟩
    · refine ⟨by simp, fun k hk => ?_⟩
      rcases List.mem_append.1 hk with hk | hk
      · exact .inl (List.mem_of_mem_take hk)
      · simp at hk; exact .inr hk
theorem IsJoin.len {f l r x y : Int} {K K' : List (Int × Int)} (hj : IsJoin f l r x y K K') : K'.length ≤ K.length + 1 := by
  obtain ⟨n, hn, h1, ⟨h2, rfl⟩ | ⟨m, a, rfl, hm, h3, ⟨h4, rfl⟩ | ⟨h4, rfl⟩⟩⟩ := hj <;> simp <;> omega
end W
end Go.Proofs.YtejolaifdjcghaaGreat
