/- Plain arithmetic of sums of curves: between two corners all is straight; where they are late first. No condition. Plain facts on sums of curves: their corners in order; kept together; spare; one below another. No condition. What the document's own Cmp and Minus answer. No condition but that words are words. What the document's curves have together at a tick. Conditions: words; at most 1000 curves. Whether the document's curves are late at a tick. Conditions: words; at most 1000 curves. Whether the document's curve is below another one. Conditions: words. -/
import Derived.Test.YtjbpaapglamilaaGD
import Derived.Test.YtjbpaapglamilaaGA
import Derived.Test.YtjbpaapglamilaaGF
import Derived.LoopTactic
import Derived.Deep.CutRange
namespace Go.Proofs.Ytjbpaapglamilaa
open W
set_option linter.unusedVariables false
/-- A curve: three words. -/
structure Cv where
  f : Int
  l : Int
  r : Int
def Cv.word (c : Cv) : Prop := Word c.f ∧ Word c.l ∧ Word c.r
/-- It may be. -/
def Cv.may (c : Cv) : Prop := cMay c.f c.l c.r
instance (c : Cv) : Decidable c.may := by unfold Cv.may cMay; infer_instance
/-- What it counts for at a tick; what some have together. -/
def oneW (c : Cv) (t : Int) : Int := if c.may then cW c.f c.l c.r t else 0
def sW : List Cv → Int → Int
  | [], _ => 0
  | c :: cs, t => oneW c t + sW cs t
theorem sW_append (a b : List Cv) (t : Int) : sW (a ++ b) t = sW a t + sW b t := by
  induction a with
  | nil => simp [sW]
  | cons c cs ih => simp only [List.cons_append, sW, ih]; omega
theorem sW_reverse (a : List Cv) (t : Int) : sW a.reverse t = sW a t := by
  induction a with
  | nil => rfl
  | cons c cs ih => rw [List.reverse_cons, sW_append, ih]; simp only [sW]; omega
theorem oneW_nn {c : Cv} (h : c.word) {t : Int} (ht : 0 ≤ t) : 0 ≤ oneW c t := by
  unfold oneW; split
  · exact cW_nn h.1.1 h.2.2.1 h.2.1.1 ht
  · exact Int.le_refl 0
theorem oneW_mono {c : Cv} (h : c.word) {s t : Int} (hs : 0 ≤ s) (ht : s ≤ t) : oneW c s ≤ oneW c t := by
  unfold oneW; split
  · exact cW_mono h.1.1 h.2.2.1 hs ht
  · exact Int.le_refl 0
theorem sW_nn {a : List Cv} (h : ∀ c ∈ a, c.word) {t : Int} (ht : 0 ≤ t) : 0 ≤ sW a t := by
  induction a with
  | nil => exact Int.le_refl 0
  | cons c cs ih =>
    have := oneW_nn (h c (List.mem_cons_self ..)) ht
    have := ih (fun c hc => h c (List.mem_cons_of_mem _ hc))
    simp only [sW]; omega
/-- A corner of c lies strictly between a and b. -/
def inside (c : Cv) (a b : Int) : Prop := c.may ∧ a < c.l ∧ c.l < b
/-- Where no corner lies between, all is straight: what lies in the midst is between both, by how far it is. -/
theorem oneW_straight {c : Cv} {a b : Int} (h : ¬ inside c a b) (ha : 0 ≤ a) : ∃ s, ∀ t, a ≤ t → t ≤ b → oneW c t = oneW c a + s * (t - a) := by
  unfold oneW
  by_cases hm : c.may
  · simp only [if_pos hm]
    by_cases hl : c.l ≤ a
    · refine ⟨c.r, fun t h1 h2 => ?_⟩
      rw [cW_hi (by omega), cW_hi hl, show t - c.l = (a - c.l) + (t - a) by omega, Int.mul_add]; omega
    · have : b ≤ c.l := by
        apply Classical.byContradiction
        intro n
        exact h ⟨hm, by omega, by omega⟩
      refine ⟨c.f, fun t h1 h2 => ?_⟩
      rw [cW_lo (by omega), cW_lo (by omega), show c.f * t = c.f * (a + (t - a)) by congr 1; omega, Int.mul_add]
  · exact ⟨0, fun t _ _ => by rw [if_neg hm, if_neg hm]; simp⟩
theorem sW_straight {xs : List Cv} {a b : Int} (h : ∀ c ∈ xs, ¬ inside c a b) (ha : 0 ≤ a) : ∃ s, ∀ t, a ≤ t → t ≤ b → sW xs t = sW xs a + s * (t - a) := by
  induction xs with
  | nil => exact ⟨0, fun t _ _ => by simp [sW]⟩
  | cons c cs ih =>
    obtain ⟨s1, h1⟩ := oneW_straight (h c (List.mem_cons_self ..)) ha
    obtain ⟨s2, h2⟩ := ih (fun c hc => h c (List.mem_cons_of_mem _ hc))
    refine ⟨s1 + s2, fun t k1 k2 => ?_⟩
    simp only [sW]
    rw [h1 t k1 k2, h2 t k1 k2, Int.add_mul]; omega
/-- They are late, by that rate, at t. -/
def lateAt (xs : List Cv) (rate t : Int) : Prop := rate * t < sW xs t
theorem late_between {xs : List Cv} {rate a b : Int} (h : ∀ c ∈ xs, ¬ inside c a b) (ha : 0 ≤ a) (la : ¬ lateAt xs rate a) (lb : ¬ lateAt xs rate b) : ∀ t, a ≤ t → t ≤ b → ¬ lateAt xs rate t := by
  obtain ⟨s, hs⟩ := sW_straight h ha
  intro t h1 h2
  unfold lateAt at *
  rw [hs t h1 h2]
  rw [hs b (by omega) (by omega)] at lb
  have e1 : rate * t = rate * a + rate * (t - a) := by rw [← Int.mul_add]; congr 1; omega
  have e2 : rate * b = rate * a + rate * (b - a) := by rw [← Int.mul_add]; congr 1; omega
  rw [e1]
  rw [e2] at lb
  rcases Int.lt_or_le rate s with k | k
  · -- steeper than the rate: then at b it is worst
    have m : (s - rate) * (t - a) ≤ (s - rate) * (b - a) := Int.mul_le_mul_of_nonneg_left (by omega) (by omega)
    rw [Int.sub_mul, Int.sub_mul] at m
    omega
  · have m : s * (t - a) ≤ rate * (t - a) := Int.mul_le_mul_of_nonneg_right k (by omega)
    omega
theorem late_on {xs : List Cv} {rate a b : Int} (h : ∀ c ∈ xs, ¬ inside c a b) (ha : 0 ≤ a) (la : ¬ lateAt xs rate a) : ∀ t u, a ≤ t → t ≤ u → u ≤ b → lateAt xs rate t → lateAt xs rate u := by
  obtain ⟨s, hs⟩ := sW_straight h ha
  intro t u h1 h2 h3 lt
  unfold lateAt at *
  rw [hs u (by omega) h3]
  rw [hs t h1 (by omega)] at lt
  have e1 : rate * t = rate * a + rate * (t - a) := by rw [← Int.mul_add]; congr 1; omega
  have e2 : rate * u = rate * a + rate * (u - a) := by rw [← Int.mul_add]; congr 1; omega
  rw [e1] at lt
  rw [e2]
  rcases Int.lt_or_le rate s with k | k
  · have m : (s - rate) * (t - a) ≤ (s - rate) * (u - a) := Int.mul_le_mul_of_nonneg_left (by omega) (by omega)
    rw [Int.sub_mul, Int.sub_mul] at m
    omega
  · have m : s * (t - a) ≤ rate * (t - a) := Int.mul_le_mul_of_nonneg_right k (by omega)
    omega
/-- n is the first tick at which they are late; Never, if there is none below that. -/
def IsLate (xs : List Cv) (rate n : Int) : Prop :=
  (n = 9223372036854775808 ∧ ∀ t, 0 ≤ t → t < 9223372036854775808 → ¬ lateAt xs rate t) ∨
  (0 ≤ n ∧ n < 9223372036854775808 ∧ lateAt xs rate n ∧ ∀ t, 0 ≤ t → t < n → ¬ lateAt xs rate t)
theorem IsLate.unique {xs : List Cv} {rate n m : Int} (hn : IsLate xs rate n) (hm : IsLate xs rate m) : n = m := by
  rcases hn with ⟨rfl, h1⟩ | ⟨a0, a1, a2, a3⟩
  · rcases hm with ⟨rfl, _⟩ | ⟨b0, b1, b2, b3⟩
    · rfl
    · exact absurd b2 (h1 m b0 b1)
  · rcases hm with ⟨rfl, h1⟩ | ⟨b0, b1, b2, b3⟩
    · exact absurd a2 (h1 n a0 a1)
    · rcases Int.lt_trichotomy n m with h | h | h
      · exact absurd a2 (b3 n a0 h)
      · exact h
      · exact absurd b2 (a3 m b0 h)
theorem late_ex (xs : List Cv) (rate : Int) : ∃ n, IsLate xs rate n := by
  by_cases h : ∃ t, 0 ≤ t ∧ t < 9223372036854775808 ∧ lateAt xs rate t
  · obtain ⟨t, t0, t1, t2⟩ := h
    suffices hs : ∀ k : Nat, ∀ t : Int, t.toNat = k → 0 ≤ t → t < 9223372036854775808 → lateAt xs rate t → ∃ n, IsLate xs rate n from hs _ t rfl t0 t1 t2
    intro k
    induction k using Nat.strongRecOn with
    | _ k ih =>
      intro t ht t0 t1 t2
      by_cases g : ∃ u, 0 ≤ u ∧ u < t ∧ lateAt xs rate u
      · obtain ⟨u, u0, u1, u2⟩ := g
        exact ih u.toNat (by omega) u rfl u0 (by omega) u2
      · exact ⟨t, .inr ⟨t0, t1, t2, fun u u0 u1 hu => g ⟨u, u0, u1, hu⟩⟩⟩
  · exact ⟨_, .inl ⟨rfl, fun t t0 t1 ht => h ⟨t, t0, t1, ht⟩⟩⟩
end Go.Proofs.Ytjbpaapglamilaa
namespace Go.Proofs.Ytjbpaapglamilaa
open W
set_option linter.unusedVariables false
theorem lateAt_zero (xs : List Cv) (rate : Int) : ¬ lateAt xs rate 0 ↔ sW xs 0 ≤ 0 := by unfold lateAt; simp
theorem oneW_zero {c : Cv} (h : c.word) : oneW c 0 = 0 := by
  unfold oneW; split
  · exact cW_zero h.2.1.1
  · rfl
theorem sW_zero {xs : List Cv} (h : ∀ c ∈ xs, c.word) : sW xs 0 = 0 := by
  induction xs with
  | nil => rfl
  | cons c cs ih => simp only [sW]; rw [oneW_zero (h c (List.mem_cons_self ..)), ih (fun c hc => h c (List.mem_cons_of_mem _ hc))]; rfl
theorem not_late_zero {xs : List Cv} (h : ∀ c ∈ xs, c.word) (rate : Int) : ¬ lateAt xs rate 0 := by unfold lateAt; rw [sW_zero h]; simp
/-- They can be kept. -/
def kept (xs : List Cv) (rate : Int) : Prop := ∀ t, 0 ≤ t → t < 9223372036854775808 → ¬ lateAt xs rate t
theorem kept_iff {xs : List Cv} {rate n : Int} (h : IsLate xs rate n) : kept xs rate ↔ n = 9223372036854775808 := by
  constructor
  · intro k
    rcases h with ⟨e, _⟩ | ⟨a0, a1, a2, _⟩
    · exact e
    · exact absurd a2 (k n a0 a1)
  · rintro rfl
    rcases h with ⟨_, k⟩ | ⟨_, a1, _, _⟩
    · exact k
    · omega
theorem sW_le_append_left {a b : List Cv} (h : ∀ c ∈ b, c.word) {t : Int} (ht : 0 ≤ t) : sW a t ≤ sW (a ++ b) t := by rw [sW_append]; have := sW_nn h ht; omega
theorem sW_le_append_right {a b : List Cv} (h : ∀ c ∈ a, c.word) {t : Int} (ht : 0 ≤ t) : sW b t ≤ sW (a ++ b) t := by rw [sW_append]; have := sW_nn h ht; omega
theorem kept_of_le {a b : List Cv} {rate : Int} (h : ∀ t, 0 ≤ t → t < 9223372036854775808 → sW a t ≤ sW b t) (k : kept b rate) : kept a rate := fun t h0 h1 hl => k t h0 h1 (by unfold lateAt at *; have := h t h0 h1; omega)
theorem kept_rate {a : List Cv} {r1 r2 : Int} (h : r1 ≤ r2) (k : kept a r1) : kept a r2 := fun t h0 h1 hl => k t h0 h1 (by
  unfold lateAt at *
  have := Int.mul_le_mul_of_nonneg_right h h0
  omega)
/-- All Rests together. -/
def sR : List Cv → Int
  | [] => 0
  | c :: cs => (if c.may then c.r else 0) + sR cs
theorem sW_behind {xs : List Cv} {m t : Int} (h : ∀ c ∈ xs, c.may → c.l ≤ m) (ht : m ≤ t) : sW xs t = sW xs m + sR xs * (t - m) := by
  induction xs with
  | nil => simp [sW, sR]
  | cons c cs ih =>
    simp only [sW, sR]
    rw [ih (fun c hc => h c (List.mem_cons_of_mem _ hc)), Int.add_mul]
    have : oneW c t = oneW c m + (if c.may then c.r else 0) * (t - m) := by
      unfold oneW
      by_cases hm : c.may
      · simp only [if_pos hm]
        have := h c (List.mem_cons_self ..) hm
        rw [cW_hi (by omega), cW_hi this, show t - c.l = (m - c.l) + (t - m) by omega, Int.mul_add]; omega
      · simp only [if_neg hm]; simp
    omega
/-- Corners are enough: by a rate up to MaxSlope. -/
theorem kept_corners {xs : List Cv} {rate : Int} (hw : ∀ c ∈ xs, c.word) (hr0 : 0 ≤ rate) (hr : rate ≤ 1048576) (h0 : 0 ≤ sR xs)
    (hc : ∀ t, 0 ≤ t → t ≤ 1099511627776 → ¬ lateAt xs rate t) : kept xs rate ↔ sR xs ≤ rate := by
  have hl : ∀ c ∈ xs, c.may → c.l ≤ 1099511627776 := fun c _ h => h.2.2.1
  constructor
  · intro k
    apply Classical.byContradiction
    intro n
    have e := sW_behind hl (t := 9223372036854775807) (by omega)
    have s0 := sW_nn hw (t := 1099511627776) (by omega)
    apply k 9223372036854775807 (by omega) (by omega)
    unfold lateAt
    rw [e]
    have m : (rate + 1) * (9223372036854775807 - 1099511627776) ≤ sR xs * (9223372036854775807 - 1099511627776) := Int.mul_le_mul_of_nonneg_right (by omega) (by omega)
    omega
  · intro k t t0 t1
    rcases Int.lt_or_le t 1099511627776 with g | g
    · exact hc t t0 (by omega)
    · have e := sW_behind hl (t := t) g
      have n1 := hc 1099511627776 (by omega) (by omega)
      unfold lateAt at *
      rw [e]
      have m : sR xs * (t - 1099511627776) ≤ rate * (t - 1099511627776) := Int.mul_le_mul_of_nonneg_right k (by omega)
      rw [Int.mul_sub rate] at m
      omega
theorem sR_nn {xs : List Cv} (hw : ∀ c ∈ xs, c.word) : 0 ≤ sR xs := by
  induction xs with
  | nil => exact Int.le_refl 0
  | cons c cs ih =>
    simp only [sR]
    have := ih (fun c hc => hw c (List.mem_cons_of_mem _ hc))
    have := (hw c (List.mem_cons_self ..)).2.2.1
    split <;> omega
/-- n is spare beside them: the greatest slope up to MaxSlope of a straight curve that can be kept beside them. -/
def IsSpare (xs : List Cv) (rate n : Int) : Prop := 0 ≤ n ∧ n ≤ 1048576 ∧ kept (xs ++ [⟨0, 0, n⟩]) rate ∧ (n = 1048576 ∨ ¬ kept (xs ++ [⟨0, 0, n + 1⟩]) rate)
theorem line_may {n : Int} (h : n ≤ 1048576) : (Cv.mk 0 0 n).may := ⟨by show (0:Int) ≤ 1048576; omega, h, by show (0:Int) ≤ 1099511627776; omega, .inl ⟨rfl, rfl⟩⟩
theorem sW_line {xs : List Cv} {n t : Int} (h : n ≤ 1048576) (ht : 0 ≤ t) : sW (xs ++ [⟨0, 0, n⟩]) t = sW xs t + n * t := by
  rw [sW_append]
  simp only [sW, oneW, if_pos (line_may h)]
  rw [cW_straight ht]; omega
theorem kept_line {xs : List Cv} {rate n m : Int} (h : m ≤ n) (hn : n ≤ 1048576) (k : kept (xs ++ [⟨0, 0, n⟩]) rate) : kept (xs ++ [⟨0, 0, m⟩]) rate := kept_of_le (fun t t0 t1 => by
  rw [sW_line (by omega) t0, sW_line hn t0]
  have := Int.mul_le_mul_of_nonneg_right h t0
  omega) k
theorem IsSpare.unique {xs : List Cv} {rate n m : Int} (hn : IsSpare xs rate n) (hm : IsSpare xs rate m) : n = m := by
  obtain ⟨a0, a1, a2, a3⟩ := hn
  obtain ⟨b0, b1, b2, b3⟩ := hm
  rcases Int.lt_trichotomy n m with h | h | h
  · rcases a3 with a3 | a3
    · omega
    · exact absurd (kept_line (show n + 1 ≤ m by omega) b1 b2) a3
  · exact h
  · rcases b3 with b3 | b3
    · omega
    · exact absurd (kept_line (show m + 1 ≤ n by omega) a1 a2) b3
/-- a is below b. -/
def isBelow (a b : Cv) : Prop := a.may ∧ b.may ∧ ∀ t, 0 ≤ t → t < 9223372036854775808 → cW a.f a.l a.r t ≤ cW b.f b.l b.r t
theorem cW_seg {F L R a b : Int} (h : L ≤ a ∨ b ≤ L) : ∃ s, ∀ t, a ≤ t → t ≤ b → cW F L R t = cW F L R a + s * (t - a) := by
  rcases h with h | h
  · refine ⟨R, fun t h1 h2 => ?_⟩
    rw [cW_hi (by omega), cW_hi h, show t - L = (a - L) + (t - a) by omega, Int.mul_add]; omega
  · refine ⟨F, fun t h1 h2 => ?_⟩
    rw [cW_lo (by omega), cW_lo (by omega), show F * t = F * (a + (t - a)) by congr 1; omega, Int.mul_add]
theorem below_seg {a b : Cv} {x y : Int} (ha : a.l ≤ x ∨ y ≤ a.l) (hb : b.l ≤ x ∨ y ≤ b.l) (hx : cW a.f a.l a.r x ≤ cW b.f b.l b.r x) (hy : cW a.f a.l a.r y ≤ cW b.f b.l b.r y) :
    ∀ t, x ≤ t → t ≤ y → cW a.f a.l a.r t ≤ cW b.f b.l b.r t := by
  obtain ⟨s, hs⟩ := cW_seg (F := a.f) (R := a.r) ha
  obtain ⟨u, hu⟩ := cW_seg (F := b.f) (R := b.r) hb
  intro t h1 h2
  rw [hs t h1 h2, hu t h1 h2]
  rw [hs y (by omega) (by omega), hu y (by omega) (by omega)] at hy
  rcases Int.lt_or_le u s with k | k
  · have m : (s - u) * (t - x) ≤ (s - u) * (y - x) := Int.mul_le_mul_of_nonneg_left (by omega) (by omega)
    rw [Int.sub_mul, Int.sub_mul] at m
    omega
  · have m : s * (t - x) ≤ u * (t - x) := Int.mul_le_mul_of_nonneg_right k (by omega)
    omega
/-- At the corners and far behind is enough. -/
theorem below_corners {a b : Cv} (wa : a.word) (wb : b.word) (ma : a.may) (mb : b.may) (h1 : cW a.f a.l a.r a.l ≤ cW b.f b.l b.r a.l) (h2 : cW a.f a.l a.r b.l ≤ cW b.f b.l b.r b.l)
    (h3 : cW a.f a.l a.r 9223372036854775807 ≤ cW b.f b.l b.r 9223372036854775807) : isBelow a b := by
  refine ⟨ma, mb, fun t t0 t1 => ?_⟩
  have la := ma.2.2.1
  have lb := mb.2.2.1
  have a0 := wa.2.1.1
  have b0 := wb.2.1.1
  have z : cW a.f a.l a.r 0 ≤ cW b.f b.l b.r 0 := by rw [cW_zero a0, cW_zero b0]; omega
  rcases Int.lt_or_le a.l b.l with g | g
  · rcases Int.lt_or_le t a.l with k | k
    · exact below_seg (.inr (Int.le_refl _)) (.inr (by omega)) z h1 t t0 (by omega)
    · rcases Int.lt_or_le t b.l with j | j
      · exact below_seg (.inl (Int.le_refl _)) (.inr (Int.le_refl _)) h1 h2 t k (by omega)
      · exact below_seg (.inl (by omega)) (.inl (Int.le_refl _)) h2 h3 t j (by omega)
  · rcases Int.lt_or_le t b.l with k | k
    · exact below_seg (.inr (by omega)) (.inr (Int.le_refl _)) z h2 t t0 (by omega)
    · rcases Int.lt_or_le t a.l with j | j
      · exact below_seg (.inr (Int.le_refl _)) (.inl (Int.le_refl _)) h2 h1 t k (by omega)
      · exact below_seg (.inl (Int.le_refl _)) (.inl (by omega)) h1 h3 t j (by omega)
end Go.Proofs.Ytjbpaapglamilaa
namespace Go.Proofs.Ytjbpaapglamilaa
open Go.RowKit W
set_option linter.unusedVariables false
theorem rCmp_any (a b c d : Int) (w : World) (hb : Word b) (hd : Word d) :
    Calls Try.prog 64 #[.agg #[.int .u64 a, .int .u64 b], .agg #[.int .u64 c, .int .u64 d]] w fun e w' => e = .returned (.int .i64 (cmpW a b c d)) ∧ Below w.heap.size w w' := by
  rcases Int.lt_trichotomy a c with h | h | h
  · rw [cmpW_lt (V_lt hb hd (.inl h))]
    go_enter Try.func64, Try.ntmps64
    go_wp2
    go_ret
    exact ⟨rfl, up2 _ _ _⟩
  · subst h
    rcases Int.lt_trichotomy b d with h | h | h
    · rw [cmpW_lt (V_lt hb hd (.inr ⟨rfl, h⟩))]
      go_enter Try.func64, Try.ntmps64
      go_wp2
      go_ret
      exact ⟨rfl, up2 _ _ _⟩
    · subst h
      rw [cmpW_eq rfl]
      go_enter Try.func64, Try.ntmps64
      go_wp2
      go_ret
      exact ⟨rfl, up2 _ _ _⟩
    · rw [cmpW_gt (V_lt hd hb (.inr ⟨rfl, h⟩))]
      have hne : (b == d) = false := by simp; omega
      go_enter Try.func64, Try.ntmps64
      go_wp2
      go_ret
      exact ⟨rfl, up2 _ _ _⟩
  · rw [cmpW_gt (V_lt hd hb (.inl h))]
    have hne : (a == c) = false := by simp; omega
    go_enter Try.func64, Try.ntmps64
    go_wp2
    go_ret
    exact ⟨rfl, up2 _ _ _⟩

theorem upset {w w1 : World} {o1 o2 o3 : Obj} (hb1 : Below (((w.alloc o1).alloc o2).alloc o3).heap.size (((w.alloc o1).alloc o2).alloc o3) w1) (v1 v2 : Value) :
    Below w.heap.size w ((w1.setCell { block := w.heap.size + 1 + 1, off := 0 } v1).setCell { block := w.heap.size + 1 + 1, off := 1 } v2) :=
  (((up3 w o1 o2 o3).trans (hb1.mono (by simp; omega))).setCell (by simp; omega) _).setCell (by simp; omega) _


end Go.Proofs.Ytjbpaapglamilaa
namespace Go.Proofs.Ytjbpaapglamilaa
open Go.RowKit W
set_option linter.unusedVariables false
/-- Block b holds those curves, from o on. -/
def CvRow (w : World) (b o : Nat) (xs : List Cv) : Prop := b < w.heap.size ∧ ∀ i (h : i < xs.length), w.cell? ⟨b, o + i * 3, none⟩ = some (.int .u64 xs[i].f) ∧ w.cell? ⟨b, o + i * 3 + 1, none⟩ = some (.int .u64 xs[i].l) ∧ w.cell? ⟨b, o + i * 3 + 2, none⟩ = some (.int .u64 xs[i].r)
theorem CvRow.below {W w : World} {b o : Nat} {xs : List Cv} (h : CvRow W b o xs) (hb : Below W.heap.size W w) : CvRow w b o xs :=
  ⟨Nat.lt_of_lt_of_le h.1 hb.size, fun i hi => by
    obtain ⟨a, b', c⟩ := h.2 i hi
    exact ⟨(hb.cell (p := ⟨b, _, none⟩) h.1).trans a, (hb.cell (p := ⟨b, _, none⟩) h.1).trans b', (hb.cell (p := ⟨b, _, none⟩) h.1).trans c⟩⟩
theorem CvRow.alloc {w : World} {b o : Nat} {xs : List Cv} (h : CvRow w b o xs) (ob : Obj) : CvRow (w.alloc ob) b o xs := h.below (up1 w ob)
theorem CvRow.setNe {w : World} {b o : Nat} {xs : List Cv} (h : CvRow w b o xs) {a : Addr} (hne : b ≠ a.block) (v : Value) : CvRow (w.setCell a v) b o xs :=
  ⟨by simpa [World.setCell] using h.1, fun i hi => by
    have e : (w.setCell a v).heap[b]? = w.heap[b]? := Below.heap_setCell w a v b hne
    obtain ⟨x, y, z⟩ := h.2 i hi
    exact ⟨(World.cell?_of_block (a := ⟨b, _, none⟩) e).trans x, (World.cell?_of_block (a := ⟨b, _, none⟩) e).trans y, (World.cell?_of_block (a := ⟨b, _, none⟩) e).trans z⟩⟩
theorem Box.store2 {W : World} {B : Nat} {t : TypeId} {a b : Value} (h : Box W B #[a, b] t) (x y : Value) : Box ((W.setCell ⟨B, 0, none⟩ x).setCell ⟨B, 1, none⟩ y) B #[x, y] t := by
  obtain ⟨hlt, hk⟩ := Array.getElem?_eq_some_iff.1 h
  unfold Box World.setCell
  simp only [Array.getElem?_modify]
  rw [h]
  simp
theorem oneW_le {c : Cv} (h : c.word) {t : Int} (ht : Word t) : oneW c t ≤ 19342813113834066795298816 := by
  unfold oneW; split
  · rename_i hm
    have hg := (cW_grow (F := c.f) (L := c.l) h.1.1 h.2.2.1 (Int.le_refl 0) t.toNat).2
    rw [Int.toNat_of_nonneg ht.1, cW_zero h.2.1.1, Int.zero_add, Int.zero_add] at hg
    have hs : cSt c.f c.l c.r ≤ 1048576 := by obtain ⟨a, b, _⟩ := hm; unfold cSt; split <;> omega
    have := Int.mul_le_mul hs (show t ≤ 18446744073709551616 by unfold Word at ht; omega) ht.1 (by omega)
    omega
  · omega
theorem sW_le {xs : List Cv} (h : ∀ c ∈ xs, c.word) {t : Int} (ht : Word t) : sW xs t ≤ xs.length * 19342813113834066795298816 := by
  induction xs with
  | nil => simp [sW]
  | cons c cs ih =>
    have := ih (fun c hc => h c (List.mem_cons_of_mem _ hc))
    have := oneW_le (h c (List.mem_cons_self ..)) ht
    simp only [sW, List.length_cons]
    have e : ((cs.length + 1 : Nat) : Int) * 19342813113834066795298816 = cs.length * 19342813113834066795298816 + 19342813113834066795298816 := by rw [Int.natCast_add, Int.add_mul]; simp
    omega
theorem sW_take {xs : List Cv} {k : Nat} (h : k < xs.length) (t : Int) : sW (xs.take (k + 1)) t = sW (xs.take k) t + oneW xs[k] t := by
  rw [List.take_succ_eq_append_getElem h, sW_append]; simp [sW]
set_option maxRecDepth 100000 in
set_option maxHeartbeats 2000000 in
theorem kSum_of (xs : List Cv) (t : Int) (b o c : Nat) (w : World) (hx : ∀ c ∈ xs, c.word) (ht : Word t) (hn : xs.length ≤ 1000) (hr : CvRow w b o xs) (hc : xs.length ≤ c) :
    Calls Try.prog 65 #[.slice (some ⟨b, o, none⟩) xs.length c, .int .u64 t] w fun e w' => e = .returned (.agg #[.int .u64 (sW xs t / 18446744073709551616), .int .u64 (sW xs t % 18446744073709551616)]) ∧ Below w.heap.size w w' := by
  have hr' := Lib.hid hr
  have hx' := Lib.hid hx
  have hbw := hr.1
  clear hr hx
  go_enter Try.func65, Try.ntmps65
  go_wp2
  go_loopw [6] (fun s6 wr => ∃ k : Nat, k ≤ xs.length ∧ s6 = .int .i64 k ∧ Box wr w.heap.size #[.int .u64 0, .int .u64 0] 96 ∧ Box wr (w.heap.size + 1) #[.int .u64 (sW (xs.take k) t / 18446744073709551616), .int .u64 (sW (xs.take k) t % 18446744073709551616)] 96 ∧ Below w.heap.size w wr) (fun s6 _ => xs.length - (intOf s6).toNat)
  case atStart => exact ⟨0, by omega, rfl, (Box.new w 96 _).alloc _, by have := Box.new (w.alloc (.cells #[.int .u64 0, .int .u64 0] 96)) 96 #[.int .u64 0, .int .u64 0]; simpa [sW] using this, up2 _ _ _⟩
  case round =>
    obtain ⟨k, hk, rfl, BR, BS, T⟩ := hrel
    by_cases hlt : k < xs.length
    · have i1 : (k : Int) < (xs.length : Int) := by omega
      have i2 : (0 : Int) ≤ (k : Int) := by omega
      obtain ⟨x1, x2, x3⟩ := (hr'.out.below T).2 k hlt
      obtain ⟨wf, wl, wr'⟩ := hx'.out xs[k] (List.getElem_mem hlt)
      have hst := sW_take hlt t
      have hcv : oneW xs[k] t = if xs[k].may then cW xs[k].f xs[k].l xs[k].r t else 0 := rfl
      have hmb : mayB xs[k].f xs[k].l xs[k].r = true ↔ xs[k].may := mayB_is
      have hM := fun w => kMay_any xs[k].f xs[k].l xs[k].r w wf wl wr'
      have hW := fun w => kWide_any xs[k].f xs[k].l xs[k].r t w wf wl wr' ht
      have hb1 := oneW_le (hx'.out xs[k] (List.getElem_mem hlt)) ht
      have hb0 := oneW_nn (hx'.out xs[k] (List.getElem_mem hlt)) ht.1
      have hs0 := sW_nn (a := xs.take k) (fun c hc => hx'.out c (List.mem_of_mem_take hc)) ht.1
      have hs1 := sW_le (xs := xs.take k) (fun c hc => hx'.out c (List.mem_of_mem_take hc)) ht
      have hlen : ((xs.take k).length : Int) ≤ 1000 := by rw [List.length_take]; omega
      have hs2 : sW (xs.take k) t ≤ 1000 * 19342813113834066795298816 := by
        have := Int.mul_le_mul_of_nonneg_right hlen (show (0 : Int) ≤ 19342813113834066795298816 by omega)
        omega
      clear hs1 hlen
      have BC := hr'.out.below T
      obtain ⟨f, ef⟩ : ∃ f, xs[k].f = f := ⟨_, rfl⟩
      obtain ⟨l, el⟩ : ∃ l, xs[k].l = l := ⟨_, rfl⟩
      obtain ⟨r, er⟩ : ∃ r, xs[k].r = r := ⟨_, rfl⟩
      have hkeep : ∀ (w' : World), CvRow w' b o xs → w'.cell? ⟨b, o + k * 3, none⟩ = some (.int .u64 f) ∧ w'.cell? ⟨b, o + k * 3 + 1, none⟩ = some (.int .u64 l) ∧ w'.cell? ⟨b, o + k * 3 + 2, none⟩ = some (.int .u64 r) := fun w' h => by
        obtain ⟨a1, a2, a3⟩ := h.2 k hlt
        rw [ef] at a1; rw [el] at a2; rw [er] at a3
        exact ⟨a1, a2, a3⟩
      replace hkeep := Lib.hid hkeep
      rw [ef] at x1 hM hW hmb hcv
      rw [el] at x2 hM hW hmb hcv
      rw [er] at x3 hM hW hmb hcv
      clear ef el er wf wl wr'
      have g0 := BR.has
      cases hm : mayB f l r with
      | false =>
        have hno : ¬ xs[k].may := fun h => by rw [hmb.2 h] at hm; cases hm
        rw [hcv, if_neg hno, Int.add_zero] at hst
        rw [hm] at hM
        clear hW hcv hmb hm hb0 hb1 hs0 hs2 hno
        go_wp2_with (go_at_call 25; (with_reducible refine (hM _).mono ?_); rintro e w1 ⟨rfl, hb⟩)
        go_roundw
        case rel => exact ⟨k + 1, by omega, by go_num, BR.below hb, by rw [hst]; exact BS.below hb, up T hb T.size⟩
        case measure => simp [intOf]; omega
      | true =>
        have hyes : xs[k].may := hmb.1 hm
        rw [hcv, if_pos hyes] at hst hb0 hb1
        rw [hm] at hM
        clear hcv hmb hm hyes
        obtain ⟨e1, e2, e3⟩ := @pOk (sW (xs.take k) t / 18446744073709551616) (sW (xs.take k) t % 18446744073709551616) (cW f l r t / 18446744073709551616) (cW f l r t % 18446744073709551616) (sW (xs.take (k + 1)) t / 18446744073709551616) (sW (xs.take (k + 1)) t % 18446744073709551616) (by unfold V; omega) (by unfold Word; omega) (by unfold Word; omega)
        have hP := fun w => rPlus_any (sW (xs.take k) t / 18446744073709551616) (sW (xs.take k) t % 18446744073709551616) (cW f l r t / 18446744073709551616) (cW f l r t % 18446744073709551616) w (by unfold Word; omega) (by unfold Word; omega) (by unfold Word; omega) (by unfold Word; omega)
        rw [e1, e2, e3] at hP
        clear e1 e2 e3 hst hb0 hb1 hs0 hs2
        obtain ⟨sh, esh⟩ : ∃ x, sW (xs.take k) t / 18446744073709551616 = x := ⟨_, rfl⟩
        obtain ⟨sl, esl⟩ : ∃ x, sW (xs.take k) t % 18446744073709551616 = x := ⟨_, rfl⟩
        obtain ⟨ch, ech⟩ : ∃ x, cW f l r t / 18446744073709551616 = x := ⟨_, rfl⟩
        obtain ⟨cl, ecl⟩ : ∃ x, cW f l r t % 18446744073709551616 = x := ⟨_, rfl⟩
        rw [esh, esl] at BS hP
        rw [ech, ecl] at hW hP
        clear esh esl ech ecl
        have hq := BS.lt
        have hne : b ≠ w.heap.size + 1 := by omega
        obtain ⟨y0, y1, y2⟩ := BS.has
        have u0 := BS.frz 0
        have u1 := BS.frz 1
        go_upto_region 6 with (go_at_call 25; (with_reducible refine (hM _).mono ?_); rintro e w1 ⟨rfl, hb⟩; replace BR := BR.below hb; replace BS := BS.below hb; replace BC := BC.below hb; replace T := up T hb T.size; clear hb)
        obtain ⟨x1, x2, x3⟩ := hkeep.out _ BC
        obtain ⟨y0, y1, y2⟩ := BS.has
        have u0 := BS.frz 0
        have u1 := BS.frz 1
        have E := Below.refl w1.heap.size w1
        refine wp_region_held_drew (S := (fun w' => w'.cell? ⟨b, o + k * 3, none⟩ = some (.int .u64 f) ∧ w'.cell? ⟨b, o + k * 3 + 1, none⟩ = some (.int .u64 l) ∧ w'.cell? ⟨b, o + k * 3 + 2, none⟩ = some (.int .u64 r))) (by kernel_rfl) ⟨x1, x2, x3⟩ (fun hHeld => ?_)
        refine wpAnyH_take (i := 1) (v := ?_) (by simp only [List.getElem?_toArray, List.getElem?_cons_zero, List.getElem?_cons_succ]; rfl) (by kernel_rfl) (by kernel_rfl) (by kernel_rfl) (by exact fun _ _ _ h => h) (Or.inl ⟨by rfl, ?_⟩) (by assumption) ?_
        rotate_left
        · (intro w hSw; (try dsimp only at hSw); go_simp; (try with_reducible rfl))
        try simp only [Act.put, List.setIfInBounds_toArray, List.set_cons_zero, List.set_cons_succ]
        refine wpAnyH_take (i := 2) (v := ?_) (by simp only [List.getElem?_toArray, List.getElem?_cons_zero, List.getElem?_cons_succ]; rfl) (by kernel_rfl) (by kernel_rfl) (by kernel_rfl) (by exact fun _ _ _ h => h) (Or.inl ⟨by rfl, ?_⟩) (by assumption) ?_
        rotate_left
        · (intro w hSw; (try dsimp only at hSw); go_simp; (try with_reducible rfl))
        try simp only [Act.put, List.setIfInBounds_toArray, List.set_cons_zero, List.set_cons_succ]
        refine wpAnyH_take (i := 3) (v := ?_) (by simp only [List.getElem?_toArray, List.getElem?_cons_zero, List.getElem?_cons_succ]; rfl) (by kernel_rfl) (by kernel_rfl) (by kernel_rfl) (by exact fun _ _ _ h => h) (Or.inl ⟨by rfl, ?_⟩) (by assumption) ?_
        rotate_left
        · (intro w hSw; (try dsimp only at hSw); go_simp; (try with_reducible rfl))
        try simp only [Act.put, List.setIfInBounds_toArray, List.set_cons_zero, List.set_cons_succ]
        refine wpAnyH_take (i := 4) (v := ?_) (by simp only [List.getElem?_toArray, List.getElem?_cons_zero, List.getElem?_cons_succ]; rfl) (by kernel_rfl) (by kernel_rfl) (by kernel_rfl) (by exact fun _ _ _ h => h) (Or.inl ⟨by rfl, ?_⟩) (by assumption) ?_
        rotate_left
        · (intro w hSw; (try dsimp only at hSw); go_simp; (try with_reducible rfl))
        try simp only [Act.put, List.setIfInBounds_toArray, List.set_cons_zero, List.set_cons_succ]
        refine wpAnyH_take (i := 5) (v := ?_) (by simp only [List.getElem?_toArray, List.getElem?_cons_zero, List.getElem?_cons_succ]; rfl) (by kernel_rfl) (by kernel_rfl) (by kernel_rfl) (by exact fun _ _ _ h => h) (Or.inl ⟨by rfl, ?_⟩) (by assumption) ?_
        rotate_left
        · (intro w hSw; (try dsimp only at hSw); go_simp; (try with_reducible rfl))
        try simp only [Act.put, List.setIfInBounds_toArray, List.set_cons_zero, List.set_cons_succ]
        refine wpAnyH_ready (rs := [0, 6]) (by kernel_rfl) (by simp) ?_
        refine AllReadyH.cons (by simp only [List.getElem?_toArray, List.getElem?_cons_zero]; rfl) (fun K hK => ?_) ?_
        · go_simp
          refine hK.out _ _ ⟨x1, x2, x3⟩ (fun hHeld => ?_)
          clear hK K
          try simp only [Act.put, List.setIfInBounds_toArray, List.set_cons_zero, List.set_cons_succ]
          refine wpAnyH_ready (rs := [6]) (by kernel_rfl) (by simp) ?_
          refine AllReadyH.cons (by simp only [List.getElem?_toArray, List.getElem?_cons_zero, List.getElem?_cons_succ]; rfl) (fun K hK => ?_) AllReadyH.nil
          go_simp
          go_at_call 87
          (with_reducible refine (hW _).mono ?_)
          rintro e v1 ⟨rfl, hb⟩
          have E1 := up E (undrew hb) E.size
          clear hb
          obtain ⟨p0, p1, p2⟩ := (BS.below E1).has
          have q0 := (BS.below E1).frz 0
          have q1 := (BS.below E1).frz 1
          refine hK.out _ _ (hkeep.out _ (BC.below E1)) (fun hHeld => ?_)
          clear hK K
          try simp only [Act.put, List.setIfInBounds_toArray, List.set_cons_zero, List.set_cons_succ]
          refine wpAnyH_ready (rs := [7]) (by kernel_rfl) (by simp) ?_
          refine AllReadyH.cons (by simp only [List.getElem?_toArray, List.getElem?_cons_zero, List.getElem?_cons_succ]; rfl) (fun K hK => ?_) AllReadyH.nil
          go_simp
          go_at_call 86
          (with_reducible refine (hP _).mono ?_)
          rintro e v2 ⟨rfl, hb⟩
          have E2 := up E1 (hb) E1.size
          clear hb
          obtain ⟨p0, p1, p2⟩ := (BS.below E2).has
          have q0 := (BS.below E2).frz 0
          have q1 := (BS.below E2).frz 1
          refine hK.out _ _ (hkeep.out _ (BC.below E2)) (fun hHeld => ?_)
          clear hK K
          try simp only [Act.put, List.setIfInBounds_toArray, List.set_cons_zero, List.set_cons_succ]
          refine wpAnyH_take (i := 8) (v := ?_) (by simp only [List.getElem?_toArray, List.getElem?_cons_zero, List.getElem?_cons_succ]; rfl) (by kernel_rfl) (by kernel_rfl) (by kernel_rfl) (by exact fun _ _ _ h => h) (Or.inl ⟨by rfl, ?_⟩) (by assumption) ?_
          rotate_left
          · (intro w hSw; (try dsimp only at hSw); go_simp; (try with_reducible rfl))
          try simp only [Act.put, List.setIfInBounds_toArray, List.set_cons_zero, List.set_cons_succ]
          refine wpAnyH_take (i := 9) (v := ?_) (by simp only [List.getElem?_toArray, List.getElem?_cons_zero, List.getElem?_cons_succ]; rfl) (by kernel_rfl) (by kernel_rfl) (by kernel_rfl) (by exact fun _ _ _ h => h) (Or.inl ⟨by rfl, ?_⟩) (by assumption) ?_
          rotate_left
          · (intro w hSw; (try dsimp only at hSw); go_simp; (try with_reducible rfl))
          try simp only [Act.put, List.setIfInBounds_toArray, List.set_cons_zero, List.set_cons_succ]
          refine wpAnyH_take (i := 10) (v := ?_) (by simp only [List.getElem?_toArray, List.getElem?_cons_zero, List.getElem?_cons_succ]; rfl) (by kernel_rfl) (by kernel_rfl) (by kernel_rfl) (by exact fun _ _ _ h => h) (Or.inl ⟨by rfl, ?_⟩) (by assumption) ?_
          rotate_left
          · (intro w hSw; (try dsimp only at hSw); go_simp; (try with_reducible rfl))
          try simp only [Act.put, List.setIfInBounds_toArray, List.set_cons_zero, List.set_cons_succ]
          refine wpAnyH_ready (rs := [11]) (by kernel_rfl) (by simp) ?_
          refine AllReadyH.cons (by simp only [List.getElem?_toArray, List.getElem?_cons_zero, List.getElem?_cons_succ]; rfl) (fun K hK => ?_) AllReadyH.nil
          go_simp
          refine hK.out _ _ (hkeep.out _ (((BC.below E2).setNe hne _).setNe hne _)) (fun hHeld => ?_)
          clear hK K
          try simp only [Act.put, List.setIfInBounds_toArray, List.set_cons_zero, List.set_cons_succ]
          refine wpAnyH_done (by kernel_rfl) ?_ _
          go_wp2
          go_roundw
          case rel => exact ⟨k + 1, by omega, by go_num, ((BR.below E2).setNe (by simp) _).setNe (by simp) _, (BS.below E2).store2 _ _, ((up T E2 T.size).setCell (by simp) _).setCell (by simp) _⟩
          case measure => simp [intOf]; omega
        refine AllReadyH.cons (by simp only [List.getElem?_toArray, List.getElem?_cons_zero, List.getElem?_cons_succ]; rfl) (fun K hK => ?_) AllReadyH.nil
        go_simp
        go_at_call 87
        (with_reducible refine (hW _).mono ?_)
        rintro e v1 ⟨rfl, hb⟩
        have E1 := up E (undrew hb) E.size
        clear hb
        obtain ⟨p0, p1, p2⟩ := (BS.below E1).has
        have q0 := (BS.below E1).frz 0
        have q1 := (BS.below E1).frz 1
        refine hK.out _ _ (hkeep.out _ (BC.below E1)) (fun hHeld => ?_)
        clear hK K
        try simp only [Act.put, List.setIfInBounds_toArray, List.set_cons_zero, List.set_cons_succ]
        refine wpAnyH_ready (rs := [0]) (by kernel_rfl) (by simp) ?_
        refine AllReadyH.cons (by simp only [List.getElem?_toArray, List.getElem?_cons_zero]; rfl) (fun K hK => ?_) AllReadyH.nil
        go_simp
        refine hK.out _ _ (hkeep.out _ (BC.below E1)) (fun hHeld => ?_)
        clear hK K
        try simp only [Act.put, List.setIfInBounds_toArray, List.set_cons_zero, List.set_cons_succ]
        refine wpAnyH_ready (rs := [7]) (by kernel_rfl) (by simp) ?_
        refine AllReadyH.cons (by simp only [List.getElem?_toArray, List.getElem?_cons_zero, List.getElem?_cons_succ]; rfl) (fun K hK => ?_) AllReadyH.nil
        go_simp
        go_at_call 86
        (with_reducible refine (hP _).mono ?_)
        rintro e v2 ⟨rfl, hb⟩
        have E2 := up E1 (hb) E1.size
        clear hb
        obtain ⟨p0, p1, p2⟩ := (BS.below E2).has
        have q0 := (BS.below E2).frz 0
        have q1 := (BS.below E2).frz 1
        refine hK.out _ _ (hkeep.out _ (BC.below E2)) (fun hHeld => ?_)
        clear hK K
        try simp only [Act.put, List.setIfInBounds_toArray, List.set_cons_zero, List.set_cons_succ]
        refine wpAnyH_take (i := 8) (v := ?_) (by simp only [List.getElem?_toArray, List.getElem?_cons_zero, List.getElem?_cons_succ]; rfl) (by kernel_rfl) (by kernel_rfl) (by kernel_rfl) (by exact fun _ _ _ h => h) (Or.inl ⟨by rfl, ?_⟩) (by assumption) ?_
        rotate_left
        · (intro w hSw; (try dsimp only at hSw); go_simp; (try with_reducible rfl))
        try simp only [Act.put, List.setIfInBounds_toArray, List.set_cons_zero, List.set_cons_succ]
        refine wpAnyH_take (i := 9) (v := ?_) (by simp only [List.getElem?_toArray, List.getElem?_cons_zero, List.getElem?_cons_succ]; rfl) (by kernel_rfl) (by kernel_rfl) (by kernel_rfl) (by exact fun _ _ _ h => h) (Or.inl ⟨by rfl, ?_⟩) (by assumption) ?_
        rotate_left
        · (intro w hSw; (try dsimp only at hSw); go_simp; (try with_reducible rfl))
        try simp only [Act.put, List.setIfInBounds_toArray, List.set_cons_zero, List.set_cons_succ]
        refine wpAnyH_take (i := 10) (v := ?_) (by simp only [List.getElem?_toArray, List.getElem?_cons_zero, List.getElem?_cons_succ]; rfl) (by kernel_rfl) (by kernel_rfl) (by kernel_rfl) (by exact fun _ _ _ h => h) (Or.inl ⟨by rfl, ?_⟩) (by assumption) ?_
        rotate_left
        · (intro w hSw; (try dsimp only at hSw); go_simp; (try with_reducible rfl))
        try simp only [Act.put, List.setIfInBounds_toArray, List.set_cons_zero, List.set_cons_succ]
        refine wpAnyH_ready (rs := [11]) (by kernel_rfl) (by simp) ?_
        refine AllReadyH.cons (by simp only [List.getElem?_toArray, List.getElem?_cons_zero, List.getElem?_cons_succ]; rfl) (fun K hK => ?_) AllReadyH.nil
        go_simp
        refine hK.out _ _ (hkeep.out _ (((BC.below E2).setNe hne _).setNe hne _)) (fun hHeld => ?_)
        clear hK K
        try simp only [Act.put, List.setIfInBounds_toArray, List.set_cons_zero, List.set_cons_succ]
        refine wpAnyH_done (by kernel_rfl) ?_ _
        go_wp2
        go_roundw
        case rel => exact ⟨k + 1, by omega, by go_num, ((BR.below E2).setNe (by simp) _).setNe (by simp) _, (BS.below E2).store2 _ _, ((up T E2 T.size).setCell (by simp) _).setCell (by simp) _⟩
        case measure => simp [intOf]; omega
    · have e : k = xs.length := by omega
      subst e
      rw [List.take_length] at BS
      obtain ⟨r0, r1, r2⟩ := BR.has
      have v0 := BR.frz 0
      have v1 := BR.frz 1
      obtain ⟨y0, y1, y2⟩ := BS.has
      go_wp2
      exact bodyPost_ret (v := .agg #[.int .u64 (sW xs t / 18446744073709551616), .int .u64 (sW xs t % 18446744073709551616)]) (by simp [results, Try.results65, go_sem, r1, r2]) rfl ⟨rfl, (T.setCell (by simp) _).setCell (by simp) _⟩
theorem kSum_nil (a : Option Addr) (c : Nat) (t : Int) (w : World) :
    Calls Try.prog 65 #[.slice a 0 c, .int .u64 t] w fun e w' => e = .returned (.agg #[.int .u64 0, .int .u64 0]) ∧ Below w.heap.size w w' := by
  go_enter Try.func65, Try.ntmps65
  go_wp2
  go_loopw [6] (fun s6 wr => s6 = .int .i64 0 ∧ wr = (w.alloc (.cells #[.int .u64 0, .int .u64 0] 96)).alloc (.cells #[.int .u64 0, .int .u64 0] 96)) (fun s6 _ => 0)
  case atStart => exact ⟨rfl, rfl⟩
  case round =>
    obtain ⟨rfl, rfl⟩ := hrel
    go_wp2
    exact bodyPost_ret (v := .agg #[.int .u64 0, .int .u64 0]) (by simp [results, Try.results65, go_sem]) rfl ⟨rfl, up2 _ _ _⟩
end Go.Proofs.Ytjbpaapglamilaa
namespace Go.Proofs.Ytjbpaapglamilaa
open Go.RowKit W
set_option linter.unusedVariables false
theorem V_split (x : Int) : V (x / 18446744073709551616) (x % 18446744073709551616) = x := by unfold V; omega
instance (xs : List Cv) (rate t : Int) : Decidable (lateAt xs rate t) := by unfold lateAt; infer_instance
theorem kLate_of (xs : List Cv) (rate t : Int) (a : Value) (w : World) (hx : ∀ c ∈ xs, c.word) (hr : Word rate) (ht : Word t) (hn : xs.length ≤ 1000)
    (hS : ∀ w', Below w.heap.size w w' → Calls Try.prog 65 #[a, .int .u64 t] w' fun e w'' => e = .returned (.agg #[.int .u64 (sW xs t / 18446744073709551616), .int .u64 (sW xs t % 18446744073709551616)]) ∧ Below w'.heap.size w' w'') :
    Calls Try.prog 58 #[a, .int .u64 rate, .int .u64 t] w fun e w' => e = .returned (.bool (decide (lateAt xs rate t))) ∧ Below w.heap.size w w' := by
  have s0 := sW_nn hx ht.1
  have s1 := sW_le hx ht
  have s2 : (xs.length : Int) * 19342813113834066795298816 ≤ 1000 * 19342813113834066795298816 := Int.mul_le_mul_of_nonneg_right (by omega) (by omega)
  have hM := fun w => rMul_any rate t w hr ht
  have hC := fun w => rCmp_any (sW xs t / 18446744073709551616) (sW xs t % 18446744073709551616) (xH rate t) (xL rate t) w (by unfold Word; omega) (xL_word rate t)
  have hS' := hS w (Below.refl _ _)
  clear hS
  have hz : ∃ z, cmpW (sW xs t / 18446744073709551616) (sW xs t % 18446744073709551616) (xH rate t) (xL rate t) = z ∧ decide (0 < z) = decide (lateAt xs rate t) := by
    unfold lateAt
    rcases Int.lt_trichotomy (sW xs t) (rate * t) with h | h | h
    · exact ⟨_, cmpW_lt (by rw [V_split, V_x]; exact h), by rw [decide_eq_false (show ¬ rate * t < sW xs t by omega)]; rfl⟩
    · exact ⟨_, cmpW_eq (by rw [V_split, V_x]; exact h.symm), by rw [decide_eq_false (show ¬ rate * t < sW xs t by omega)]; rfl⟩
    · exact ⟨_, cmpW_gt (by rw [V_split, V_x]; exact h), by rw [decide_eq_true (show rate * t < sW xs t by omega)]; rfl⟩
  obtain ⟨z, e1, e2⟩ := hz
  rw [e1] at hC
  obtain ⟨p, ep⟩ : ∃ p, decide (lateAt xs rate t) = p := ⟨_, rfl⟩
  rw [ep] at e2 ⊢
  clear e1 ep s0 s1 s2
  obtain ⟨sh, esh⟩ : ∃ x, sW xs t / 18446744073709551616 = x := ⟨_, rfl⟩
  obtain ⟨sl, esl⟩ : ∃ x, sW xs t % 18446744073709551616 = x := ⟨_, rfl⟩
  obtain ⟨mh, emh⟩ : ∃ x, xH rate t = x := ⟨_, rfl⟩
  obtain ⟨ml, eml⟩ : ∃ x, xL rate t = x := ⟨_, rfl⟩
  rw [esh, esl] at hS' hC
  rw [emh, eml] at hM hC
  clear esh esl emh eml
  go_enter Try.func58, Try.ntmps58
  go_wp2_with (first
    | (go_at_call 65; (with_reducible refine hS'.mono ?_); rintro e w1 ⟨rfl, hb1⟩)
    | (go_at_call 66; (with_reducible refine (hM _).mono ?_); rintro e w2 ⟨rfl, hb2⟩)
    | (go_at_call 64; (with_reducible refine (hC _).mono ?_); rintro e w3 ⟨rfl, hb3⟩))
  go_ret
  exact ⟨by simp [*], up (up hb1 hb2 hb1.size) hb3 (up hb1 hb2 hb1.size).size⟩
/-- A slice of curves: nil, empty, or a row in memory. -/
def IsCvs (w : World) (a : Option Addr) (n c : Nat) (xs : List Cv) : Prop :=
  xs.length = n ∧ n ≤ c ∧ (n = 0 ∨ ∃ b o, a = some ⟨b, o, none⟩ ∧ CvRow w b o xs)
theorem IsCvs.below {W w : World} {a : Option Addr} {n c : Nat} {xs : List Cv} (h : IsCvs W a n c xs) (hb : Below W.heap.size W w) : IsCvs w a n c xs := by
  obtain ⟨h1, h2, h3⟩ := h
  refine ⟨h1, h2, ?_⟩
  rcases h3 with h3 | ⟨b, o, e, h3⟩
  · exact .inl h3
  · exact .inr ⟨b, o, e, h3.below hb⟩
theorem kSum_any (xs : List Cv) (t : Int) (a : Option Addr) (n c : Nat) (w : World) (hx : ∀ c ∈ xs, c.word) (ht : Word t) (hn : xs.length ≤ 1000) (hr : IsCvs w a n c xs) :
    Calls Try.prog 65 #[.slice a n c, .int .u64 t] w fun e w' => e = .returned (.agg #[.int .u64 (sW xs t / 18446744073709551616), .int .u64 (sW xs t % 18446744073709551616)]) ∧ Below w.heap.size w w' := by
  obtain ⟨rfl, h2, h3⟩ := hr
  rcases h3 with h3 | ⟨b, o, rfl, h3⟩
  · have e : xs = [] := List.length_eq_zero_iff.1 h3
    subst e
    exact kSum_nil a c t w
  · exact kSum_of xs t b o c w hx ht hn h3 h2
theorem kLate1_any (xs : List Cv) (rate t : Int) (a : Option Addr) (n c : Nat) (w : World) (hx : ∀ c ∈ xs, c.word) (hr : Word rate) (ht : Word t) (hn : xs.length ≤ 1000) (h : IsCvs w a n c xs) :
    Calls Try.prog 58 #[.slice a n c, .int .u64 rate, .int .u64 t] w fun e w' => e = .returned (.bool (decide (lateAt xs rate t))) ∧ Below w.heap.size w w' :=
  kLate_of xs rate t _ w hx hr ht hn (fun w' hb => kSum_any xs t a n c w' hx ht hn (h.below hb))
end Go.Proofs.Ytjbpaapglamilaa
namespace Go.Proofs.Ytjbpaapglamilaa
open Go.RowKit W
set_option linter.unusedVariables false
/-- The ticks that are asked. -/
def tb (l l' : Int) : Nat → Int
  | 0 => 1
  | 1 => l
  | 2 => l'
  | _ => 9223372036854775807
theorem Box.tb {W : World} {B : Nat} {l l' : Int} {t : TypeId} (h : Box W B #[.int .u64 1, .int .u64 l, .int .u64 l', .int .u64 9223372036854775807] t) {k : Nat} (hk : k < 4) :
    W.cell? ⟨B, k, none⟩ = some (.int .u64 (tb l l' k)) := by
  match k, hk with
  | 0, _ => simp [World.cell?, show W.heap[B]? = _ from h, Ytjbpaapglamilaa.tb]
  | 1, _ => simp [World.cell?, show W.heap[B]? = _ from h, Ytjbpaapglamilaa.tb]
  | 2, _ => simp [World.cell?, show W.heap[B]? = _ from h, Ytjbpaapglamilaa.tb]
  | 3, _ => simp [World.cell?, show W.heap[B]? = _ from h, Ytjbpaapglamilaa.tb]
theorem tb_word {l l' : Int} (hl : Word l) (hl' : Word l') (k : Nat) : Word (tb l l' k) := by
  unfold Ytjbpaapglamilaa.tb; split
  · exact ⟨by omega, by omega⟩
  · exact hl
  · exact hl'
  · exact ⟨by omega, by omega⟩
/-- At each of those ticks. -/
def atAll (f l r f' l' r' : Int) : Prop := ∀ k, k < 4 → cW f l r (tb l l' k) ≤ cW f' l' r' (tb l l' k)
theorem atAll_iff {f l r f' l' r' : Int} (hf : Word f) (hl : Word l) (hr : Word r) (hf' : Word f') (hl' : Word l') (hr' : Word r') (m : cMay f l r) (m' : cMay f' l' r') :
    atAll f l r f' l' r' ↔ isBelow ⟨f, l, r⟩ ⟨f', l', r'⟩ := by
  constructor
  · intro h
    exact below_corners (a := ⟨f, l, r⟩) (b := ⟨f', l', r'⟩) ⟨hf, hl, hr⟩ ⟨hf', hl', hr'⟩ m m' (h 1 (by omega)) (h 2 (by omega)) (h 3 (by omega))
  · rintro ⟨_, _, h⟩ k hk
    have l1 := m.2.2.1
    have l1' := m'.2.2.1
    refine h _ (tb_word hl hl' k).1 ?_
    unfold Ytjbpaapglamilaa.tb; split <;> omega
end Go.Proofs.Ytjbpaapglamilaa
