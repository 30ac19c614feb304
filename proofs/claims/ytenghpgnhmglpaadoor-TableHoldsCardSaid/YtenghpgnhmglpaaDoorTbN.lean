/- Plain facts of rising rows of numbers, and of the next id. No condition. -/
import Derived.Test.YtenghpgnhmglpaaDoorTbM
import Derived.Lib.TrailingZeros
namespace Go.Proofs.YtenghpgnhmglpaaDoor
set_option linter.unusedVariables false
def RiseK (N : List Int) : Prop := N.Pairwise (· < ·)
def lowK (p : Int) (N : List Int) : Nat := N.countP fun a => decide (a < p)
def kC (N : List Int) : List Value := N.map fun a => eI a
theorem kC_len (N : List Int) : (kC N).length = N.length := by unfold kC; simp
theorem kC_one (N : List Int) : ∀ u ∈ kC N, u.oneCell' = true := by
  intro u hu
  unfold kC at hu
  obtain ⟨a, _, rfl⟩ := List.mem_map.1 hu
  rfl
theorem kC_ins (N : List Int) (i : Nat) (p : Int) : (kC N).take i ++ eI p :: (kC N).drop i = kC (N.take i ++ p :: N.drop i) := by
  unfold kC
  rw [← List.map_take, ← List.map_drop, List.map_append, List.map_cons]
theorem kC_del (N : List Int) (i : Nat) : (kC N).take i ++ (kC N).drop (i + 1) = kC (N.take i ++ N.drop (i + 1)) := by
  unfold kC
  rw [← List.map_take, ← List.map_drop, List.map_append]
theorem lowK_take : ∀ {N : List Int} (p : Int), RiseK N → (∀ a ∈ N.take (lowK p N), a < p) ∧ (∀ a ∈ N.drop (lowK p N), p ≤ a) ∧ lowK p N ≤ N.length
  | [], p, _ => by simp [lowK]
  | b :: N, p, h => by
    unfold RiseK at h
    rw [List.pairwise_cons] at h
    obtain ⟨h1, h2, h3⟩ := lowK_take (N := N) p h.2
    unfold lowK at *
    rw [List.countP_cons]
    by_cases hb : b < p
    · simp only [hb, decide_true, if_true]
      refine ⟨fun a ha => ?_, fun a ha => ?_, by simp; omega⟩
      · rw [List.take_succ_cons] at ha
        rcases List.mem_cons.1 ha with rfl | ha
        · exact hb
        · exact h1 a ha
      · rw [List.drop_succ_cons] at ha; exact h2 a ha
    · have h0 : N.countP (fun a => decide (a < p)) = 0 := by
        rw [List.countP_eq_zero]
        intro a ha
        have := h.1 a ha
        simp; omega
      simp only [hb, decide_false, h0]
      refine ⟨fun a ha => by simp at ha, fun a ha => ?_, by simp⟩
      simp at ha
      rcases ha with rfl | ha
      · omega
      · have := h.1 a ha; omega
theorem riseK_split {N : List Int} (h : RiseK N) (i : Nat) (hi : i < N.length) : (∀ a ∈ N.take i, a < N[i]) ∧ (∀ a ∈ N.drop (i + 1), N[i] < a) := by
  have e : N = N.take i ++ N[i] :: N.drop (i + 1) := by rw [← List.drop_eq_getElem_cons hi, List.take_append_drop]
  have h' := h
  unfold RiseK at h'
  rw [e, List.pairwise_append] at h'
  obtain ⟨_, h2, h3⟩ := h'
  rw [List.pairwise_cons] at h2
  exact ⟨fun a ha => h3 a ha _ List.mem_cons_self, h2.1⟩
theorem lowK_at {N : List Int} {p : Int} (h : RiseK N) (hp : p ∈ N) : ∃ hi : lowK p N < N.length, N[lowK p N] = p := by
  obtain ⟨h1, h2, h3⟩ := lowK_take p h
  have ha' : p ∈ N.take (lowK p N) ++ N.drop (lowK p N) := by rw [List.take_append_drop]; exact hp
  rcases List.mem_append.1 ha' with g | g
  · have := h1 p g; omega
  · have hlt : lowK p N < N.length := by
      rcases Nat.lt_or_ge (lowK p N) N.length with q | q
      · exact q
      · rw [List.drop_eq_nil_of_le q] at g; cases g
    refine ⟨hlt, ?_⟩
    rw [List.drop_eq_getElem_cons hlt] at g
    rcases List.mem_cons.1 g with g | g
    · exact g.symm
    · have h4 := h2 N[lowK p N] (by rw [List.drop_eq_getElem_cons hlt]; exact List.mem_cons_self)
      have h5 := (riseK_split h _ hlt).2 p g
      omega
theorem riseK_ins {N : List Int} {p : Int} (h : RiseK N) (hp : p ∉ N) : RiseK (N.take (lowK p N) ++ p :: N.drop (lowK p N)) ∧ ∀ q, q ∈ N.take (lowK p N) ++ p :: N.drop (lowK p N) ↔ q = p ∨ q ∈ N := by
  obtain ⟨h1, h2, h3⟩ := lowK_take p h
  have hm : ∀ q, q ∈ N ↔ q ∈ N.take (lowK p N) ∨ q ∈ N.drop (lowK p N) := fun q => by
    conv => lhs; rw [← List.take_append_drop (lowK p N) N]
    exact List.mem_append
  have h2' : ∀ a ∈ N.drop (lowK p N), p < a := fun a ha => by
    have q := h2 a ha
    have : a ≠ p := fun e => hp (by rw [← e]; exact List.mem_of_mem_drop ha)
    omega
  refine ⟨?_, fun q => ?_⟩
  · unfold RiseK at *
    rw [List.pairwise_append]
    refine ⟨List.Pairwise.sublist (List.take_sublist _ _) h, ?_, fun a ha b hb => ?_⟩
    · rw [List.pairwise_cons]
      exact ⟨h2', List.Pairwise.sublist (List.drop_sublist _ _) h⟩
    · have := h1 a ha
      rcases List.mem_cons.1 hb with rfl | hb
      · exact this
      · have := h2' b hb; omega
  · rw [List.mem_append, List.mem_cons, hm]
    constructor
    · rintro (g | g | g)
      · exact .inr (.inl g)
      · exact .inl g
      · exact .inr (.inr g)
    · rintro (g | g | g)
      · exact .inr (.inl g)
      · exact .inl g
      · exact .inr (.inr g)
theorem riseK_del {N : List Int} {p : Int} (h : RiseK N) (hp : p ∈ N) : RiseK (N.take (lowK p N) ++ N.drop (lowK p N + 1)) ∧ ∀ q, q ∈ N.take (lowK p N) ++ N.drop (lowK p N + 1) ↔ q ∈ N ∧ q ≠ p := by
  obtain ⟨hi, e⟩ := lowK_at h hp
  obtain ⟨s1, s2⟩ := riseK_split h _ hi
  rw [e] at s1 s2
  have hN : N = N.take (lowK p N) ++ p :: N.drop (lowK p N + 1) := by
    conv => lhs; rw [← List.take_append_drop (lowK p N) N, List.drop_eq_getElem_cons hi, e]
  refine ⟨?_, fun q => ?_⟩
  · unfold RiseK at *
    rw [List.pairwise_append]
    refine ⟨List.Pairwise.sublist (List.take_sublist _ _) h, List.Pairwise.sublist (List.drop_sublist _ _) h, fun a ha b hb => ?_⟩
    have := s1 a ha
    have := s2 b hb
    omega
  · have hm : q ∈ N ↔ q ∈ N.take (lowK p N) ∨ q = p ∨ q ∈ N.drop (lowK p N + 1) := by
      conv => lhs; rw [hN]
      rw [List.mem_append, List.mem_cons]
    rw [List.mem_append, hm]
    constructor
    · rintro (g | g)
      · exact ⟨.inl g, by have := s1 q g; omega⟩
      · exact ⟨.inr (.inr g), by have := s2 q g; omega⟩
    · rintro ⟨g | g | g, hq⟩
      · exact .inl g
      · exact absurd g hq
      · exact .inr g
theorem riseK_len : ∀ {N : List Int} {a b : Int}, RiseK N → (∀ q ∈ N, a ≤ q ∧ q < b) → a ≤ b → (N.length : Int) ≤ b - a
  | [], a, b, _, _, hab => by simp; omega
  | x :: N, a, b, h, hq, hab => by
    unfold RiseK at h
    rw [List.pairwise_cons] at h
    have h1 := hq x List.mem_cons_self
    have h2 := riseK_len (N := N) (a := x + 1) (b := b) h.2 (fun q hq' => by
      have := h.1 q hq'
      have := hq q (List.mem_cons_of_mem _ hq')
      omega) (by omega)
    simp; omega
theorem riseK_le {N : List Int} (h : RiseK N) : N.Pairwise (· ≤ ·) := List.Pairwise.imp (fun h => Int.le_of_lt h) h
theorem nextI_of {L : List Im} {k x : Int} (hr : Rise L) (hm : hasI x L = true) (hk : k < x) (h : ∀ a ∈ L, k < a.id → x ≤ a.id) : nextI k L = some x := by
  induction L with
  | nil => simp [hasI] at hm
  | cons b L ih =>
    unfold Rise at hr
    rw [List.pairwise_cons] at hr
    unfold nextI
    rw [List.find?_cons]
    by_cases hb : k < b.id
    · simp only [hb, decide_true]
      have h1 := h b List.mem_cons_self hb
      obtain ⟨a, ha, e⟩ := hasI_iff.1 hm
      rcases List.mem_cons.1 ha with rfl | ha
      · rw [← e]; rfl
      · have := hr.1 a ha; omega
    · simp only [hb, decide_false]
      refine ih hr.2 ?_ (fun a ha => h a (List.mem_cons_of_mem _ ha))
      obtain ⟨a, ha, e⟩ := hasI_iff.1 hm
      rcases List.mem_cons.1 ha with rfl | ha
      · omega
      · exact hasI_iff.2 ⟨a, ha, e⟩
theorem nextI_no {L : List Im} {k : Int} (h : ∀ a ∈ L, a.id ≤ k) : nextI k L = none := by
  unfold nextI
  rw [List.find?_eq_none.2 (fun a ha => by have := h a ha; simp; omega)]
  rfl
/-! ### The first bit set, from a place on -/
theorem shift_bits (x one j : Nat) : (x / 2 ^ one * 2 ^ one).testBit j = (decide (one ≤ j) && x.testBit j) := by
  rw [Nat.testBit_mul_two_pow, Nat.testBit_div_two_pow]
  by_cases h : one ≤ j
  · simp [h]
  · simp [h]
theorem ctz_bits {y : Nat} (hy : y < 18446744073709551616) : (y = 0 ∧ Lib.ctz 64 y = 64) ∨ (Lib.ctz 64 y < 64 ∧ y.testBit (Lib.ctz 64 y) = true ∧ ∀ i, i < Lib.ctz 64 y → y.testBit i = false) := by
  by_cases h0 : y = 0
  · left
    exact ⟨h0, by simp [Lib.ctz, h0]⟩
  · right
    obtain ⟨m, hm, hk⟩ := Lib.ctzFrom_spec 64 y (by omega) hy
    have e : Lib.ctz 64 y = Lib.ctzFrom 64 y := by simp [Lib.ctz, h0]
    rw [e]
    generalize Lib.ctzFrom 64 y = k at *
    refine ⟨hk, ?_, fun i hi => ?_⟩
    · rw [hm, Nat.testBit_two_pow_mul]; simp
    · rw [hm, Nat.testBit_two_pow_mul]; simp; omega
/-- What 'from' tells: the first bit set from a place on; 64: none. -/
theorem from_bits {x one : Nat} (hx : x < 18446744073709551616) : ∃ j, Lib.ctz 64 (x / 2 ^ one * 2 ^ one) = j ∧ j ≤ 64 ∧ (j < 64 → one ≤ j ∧ x.testBit j = true) ∧ (∀ i, one ≤ i → i < j → x.testBit i = false) := by
  have hy : x / 2 ^ one * 2 ^ one < 18446744073709551616 := Nat.lt_of_le_of_lt (Nat.div_mul_le_self _ _) hx
  refine ⟨_, rfl, ?_⟩
  rcases ctz_bits hy with ⟨h1, h2⟩ | ⟨h1, h2, h3⟩
  · rw [h2]
    refine ⟨Nat.le_refl _, fun h => absurd h (by omega), fun i hi hj => ?_⟩
    have := shift_bits x one i
    rw [h1, Nat.zero_testBit] at this
    simpa [hi] using this.symm
  · rw [shift_bits] at h2
    simp at h2
    refine ⟨by omega, fun _ => ⟨h2.1, h2.2⟩, fun i hi hj => ?_⟩
    have := h3 i hj
    rw [shift_bits] at this
    simpa [hi] using this
end Go.Proofs.YtenghpgnhmglpaaDoor
