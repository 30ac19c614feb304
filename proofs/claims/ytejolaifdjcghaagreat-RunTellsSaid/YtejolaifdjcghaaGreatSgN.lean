/- A run of a sagging curve in plain numbers: two neighbours tell what all have, and when; and how many are kept. -/
import Derived.Test.YtejolaifdjcghaaGreatSgM
namespace Go.Proofs.YtejolaifdjcghaaGreat
namespace W
set_option linter.unusedVariables false
/-- The places on both sides of i. -/
def InWin (i n j : Nat) : Prop := max i 1 - 1 ≤ j ∧ j < min (i + 1) n
/-- i is where P comes to be true. -/
def IsTurn (P : Nat → Prop) (n i : Nat) : Prop := i ≤ n ∧ (∀ j, j < i → ¬ P j) ∧ (∀ j, i ≤ j → j < n → P j)
section
variable {f l r x : Int} {K : List (Int × Int)}
theorem Good.get (h : Good f l r x K) {j : Nat} (hj : j < K.length) : 0 ≤ K[j].1 ∧ K[j].1 ≤ x ∧ 0 ≤ K[j].2 ∧ K[j].2 ≤ 4611686018427387904 := h.1 _ (List.getElem_mem hj)
theorem Good.lt (h : Good f l r x K) {i j : Nat} (hi : i < K.length) (hj : j < K.length) (hij : i < j) : K[i].1 ≤ K[j].1 ∧ hv f l r K[i] x < hv f l r K[j] x ∧ lv r K[j] x < lv r K[i] x :=
  List.pairwise_iff_getElem.1 h.2 i j hi hj hij
theorem Good.low (hf : 0 ≤ f) (hr : 0 ≤ r) (h : Good f l r x K) {i j : Nat} (hi : i < K.length) (hj : j < K.length) (hij : i < j) : K[i].2 < K[j].2 := by
  obtain ⟨h1, h2, h3⟩ := h.lt hi hj hij
  have := h.get hi
  have := h.get hj
  unfold hv at h2
  have := cW_mono (L := l) hf hr (show 0 ≤ x - K[j].1 by omega) (show x - K[j].1 ≤ x - K[i].1 by omega)
  omega
/-- What comes true of a copy's corner comes true of all behind it. -/
theorem Good.turnT (h : Good f l r x K) {t : Int} {i j : Nat} (hi : i < K.length) (hj : j < K.length) (hij : i ≤ j) (hp : t < K[i].1 + l) : t < K[j].1 + l := by
  rcases Nat.lt_or_ge i j with h1 | h1
  · have := (h.lt hi hj h1).1; omega
  · obtain rfl : i = j := by omega
    exact hp
theorem Good.turnY (hf : 0 ≤ f) (hr : 0 ≤ r) (h : Good f l r x K) {y : Int} {i j : Nat} (hi : i < K.length) (hj : j < K.length) (hij : i ≤ j) (z : Int) (hp : y ≤ K[i].2 + z) : y ≤ K[j].2 + z := by
  rcases Nat.lt_or_ge i j with h1 | h1
  · have := h.low hf hr hi hj h1; omega
  · obtain rfl : i = j := by omega
    exact hp
theorem win_ex {i n : Nat} (hi : i ≤ n) (hn : 0 < n) : ∃ j, InWin i n j := by
  unfold InWin
  exact ⟨max i 1 - 1, by omega, by omega⟩
/-- The least of two neighbours is the least of all. -/
theorem Good.least (hf : 0 ≤ f) (hr : 0 ≤ r) (hl : 0 ≤ l) (h : Good f l r x K) {t : Int} (ht : x ≤ t) {i : Nat} (hi : IsTurn (fun j => ∃ hj : j < K.length, t < K[j].1 + l) K.length i) {j : Nat} (hj : j < K.length) :
    ∃ m, ∃ hm : m < K.length, InWin i K.length m ∧ hv f l r K[m] t ≤ hv f l r K[j] t := by
  obtain ⟨h0, h1, h2⟩ := hi
  rcases Nat.lt_or_ge j i with hlt | hge
  · have hm : i - 1 < K.length := by omega
    refine ⟨i - 1, hm, by unfold InWin; omega, ?_⟩
    rcases Nat.lt_or_ge j (i - 1) with h3 | h3
    · have a1 : ¬ t < K[j].1 + l := fun e => h1 j hlt ⟨hj, e⟩
      have a2 : ¬ t < K[i - 1].1 + l := fun e => h1 (i - 1) (by omega) ⟨hm, e⟩
      have := lv_lt (t := t) (h.lt hj hm h3).2.2
      rw [hv_line (by omega), hv_line (by omega)]
      omega
    · obtain rfl : j = i - 1 := by omega
      exact Int.le_refl _
  · have hm : i < K.length := by omega
    refine ⟨i, hm, by unfold InWin; omega, ?_⟩
    rcases Nat.lt_or_ge i j with h3 | h3
    · obtain ⟨_, a1⟩ := h2 i (Nat.le_refl _) hm
      obtain ⟨_, a2⟩ := h2 j hge hj
      have a3 := (h.lt hm hj h3).2.1
      rw [hv_corner (by omega), hv_corner (by omega)] at a3 ⊢
      have e1 : f * (t - K[i].1) = f * (x - K[i].1) + f * (t - x) := by rw [← Int.mul_add]; congr 1; omega
      have e2 : f * (t - K[j].1) = f * (x - K[j].1) + f * (t - x) := by rw [← Int.mul_add]; congr 1; omega
      omega
    · obtain rfl : i = j := by omega
      exact Int.le_refl _
theorem Good.leastL (h : Good f l r x K) {t : Int} {i : Nat} (hi : i = K.length) {j : Nat} (hj : j < K.length) :
    ∃ m, ∃ hm : m < K.length, InWin i K.length m ∧ lv r K[m] t ≤ lv r K[j] t := by
  subst hi
  have hm : K.length - 1 < K.length := by omega
  refine ⟨K.length - 1, hm, by unfold InWin; omega, ?_⟩
  rcases Nat.lt_or_ge j (K.length - 1) with h3 | h3
  · have := lv_lt (t := t) (h.lt hj hm h3).2.2
    omega
  · obtain rfl : j = K.length - 1 := by omega
    exact Int.le_refl _
/-- Two neighbours have y just if all have. -/
theorem Good.latest (hf : 0 ≤ f) (hr : 0 ≤ r) (hl : 0 ≤ l) (h : Good f l r x K) {t y : Int} (ht : x ≤ t) {i : Nat} (hi : IsTurn (fun j => ∃ hj : j < K.length, y ≤ K[j].2 + f * l) K.length i)
    (hw : ∀ m (hm : m < K.length), InWin i K.length m → y ≤ hv f l r K[m] t) {j : Nat} (hj : j < K.length) : y ≤ hv f l r K[j] t := by
  obtain ⟨h0, h1, h2⟩ := hi
  have at_ : ∀ m (hm : m < K.length), hv f l r K[m] (K[m].1 + l) = K[m].2 + f * l := fun m hm => by
    rw [hv_corner (Int.le_refl _), show K[m].1 + l - K[m].1 = l by omega]
  rcases Nat.lt_or_ge j i with hlt | hge
  · have hm : i - 1 < K.length := by omega
    have h3 := hw (i - 1) hm (by unfold InWin; omega)
    rcases Nat.lt_or_ge j (i - 1) with h4 | h4
    · have a2 : ¬ y ≤ K[i - 1].2 + f * l := fun e => h1 (i - 1) (by omega) ⟨hm, e⟩
      obtain ⟨b1, b2, b3⟩ := h.lt hj hm h4
      have hc : K[i - 1].1 + l ≤ t := by
        rcases Int.lt_or_le t (K[i - 1].1 + l) with hc | hc
        · have := hv_mono (F := f) (L := l) (R := r) (k := K[i - 1]) hf hr (by have := h.get hm; omega) (show t ≤ K[i - 1].1 + l by omega)
          rw [at_ _ hm] at this
          omega
        · exact hc
      rw [hv_line hc] at h3
      rw [hv_line (by omega)]
      have := lv_lt (t := t) b3
      omega
    · obtain rfl : j = i - 1 := by omega
      exact h3
  · have hm : i < K.length := by omega
    have h3 := hw i hm (by unfold InWin; omega)
    rcases Nat.lt_or_ge i j with h4 | h4
    · obtain ⟨_, a1⟩ := h2 i (Nat.le_refl _) hm
      obtain ⟨_, a2⟩ := h2 j hge hj
      obtain ⟨b1, b2, b3⟩ := h.lt hm hj h4
      have gi := h.get hm
      have gj := h.get hj
      have line : ∀ s, x ≤ s → s ≤ K[i].1 + l → hv f l r K[i] s < hv f l r K[j] s := fun s s0 s1 => by
        rw [hv_corner (by omega), hv_corner (by omega)] at b2 ⊢
        have e1 : f * (s - K[i].1) = f * (x - K[i].1) + f * (s - x) := by rw [← Int.mul_add]; congr 1; omega
        have e2 : f * (s - K[j].1) = f * (x - K[j].1) + f * (s - x) := by rw [← Int.mul_add]; congr 1; omega
        omega
      rcases Int.lt_or_le t (K[i].1 + l) with hc | hc
      · have := line t ht (by omega)
        omega
      · rcases Int.lt_or_le (K[i].1 + l) x with hx | hx
        · have e1 := hv_mono (F := f) (L := l) (R := r) (k := K[i]) hf hr (by omega) (show K[i].1 + l ≤ x by omega)
          have e2 := hv_mono (F := f) (L := l) (R := r) (k := K[j]) hf hr gj.2.1 ht
          rw [at_ _ hm] at e1
          omega
        · have e1 := line (K[i].1 + l) hx (Int.le_refl _)
          have e2 := hv_mono (F := f) (L := l) (R := r) (k := K[j]) hf hr (show K[j].1 ≤ K[i].1 + l by omega) hc
          rw [at_ _ hm] at e1
          omega
    · obtain rfl : i = j := by omega
      exact h3
theorem Good.latestL (hr : 0 ≤ r) (h : Good f l r x K) {t y : Int} (ht : x ≤ t) {i : Nat} (hi : IsTurn (fun j => ∃ hj : j < K.length, y ≤ K[j].2) K.length i)
    (hw : ∀ m (hm : m < K.length), InWin i K.length m → y ≤ lv r K[m] t) {j : Nat} (hj : j < K.length) : y ≤ lv r K[j] t := by
  obtain ⟨h0, h1, h2⟩ := hi
  rcases Nat.lt_or_ge j i with hlt | hge
  · have hm : i - 1 < K.length := by omega
    have h3 := hw (i - 1) hm (by unfold InWin; omega)
    rcases Nat.lt_or_ge j (i - 1) with h4 | h4
    · have := lv_lt (t := t) (h.lt hj hm h4).2.2
      omega
    · obtain rfl : j = i - 1 := by omega
      exact h3
  · obtain ⟨_, a2⟩ := h2 j hge hj
    have := h.get hj
    unfold lv
    have := Int.mul_nonneg hr (show 0 ≤ t - K[j].1 by omega)
    omega
end
/-- One number is the least of what a list of copies has. -/
def IsLst (V : Int × Int → Int) (A : List (Int × Int)) (v : Int) : Prop := (∀ c ∈ A, v ≤ V c) ∧ ∃ c ∈ A, V c = v
theorem IsLst.unique {V : Int × Int → Int} {A : List (Int × Int)} {v v' : Int} (h : IsLst V A v) (h' : IsLst V A v') : v = v' := by
  obtain ⟨h1, c, hc, rfl⟩ := h
  obtain ⟨h1', c', hc', rfl⟩ := h'
  have := h1 c' hc'
  have := h1' c hc
  omega
theorem IsLst.cover {V : Int × Int → Int} {K A : List (Int × Int)} {v : Int} (h : IsLst V K v) (hs : ∀ k ∈ K, k ∈ A) (hc : ∀ c ∈ A, ∃ k ∈ K, V k ≤ V c) : IsLst V A v := by
  obtain ⟨h1, c, hcm, rfl⟩ := h
  refine ⟨fun a ha => ?_, c, hs c hcm, rfl⟩
  obtain ⟨k, hk, k1⟩ := hc a ha
  have := h1 k hk
  omega
end W
end Go.Proofs.YtejolaifdjcghaaGreat
