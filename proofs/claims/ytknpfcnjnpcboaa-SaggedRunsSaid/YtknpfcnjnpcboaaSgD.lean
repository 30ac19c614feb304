/- How many copies are kept, by the document's words, is how many the run keeps. -/
import Derived.Test.YtknpfcnjnpcboaaSgX
namespace Go.Proofs.Ytknpfcnjnpcboaa
open Go.RowKit Go.Shelf W
set_option linter.unusedVariables false
namespace W
def noneB (b : Nat → Bool) : Nat → Bool
  | 0 => true
  | n + 1 => noneB b n && !b n
def cntB (b : Nat → Bool) : Nat → Nat
  | 0 => 0
  | n + 1 => cntB b n + (if b n = true then 1 else 0)
theorem noneB_iff (b : Nat → Bool) : ∀ n, noneB b n = true ↔ ∀ i, i < n → b i = false
  | 0 => ⟨fun _ i h => by omega, fun _ => rfl⟩
  | n + 1 => by
    show (noneB b n && !b n) = true ↔ _
    rw [Bool.and_eq_true, noneB_iff b n, Bool.not_eq_true']
    constructor
    · rintro ⟨h1, h2⟩ i hi
      rcases Nat.lt_or_ge i n with h | h
      · exact h1 i h
      · obtain rfl : i = n := by omega
        exact h2
    · intro h
      exact ⟨fun i hi => h i (by omega), h n (by omega)⟩
theorem cntB_ext {a b : Nat → Bool} : ∀ {n : Nat}, (∀ k, k < n → a k = b k) → cntB a n = cntB b n
  | 0, _ => rfl
  | n + 1, h => by
    show cntB a n + _ = cntB b n + _
    rw [cntB_ext (fun k hk => h k (by omega)), h n (by omega)]
theorem cntB_or {a b : Nat → Bool} : ∀ {n : Nat}, (∀ k, k < n → a k = true → b k = false) → cntB (fun k => a k || b k) n = cntB a n + cntB b n
  | 0, _ => rfl
  | n + 1, h => by
    show cntB (fun k => a k || b k) n + _ = (cntB a n + _) + (cntB b n + _)
    rw [cntB_or (fun k hk => h k (by omega))]
    have := h n (by omega)
    cases ha : a n <;> cases hb : b n <;> simp_all <;> omega
theorem cntB_none {b : Nat → Bool} : ∀ {n : Nat}, (∀ k, k < n → b k = false) → cntB b n = 0
  | 0, _ => rfl
  | n + 1, h => by
    show cntB b n + _ = 0
    rw [cntB_none (fun k hk => h k (by omega)), h n (by omega)]
    rfl
theorem cntB_one {q : Nat} : ∀ {n : Nat}, q < n → cntB (fun k => decide (q = k)) n = 1
  | n + 1, h => by
    show cntB (fun k => decide (q = k)) n + _ = 1
    rcases Nat.lt_or_ge q n with h1 | h1
    · rw [cntB_one h1]
      simp; omega
    · obtain rfl : q = n := by omega
      rw [cntB_none (fun k hk => by simp; omega)]
      simp
/-- So many numbers, each once, are counted as so many. -/
theorem cntB_img (L : Nat → Nat) (n : Nat) : ∀ m, (∀ j, j < m → L j < n) → (∀ i j, i < j → j < m → L i ≠ L j) → cntB (fun k => decide (∃ j, j < m ∧ L j = k)) n = m
  | 0, _, _ => cntB_none fun k _ => by simp
  | m + 1, h1, h2 => by
    have e : ∀ k, decide (∃ j, j < m + 1 ∧ L j = k) = (decide (∃ j, j < m ∧ L j = k) || decide (L m = k)) := fun k => by
      by_cases h : L m = k
      · have : ∃ j, j < m + 1 ∧ L j = k := ⟨m, by omega, h⟩
        simp [h, this]
      · by_cases g : ∃ j, j < m ∧ L j = k
        · have : ∃ j, j < m + 1 ∧ L j = k := by obtain ⟨j, a, b⟩ := g; exact ⟨j, by omega, b⟩
          simp [g, this]
        · have : ¬ ∃ j, j < m + 1 ∧ L j = k := by
            rintro ⟨j, a, b⟩
            rcases Nat.lt_or_ge j m with c | c
            · exact g ⟨j, c, b⟩
            · obtain rfl : j = m := by omega
              exact h b
          simp [h, g, this]
    rw [cntB_ext (fun k _ => e k), cntB_or (fun k hk h => ?_), cntB_img L n m (fun j hj => h1 j (by omega)) (fun i j a b => h2 i j a (by omega)), cntB_one (h1 m (by omega))]
    have h : ∃ j, j < m ∧ L j = k := by simpa using h
    obtain ⟨j, a, b⟩ := h
    have := h2 j m a (by omega)
    simp only [decide_eq_false_iff_not]
    intro c
    exact this (b.trans c.symm)
/-- The last one of which something is so. -/
theorem last_ex {P : Nat → Prop} : ∀ {n : Nat}, (∃ k, k < n ∧ P k) → ∃ k, k < n ∧ P k ∧ ∀ i, i < n → P i → i ≤ k
  | 0, h => by obtain ⟨k, h, _⟩ := h; omega
  | n + 1, h => by
    by_cases hn : P n
    · exact ⟨n, by omega, hn, fun i hi _ => by omega⟩
    · obtain ⟨k, hk, hp⟩ := h
      have hkn : k < n := by
        rcases Nat.lt_or_ge k n with c | c
        · exact c
        · obtain rfl : k = n := by omega
          exact absurd hp hn
      obtain ⟨q, q1, q2, q3⟩ := last_ex ⟨k, hkn, hp⟩
      refine ⟨q, by omega, q2, fun i hi hpi => ?_⟩
      rcases Nat.lt_or_ge i n with c | c
      · exact q3 i c hpi
      · obtain rfl : i = n := by omega
        exact absurd hpi hn
/-- One copy beats another one, by what both have at the last start, and by their lines. -/
def btB (wi li wk lk : Int) (i k : Nat) : Bool := decide (wi ≤ wk) && decide (li ≤ lk) && (decide (k < i) || (decide (i < k) && (decide (wi < wk) || decide (li < lk))))
def docN (f l r : Int) (X Y : Nat → Int) (n : Nat) : Nat :=
  cntB (fun k => noneB (fun i => btB (hv f l r (cpy X Y i) (xS X n)) (lv r (cpy X Y i) (xS X n)) (hv f l r (cpy X Y k) (xS X n)) (lv r (cpy X Y k) (xS X n)) i k) n) n
theorem KeptOk.count {f l r : Int} {X Y : Nat → Int} {n : Nat} {K : List (Int × Int)} (h : KeptOk f l r X Y n K) : K.length = docN f l r X Y n := by
  obtain ⟨x, hx⟩ : ∃ x, xS X n = x := ⟨_, rfl⟩
  have hg := h.good
  have hcov := h.cov
  unfold docN
  rw [hx] at hg hcov ⊢
  -- the last copy that has what the j-th kept one has
  have hlast : ∀ j, j < K.length → ∃ k, k < n ∧ (∃ hj : j < K.length, hv f l r (cpy X Y k) x = hv f l r K[j] x ∧ lv r (cpy X Y k) x = lv r K[j] x) ∧
      ∀ i, i < n → (∃ hj : j < K.length, hv f l r (cpy X Y i) x = hv f l r K[j] x ∧ lv r (cpy X Y i) x = lv r K[j] x) → i ≤ k := fun j hj => by
    obtain ⟨k, hk, e⟩ := allL_mem (h.sub K[j] (List.getElem_mem hj))
    exact last_ex ⟨k, hk, hj, by rw [e], by rw [e]⟩
  let L : Nat → Nat := fun j => if hj : j < K.length then Classical.choose (hlast j hj) else 0
  have hL : ∀ j (hj : j < K.length), L j < n ∧ (hv f l r (cpy X Y (L j)) x = hv f l r K[j] x ∧ lv r (cpy X Y (L j)) x = lv r K[j] x) ∧
      ∀ i, i < n → hv f l r (cpy X Y i) x = hv f l r K[j] x → lv r (cpy X Y i) x = lv r K[j] x → i ≤ L j := fun j hj => by
    have e : L j = Classical.choose (hlast j hj) := by show (if hj : j < K.length then _ else _) = _; rw [dif_pos hj]
    rw [e]
    obtain ⟨a, ⟨_, b⟩, c⟩ := Classical.choose_spec (hlast j hj)
    exact ⟨a, b, fun i hi h1 h2 => c i hi ⟨hj, h1, h2⟩⟩
  have key : ∀ k, k < n → noneB (fun i => btB (hv f l r (cpy X Y i) x) (lv r (cpy X Y i) x) (hv f l r (cpy X Y k) x) (lv r (cpy X Y k) x) i k) n = decide (∃ j, j < K.length ∧ L j = k) := fun k hk => by
    have hbt : ∀ i, btB (hv f l r (cpy X Y i) x) (lv r (cpy X Y i) x) (hv f l r (cpy X Y k) x) (lv r (cpy X Y k) x) i k = true ↔
        (hv f l r (cpy X Y i) x ≤ hv f l r (cpy X Y k) x ∧ lv r (cpy X Y i) x ≤ lv r (cpy X Y k) x) ∧ (k < i ∨ (i < k ∧ (hv f l r (cpy X Y i) x < hv f l r (cpy X Y k) x ∨ lv r (cpy X Y i) x < lv r (cpy X Y k) x))) := fun i => by
      unfold btB; simp [and_assoc]
    rw [Bool.eq_iff_iff, noneB_iff, decide_eq_true_iff]
    constructor
    · intro hn
      obtain ⟨q, hq, q1, q2⟩ := hcov (cpy X Y k) (mem_allL hk)
      obtain ⟨j, hj, rfl⟩ := List.getElem_of_mem hq
      obtain ⟨l1, ⟨l2, l3⟩, l4⟩ := hL j hj
      refine ⟨j, hj, ?_⟩
      have hb := hn (L j) l1
      have hb' : ¬ ((hv f l r (cpy X Y (L j)) x ≤ hv f l r (cpy X Y k) x ∧ lv r (cpy X Y (L j)) x ≤ lv r (cpy X Y k) x) ∧ (k < L j ∨ (L j < k ∧ (hv f l r (cpy X Y (L j)) x < hv f l r (cpy X Y k) x ∨ lv r (cpy X Y (L j)) x < lv r (cpy X Y k) x)))) := fun hc => by
        rw [(hbt (L j)).2 hc] at hb; cases hb
      rcases Nat.lt_trichotomy (L j) k with c | c | c
      · have := l4 k hk
        omega
      · exact c
      · omega
    · rintro ⟨j, hj, rfl⟩ i hi
      obtain ⟨l1, ⟨l2, l3⟩, l4⟩ := hL j hj
      cases hbi : btB (hv f l r (cpy X Y i) x) (lv r (cpy X Y i) x) (hv f l r (cpy X Y (L j)) x) (lv r (cpy X Y (L j)) x) i (L j) with
      | false => rfl
      | true =>
        exfalso
        obtain ⟨⟨b1, b2⟩, b3⟩ := (hbt i).1 hbi
        obtain ⟨q, hq, q1, q2⟩ := hcov (cpy X Y i) (mem_allL hi)
        obtain ⟨m, hm, rfl⟩ := List.getElem_of_mem hq
        have hmj : m = j := by
          rcases Nat.lt_trichotomy m j with c | c | c
          · have := hg.lt hm hj c; omega
          · exact c
          · have := hg.lt hj hm c; omega
        subst hmj
        have := l4 i hi (by omega) (by omega)
        omega
  rw [cntB_ext key]
  refine (cntB_img L n K.length (fun j hj => (hL j hj).1) (fun i j hij hj e => ?_)).symm
  have hi : i < K.length := by omega
  obtain ⟨_, ⟨a1, _⟩, _⟩ := hL i hi
  obtain ⟨_, ⟨b1, _⟩, _⟩ := hL j hj
  rw [e] at a1
  have := (hg.lt hi hj hij).2.1
  omega
end W
end Go.Proofs.Ytknpfcnjnpcboaa
