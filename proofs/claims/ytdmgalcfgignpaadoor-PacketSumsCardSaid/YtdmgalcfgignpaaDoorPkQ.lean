/- PacketSums: its walk. Condition: the library's table of powers of ten holds them. -/
import Derived.Test.YtdmgalcfgignpaaDoorPkS
namespace Go.Proofs.YtdmgalcfgignpaaDoor
open Go.RowKit W
set_option linter.unusedVariables false

/-- The grains of the first so many, together. -/
def gS (xs : Nat → Pk) : Nat → Int
  | 0 => 0
  | k + 1 => gS xs k + grN (xs k).len
theorem gS_lo (xs : Nat → Pk) : ∀ k, 0 ≤ gS xs k
  | 0 => Int.le_refl _
  | k + 1 => by have := gS_lo xs k; have := grN_lo (xs k).len; unfold gS; omega
theorem allN_eq (xs : Nat → Pk) : ∀ k, allN xs k = min (gS xs k) 4611686018427387904
  | 0 => by unfold allN gS; omega
  | k + 1 => by
    have := allN_eq xs k
    have := gS_lo xs k
    have := grN_lo (xs k).len
    unfold allN gS; omega
theorem gS_congr (xs ys : Nat → Pk) : ∀ k, (∀ j, j < k → xs j = ys j) → gS xs k = gS ys k
  | 0, _ => rfl
  | k + 1, h => by unfold gS; rw [gS_congr xs ys k (fun j hj => h j (by omega)), h k (by omega)]
theorem gS_add (xs : Nat → Pk) (k : Nat) : ∀ m, gS xs (k + m) = gS xs k + gS (fun j => xs (k + j)) m
  | 0 => by simp [gS]
  | m + 1 => by
    rw [← Nat.add_assoc, gS, gS_add xs k m, gS]; omega
theorem gS_head (xs : Nat → Pk) : ∀ m, gS xs (m + 1) = grN (xs 0).len + gS (fun j => xs (j + 1)) m
  | 0 => by simp [gS]
  | m + 1 => by rw [gS, gS_head xs m, gS]; omega
theorem gS_rev (xs : Nat → Pk) : ∀ n, gS (fun j => xs (n - 1 - j)) n = gS xs n
  | 0 => rfl
  | n + 1 => by
    rw [gS_head, gS, ← gS_rev xs n, gS_congr (fun j => xs (n + 1 - 1 - (j + 1))) (fun j => xs (n - 1 - j)) n (fun j hj => by congr 1; omega), show n + 1 - 1 - 0 = n by omega]
    omega
theorem all_rev (xs : Nat → Pk) (n : Nat) : allN (fun j => xs (n - 1 - j)) n = allN xs n := by rw [allN_eq, allN_eq, gS_rev]
theorem all_parts (xs : Nat → Pk) (n k : Nat) (hk : k ≤ n) : rP (allN xs k) (allN (fun j => xs (k + j)) (n - k)) = allN xs n := by
  have h := gS_add xs k (n - k)
  rw [show k + (n - k) = n by omega] at h
  have a := gS_lo xs k
  have b := gS_lo (fun j => xs (k + j)) (n - k)
  rw [allN_eq, allN_eq, allN_eq, h]
  unfold rP stp
  split <;> omega

/-- A row of packets, cell by cell. -/
def pkL (ys : Nat → Pk) : Nat → List Value
  | 0 => []
  | m + 1 => pkL ys m ++ [.int .u64 (ys m).id, .int .i64 (ys m).cls, .int .i64 (ys m).len, .int .u64 (ys m).tick]
theorem pkL_len (ys : Nat → Pk) : ∀ m, (pkL ys m).length = m * 4
  | 0 => rfl
  | m + 1 => by rw [pkL, List.length_append, pkL_len ys m]; simp; omega
theorem pkL_at (ys : Nat → Pk) : ∀ m i, i < m → (pkL ys m)[i * 4]? = some (.int .u64 (ys i).id) ∧ (pkL ys m)[i * 4 + 1]? = some (.int .i64 (ys i).cls) ∧ (pkL ys m)[i * 4 + 2]? = some (.int .i64 (ys i).len) ∧ (pkL ys m)[i * 4 + 3]? = some (.int .u64 (ys i).tick)
  | 0, i, h => by omega
  | m + 1, i, h => by
    have hl := pkL_len ys m
    rw [pkL]
    by_cases h2 : i < m
    · obtain ⟨a, b, c, d⟩ := pkL_at ys m i h2
      rw [List.getElem?_append_left (by omega), List.getElem?_append_left (by omega), List.getElem?_append_left (by omega), List.getElem?_append_left (by omega)]
      exact ⟨a, b, c, d⟩
    · obtain rfl : i = m := by omega
      rw [List.getElem?_append_right (by omega), List.getElem?_append_right (by omega), List.getElem?_append_right (by omega), List.getElem?_append_right (by omega), hl]
      refine ⟨by rw [show i * 4 - i * 4 = 0 by omega]; rfl, by rw [show i * 4 + 1 - i * 4 = 1 by omega]; rfl, by rw [show i * 4 + 2 - i * 4 = 2 by omega]; rfl, by rw [show i * 4 + 3 - i * 4 = 3 by omega]; rfl⟩
/-- A row that the call owns, as a slice of packets. -/
theorem pks_of_own {w : World} {base n : Nat} {v : Value} {ys : Nat → Pk} (h : w.ownsRow base 24 4 v n (pkL ys n)) :
    ∃ a c, v = .slice a n c ∧ IsPks w a n c ys ∧ c ≤ maxLen := by
  by_cases hn : n = 0
  · subst hn
    rcases h.2 with ⟨rfl, _⟩ | ⟨g, cap, cur, rfl, _, _, hk, hm, _, _⟩
    · exact ⟨none, 0, rfl, ⟨Nat.le_refl _, .inl rfl⟩, by decide⟩
    · exact ⟨_, cap, rfl, ⟨hk, .inl rfl⟩, hm⟩
  · obtain ⟨g, cap, rfl, _, hlt, hk, hm, hc⟩ := own_some h (by omega)
    refine ⟨_, cap, rfl, ⟨hk, .inr ⟨g, 0, rfl, hlt, fun i hi => ?_⟩⟩, hm⟩
    obtain ⟨a, b, c, d⟩ := pkL_at ys n i hi
    have a := hc _ _ a
    have b := hc _ _ b
    have c := hc _ _ c
    have d := hc _ _ d
    rw [Lib.add_plain] at a b c d
    exact ⟨a, by rw [Nat.add_assoc]; exact b, by rw [Nat.add_assoc]; exact c, by rw [Nat.add_assoc]; exact d⟩
theorem four_news (w : World) (p : Pk) (t : TypeId) : ∀ j u, [Value.int .u64 p.id, .int .i64 p.cls, .int .i64 p.len, .int .u64 p.tick][j]? = some u → (w.alloc (.cells #[.int .u64 p.id, .int .i64 p.cls, .int .i64 p.len, .int .u64 p.tick] t)).cell? ((⟨w.heap.size, 0, none⟩ : Addr).add j) = some u := by
  intro j u hj
  have e : (w.alloc (.cells #[.int .u64 p.id, .int .i64 p.cls, .int .i64 p.len, .int .u64 p.tick] t)).cell? ⟨w.heap.size, 0 + j, none⟩ = (#[Value.int .u64 p.id, .int .i64 p.cls, .int .i64 p.len, .int .u64 p.tick] : Array Value)[0 + j]? := World.cell?_alloc_new _ _ _ _
  rw [Lib.add_plain, e]
  match j, hj with
  | 0, hj => exact hj
  | 1, hj => exact hj
  | 2, hj => exact hj
  | 3, hj => exact hj
  | j + 4, hj => simp at hj
theorem four_one (p : Pk) : ∀ u ∈ [Value.int .u64 p.id, .int .i64 p.cls, .int .i64 p.len, .int .u64 p.tick], u.oneCell' = true := by
  intro u hu
  simp only [List.mem_cons, List.not_mem_nil, or_false] at hu
  rcases hu with rfl | rfl | rfl | rfl <;> rfl
theorem infoP : (Tryd.prog.info? 24).map (fun i => (i.zero, i.size, i.bytes)) = some (some (.agg #[.int .u64 0, .int .i64 0, .int .i64 0, .int .u64 0]), 4, 32) := by kernel_rfl
/-- The first so many; those behind. -/
theorem IsPks.first {w : World} {a : Option Addr} {n c : Nat} {xs : Nat → Pk} (h : IsPks w a n c xs) (k : Nat) (hk : k ≤ n) : IsPks w a k c xs := by
  obtain ⟨h1, h2⟩ := h
  refine ⟨by omega, ?_⟩
  rcases h2 with h2 | ⟨b, o, e, h3, h4⟩
  · exact .inl (by omega)
  · exact .inr ⟨b, o, e, h3, fun i hi => h4 i (by omega)⟩
theorem IsPks.behind {w : World} {b o n c : Nat} {xs : Nat → Pk} (h : IsPks w (some ⟨b, o, none⟩) n c xs) (k : Nat) (hk : k ≤ n) :
    IsPks w (if c = k then some ⟨b, o, none⟩ else some ⟨b, o + k * 4, none⟩) (n - k) (c - k) (fun j => xs (k + j)) := by
  obtain ⟨h1, h2⟩ := h
  refine ⟨by omega, ?_⟩
  rcases h2 with h2 | ⟨b', o', e, h3, h4⟩
  · exact .inl (by omega)
  · cases e
    by_cases hck : c = k
    · exact .inl (by omega)
    · rw [if_neg hck]
      refine .inr ⟨b, o + k * 4, rfl, h3, fun i hi => ?_⟩
      have g := h4 (k + i) (by omega)
      rw [show o + (k + i) * 4 = o + k * 4 + i * 4 by omega] at g
      exact g
end Go.Proofs.YtdmgalcfgignpaaDoor
