/- The law's awake: the chapter's examples. Slices of ids that are the same. No condition. -/
import Derived.Test.YtcpienpkpodfmaaAG
namespace Go.Proofs.Ytcpienpkpodfmaa
open Go.RowKit Go.Shelf
set_option linter.unusedVariables false
/-- A slice of those numbers. -/
def IntS (W : World) (v : Value) (xs : List Int) : Prop := ∃ (a : Option Addr) (c : Nat), v = .slice a xs.length c ∧ xs.length ≤ c ∧ (xs = [] ∨ ∃ b o, a = some ⟨b, o, none⟩ ∧ b < W.heap.size ∧ ∀ i, i < xs.length → W.cell? ⟨b, o + i, none⟩ = some (eI (xs.getD i 0)))
theorem IntS.below {W w : World} {v : Value} {xs : List Int} (h : IntS W v xs) (hb : Below W.heap.size W w) : IntS w v xs := by
  obtain ⟨a, c, e, hc, h⟩ := h
  refine ⟨a, c, e, hc, h.imp id ?_⟩
  rintro ⟨b, o, e2, h1, h2⟩
  exact ⟨b, o, e2, Nat.lt_of_lt_of_le h1 hb.size, fun i hi => (hb.cell (p := ⟨b, _, none⟩) h1).trans (h2 i hi)⟩
def idsI (L : List It) : List Int := L.map fun a => a.1.2
theorem IntS.of_owns {W : World} {base : Nat} {v : Value} {L : List It} (h : W.ownsRow base 3 1 v L.length (idsV L)) : IntS W v (idsI L) := by
  have hlen : (idsI L).length = L.length := by simp [idsI]
  cases L with
  | nil =>
    obtain ⟨_, h⟩ := h
    rcases h with ⟨rfl, _⟩ | ⟨g, cap, cur, rfl, h1, h2, h3, h4, _⟩
    · exact ⟨none, 0, rfl, Nat.le_refl _, .inl rfl⟩
    · exact ⟨_, cap, rfl, Nat.zero_le _, .inl rfl⟩
  | cons x L =>
    obtain ⟨g, cap, rfl⟩ := ownsRow_succ h
    have h2 := h.lt g rfl
    have hcap : (x :: L).length ≤ cap := by
      obtain ⟨_, h⟩ := h
      rcases h with ⟨e, _⟩ | ⟨g', cap', cur, e, h1, h2, h3, h4, _⟩
      · cases e
      · cases e; exact h3
    refine ⟨_, cap, by rw [hlen]; rfl, by rw [hlen]; exact hcap, .inr ⟨g, 0, rfl, h2.2, fun i hi => ?_⟩⟩
    rw [hlen] at hi
    have := h.cellAt i (by simpa using hi)
    rw [Nat.zero_add, this]
    unfold idsV idsI
    rw [List.getElem?_map, List.getD_eq_getElem?_getD, List.getElem?_map]
    rw [List.getElem?_eq_getElem hi]
    rfl
set_option maxRecDepth 100000 in
set_option maxHeartbeats 2000000 in
theorem same_any (v u : Value) (xs : List Int) (w : World) (hn : xs.length ≤ 5000) (h1 : IntS w v xs) (h2 : IntS w u xs) : Calls Try.prog 24 #[v, u] w fun e w' => e = .returned (.bool true) ∧ Below w.heap.size w w' := by
  obtain ⟨a, c, rfl, hc1, h1⟩ := h1
  obtain ⟨b, d, rfl, hc2, h2⟩ := h2
  have hcell : ∀ (k : Nat) w', k < xs.length → Below w.heap.size w w' → ∃ b1 o1 b2 o2, a = some ⟨b1, o1, none⟩ ∧ b = some ⟨b2, o2, none⟩ ∧ w'.cell? ⟨b1, o1 + k, none⟩ = some (eI (xs.getD k 0)) ∧ w'.cell? ⟨b2, o2 + k, none⟩ = some (eI (xs.getD k 0)) := fun k w' hk T => by
    rcases h1 with rfl | ⟨b1, o1, e1, l1, g1⟩
    · cases hk
    · rcases h2 with rfl | ⟨b2, o2, e2, l2, g2⟩
      · cases hk
      · exact ⟨b1, o1, b2, o2, e1, e2, (T.cell (p := ⟨b1, _, none⟩) l1).trans (g1 k hk), (T.cell (p := ⟨b2, _, none⟩) l2).trans (g2 k hk)⟩
  have hce := Lib.hid hcell
  generalize xs.length = n at *
  have i3 : (n : Int) ≤ (c : Int) := by omega
  have i4 : (n : Int) ≤ (d : Int) := by omega
  have i5 : ((n : Int) == (n : Int)) = true := by simp
  clear hcell h1 h2
  go_enter Try.func24, Try.ntmps24
  go_wp2
  go_loopw [5] (fun s5 wr => ∃ k : Nat, s5 = .int .i64 k ∧ k ≤ n ∧ Below w.heap.size w wr) (fun s5 _ => n - (intOf s5).toNat)
  case atStart => exact ⟨0, rfl, by omega, Below.refl _ _⟩
  case round =>
    obtain ⟨k, rfl, hk, H⟩ := hrel
    by_cases hlt : k < n
    · have i1 : (k : Int) < (n : Int) := by omega
      have i2 : (0 : Int) ≤ (k : Int) := by omega
      obtain ⟨b1, o1, b2, o2, rfl, rfl, x1, x2⟩ := hce.out k wr hlt H
      generalize xs.getD k 0 = z at *
      go_upto_region 6 with fail
      go_quiet (fail)
      go_wp2_with fail
      exact ⟨⟨k + 1, rfl, by omega, below_drewN H _⟩, by simp [intOf]; omega⟩
    · obtain rfl : k = n := by omega
      have i1 : ¬ (k : Int) < (k : Int) := by omega
      go_wp2_with fail
      go_ret
      exact ⟨rfl, H⟩
end Go.Proofs.Ytcpienpkpodfmaa
