/- Plain: more of the tree of classes (stage 16). No program here. -/
import Derived.Test.YtpopcnebndgblaaGreatHiM
namespace Go.Proofs.YtpopcnebndgblaaGreat
set_option linter.unusedVariables false
set_option linter.unusedSimpArgs false
/-- Two rising rows of the same are the same. -/
theorem ord_ext : ∀ {L M : List Sp}, L.Pairwise (fun a b => a.id < b.id) → M.Pairwise (fun a b => a.id < b.id) → (∀ c, c ∈ L ↔ c ∈ M) → L = M
  | [], [], _, _, _ => rfl
  | [], d :: M, _, _, h => by have := (h d).2 (by simp); cases this
  | c :: L, [], _, _, h => by have := (h c).1 (by simp); cases this
  | c :: L, d :: M, hl, hm, h => by
    obtain ⟨l1, l2⟩ := List.pairwise_cons.1 hl
    obtain ⟨m1, m2⟩ := List.pairwise_cons.1 hm
    have e : c = d := by
      rcases List.mem_cons.1 ((h c).1 (by simp)) with e | h1
      · exact e
      · rcases List.mem_cons.1 ((h d).2 (by simp)) with e | h2
        · exact e.symm
        · have := l1 d h2; have := m1 c h1; omega
    subst e
    rw [ord_ext l2 m2 (fun x => ?_)]
    constructor
    · intro hx
      rcases List.mem_cons.1 ((h x).1 (by simp [hx])) with e | h1
      · have := l1 x hx; rw [e] at this; omega
      · exact h1
    · intro hx
      rcases List.mem_cons.1 ((h x).2 (by simp [hx])) with e | h1
      · have := m1 x hx; rw [e] at this; omega
      · exact h1
/-- The way of one that is there: itself, then its parent's. -/
theorem Hrc.up {L : List Sp} (h : Hrc L) {c : Sp} (hc : c ∈ L) : ∃ l, Pa L c.par l ∧ l.length ≤ 7 ∧ pathL L c.id = c.id :: l ∧ pathL L c.par = l := by
  obtain ⟨m, hm, hl⟩ := h.way c hc
  rcases hm.inv with ⟨e, _⟩ | ⟨d, t, hd, e, rfl, ht⟩
  · have := h.pos c hc; omega
  · obtain rfl := id_inj h.ord hd hc e
    refine ⟨t, ht, by simp at hl; omega, ?_, pathL_of h ht⟩
    rw [pathL_of h hm]
theorem Pa.last {L : List Sp} {i : Int} {l : List Int} (p : Pa L i l) : l = [] ∨ ∃ c ∈ L, l.getLast? = some c.id ∧ c.par = 0 := by
  induction p with
  | top => exact .inl rfl
  | @go c l hc h ih =>
    refine .inr ?_
    rcases ih with e | ⟨d, hd, e, h0⟩
    · subst e
      rcases h.inv with ⟨e, _⟩ | ⟨d, t, _, _, e, _⟩
      · exact ⟨c, hc, rfl, e⟩
      · cases e
    · refine ⟨d, hd, ?_, h0⟩
      rw [List.getLast?_cons, e]
      rfl
theorem Hrc.none {L : List Sp} (h : Hrc L) {i : Int} (hn : ∀ c ∈ L, c.id ≠ i) : pathL L i = [] := by
  unfold pathL pathF
  rw [atH_none hn]
/-- A part of a tree in which each parent lies grows by any other class whose parent lies in it. -/
theorem Hrc.part {L M : List Sp} (h : Hrc L) (hm : Hrc M) (hs : ∀ c ∈ M, c ∈ L) {s : Sp} (hS : s ∈ L) (hn : s ∉ M) (hp : s.par = 0 ∨ ∃ p ∈ M, p.id = s.par) :
    (∀ c ∈ M, c.id ≠ s.id) ∧ (s.par = 0 ∨ ∃ p ∈ M, p.id = s.par ∧ p.leaf = false ∧ (pathL M s.par).length < 8) := by
  refine ⟨fun c hc e => hn (id_inj h.ord (hs c hc) hS e ▸ hc), ?_⟩
  rcases hp with e | ⟨p, hpm, e⟩
  · exact .inl e
  · by_cases h0 : s.par = 0
    · exact .inl h0
    obtain ⟨l, hw, hl⟩ := hm.way p hpm
    rw [e] at hw
    obtain ⟨t, ht, h7, _, _⟩ := h.up hS
    have := Pa.one h.ord h.pos (hw.mono hs) ht
    obtain ⟨q, hq, eq, hleaf⟩ := h.inn s hS h0
    obtain rfl := id_inj h.ord (hs p hpm) hq (by rw [e, eq])
    refine .inr ⟨p, hpm, e, hleaf, ?_⟩
    rw [pathL_of hm hw, this]
    omega
def sumN : List Nat → Nat
  | [] => 0
  | n :: l => n + sumN l
theorem sum_zero {α : Type} (K : List α) : sumN (K.map (fun _ => 0)) = 0 := by
  induction K with
  | nil => rfl
  | cons k K ih => simp [sumN, ih]
theorem sum_add {α : Type} (K : List α) (f g : α → Nat) : sumN (K.map (fun k => f k + g k)) = sumN (K.map f) + sumN (K.map g) := by
  induction K with
  | nil => rfl
  | cons k K ih => simp only [List.map_cons, sumN, ih]; omega
theorem sum_one {x : Int} : ∀ {K : List Int}, K.Nodup → x ∈ K → sumN (K.map (fun k => if x = k then 1 else 0)) = 1
  | k :: K, hd, hx => by
    obtain ⟨h1, h2⟩ := List.nodup_cons.1 hd
    simp only [List.map_cons, sumN]
    by_cases e : x = k
    · subst e
      rw [if_pos rfl]
      have : K.map (fun k => if x = k then 1 else 0) = K.map (fun _ => 0) := List.map_congr_left (fun k hk => if_neg (by rintro rfl; exact h1 hk))
      rw [this, sum_zero]
    · rw [if_neg e, sum_one h2 ((List.mem_cons.1 hx).resolve_left e)]
/-- Each class is under just one. -/
theorem sum_under {K : List Int} (hd : K.Nodup) : ∀ {L : List Sp}, (∀ c ∈ L, c.par ∈ K) → sumN (K.map (fun k => (underL L k).length)) = L.length
  | [], _ => by
    have : K.map (fun k => (underL [] k).length) = K.map (fun _ => 0) := List.map_congr_left (fun k _ => rfl)
    rw [this, sum_zero]; rfl
  | c :: L, h => by
    have : K.map (fun k => (underL (c :: L) k).length) = K.map (fun k => (if c.par = k then 1 else 0) + (underL L k).length) := by
      refine List.map_congr_left (fun k _ => ?_)
      unfold underL
      simp only [List.length_map]
      by_cases e : c.par = k
      · rw [if_pos e, List.filter_cons_of_pos (by simp [e])]
        simp
        omega
      · rw [if_neg e, List.filter_cons_of_neg (by simp [e])]
        simp
    rw [this, sum_add, sum_one hd (h c (by simp)), sum_under hd (fun d hd => h d (by simp [hd]))]
    simp
    omega
theorem Hrc.many {L : List Sp} (h : Hrc L) : (underL L 0).length + sumN ((L.map (·.id)).map (fun k => (underL L k).length)) = L.length := by
  have hd : (0 :: L.map (·.id)).Nodup := by
    refine List.nodup_cons.2 ⟨fun hm => ?_, ?_⟩
    · obtain ⟨c, hc, e⟩ := List.mem_map.1 hm
      have := h.pos c hc; omega
    · exact List.pairwise_map.2 (h.ord.imp (fun {a b} hab => by omega))
  have := sum_under hd (L := L) (fun c hc => by
    by_cases e : c.par = 0
    · rw [e]; simp
    · obtain ⟨p, hp, e', _⟩ := h.inn c hc e
      exact List.mem_cons.2 (.inr (List.mem_map.2 ⟨p, hp, e'⟩)))
  simpa [sumN] using this
/-- One that came goes again: all is as it was. -/
theorem drop_ins {L : List Sp} {s : Sp} (ho : L.Pairwise (fun a b => a.id < b.id)) (hn : ∀ c ∈ L, c.id ≠ s.id) : dropL (insL s L) s.id = L := by
  refine ord_ext ((insL_ord ho hn).filter _) ho (fun c => ?_)
  rw [mem_dropL, mem_insL]
  constructor
  · rintro ⟨rfl | h, he⟩
    · exact absurd rfl he
    · exact h
  · intro h
    exact ⟨.inr h, hn c h⟩
end Go.Proofs.YtpopcnebndgblaaGreat
