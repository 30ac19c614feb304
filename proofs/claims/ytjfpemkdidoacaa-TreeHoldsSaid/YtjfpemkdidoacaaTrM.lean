/- Ahead of stage 8, in plain lists: items in order by keys, one put in, one dropped, the least value, the first that is small. -/
import Derived.Test.YtjfpemkdidoacaaChecked
import Derived.WalkKit
namespace Go.Proofs.Ytjfpemkdidoacaa
set_option linter.unusedVariables false
/-- A key: a number and an id. An item: a key and a value. -/
abbrev Ky := Int × Int
abbrev It := Ky × Int
def kLt (a b : Ky) : Prop := a.1 < b.1 ∨ (a.1 = b.1 ∧ a.2 < b.2)
instance (a b : Ky) : Decidable (kLt a b) := by unfold kLt; infer_instance
theorem kLt_irr (a : Ky) : ¬ kLt a a := by unfold kLt; omega
theorem kLt_trans {a b c : Ky} (h : kLt a b) (g : kLt b c) : kLt a c := by unfold kLt at *; omega
theorem kLt_tri (a b : Ky) : kLt a b ∨ a = b ∨ kLt b a := by
  obtain ⟨a1, a2⟩ := a
  obtain ⟨b1, b2⟩ := b
  rcases Int.lt_trichotomy a1 b1 with h | h | h
  · exact .inl (.inl h)
  · rcases Int.lt_trichotomy a2 b2 with g | g | g
    · exact .inl (.inr ⟨h, g⟩)
    · subst h; subst g; exact .inr (.inl rfl)
    · exact .inr (.inr (.inr ⟨h.symm, g⟩))
  · exact .inr (.inr (.inl h))
theorem kLt_asym {a b : Ky} (h : kLt a b) : ¬ kLt b a := fun g => kLt_irr a (kLt_trans h g)
theorem kLt_ne {a b : Ky} (h : kLt a b) : a ≠ b := fun e => by subst e; exact kLt_irr a h
/-- Items in order. -/
def Rise (L : List It) : Prop := L.Pairwise fun a b => kLt a.1 b.1
/-- All keys of L are ahead of k; behind it. -/
def Lo (L : List It) (k : Ky) : Prop := ∀ a ∈ L, kLt a.1 k
def Hi (k : Ky) (L : List It) : Prop := ∀ a ∈ L, kLt k a.1
theorem rise_node {A B : List It} {m : It} : Rise (A ++ m :: B) ↔ Rise A ∧ Rise B ∧ Lo A m.1 ∧ Hi m.1 B := by
  unfold Rise Lo Hi
  rw [List.pairwise_append, List.pairwise_cons]
  constructor
  · rintro ⟨h1, ⟨h2, h3⟩, h4⟩
    exact ⟨h1, h3, fun a ha => h4 a ha m (by simp), h2⟩
  · rintro ⟨h1, h2, h3, h4⟩
    refine ⟨h1, ⟨h4, h2⟩, fun a ha b hb => ?_⟩
    rcases List.mem_cons.1 hb with rfl | hb
    · exact h3 a ha
    · exact kLt_trans (h3 a ha) (h4 b hb)
/-- One item put in, where no other one has its key. -/
def ins (x : It) : List It → List It
  | [] => [x]
  | a :: L => if kLt x.1 a.1 then x :: a :: L else a :: ins x L
theorem mem_ins {x a : It} : ∀ {L : List It}, a ∈ ins x L ↔ a = x ∨ a ∈ L
  | [] => by simp [ins]
  | b :: L => by
    unfold ins
    split
    · simp
    · simp only [List.mem_cons, mem_ins (L := L)]
      constructor
      · rintro (h | h | h)
        · exact .inr (.inl h)
        · exact .inl h
        · exact .inr (.inr h)
      · rintro (h | h | h)
        · exact .inr (.inl h)
        · exact .inl h
        · exact .inr (.inr h)
theorem ins_left {x m : It} {B : List It} (h : kLt x.1 m.1) : ∀ {A : List It}, ins x (A ++ m :: B) = ins x A ++ m :: B
  | [] => by simp [ins, h]
  | a :: A => by
    show (if _ then _ else _) = (if _ then _ else _) ++ _
    split
    · simp
    · show a :: ins x (A ++ m :: B) = _
      rw [ins_left h]; simp
theorem ins_right {x m : It} {B : List It} (h : kLt m.1 x.1) : ∀ {A : List It}, Lo A m.1 → ins x (A ++ m :: B) = A ++ m :: ins x B
  | [], _ => by
    show (if _ then _ else _) = _
    rw [if_neg (kLt_asym h)]
    rfl
  | a :: A, hA => by
    have ha : kLt a.1 x.1 := kLt_trans (hA a (by simp)) h
    show (if _ then _ else _) = _
    rw [if_neg (kLt_asym ha)]
    show a :: ins x (A ++ m :: B) = _
    rw [ins_right h (fun b hb => hA b (by simp [hb]))]
    rfl
theorem rise_ins {x : It} : ∀ {L : List It}, Rise L → (∀ a ∈ L, a.1 ≠ x.1) → Rise (ins x L)
  | [], _, _ => by simp [ins, Rise]
  | a :: L, h, hx => by
    unfold Rise at h ⊢
    rw [List.pairwise_cons] at h
    unfold ins
    split
    · rename_i hlt
      rw [List.pairwise_cons, List.pairwise_cons]
      refine ⟨fun b hb => ?_, h.1, h.2⟩
      rcases List.mem_cons.1 hb with rfl | hb
      · exact hlt
      · exact kLt_trans hlt (h.1 b hb)
    · rename_i hlt
      have hax : kLt a.1 x.1 := by
        rcases kLt_tri x.1 a.1 with g | g | g
        · exact absurd g hlt
        · exact absurd g.symm (hx a (by simp))
        · exact g
      rw [List.pairwise_cons]
      refine ⟨fun b hb => ?_, rise_ins h.2 fun b hb => hx b (by simp [hb])⟩
      rcases mem_ins.1 hb with rfl | hb
      · exact hax
      · exact h.1 b hb
theorem ins_len {x : It} : ∀ {L : List It}, (ins x L).length = L.length + 1
  | [] => rfl
  | a :: L => by
    unfold ins
    split
    · rfl
    · simp [ins_len (L := L)]
/-- What has a key is dropped. -/
def del (k : Ky) (L : List It) : List It := L.filter fun a => decide (a.1 ≠ k)
theorem mem_del {k : Ky} {a : It} {L : List It} : a ∈ del k L ↔ a ∈ L ∧ a.1 ≠ k := by simp [del]
theorem del_none {k : Ky} {L : List It} (h : ∀ a ∈ L, a.1 ≠ k) : del k L = L := by
  unfold del
  rw [List.filter_eq_self]
  exact fun a ha => by simpa using h a ha
theorem rise_del {k : Ky} {L : List It} (h : Rise L) : Rise (del k L) := h.sublist List.filter_sublist
theorem del_left {k : Ky} {m : It} {A B : List It} (h : kLt k m.1) (hB : Hi m.1 B) : del k (A ++ m :: B) = del k A ++ m :: B := by
  have e : del k (m :: B) = m :: B := del_none fun a ha => by
    rcases List.mem_cons.1 ha with rfl | ha
    · exact (kLt_ne h).symm
    · exact (kLt_ne (kLt_trans h (hB a ha))).symm
  unfold del at *
  rw [List.filter_append, e]
theorem del_right {k : Ky} {m : It} {A B : List It} (h : kLt m.1 k) (hA : Lo A m.1) : del k (A ++ m :: B) = A ++ m :: del k B := by
  have e : del k A = A := del_none fun a ha => kLt_ne (kLt_trans (hA a ha) h)
  have e2 : del k (m :: B) = m :: del k B := by
    unfold del
    rw [List.filter_cons, if_pos (by simpa using kLt_ne h)]
  have e3 : del k (A ++ m :: B) = del k A ++ del k (m :: B) := by unfold del; rw [List.filter_append]
  rw [e3, e, e2]
theorem del_here {m : It} {A B : List It} (hA : Lo A m.1) (hB : Hi m.1 B) : del m.1 (A ++ m :: B) = A ++ B := by
  have e : del m.1 A = A := del_none fun a ha => kLt_ne (hA a ha)
  have e2 : del m.1 B = B := del_none fun a ha => (kLt_ne (hB a ha)).symm
  have e4 : del m.1 (m :: B) = del m.1 B := by unfold del; rw [List.filter_cons, if_neg (by simp)]
  have e3 : del m.1 (A ++ m :: B) = del m.1 A ++ del m.1 (m :: B) := by unfold del; rw [List.filter_append]
  rw [e3, e4, e, e2]
/-- One put in and dropped again. -/
theorem del_ins {x : It} {L : List It} (h : ∀ a ∈ L, a.1 ≠ x.1) : del x.1 (ins x L) = L := by
  induction L with
  | nil => simp [ins, del]
  | cons a L ih =>
    have ih := ih fun b hb => h b (by simp [hb])
    have ha : a.1 ≠ x.1 := h a (by simp)
    have eL : del x.1 L = L := del_none fun b hb => h b (by simp [hb])
    unfold ins
    split
    · unfold del at *
      rw [List.filter_cons, if_neg (by simp), List.filter_cons, if_pos (by simpa using ha), eL]
    · unfold del at *
      rw [List.filter_cons, if_pos (by simpa using ha), ih]
/-- Rows in order with the same items are the same. -/
theorem rise_ext : ∀ {L M : List It}, Rise L → Rise M → (∀ a, a ∈ L ↔ a ∈ M) → L = M
  | [], [], _, _, _ => rfl
  | [], b :: M, _, _, h => by have := (h b).2 (by simp); simp at this
  | a :: L, [], _, _, h => by have := (h a).1 (by simp); simp at this
  | a :: L, b :: M, hL, hM, h => by
    unfold Rise at hL hM
    rw [List.pairwise_cons] at hL hM
    have e : a = b := by
      rcases List.mem_cons.1 ((h a).1 (by simp)) with e | e
      · exact e
      · rcases List.mem_cons.1 ((h b).2 (by simp)) with g | g
        · exact g.symm
        · exact absurd (hM.1 a e) (kLt_asym (hL.1 b g))
    subst e
    rw [rise_ext hL.2 hM.2 fun c => ?_]
    constructor
    · intro hc
      rcases List.mem_cons.1 ((h c).1 (by simp [hc])) with e | e
      · subst e; exact absurd (hL.1 c hc) (kLt_irr _)
      · exact e
    · intro hc
      rcases List.mem_cons.1 ((h c).2 (by simp [hc])) with e | e
      · subst e; exact absurd (hM.1 c hc) (kLt_irr _)
      · exact e
/-- The least value; 0 of none. -/
def low : List It → Int
  | [] => 0
  | [a] => a.2
  | a :: L => min a.2 (low L)
theorem low_cons {a : It} {L : List It} (h : L ≠ []) : low (a :: L) = min a.2 (low L) := by
  cases L with
  | nil => exact absurd rfl h
  | cons b L => rfl
theorem low_app : ∀ {A B : List It}, A ≠ [] → B ≠ [] → low (A ++ B) = min (low A) (low B)
  | [], _, h, _ => absurd rfl h
  | [a], B, _, h => by rw [List.singleton_append, low_cons h]; rfl
  | a :: b :: A, B, _, h => by
    have := low_app (A := b :: A) (B := B) (by simp) h
    rw [List.cons_append, low_cons (by simp), this, low_cons (L := b :: A) (by simp)]
    omega
theorem low_le : ∀ {L : List It} {a : It}, a ∈ L → low L ≤ a.2
  | [b], a, h => by
    have : a = b := by simpa using h
    subst this
    exact Int.le_refl _
  | b :: c :: L, a, h => by
    rw [low_cons (by simp)]
    rcases List.mem_cons.1 h with e | h
    · subst e; omega
    · have := low_le (L := c :: L) h
      omega
theorem low_mem : ∀ {L : List It}, L ≠ [] → ∃ a ∈ L, a.2 = low L
  | [b], _ => ⟨b, by simp, rfl⟩
  | b :: c :: L, _ => by
    obtain ⟨a, ha, e⟩ := low_mem (L := c :: L) (by simp)
    rw [low_cons (by simp)]
    rcases Int.le_total b.2 (low (c :: L)) with h | h
    · exact ⟨b, by simp, by omega⟩
    · exact ⟨a, by simp [List.mem_cons.1 ha], by omega⟩
/-- A row has a value of at most y just if its least is. -/
theorem low_ok {L : List It} {y : Int} (h : L ≠ []) : low L ≤ y ↔ ∃ a ∈ L, a.2 ≤ y := by
  constructor
  · intro g
    obtain ⟨a, ha, e⟩ := low_mem h
    exact ⟨a, ha, by omega⟩
  · rintro ⟨a, ha, g⟩
    exact Int.le_trans (low_le ha) g
/-- Those with numbers up to one: the row's beginning. -/
def upto (q : Int) (L : List It) : List It := L.filter fun a => decide (a.1.1 ≤ q)
theorem upto_node {q : Int} {A B : List It} {m : It} (hA : Lo A m.1) (hB : Hi m.1 B) : upto q (A ++ m :: B) = if m.1.1 ≤ q then A ++ m :: upto q B else upto q A := by
  have hle : ∀ a ∈ A, a.1.1 ≤ m.1.1 := fun a ha => by have := hA a ha; unfold kLt at this; omega
  have hge : ∀ b ∈ B, m.1.1 ≤ b.1.1 := fun b hb => by have := hB b hb; unfold kLt at this; omega
  unfold upto
  rw [List.filter_append, List.filter_cons]
  by_cases h : m.1.1 ≤ q
  · rw [if_pos (by simpa using h), if_pos h, List.filter_eq_self.2 fun a ha => by have := hle a ha; simp; omega]
  · have e : B.filter (fun a => decide (a.1.1 ≤ q)) = [] := List.filter_eq_nil_iff.2 fun b hb => by have := hge b hb; simp; omega
    rw [if_neg (by simpa using h), if_neg h, e, List.append_nil]
/-- The first one whose value is at most y. -/
def fnd (y : Int) (L : List It) : Option It := L.find? fun a => decide (a.2 ≤ y)
theorem fnd_left {y : Int} {A B : List It} (h : ∃ a ∈ A, a.2 ≤ y) : fnd y (A ++ B) = fnd y A := by
  unfold fnd
  rw [List.find?_append]
  cases e : A.find? (fun a => decide (a.2 ≤ y)) with
  | some a => rfl
  | none =>
    obtain ⟨a, ha, g⟩ := h
    have := List.find?_eq_none.1 e a ha
    simp at this
    omega
theorem fnd_right {y : Int} {A B : List It} (h : ¬ ∃ a ∈ A, a.2 ≤ y) : fnd y (A ++ B) = fnd y B := by
  unfold fnd
  rw [List.find?_append, List.find?_eq_none.2 fun a ha => by simp; exact Classical.byContradiction fun g => h ⟨a, ha, by omega⟩]
  rfl
/-- How high a tree may be: so many black ones on each way hold so many items. -/
theorem high {n b : Nat} (h : 2 ^ b ≤ n + 1) {k : Nat} (hk : k ≤ 2 * b) : 2 ^ (k / 2) ≤ n + 1 :=
  Nat.le_trans (Nat.pow_le_pow_right (by omega) (by omega)) h
end Go.Proofs.Ytjfpemkdidoacaa
