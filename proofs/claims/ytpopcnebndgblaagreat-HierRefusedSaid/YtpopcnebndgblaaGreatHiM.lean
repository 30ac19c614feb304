/- Plain: the tree of classes (stage 16): specs by Id, rising; ways up; come, go, changed. No program here. -/
import Derived.Test.YtpopcnebndgblaaGreatSpM
namespace Go.Proofs.YtpopcnebndgblaaGreat
set_option linter.unusedVariables false
set_option linter.unusedSimpArgs false
/-- Plain: the document's tree of classes (stage 16): specs by Id, rising. No program here. -/
def atH (L : List Sp) (i : Int) : Option Sp := L.find? (fun c => c.id == i)
def pathF (L : List Sp) : Nat → Int → List Int
  | 0, _ => []
  | n + 1, i => match atH L i with
    | none => []
    | some c => i :: pathF L n c.par
def pathL (L : List Sp) (i : Int) : List Int := pathF L (L.length + 1) i
def underL (L : List Sp) (i : Int) : List Int := (L.filter (fun c => c.par == i)).map (·.id)
def leavesL (L : List Sp) (i : Int) : List Int := (L.filter (fun c => c.leaf && (i == 0 || (pathL L c.id).contains i))).map (·.id)
def insL (s : Sp) : List Sp → List Sp
  | [] => [s]
  | c :: L => if c.id < s.id then c :: insL s L else s :: c :: L
def dropL (L : List Sp) (i : Int) : List Sp := L.filter (fun c => c.id != i)
/-- What is gone up from a class to depth 1. -/
inductive Pa (L : List Sp) : Int → List Int → Prop
  | top : Pa L 0 []
  | go {c : Sp} {l : List Int} : c ∈ L → Pa L c.par l → Pa L c.id (c.id :: l)
structure Hrc (L : List Sp) : Prop where
  ord : L.Pairwise (fun a b => a.id < b.id)
  pos : ∀ c ∈ L, 0 < c.id
  way : ∀ c ∈ L, ∃ l, Pa L c.id l ∧ l.length ≤ 8
  inn : ∀ c ∈ L, c.par ≠ 0 → ∃ p ∈ L, p.id = c.par ∧ p.leaf = false
theorem Hrc.nil : Hrc [] := ⟨.nil, by simp, by simp, by simp⟩
theorem Pa.mono {L M : List Sp} (h : ∀ c ∈ L, c ∈ M) {i : Int} {l : List Int} (p : Pa L i l) : Pa M i l := by
  induction p with
  | top => exact .top
  | go hc _ ih => exact .go (h _ hc) ih
theorem id_inj {L : List Sp} (ho : L.Pairwise (fun a b => a.id < b.id)) : ∀ {c d : Sp}, c ∈ L → d ∈ L → c.id = d.id → c = d := by
  induction ho with
  | nil => intro c d hc; cases hc
  | cons h _ ih =>
    intro c d hc hd e
    rcases List.mem_cons.1 hc with h1 | h1 <;> rcases List.mem_cons.1 hd with h2 | h2
    · rw [h1, h2]
    · have := h _ h2; rw [h1] at e; omega
    · have := h _ h1; rw [h2] at e; omega
    · exact ih h1 h2 e
theorem Pa.inv {L : List Sp} {i : Int} {l : List Int} (p : Pa L i l) : (i = 0 ∧ l = []) ∨ ∃ c t, c ∈ L ∧ c.id = i ∧ l = i :: t ∧ Pa L c.par t := by
  cases p with
  | top => exact .inl ⟨rfl, rfl⟩
  | go hc h => exact .inr ⟨_, _, hc, rfl, rfl, h⟩
theorem Pa.one {L : List Sp} (ho : L.Pairwise (fun a b => a.id < b.id)) (hp : ∀ c ∈ L, 0 < c.id) {i : Int} {l m : List Int} (p : Pa L i l) (q : Pa L i m) : l = m := by
  induction p generalizing m with
  | top =>
    rcases q.inv with ⟨_, rfl⟩ | ⟨c, t, hc, e, _⟩
    · rfl
    · have := hp c hc; omega
  | @go c l hc _ ih =>
    rcases q.inv with ⟨e, _⟩ | ⟨d, t, hd, e, rfl, hq⟩
    · have := hp c hc; omega
    · obtain rfl := id_inj ho hd hc e
      rw [ih hq]
theorem atH_of {L : List Sp} (ho : L.Pairwise (fun a b => a.id < b.id)) {c : Sp} (hc : c ∈ L) : atH L c.id = some c := by
  unfold atH
  cases hf : L.find? (fun d => d.id == c.id) with
  | none => exact absurd (List.find?_eq_none.1 hf c hc) (by simp)
  | some d =>
    have h1 := List.mem_of_find?_eq_some hf
    have h2 := List.find?_some hf
    rw [id_inj ho h1 hc (by simpa using h2)]
theorem atH_none {L : List Sp} {i : Int} (h : ∀ c ∈ L, c.id ≠ i) : atH L i = none := by
  unfold atH
  exact List.find?_eq_none.2 (fun c hc => by simp [h c hc])
theorem atH_some {L : List Sp} {i : Int} {c : Sp} (h : atH L i = some c) : c ∈ L ∧ c.id = i :=
  ⟨List.mem_of_find?_eq_some h, by simpa using List.find?_some h⟩
theorem pathF_of {L : List Sp} (ho : L.Pairwise (fun a b => a.id < b.id)) (hp : ∀ c ∈ L, 0 < c.id) {i : Int} {l : List Int} (p : Pa L i l) : ∀ n, l.length ≤ n → pathF L (n + 1) i = l := by
  induction p with
  | top =>
    intro n _
    unfold pathF
    rw [atH_none (fun c hc => by have := hp c hc; omega)]
  | @go c l hc _ ih =>
    intro n hn
    unfold pathF
    rw [atH_of ho hc]
    cases n with
    | zero => simp at hn
    | succ n => simp only; rw [ih n (by simp at hn; omega)]
theorem pathF_to {L : List Sp} (ho : L.Pairwise (fun a b => a.id < b.id)) (hp : ∀ c ∈ L, 0 < c.id) {i : Int} {l : List Int} (p : Pa L i l) : ∀ n, l.length ≤ n → pathF L n i = l := by
  induction p with
  | top =>
    intro n _
    cases n with
    | zero => rfl
    | succ n =>
      unfold pathF
      rw [atH_none (fun c hc => by have := hp c hc; omega)]
  | @go c l hc _ ih =>
    intro n hn
    cases n with
    | zero => simp at hn
    | succ n =>
      unfold pathF
      rw [atH_of ho hc]
      simp only; rw [ih n (by simpa using hn)]
/-- Each on the way is a class that is there. -/
theorem Pa.mem {L : List Sp} {i : Int} {l : List Int} (p : Pa L i l) : ∀ j ∈ l, ∃ c ∈ L, c.id = j := by
  induction p with
  | top => intro j hj; cases hj
  | go hc _ ih =>
    intro j hj
    rcases List.mem_cons.1 hj with rfl | hj
    · exact ⟨_, hc, rfl⟩
    · exact ih j hj
/-- Each on the way has the rest of the way. -/
theorem Pa.rest {L : List Sp} {i : Int} {l : List Int} (p : Pa L i l) : ∀ j ∈ l, ∃ m, Pa L j m ∧ m.length ≤ l.length := by
  induction p with
  | top => intro j hj; cases hj
  | @go c l hc h ih =>
    intro j hj
    rcases List.mem_cons.1 hj with rfl | hj
    · exact ⟨_, .go hc h, Nat.le_refl _⟩
    · obtain ⟨m, hm, hl⟩ := ih j hj
      exact ⟨m, hm, by simp; omega⟩
theorem Pa.nodup {L : List Sp} (ho : L.Pairwise (fun a b => a.id < b.id)) (hp : ∀ c ∈ L, 0 < c.id) {i : Int} {l : List Int} (p : Pa L i l) : l.Nodup := by
  induction p with
  | top => exact .nil
  | @go c l hc h ih =>
    refine List.nodup_cons.2 ⟨fun hm => ?_, ih⟩
    obtain ⟨m, q, hl⟩ := h.rest _ hm
    have e := Pa.one ho hp q (.go hc h)
    rw [e] at hl
    simp at hl
    omega
theorem nodup_le {α : Type} [DecidableEq α] : ∀ {l m : List α}, l.Nodup → (∀ x ∈ l, x ∈ m) → l.length ≤ m.length
  | [], _, _, _ => Nat.zero_le _
  | x :: l, m, h, hs => by
    obtain ⟨h1, h2⟩ := List.nodup_cons.1 h
    have hx := hs x (by simp)
    have := nodup_le (m := m.erase x) h2 (fun y hy => (List.mem_erase_of_ne (by rintro rfl; exact h1 hy)).2 (hs y (by simp [hy])))
    have e := List.length_erase_of_mem hx
    have : 0 < m.length := List.length_pos_of_mem hx
    simp
    omega
theorem pathL_of {L : List Sp} (h : Hrc L) {i : Int} {l : List Int} (p : Pa L i l) : pathL L i = l := by
  refine pathF_to h.ord h.pos p _ ?_
  have := nodup_le (m := L.map (·.id)) (p.nodup h.ord h.pos) (fun j hj => by obtain ⟨c, hc, e⟩ := p.mem j hj; exact List.mem_map.2 ⟨c, hc, e⟩)
  simp at this
  omega
theorem mem_insL {s c : Sp} : ∀ {L : List Sp}, c ∈ insL s L ↔ c = s ∨ c ∈ L
  | [] => by simp [insL]
  | d :: L => by
    unfold insL
    split
    · simp only [List.mem_cons, mem_insL (L := L)]
      constructor
      · rintro (h | h | h) <;> simp [h]
      · rintro (h | h | h) <;> simp [h]
    · simp
theorem insL_ord {s : Sp} : ∀ {L : List Sp}, L.Pairwise (fun a b => a.id < b.id) → (∀ c ∈ L, c.id ≠ s.id) → (insL s L).Pairwise (fun a b => a.id < b.id)
  | [], _, _ => by simp [insL]
  | d :: L, h, hn => by
    obtain ⟨h1, h2⟩ := List.pairwise_cons.1 h
    unfold insL
    split
    · refine List.pairwise_cons.2 ⟨fun c hc => ?_, insL_ord h2 (fun c hc => hn c (by simp [hc]))⟩
      rcases mem_insL.1 hc with rfl | hc
      · assumption
      · exact h1 c hc
    · have hd := hn d (by simp)
      refine List.pairwise_cons.2 ⟨fun c hc => ?_, h⟩
      rcases List.mem_cons.1 hc with rfl | hc
      · omega
      · have := h1 c hc; omega
theorem Hrc.add {L : List Sp} (h : Hrc L) {s : Sp} (h0 : 0 < s.id) (hn : ∀ c ∈ L, c.id ≠ s.id) (hp : s.par = 0 ∨ ∃ p ∈ L, p.id = s.par ∧ p.leaf = false ∧ (pathL L s.par).length < 8) : Hrc (insL s L) := by
  have hsub : ∀ c ∈ L, c ∈ insL s L := fun c hc => mem_insL.2 (.inr hc)
  refine ⟨insL_ord h.ord hn, fun c hc => ?_, fun c hc => ?_, fun c hc hne => ?_⟩
  · rcases mem_insL.1 hc with rfl | hc
    · exact h0
    · exact h.pos c hc
  · rcases mem_insL.1 hc with rfl | hc
    · rcases hp with e | ⟨p, hpm, e, hl, hd⟩
      · exact ⟨[c.id], .go (mem_insL.2 (.inl rfl)) (by rw [e]; exact Pa.top), by simp⟩
      · obtain ⟨l, hw, hle⟩ := h.way p hpm
        rw [e] at hw
        rw [pathL_of h hw] at hd
        exact ⟨_, .go (mem_insL.2 (.inl rfl)) (hw.mono hsub), by simp; omega⟩
    · obtain ⟨l, hw, hle⟩ := h.way c hc
      exact ⟨l, hw.mono hsub, hle⟩
  · rcases mem_insL.1 hc with rfl | hc
    · rcases hp with e | ⟨p, hpm, e, hl, hd⟩
      · exact absurd e hne
      · exact ⟨p, hsub p hpm, e, hl⟩
    · obtain ⟨p, hpm, e, hl⟩ := h.inn c hc hne
      exact ⟨p, hsub p hpm, e, hl⟩
theorem mem_dropL {L : List Sp} {i : Int} {c : Sp} : c ∈ dropL L i ↔ c ∈ L ∧ c.id ≠ i := by simp [dropL]
theorem Pa.drop {L : List Sp} {i : Int} (hn : ∀ c ∈ L, c.par ≠ i) {j : Int} {l : List Int} (p : Pa L j l) (hj : j ≠ i) : Pa (dropL L i) j l := by
  induction p with
  | top => exact .top
  | @go c l hc _ ih => exact .go (mem_dropL.2 ⟨hc, hj⟩) (ih (hn c hc))
theorem Hrc.drop {L : List Sp} (h : Hrc L) {i : Int} (hn : ∀ c ∈ L, c.par ≠ i) : Hrc (dropL L i) := by
  refine ⟨h.ord.filter _, fun c hc => h.pos c (mem_dropL.1 hc).1, fun c hc => ?_, fun c hc hne => ?_⟩
  · obtain ⟨l, hw, hl⟩ := h.way c (mem_dropL.1 hc).1
    exact ⟨l, hw.drop hn (mem_dropL.1 hc).2, hl⟩
  · obtain ⟨p, hp, e, hl⟩ := h.inn c (mem_dropL.1 hc).1 hne
    exact ⟨p, mem_dropL.2 ⟨hp, fun e' => hn c (mem_dropL.1 hc).1 (by rw [← e, e'])⟩, e, hl⟩
/-- What keeps Id, Parent and Leaf of each keeps the tree. -/
theorem Pa.map {L : List Sp} {f : Sp → Sp} (hi : ∀ c, (f c).id = c.id) (hp : ∀ c, (f c).par = c.par) {j : Int} {l : List Int} (p : Pa L j l) : Pa (L.map f) j l := by
  induction p with
  | top => exact .top
  | @go c l hc _ ih =>
    have := Pa.go (L := L.map f) (c := f c) (l := l) (List.mem_map.2 ⟨c, hc, rfl⟩) (by rw [hp]; exact ih)
    rwa [hi] at this
theorem Hrc.map {L : List Sp} (h : Hrc L) {f : Sp → Sp} (hi : ∀ c, (f c).id = c.id) (hp : ∀ c, (f c).par = c.par) (hl : ∀ c, (f c).leaf = c.leaf) : Hrc (L.map f) := by
  refine ⟨List.pairwise_map.2 (h.ord.imp (fun {a b} hab => by rw [hi, hi]; exact hab)), fun c hc => ?_, fun c hc => ?_, fun c hc hne => ?_⟩
  · obtain ⟨d, hd, rfl⟩ := List.mem_map.1 hc
    rw [hi]; exact h.pos d hd
  · obtain ⟨d, hd, rfl⟩ := List.mem_map.1 hc
    obtain ⟨l, hw, hle⟩ := h.way d hd
    exact ⟨l, by rw [hi]; exact hw.map hi hp, hle⟩
  · obtain ⟨d, hd, rfl⟩ := List.mem_map.1 hc
    rw [hp] at hne
    obtain ⟨p, hpm, e, hll⟩ := h.inn d hd hne
    exact ⟨f p, List.mem_map.2 ⟨p, hpm, rfl⟩, by rw [hi, hp]; exact e, by rw [hl]; exact hll⟩
end Go.Proofs.YtpopcnebndgblaaGreat
