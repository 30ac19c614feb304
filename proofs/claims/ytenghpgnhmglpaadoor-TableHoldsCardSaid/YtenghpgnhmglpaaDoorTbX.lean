/- A table as an object: its box, its pages, its row of page numbers; what leaves it as it is. No condition. -/
import Derived.Test.YtenghpgnhmglpaaDoorTbP
import Derived.Test.YtenghpgnhmglpaaDoorShelf
namespace Go.Proofs.YtenghpgnhmglpaaDoor
open Go.RowKit
set_option linter.unusedVariables false
/-- Block q is the page p of the row L, its values in vv. -/
def PgIs (w : World) (χ : Nat → Nat) (c : Nat) (p : Int) (L : List Im) (q : Nat) (vv : Value) : Prop :=
  ∃ x : Nat, Box w q #[eU (x : Int), vv] 72 ∧ BitsP x p L ∧ w.ownsRow 0 25 1 vv (pgI p L).length (valsI (pgI p L)) ∧ χ q = c ∧ ∀ g, vv.ownBlock = some g → χ g = c
/-- A table whose pages hold the row L: N are the pages' numbers, F their blocks, G their values' slices; some pages may be empty, and m ids are counted. -/
structure TbX (w : World) (χ : Nat → Nat) (c B Bm : Nat) (N : List Int) (F : Int → Option Nat) (G : Int → Value) (vn : Value) (m : Nat) (L : List Im) : Prop where
  box : Box w B #[.map (some Bm), vn, eI (m : Int)] 50
  colB : χ B = c
  colM : χ Bm = c
  colN : ∀ g, vn.ownBlock = some g → χ g = c
  map : MapP w Bm N.length F
  nums : w.ownsRow 0 3 1 vn N.length (kC N)
  rise : RiseK N
  rng : ∀ p ∈ N, 0 ≤ p ∧ p < 1024
  mem : ∀ p, (F p).isSome = true ↔ p ∈ N
  page : ∀ p q, F p = some q → PgIs w χ c p L q (G p)
  inj : ∀ p p' q, F p = some q → F p' = some q → p = p'
  apart : ∀ p p' q q' g, F p = some q → F p' = some q' → p ≠ p' → (G p).ownBlock = some g → (G p').ownBlock ≠ some g
  sub : ∀ p, pgI p L ≠ [] → p ∈ N
  good : Good L
  tab : Tab w
  col0 : χ 0 = 0
  cne : c ≠ 0
section
variable {w w' : World} {χ χ' : Nat → Nat} {c d B Bm m : Nat} {N : List Int} {F : Int → Option Nat} {G : Int → Value} {vn : Value} {L : List Im}
theorem PgIs.off {S : Nat → Prop} {p : Int} {q : Nat} {vv : Value} (h : PgIs w χ c p L q vv) (ho : Off S w w') (hn : ∀ k, χ k = c → ¬ S k) (hc : ∀ k, k < w.heap.size → χ' k = χ k) : PgIs w' χ' c p L q vv := by
  obtain ⟨x, h1, h2, h3, h4, h5⟩ := h
  exact ⟨x, ho.box h1 (hn q h4), h2, ho.owns h3 (fun g e => hn g (h5 g e)), (hc q h1.lt).trans h4, fun g e => (hc g (h3.lt g e).2).trans (h5 g e)⟩
theorem TbX.off {S : Nat → Prop} (h : TbX w χ c B Bm N F G vn m L) (ho : Off S w w') (hn : ∀ k, χ k = c → ¬ S k) (h0 : ¬ S 0) (hc : ∀ k, k < w.heap.size → χ' k = χ k) : TbX w' χ' c B Bm N F G vn m L where
  box := ho.box h.box (hn B h.colB)
  colB := (hc B h.box.lt).trans h.colB
  colM := (hc Bm h.map.lt).trans h.colM
  colN := fun g e => (hc g (h.nums.lt g e).2).trans (h.colN g e)
  map := h.map.off ho (hn Bm h.colM)
  nums := ho.owns h.nums (fun g e => hn g (h.colN g e))
  rise := h.rise
  rng := h.rng
  mem := h.mem
  page := fun p q e => (h.page p q e).off ho hn hc
  inj := h.inj
  apart := h.apart
  sub := h.sub
  good := h.good
  tab := h.tab.block ho.size (ho.block 0 h.tab.1 h0)
  col0 := (hc 0 h.tab.1).trans h.col0
  cne := h.cne
theorem TbX.below (h : TbX w χ c B Bm N F G vn m L) (hb : Below w.heap.size w w') : TbX w' χ c B Bm N F G vn m L :=
  h.off (S := fun _ => False) (Off.of hb) (fun _ _ h => h) (fun h => h) (fun _ _ => rfl)
theorem TbX.other (h : TbX w χ c B Bm N F G vn m L) (k : Col χ χ' d w w') (hd : c ≠ d) (h0 : d ≠ 0) : TbX w' χ' c B Bm N F G vn m L :=
  h.off (S := fun b => χ b = d) ⟨k.os, k.tape, k.output, k.size, fun i hi hn => k.block i hi hn⟩ (fun b e g => hd (e.symm.trans g)) (fun g => h0 (g.symm.trans h.col0)) k.col
/-- Whatever turned on one page. -/
theorem TbX.turn (h : TbX w χ c B Bm N F G vn m L) {p : Int} {q : Nat} (hp : F p = some q) {L' : List Im} {vv : Value} {x : Nat} (ho : Off (fun k => k = q ∨ (G p).ownBlock = some k) w w')
    (hbox : Box w' q #[eU (x : Int), vv] 72) (hbits : BitsP x p L') (hown : w'.ownsRow 0 25 1 vv (pgI p L').length (valsI (pgI p L'))) (hvv : ∀ g, vv.ownBlock = some g → (G p).ownBlock = some g ∨ w.heap.size ≤ g)
    (hoth : ∀ r, r ≠ p → pgI r L' = pgI r L ∧ ∀ y, BitsP y r L → BitsP y r L') (hg : Good L') : TbX w' (recol χ w.heap.size c) c B Bm N F (fun r => if r = p then vv else G r) vn m L' ∧ Col χ (recol χ w.heap.size c) c w w' := by
  obtain ⟨x0, p1, p2, p3, p4, p5⟩ := h.page p q hp
  have hS : ∀ k, (k = q ∨ (G p).ownBlock = some k) → χ k = c := fun k hk => by
    rcases hk with rfl | hk
    · exact p4
    · exact p5 k hk
  have nB : ¬ (B = q ∨ (G p).ownBlock = some B) := by
    rintro (e | e)
    · exact box_ne h.box p1 (by decide) e
    · exact own_not p3 h.box (by decide) e
  have nM : ¬ (Bm = q ∨ (G p).ownBlock = some Bm) := by
    rintro (e | e)
    · subst e; exact h.map.unbox _ _ p1
    · rcases p3.2 with ⟨e', _⟩ | ⟨g, cap, cur, e', _, hgb, _⟩
      · rw [e'] at e; cases e
      · rw [e'] at e; cases e; exact h.map.unbox _ _ hgb
  have nN : ∀ g, vn.ownBlock = some g → ¬ (g = q ∨ (G p).ownBlock = some g) := fun g eg => by
    rcases h.nums.2 with ⟨e', _⟩ | ⟨g', cap, cur, e', _, hgb, _⟩
    · rw [e'] at eg; cases eg
    · rw [e'] at eg; cases eg
      rintro (e | e)
      · exact box_ne (show Box w g' cur 3 from hgb) p1 (by decide) e
      · exact own_not p3 (show Box w g' cur 3 from hgb) (by decide) e
  have hc : ∀ k, k < w.heap.size → recol χ w.heap.size c k = χ k := fun k hk => recol_lt hk
  refine ⟨?_, Col.off ho hS⟩
  exact {
    box := ho.box h.box nB
    colB := (hc B h.box.lt).trans h.colB
    colM := (hc Bm h.map.lt).trans h.colM
    colN := fun g e => (hc g (h.nums.lt g e).2).trans (h.colN g e)
    map := h.map.off ho nM
    nums := ho.owns h.nums nN
    rise := h.rise
    rng := h.rng
    mem := h.mem
    page := fun r q' e => by
      by_cases hr : r = p
      · subst hr
        rw [hp] at e; cases e
        rw [if_pos rfl]
        exact ⟨x, hbox, hbits, hown, (hc q p1.lt).trans p4, fun g eg => by
          rcases hvv g eg with h1 | h1
          · exact (hc g (p3.lt g h1).2).trans (p5 g h1)
          · exact recol_ge h1⟩
      · rw [if_neg hr]
        obtain ⟨y, r1, r2, r3, r4, r5⟩ := h.page r q' e
        obtain ⟨s1, s2⟩ := hoth r hr
        refine ⟨y, ho.box r1 ?_, s2 y r2, ?_, (hc q' r1.lt).trans r4, fun g eg => (hc g (r3.lt g eg).2).trans (r5 g eg)⟩
        · rintro (e' | e')
          · subst e'; exact hr (h.inj r p q' e hp)
          · exact own_not p3 r1 (by decide) e'
        · rw [s1]
          refine ho.owns r3 (fun g eg => ?_)
          rintro (e' | e')
          · subst e'; exact own_not r3 p1 (by decide) eg
          · exact h.apart r p q' q g e hp hr eg e'
    inj := h.inj
    apart := fun a b qa qb g ea eb hab hga => by
      by_cases h1 : a = p
      · subst h1
        rw [if_pos rfl] at hga
        rw [if_neg (fun e => hab e.symm)]
        obtain ⟨y, r1, r2, r3, r4, r5⟩ := h.page b qb eb
        rcases hvv g hga with h2 | h2
        · exact h.apart a b qa qb g ea eb hab h2
        · exact fun e => by have := (r3.lt g e).2; omega
      · rw [if_neg h1] at hga
        obtain ⟨y, r1, r2, r3, r4, r5⟩ := h.page a qa ea
        by_cases h3 : b = p
        · subst h3
          rw [if_pos rfl]
          intro e
          rcases hvv g e with h2 | h2
          · exact h.apart a b qa qb g ea eb hab hga h2
          · have := (r3.lt g hga).2; omega
        · rw [if_neg h3]
          exact h.apart a b qa qb g ea eb hab hga
    sub := fun r hr => by
      by_cases hrp : r = p
      · subst hrp; exact (h.mem r).1 (by rw [hp]; rfl)
      · rw [(hoth r hrp).1] at hr; exact h.sub r hr
    good := hg
    tab := h.tab.block ho.size (ho.block 0 h.tab.1 (by
      rintro e0
      exact h.cne ((hS 0 e0).symm.trans h.col0)))
    col0 := (hc 0 h.tab.1).trans h.col0
    cne := h.cne }
/-- Another count. -/
theorem TbX.count (h : TbX w χ c B Bm N F G vn m L) (m' : Nat) : TbX (w.setCell ⟨B, 2, none⟩ (eI (m' : Int))) χ c B Bm N F G vn m' L ∧ Col χ χ c w (w.setCell ⟨B, 2, none⟩ (eI (m' : Int))) := by
  have ho : Off (fun k => k = B) w (w.setCell ⟨B, 2, none⟩ (eI (m' : Int))) := Off.set (S := fun k => k = B) (Off.of (Below.refl _ w)) (B := B) rfl 2 _
  have hS : ∀ k, k = B → χ k = c := fun k e => by rw [e]; exact h.colB
  have nM : Bm ≠ B := fun e => by subst e; exact h.map.unbox _ _ h.box
  have nN : ∀ g, vn.ownBlock = some g → ¬ g = B := fun g eg e => by subst e; exact own_not h.nums h.box (by decide) eg
  refine ⟨?_, ⟨ho.os, ho.tape, ho.output, ho.size, fun _ _ => rfl, fun k hk hn => ho.block k hk (fun e => hn (hS k e))⟩⟩
  exact { h with
    box := by have := h.box.set 2 (eI (m' : Int)); simpa using this
    map := h.map.off ho nM
    nums := ho.owns h.nums nN
    page := fun p q e => by
      obtain ⟨x, r1, r2, r3, r4, r5⟩ := h.page p q e
      exact ⟨x, ho.box r1 (box_ne r1 h.box (by decide)), r2, ho.owns r3 (fun g eg e' => by subst e'; exact own_not r3 h.box (by decide) eg), r4, r5⟩
    tab := h.tab.block ho.size (ho.block 0 h.tab.1 (fun e0 => h.cne ((hS 0 e0).symm.trans h.col0))) }
end
end Go.Proofs.YtenghpgnhmglpaaDoor
