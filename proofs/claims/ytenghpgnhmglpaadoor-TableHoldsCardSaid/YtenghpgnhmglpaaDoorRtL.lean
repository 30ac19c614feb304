/- What TableHolds keeps: a table, a row, an act's cell, a deferred mark; and two copies of its own. No condition but that they aren't long. -/
import Derived.Test.YtenghpgnhmglpaaDoorRtP
namespace Go.Proofs.YtenghpgnhmglpaaDoor
open Go.RowKit Go.Shelf
set_option linter.unusedVariables false
set_option linter.unusedSimpArgs false
abbrev acV (x : Ac) : Array Value := #[.int .u8 x.kd, .int .i64 x.id, .int .u64 x.v, .int .i64 x.ask]
/-- The calls that are deferred: none, or those of a range over a function, whose mark is D. -/
def dsOf : Option Nat → List Deferred
  | none => []
  | some D => [{ target := .collected D, args := #[] }]
def Dmk (w : World) (χ : Nat → Nat) (od : Option Nat) : Prop := ∀ D, od = some D → w.heap[D]? = some (.deferred (some [])) ∧ χ D = 3
section
variable {w0 w w' : World} {χ χ' : Nat → Nat} {c d B R P C T : Nat} {L M : List Im} {x : Ac} {od : Option Nat}
theorem Dmk.next (h : Dmk w χ od) (k : Col χ χ' d w w') (hd : d ≠ 3) : Dmk w' χ' od := fun D e => by
  obtain ⟨h1, h2⟩ := h D e
  have hD := (Array.getElem?_eq_some_iff.1 h1).1
  exact ⟨(k.block D hD (by rw [h2]; exact fun e => hd e.symm)).trans h1, (k.col D hD).trans h2⟩
theorem Dmk.below (h : Dmk w χ od) (k : Below w.heap.size w w') : Dmk w' χ od := h.next (Col.of k (c := 5)) (by decide)
/-- Between two rounds. -/
def Lp (w0 w : World) (B R : Nat) (L : List Im) (od : Option Nat) : Prop := ∃ χ, Two Tb w0 w χ B R L L ∧ Dmk w χ od
/-- Within a round. -/
def St (w0 w : World) (B R : Nat) (L M : List Im) (P : Nat) (x : Ac) (od : Option Nat) : Prop := ∃ χ, Two Tb w0 w χ B R L M ∧ Bx w χ 3 P (acV x) 31 ∧ Dmk w χ od
theorem Lp.world (h : Lp w0 w B R L od) : Below w0.heap.size w0 w := by
  obtain ⟨χ, h1, _⟩ := h
  exact h1.fr.world
theorem Lp.mark {D : Nat} (h : Lp w0 w B R L (some D)) : w.heap[D]? = some (.deferred (some [])) ∧ w0.heap.size ≤ D := by
  obtain ⟨χ, h1, h2⟩ := h
  obtain ⟨h3, h4⟩ := h2 D rfl
  refine ⟨h3, ?_⟩
  rcases Nat.lt_or_ge D w0.heap.size with g | g
  · rw [h1.fr.zero D g] at h4; cases h4
  · exact g
theorem St.world (h : St w0 w B R L M P x od) : Below w0.heap.size w0 w := by
  obtain ⟨χ, h1, _⟩ := h
  exact h1.fr.world
theorem St.box (h : St w0 w B R L M P x od) : Box w P (acV x) 31 := by
  obtain ⟨χ, _, h1, _⟩ := h
  exact h1.1
theorem St.cells (h : St w0 w B R L M P x od) : w.cell? ⟨P, 0, none⟩ = some (.int .u8 x.kd) ∧ w.cell? ⟨P, 1, none⟩ = some (.int .i64 x.id) ∧ w.cell? ⟨P, 2, none⟩ = some (.int .u64 x.v) ∧ w.cell? ⟨P, 3, none⟩ = some (.int .i64 x.ask) := ⟨h.box.cell 0, h.box.cell 1, h.box.cell 2, h.box.cell 3⟩
theorem Lp.cell (h : Lp w0 w B R L od) : St w0 (w.alloc (.cells (acV x) 31)) B R L L w.heap.size x od := by
  obtain ⟨χ, h1, h2⟩ := h
  exact ⟨recol χ w.heap.size 3, h1.other tbLaws (Col.new (up1 w _) 3 (c := 5)) (by decide), ⟨Box.new _ _ _, recol_ge (Nat.le_refl _)⟩, h2.next (Col.new (up1 w _) 3 (c := 5)) (by decide)⟩
theorem St.lp (h : St w0 w B R L L P x od) : Lp w0 w B R L od := by
  obtain ⟨χ, h1, _, h2⟩ := h
  exact ⟨χ, h1, h2⟩
theorem St.below (h : St w0 w B R L M P x od) (k : Below w.heap.size w w') : St w0 w' B R L M P x od := by
  obtain ⟨χ, h1, h2, h3⟩ := h
  exact ⟨χ, h1.below tbLaws k, h2.below k, h3.below k⟩
theorem St.marked {D : Nat} (h : St w0 w B R L M P x none) (k : Below w.heap.size w w') (hD : w'.heap[D]? = some (.deferred (some []))) (hw : w.heap.size ≤ D) : St w0 w' B R L M P x (some D) := by
  obtain ⟨χ, h1, h2, _⟩ := h
  exact ⟨recol χ w.heap.size 3, h1.other tbLaws (Col.new k 3 (c := 5)) (by decide), h2.other (Col.new k 3 (c := 5)) (by decide), fun D' e => by cases e; exact ⟨hD, recol_ge hw⟩⟩
theorem St.tb (h : St w0 w B R L M P x od) : ∃ χ, Tb w χ 1 B L := by
  obtain ⟨χ, h1, _⟩ := h
  exact ⟨χ, h1.tb⟩
theorem St.row (h : St w0 w B R L M P x od) : ∃ v, Rt w R M v := by
  obtain ⟨χ, h1, _⟩ := h
  obtain ⟨v, h2, _⟩ := h1.rt
  exact ⟨v, h2⟩
theorem St.tells (h : St w0 w B R L M P x od) (hl : L.length ≤ 1000) : Tells w (.pointer (some ⟨B, 0, none⟩)) L := by
  obtain ⟨χ, h1⟩ := h.tb
  exact h1.tells hl
theorem St.good (h : St w0 w B R L M P x od) : Good L := by
  obtain ⟨χ, h1⟩ := h.tb
  exact h1.good
theorem st_put (k y : Int) {E : Int} {K : List Im} (hk : Inte k) (hy : Wd y) (h : St w0 w B R L M P x od) (hl : L.length ≤ 1000) (hE : putE k L = E) (hK : putI k y L = K) : Calls Tryd.prog 16 #[.pointer (some ⟨B, 0, none⟩), eI k, eU y] w fun e w' => e = .returned (eI E) ∧ St w0 w' B R K M P x od := by
  obtain ⟨χ, h1, h2, h3⟩ := h
  subst hE hK
  exact (two_put tbLaws k y hk hy h1 hl).mono fun e w' ⟨y1, χ', y2, y3⟩ => ⟨y1, χ', y3, h2.other y2 (by decide), h3.next y2 (by decide)⟩
theorem st_set (k y : Int) {E : Int} {K : List Im} (hk : Inte k) (hy : Wd y) (h : St w0 w B R L M P x od) (hl : L.length ≤ 1000) (hE : askE k L = E) (hK : setT k y L = K) : Calls Tryd.prog 18 #[.pointer (some ⟨B, 0, none⟩), eI k, eU y] w fun e w' => e = .returned (eI E) ∧ St w0 w' B R K M P x od := by
  obtain ⟨χ, h1, h2, h3⟩ := h
  subst hE hK
  exact (two_set tbLaws k y hk hy h1 hl).mono fun e w' ⟨y1, χ', y2, y3⟩ => ⟨y1, χ', y3, h2.other y2 (by decide), h3.next y2 (by decide)⟩
theorem st_drop (k : Int) {E : Int} {K : List Im} (hk : Inte k) (h : St w0 w B R L M P x od) (hl : L.length ≤ 1000) (hE : askE k L = E) (hK : dropT k L = K) : Calls Tryd.prog 17 #[.pointer (some ⟨B, 0, none⟩), eI k] w fun e w' => e = .returned (eI E) ∧ St w0 w' B R K M P x od := by
  obtain ⟨χ, h1, h2, h3⟩ := h
  subst hE hK
  exact (two_drop tbLaws k hk h1 hl).mono fun e w' ⟨y1, χ', y2, y3⟩ => ⟨y1, χ', y3, h2.other y2 (by decide), h3.next y2 (by decide)⟩
theorem st_rput (k y : Int) {E : Int} {K : List Im} (hy : Wd y) (h : St w0 w B R L M P x od) (hl : M.length ≤ 1000) (hE : putE k M = E) (hK : putI k y M = K) : Calls Tryd.prog 19 #[.pointer (some ⟨R, 0, none⟩), eI k, eU y] w fun e w' => e = .returned (eI E) ∧ St w0 w' B R L K P x od := by
  obtain ⟨χ, h1, h2, h3⟩ := h
  subst hE hK
  exact (two_rput tbLaws k y hy h1 hl).mono fun e w' ⟨y1, χ', y2, y3⟩ => ⟨y1, χ', y3, h2.other y2 (by decide), h3.next y2 (by decide)⟩
theorem st_rset (k y : Int) {E : Int} {K : List Im} (hy : Wd y) (h : St w0 w B R L M P x od) (hl : M.length ≤ 1000) (hE : askE k M = E) (hK : setT k y M = K) : Calls Tryd.prog 20 #[.pointer (some ⟨R, 0, none⟩), eI k, eU y] w fun e w' => e = .returned (eI E) ∧ St w0 w' B R L K P x od := by
  obtain ⟨χ, h1, h2, h3⟩ := h
  subst hE hK
  exact (two_rset tbLaws k y hy h1 hl).mono fun e w' ⟨y1, χ', y2, y3⟩ => ⟨y1, χ', y3, h2.other y2 (by decide), h3.next y2 (by decide)⟩
theorem st_rdrop (k : Int) {E : Int} {K : List Im} (h : St w0 w B R L M P x od) (hl : M.length ≤ 1000) (hE : askE k M = E) (hK : dropT k M = K) : Calls Tryd.prog 21 #[.pointer (some ⟨R, 0, none⟩), eI k] w fun e w' => e = .returned (eI E) ∧ St w0 w' B R L K P x od := by
  obtain ⟨χ, h1, h2, h3⟩ := h
  subst hE hK
  exact (two_rdrop tbLaws k h1 hl).mono fun e w' ⟨y1, χ', y2, y3⟩ => ⟨y1, χ', y3, h2.other y2 (by decide), h3.next y2 (by decide)⟩
theorem st_same (ask : Int) (ha : Inte ask) (h : St w0 w B R L L P x od) (hl : L.length ≤ 1000) : Calls Tryd.prog 12 #[.pointer (some ⟨B, 0, none⟩), .pointer (some ⟨R, 0, none⟩), eI ask] w fun e w' => e = .returned (.bool true) ∧ St w0 w' B R L L P x od := by
  obtain ⟨χ, h1, h2, h3⟩ := h
  exact (two_same tbLaws ask ha h1 hl).mono fun e w' ⟨y1, y2⟩ => ⟨y1, χ, h1.below tbLaws y2, h2.below y2, h3.below y2⟩
/-- A copy as more tells it, alone. -/
theorem own1_more (h : Tb w χ c B L) (hl : L.length ≤ 1000) : Calls Tryd.prog 10 #[.pointer (some ⟨B, 0, none⟩), .func (.func 11) #[] #[]] w fun e w' => ∃ B', e = .returned (.pointer (some ⟨B', 0, none⟩)) ∧ Own1 Tb w w' B' (oneMore L) := by
  obtain ⟨χ1, h1, hle⟩ := h.fresh
  have ht := h.tab
  refine (tb_own 5 h1 hl (by decide)).mono fun e w' ⟨B', y1, y2, y3⟩ => ⟨B', y1, recol (fun _ => 0) w.heap.size 1, (Fr.start w).next (Col.new y3 1 (c := 1)) (by decide), y2.paint (fun k _ hk => ?_) (recol_lt ht.1) (by decide)⟩
  rcases Nat.lt_or_ge k w.heap.size with g | g
  · rw [recol_lt g] at hk
    have := hle k
    omega
  · exact recol_ge g
/-- Two copies, the second one's cell, and a mark. -/
def Dh (w0 w : World) (B : Nat) (L : List Im) (C : Nat) (M : List Im) (T : Nat) (od : Option Nat) : Prop := ∃ χ, Fr w0 χ w ∧ Tb w χ 1 B L ∧ Tb w χ 2 C M ∧ Bx w χ 3 T #[.pointer (some ⟨C, 0, none⟩)] 23 ∧ Dmk w χ od
theorem dh_new {w1 : World} (h : Own1 Tb w0 w1 B L) (g : Own1 Tb w1 w C M) : Dh w0 (w.alloc (.cells #[.pointer (some ⟨C, 0, none⟩)] 23)) B L C M w.heap.size none := by
  obtain ⟨χ, h1, h2⟩ := h
  obtain ⟨χd, g1, g2⟩ := g
  have hc := h2.col0
  have ht := h2.tab
  have k : Col χ (recol χ w1.heap.size 2) 2 w1 w := Col.new g1.world 2
  have f1 := h1.next k (by decide)
  have f2 := h2.other k (by decide) (by decide)
  have f3 : Tb w (recol χ w1.heap.size 2) 2 C M := g2.paint (fun i _ hi => recol_ge (by
    rcases Nat.lt_or_ge i w1.heap.size with q | q
    · rw [g1.zero i q] at hi; cases hi
    · exact q)) (by rw [recol_lt ht.1]; exact hc.1) (by decide)
  have kb : Col (recol χ w1.heap.size 2) (recol (recol χ w1.heap.size 2) w.heap.size 3) 5 w (w.alloc (.cells #[.pointer (some ⟨C, 0, none⟩)] 23)) := Col.new (up1 w _) 3
  exact ⟨_, f1.next kb (by decide), f2.other kb (by decide) (by decide), f3.other kb (by decide) (by decide), ⟨Box.new _ _ _, recol_ge (Nat.le_refl _)⟩, fun D e => by cases e⟩
theorem Dh.world (h : Dh w0 w B L C M T od) : Below w0.heap.size w0 w := by
  obtain ⟨χ, h1, _⟩ := h
  exact h1.world
theorem Dh.box (h : Dh w0 w B L C M T od) : Box w T #[.pointer (some ⟨C, 0, none⟩)] 23 := by
  obtain ⟨χ, _, _, _, h1, _⟩ := h
  exact h1.1
theorem Dh.tells1 (h : Dh w0 w B L C M T od) (hl : L.length ≤ 1000) : Tells w (.pointer (some ⟨B, 0, none⟩)) L := by
  obtain ⟨χ, _, h1, _⟩ := h
  exact h1.tells hl
theorem Dh.tells2 (h : Dh w0 w B L C M T od) (hl : M.length ≤ 1000) : Tells w (.pointer (some ⟨C, 0, none⟩)) M := by
  obtain ⟨χ, _, _, h1, _⟩ := h
  exact h1.tells hl
theorem Dh.below (h : Dh w0 w B L C M T od) (k : Below w.heap.size w w') : Dh w0 w' B L C M T od := by
  obtain ⟨χ, h1, h2, h3, h4, h5⟩ := h
  exact ⟨χ, h1.below k, h2.below k, h3.below k, h4.below k, h5.below k⟩
theorem Dh.mark {D : Nat} (h : Dh w0 w B L C M T (some D)) : w.heap[D]? = some (.deferred (some [])) := by
  obtain ⟨χ, _, _, _, _, h5⟩ := h
  exact (h5 D rfl).1
theorem Dh.marked {D : Nat} (h : Dh w0 w B L C M T none) (k : Below w.heap.size w w') (hD : w'.heap[D]? = some (.deferred (some []))) (hw : w.heap.size ≤ D) : Dh w0 w' B L C M T (some D) := by
  obtain ⟨χ, h1, h2, h3, h4, _⟩ := h
  have kb : Col χ (recol χ w.heap.size 3) 5 w w' := Col.new k 3
  exact ⟨_, h1.next kb (by decide), h2.other kb (by decide) (by decide), h3.other kb (by decide) (by decide), h4.other kb (by decide), fun D' e => by cases e; exact ⟨hD, recol_ge hw⟩⟩
theorem dh_put (k x : Int) (hx : Wd x) (h : Dh w0 w B L C M T od) (hl : L.length ≤ 1000) : Calls Tryd.prog 16 #[.pointer (some ⟨B, 0, none⟩), eI k, eU x] w fun e w' => (∃ z : Int, e = .returned (eI z)) ∧ Dh w0 w' B (putI k x L) C M T od := by
  obtain ⟨χ, h1, h2, h3, h4, h5⟩ := h
  exact (tb_put k x h2 hx hl).mono fun e w' ⟨y1, χ', y2, y3⟩ => ⟨⟨_, y1⟩, χ', h1.next y2 (by decide), y3, h3.other y2 (by decide) (by decide), h4.other y2 (by decide), h5.next y2 (by decide)⟩
theorem dh_drop (k : Int) (h : Dh w0 w B L C M T od) (hl : L.length ≤ 1000) : Calls Tryd.prog 17 #[.pointer (some ⟨B, 0, none⟩), eI k] w fun e w' => (∃ z : Int, e = .returned (eI z)) ∧ Dh w0 w' B (dropT k L) C M T od := by
  obtain ⟨χ, h1, h2, h3, h4, h5⟩ := h
  exact (tb_drop k h2 hl).mono fun e w' ⟨y1, χ', y2, y3⟩ => ⟨⟨_, y1⟩, χ', h1.next y2 (by decide), y3, h3.other y2 (by decide) (by decide), h4.other y2 (by decide), h5.next y2 (by decide)⟩
theorem dh_set (k x : Int) (hx : Wd x) (h : Dh w0 w B L C M T od) (hl : M.length ≤ 1000) : Calls Tryd.prog 18 #[.pointer (some ⟨C, 0, none⟩), eI k, eU x] w fun e w' => (∃ z : Int, e = .returned (eI z)) ∧ Dh w0 w' B L C (setT k x M) T od := by
  obtain ⟨χ, h1, h2, h3, h4, h5⟩ := h
  exact (tb_set k x h3 hx).mono fun e w' ⟨y1, χ', y2, y3⟩ => ⟨⟨_, y1⟩, χ', h1.next y2 (by decide), h2.other y2 (by decide) (by decide), y3, h4.other y2 (by decide), h5.next y2 (by decide)⟩
end
end Go.Proofs.YtenghpgnhmglpaaDoor
