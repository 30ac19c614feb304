/- A page made, a page lost. No condition but words, and that there aren't too many. -/
import Derived.Test.YtenghpgnhmglpaaDoorTbG
import Derived.Test.YtenghpgnhmglpaaDoorTbI
import Derived.Test.YtenghpgnhmglpaaDoorTbK
import Derived.Test.YtenghpgnhmglpaaDoorTbL
namespace Go.Proofs.YtenghpgnhmglpaaDoor
open Go.RowKit
set_option linter.unusedVariables false
section
variable {w w' : World} {χ χ' : Nat → Nat} {c d B Bm m : Nat} {N : List Int} {F : Int → Option Nat} {G : Int → Value} {vn : Value} {L : List Im}
theorem search_raw (hn : w.ownsRow 0 3 1 vn N.length (kC N)) (hr : RiseK N) (hl : N.length ≤ 2000) (p : Int) : Calls Tryd.prog 41 #[vn, eI p] w fun e w' => e = .returned (.tuple #[eI (lowK p N : Int), .bool (N.contains p)]) ∧ ∃ k, w' = w.drewN k := by
  obtain ⟨a, cap, rfl, hk, hm⟩ := own_len hn
  by_cases h0 : N.length = 0
  · have e : N = [] := List.eq_nil_of_length_eq_zero h0
    subst e
    exact (Tryd.slices_BinarySearch_int_empty a cap p w).mono fun e w' ⟨h1, h2⟩ => ⟨by rw [h1]; rfl, 0, h2⟩
  · obtain ⟨g, cap', cur, e, _, _, _, _, _, hc⟩ := own_some hn (by omega)
    cases e
    have := Tryd.slices_BinarySearch_int g 0 N.length cap N p w (Nat.le_refl _) (by omega) (fun j hj => by
      have := hc j (eI N[j]) (by unfold kC; rw [List.getElem?_map, List.getElem?_eq_getElem hj]; rfl)
      rw [add_plain] at this
      rw [this, List.getD_eq_getElem?_getD, List.getElem?_eq_getElem hj]; rfl) (by rw [List.take_length]; exact riseK_le hr)
    rw [List.take_length] at this
    exact this
theorem TbX.long (h : TbX w χ c B Bm N F G vn m L) : N.length ≤ 1024 := by
  have := riseK_len h.rise (fun q hq => h.rng q hq) (by omega)
  omega
/-- Other pages' numbers. -/
theorem TbX.shape (h : TbX w χ c B Bm N F G vn m L) {N' : List Int} {F' : Int → Option Nat} {G' : Int → Value} {vn' : Value} (ho : Off (fun k => k = Bm ∨ k = B ∨ vn.ownBlock = some k) w w')
    (box : Box w' B #[.map (some Bm), vn', eI (m : Int)] 50) (map : MapP w' Bm N'.length F') (nums : w'.ownsRow 0 3 1 vn' N'.length (kC N')) (rise : RiseK N') (rng : ∀ p ∈ N', 0 ≤ p ∧ p < 1024) (mem : ∀ p, (F' p).isSome = true ↔ p ∈ N')
    (hvn : ∀ g, vn'.ownBlock = some g → vn.ownBlock = some g ∨ w.heap.size ≤ g)
    (hF : ∀ p q, F' p = some q → (F p = some q ∧ G' p = G p) ∨ (w.heap.size ≤ q ∧ pgI p L = [] ∧ Box w' q #[eU 0, .slice none 0 0] 72 ∧ G' p = .slice none 0 0))
    (inj : ∀ p p' q, F' p = some q → F' p' = some q → p = p') (sub : ∀ p, pgI p L ≠ [] → p ∈ N') : TbX w' (recol χ w.heap.size c) c B Bm N' F' G' vn' m L ∧ Col χ (recol χ w.heap.size c) c w w' := by
  have hS : ∀ k, (k = Bm ∨ k = B ∨ vn.ownBlock = some k) → χ k = c := fun k hk => by
    rcases hk with rfl | rfl | hk
    · exact h.colM
    · exact h.colB
    · exact h.colN k hk
  have hc : ∀ k, k < w.heap.size → recol χ w.heap.size c k = χ k := fun k hk => recol_lt hk
  have nq : ∀ q vs, Box w q vs 72 → ¬ (q = Bm ∨ q = B ∨ vn.ownBlock = some q) := fun q vs hb => by
    rintro (e | e | e)
    · subst e; exact h.map.unbox _ _ hb
    · exact box_ne hb h.box (by decide) e
    · exact own_not h.nums hb (by decide) e
  have ng : ∀ g v n xs, w.ownsRow 0 25 1 v n xs → v.ownBlock = some g → ¬ (g = Bm ∨ g = B ∨ vn.ownBlock = some g) := fun g v n xs hv eg => by
    rcases hv.2 with ⟨e', _⟩ | ⟨g', cap, cur, e', _, hgb, _⟩
    · rw [e'] at eg; cases eg
    · rw [e'] at eg; cases eg
      have hb : Box w g' cur 25 := hgb
      rintro (e | e | e)
      · subst e; exact h.map.unbox _ _ hb
      · exact box_ne hb h.box (by decide) e
      · exact own_not h.nums hb (by decide) e
  refine ⟨?_, Col.off ho hS⟩
  exact {
    box := box
    colB := (hc B h.box.lt).trans h.colB
    colM := (hc Bm h.map.lt).trans h.colM
    colN := fun g e => by
      rcases hvn g e with h1 | h1
      · exact (hc g (h.nums.lt g h1).2).trans (h.colN g h1)
      · exact recol_ge h1
    map := map
    nums := nums
    rise := rise
    rng := rng
    mem := mem
    page := fun p q e => by
      rcases hF p q e with ⟨e1, e2⟩ | ⟨e1, e2, e3, e4⟩
      · obtain ⟨x, r1, r2, r3, r4, r5⟩ := h.page p q e1
        rw [e2]
        exact ⟨x, ho.box r1 (nq _ _ r1), r2, ho.owns r3 (fun g eg => ng g _ _ _ r3 eg), (hc q r1.lt).trans r4, fun g eg => (hc g (r3.lt g eg).2).trans (r5 g eg)⟩
      · rw [e4]
        exact ⟨0, e3, bits_none e2, by rw [e2]; exact ⟨rfl, .inl ⟨rfl, rfl⟩⟩, recol_ge e1, fun g eg => by cases eg⟩
    inj := inj
    apart := fun a b qa qb g ea eb hab hga => by
      rcases hF a qa ea with ⟨e1, e2⟩ | ⟨_, _, _, e4⟩
      · rcases hF b qb eb with ⟨f1, f2⟩ | ⟨_, _, _, f4⟩
        · rw [e2] at hga; rw [f2]
          exact h.apart a b qa qb g e1 f1 hab hga
        · rw [f4]; intro e; cases e
      · rw [e4] at hga; cases hga
    sub := sub
    good := h.good
    tab := h.tab.block ho.size (ho.block 0 h.tab.1 (fun e0 => h.cne ((hS 0 e0).symm.trans h.col0)))
    col0 := (hc 0 h.tab.1).trans h.col0
    cne := h.cne }
set_option maxHeartbeats 2000000 in
theorem lose_any (h : TbX w χ c B Bm N F G vn m L) (p : Int) (hp : p ∈ N) (hpg : pgI p L = []) : Calls Tryd.prog 39 #[.pointer (some ⟨B, 0, none⟩), eI p] w fun e w' => e = .returned (.tuple #[]) ∧ ∃ χ' N' F' vn', Col χ χ' c w w' ∧ TbX w' χ' c B Bm N' F' G vn' m L ∧ ∀ q, q ∈ N' ↔ q ∈ N ∧ q ≠ p := by
  have hlen := h.long
  have hrng := h.rng p hp
  have hI : Inte p := by unfold Inte; omega
  obtain ⟨hi, hat⟩ := lowK_at h.rise hp
  obtain ⟨d1, d2⟩ := riseK_del h.rise hp
  have hFp := (h.mem p).2 hp
  have hcon : N.contains p = true := by simpa using hp
  have hmap := h.map
  have c0 := h.box.cell 0
  have hpost : ∀ w1 w2 n1 vn', MapP w1 Bm (N.length - 1) (fun j => if j = p then none else F j) → w.grownBy w1 (some Bm) → w2.ownsRow 0 3 1 vn' (N.length - 1) ((kC N).take (lowK p N) ++ (kC N).drop (lowK p N + 1)) → (w1.drewN n1).grownBy w2 vn.ownBlock → vn'.ownBlock = vn.ownBlock →
      ∃ χ' N' F' vn'', Col χ χ' c w (w2.setCell ⟨B, 1, none⟩ vn') ∧ TbX (w2.setCell ⟨B, 1, none⟩ vn') χ' c B Bm N' F' G vn'' m L ∧ ∀ q, q ∈ N' ↔ q ∈ N ∧ q ≠ p := fun w1 w2 n1 vn' hM g1 hown g2 hvv => by
    have nBM : B ≠ Bm := fun e => by have := h.box; rw [e] at this; exact h.map.unbox _ _ this
    have nBN : vn.ownBlock ≠ some B := own_not h.nums h.box (by decide)
    have nMN : vn.ownBlock ≠ some Bm := fun e => by
      rcases h.nums.2 with ⟨e', _⟩ | ⟨g', cap, cur, e', _, hgb, _⟩
      · rw [e'] at e; cases e
      · rw [e'] at e; cases e; exact h.map.unbox _ _ hgb
    have o1 : Off (fun k => k = Bm ∨ k = B ∨ vn.ownBlock = some k) w w1 := ⟨g1.os, g1.tape, g1.output, g1.size, fun k hk hn => g1.block k hk (fun e => hn (.inl (by cases e; rfl)))⟩
    have o2 : Off (fun k => k = Bm ∨ k = B ∨ vn.ownBlock = some k) w1 w2 := ⟨g2.os, g2.tape, g2.output, g2.size, fun k hk hn => g2.block k hk (fun e => hn (.inr (.inr e.symm)))⟩
    have o3 := Off.set (S := fun k => k = Bm ∨ k = B ∨ vn.ownBlock = some k) (o1.trans o2 (fun _ _ h => h)) (B := B) (.inr (.inl rfl)) 1 vn'
    have b1 : Box w1 B #[.map (some Bm), vn, eI (m : Int)] 50 := h.box.grown g1 (fun e => nBM (by cases e; rfl))
    have b2 : Box w2 B #[.map (some Bm), vn, eI (m : Int)] 50 := (b1.below (below_drewN (Below.refl _ w1) n1)).grown g2 (fun e => nBN e.symm)
    have b3 := b2.set 1 vn'
    have hM2 : MapP w2 Bm (N.length - 1) (fun j => if j = p then none else F j) := (hM.below (below_drewN (Below.refl _ w1) n1)).kept g2 (fun e => nMN e.symm)
    have hM3 : MapP (w2.setCell ⟨B, 1, none⟩ vn') Bm (N.length - 1) (fun j => if j = p then none else F j) := hM2.off (S := fun k => k = B) (Off.set (S := fun k => k = B) (Off.of (Below.refl _ _)) (B := B) rfl 1 vn') (fun e => nBM e.symm)
    have hN : (N.take (lowK p N) ++ N.drop (lowK p N + 1)).length = N.length - 1 := by simp; omega
    have hown3 : (w2.setCell ⟨B, 1, none⟩ vn').ownsRow 0 3 1 vn' (N.length - 1) (kC (N.take (lowK p N) ++ N.drop (lowK p N + 1))) := by
      rw [← kC_del]
      exact (Off.set (S := fun k => k = B) (Off.of (Below.refl _ w2)) (B := B) rfl 1 vn').owns hown (fun g e e' => by rw [hvv] at e; subst e'; exact nBN e)
    obtain ⟨t1, t2⟩ := h.shape (N' := N.take (lowK p N) ++ N.drop (lowK p N + 1)) (F' := fun j => if j = p then none else F j) (G' := G) (vn' := vn') o3 (by simpa using b3) (by rw [hN]; exact hM3) (by rw [hN]; exact hown3) d1
      (fun q hq => h.rng q ((d2 q).1 hq).1) (fun q => by
        rw [d2]
        by_cases e : q = p
        · subst e; simp
        · show (if q = p then none else F q).isSome = true ↔ _
          rw [if_neg e, h.mem q]
          exact ⟨fun g => ⟨g, e⟩, fun g => g.1⟩) (fun g e => .inl (by rw [← hvv]; exact e)) (fun q qb e => .inl (by
          by_cases e' : q = p
          · simp [e'] at e
          · simp [e'] at e; exact ⟨e, rfl⟩)) (fun a b q ea eb => by
          by_cases e1 : a = p
          · simp [e1] at ea
          · by_cases e2 : b = p
            · simp [e2] at eb
            · simp [e1] at ea; simp [e2] at eb; exact h.inj a b q ea eb) (fun q hq => (d2 q).2 ⟨h.sub q hq, fun e => hq (by rw [e]; exact hpg)⟩)
    exact ⟨_, _, _, _, t2, t1, d2⟩
  have nBN : vn.ownBlock ≠ some B := own_not h.nums h.box (by decide)
  have hpo := Lib.hid hpost
  have hb1 : ∀ w1, w.grownBy w1 (some Bm) → Box w1 B #[.map (some Bm), vn, eI (m : Int)] 50 ∧ w1.ownsRow 0 3 1 vn N.length (kC N) := fun w1 g1 => by
    have nBM : B ≠ Bm := fun e => by have := h.box; rw [e] at this; exact h.map.unbox _ _ this
    refine ⟨h.box.grown g1 (fun e => nBM (by cases e; rfl)), (show Off (fun k => k = Bm) w w1 from ⟨g1.os, g1.tape, g1.output, g1.size, fun k hk hn => g1.block k hk (fun e => hn (by cases e; rfl))⟩).owns h.nums (fun g eg e => ?_)⟩
    rcases h.nums.2 with ⟨e', _⟩ | ⟨g', cap, cur, e', _, hgb, _⟩
    · rw [e'] at eg; cases eg
    · rw [e'] at eg; cases eg
      subst e; exact h.map.unbox _ _ hgb
  have hb1h := Lib.hid hb1
  have hsr : ∀ w1, w1.ownsRow 0 3 1 vn N.length (kC N) → Calls Tryd.prog 41 #[vn, eI p] w1 fun e w' => e = .returned (.tuple #[eI (lowK p N : Int), .bool true]) ∧ ∃ k, w' = w1.drewN k := fun w1 ho => by
    have := search_raw ho h.rise (by omega) p
    rw [hcon] at this; exact this
  have hsrh := Lib.hid hsr
  have hde : ∀ w1, w1.ownsRow 0 3 1 vn N.length (kC N) → Calls Tryd.prog 48 #[vn, eI (lowK p N : Int), eI ((lowK p N : Int) + 1)] w1 (DelI w1 0 N.length (lowK p N) vn (kC N)) := fun w1 ho => by
    have := delI_any ho hi (by omega) (kC_one N)
    rw [show ((lowK p N + 1 : Nat) : Int) = (lowK p N : Int) + 1 by omega] at this
    exact this
  have hdeh := Lib.hid hde
  have hw1 : IntKind.i64.wrap ((lowK p N : Int) + 1) = (lowK p N : Int) + 1 := i64_id (by omega)
  clear hpost hb1 hsr hde d1 d2 hat hcon h hrng
  go_enter Tryd.func39, Tryd.ntmps39
  go_upto_region 1 with (at_delete; refine del_p rfl _ _ rfl hmap rfl p rfl hI hFp ?_; intro w1 hM1 g1)
  obtain ⟨b1, o1⟩ := hb1h.out w1 g1
  have c1 := b1.cell 1
  have hS1 := hsrh.out w1 o1
  clear c0 hmap
  generalize lowK p N = r at *
  go_upto_region 3 with (go_at_call 41; (with_reducible refine hS1.mono ?_); rintro e w2 ⟨rfl, n1, rfl⟩)
  have o2 : (w1.drewN n1).ownsRow 0 3 1 vn N.length (kC N) := own_below o1 (below_drewN (Below.refl _ w1) n1)
  have hD := hdeh.out _ o2
  clear hS1
  go_wp2_with (go_at_call 48; (with_reducible refine hD.mono ?_); rintro e w3 ⟨v', rfl, k1, k2, k3⟩; obtain ⟨a', cap', rfl, _, _⟩ := own_len k1; have b3 := (b1.below (below_drewN (Below.refl _ w1) n1)).grown k2 (fun e => nBN e.symm); have c3 := b3.cell 1; have f3 := b3.thaw 1)
  go_wp2
  exact ⟨rfl, .tuple #[], by simp [results, Tryd.results39, go_sem], rfl, hpo.out _ _ _ _ hM1 g1 k1 k2 k3⟩
set_option maxHeartbeats 2000000 in
theorem open_any (h : TbX w χ c B Bm N F G vn m L) (p : Int) (hp : 0 ≤ p ∧ p < 1024) : Calls Tryd.prog 35 #[.pointer (some ⟨B, 0, none⟩), eI p] w fun e w' => ∃ q χ' N' F' G' vn', e = .returned (.pointer (some ⟨q, 0, none⟩)) ∧ Col χ χ' c w w' ∧ TbX w' χ' c B Bm N' F' G' vn' m L ∧ F' p = some q ∧ ∀ r, r ∈ N' ↔ r = p ∨ r ∈ N := by
  have hlen := h.long
  have hI : Inte p := by unfold Inte; omega
  have hlk := h.map.look hI
  have c0 := h.box.cell 0
  cases hF : F p with
  | some q =>
    rw [hF] at hlk
    replace hlk : (Instr.lookup 47 (.map (some Bm)) (eI p) false).run Tryd.prog w = .ok (.pointer (some ⟨q, 0, none⟩)) w := hlk
    have hmem : p ∈ N := (h.mem p).1 (by rw [hF]; rfl)
    go_enter Tryd.func35, Tryd.ntmps35
    go_wp2
    go_ret
    exact ⟨q, χ, N, F, G, vn, rfl, Col.of (Below.refl _ _), h, hF, fun r => ⟨fun g => .inr g, fun g => by rcases g with rfl | g; exact hmem; exact g⟩⟩
  | none =>
    rw [hF] at hlk
    replace hlk : (Instr.lookup 47 (.map (some Bm)) (eI p) false).run Tryd.prog w = .ok (.pointer none) w := hlk
    have hnm : p ∉ N := fun e => by have := (h.mem p).2 e; rw [hF] at this; cases this
    have hpg : pgI p L = [] := by
      cases e : pgI p L with
      | nil => rfl
      | cons a l => exact absurd (h.sub p (by rw [e]; simp)) hnm
    obtain ⟨d1, d2⟩ := riseK_ins h.rise hnm
    obtain ⟨_, _, hi⟩ := lowK_take p h.rise
    obtain ⟨W0, hW0⟩ : ∃ W, w.alloc (.cells #[eU 0, .slice none 0 0] 72) = W := ⟨_, rfl⟩
    have T0 : Below w.heap.size w W0 := by rw [← hW0]; exact up1 w _
    have bq : Box W0 w.heap.size #[eU 0, .slice none 0 0] 72 := by rw [← hW0]; exact Box.new w 72 _
    have hmap0 := h.map.below T0
    have hbox0 := h.box.below T0
    have hnum0 := own_below h.nums T0
    have hBl := h.box.lt
    have hMl := h.map.lt
    have nBM : B ≠ Bm := fun e => by have := h.box; rw [e] at this; exact h.map.unbox _ _ this
    have nBN : vn.ownBlock ≠ some B := own_not h.nums h.box (by decide)
    have nMN : vn.ownBlock ≠ some Bm := fun e => by
      rcases h.nums.2 with ⟨e', _⟩ | ⟨g', cap, cur, e', _, hgb, _⟩
      · rw [e'] at e; cases e
      · rw [e'] at e; cases e; exact h.map.unbox _ _ hgb
    have nQN : vn.ownBlock ≠ some w.heap.size := fun e => by have := (h.nums.lt _ e).2; omega
    have hsz0 : W0.heap.size = w.heap.size + 1 := by rw [← hW0]; simp
    -- the map's store
    have hb1 : ∀ w1, W0.grownBy w1 (some Bm) → Box w1 B #[.map (some Bm), vn, eI (m : Int)] 50 ∧ w1.ownsRow 0 3 1 vn N.length (kC N) ∧ Box w1 w.heap.size #[eU 0, .slice none 0 0] 72 := fun w1 g1 =>
      ⟨hbox0.grown g1 (fun e => nBM (by cases e; rfl)), (show Off (fun k => k = Bm) W0 w1 from ⟨g1.os, g1.tape, g1.output, g1.size, fun k hk hn => g1.block k hk (fun e => hn (by cases e; rfl))⟩).owns hnum0 (fun g eg e => nMN (by rw [eg, e])), bq.grown g1 (fun e => by cases e; omega)⟩
    have hb1h := Lib.hid hb1
    have hsrh := Lib.hid (show ∀ w1, w1.ownsRow 0 3 1 vn N.length (kC N) → Calls Tryd.prog 41 #[vn, eI p] w1 fun e w' => e = .returned (.tuple #[eI (lowK p N : Int), .bool (N.contains p)]) ∧ ∃ k, w' = w1.drewN k from fun w1 ho => search_raw ho h.rise (by omega) p)
    have hinh := Lib.hid (show ∀ (w1 : World) (vb : Nat), Box w1 vb #[eI p] 3 → vn.ownBlock ≠ some vb → w1.ownsRow 0 3 1 vn N.length (kC N) → Calls Tryd.prog 44 #[vn, eI (lowK p N : Int), .slice (some ⟨vb, 0, none⟩) 1 1] w1 (InsI w1 0 N.length (lowK p N) vn (eI p) (kC N)) from fun w1 vb hx hv ho => insI_any hx ho hv hi (by omega) (kC_one N) rfl (Nat.zero_le _))
    have hpost : ∀ w1 w2 n1 vn', MapP w1 Bm (N.length + 1) (fun j => if j = p then some w.heap.size else F j) → W0.grownBy w1 (some Bm) → w2.ownsRow 0 3 1 vn' (N.length + 1) ((kC N).take (lowK p N) ++ eI p :: (kC N).drop (lowK p N)) → ((w1.drewN n1).alloc (.cells #[eI p] 3)).grownBy w2 vn.ownBlock → (∀ g, vn'.ownBlock = some g → vn.ownBlock = some g ∨ ((w1.drewN n1).alloc (.cells #[eI p] 3)).heap.size ≤ g) →
        ∃ q χ' N' F' G' vn'', Ending.returned (.pointer (some ⟨w.heap.size, 0, none⟩)) = .returned (.pointer (some ⟨q, 0, none⟩)) ∧ Col χ χ' c w (w2.setCell ⟨B, 1, none⟩ vn') ∧ TbX (w2.setCell ⟨B, 1, none⟩ vn') χ' c B Bm N' F' G' vn'' m L ∧ F' p = some q ∧ ∀ r, r ∈ N' ↔ r = p ∨ r ∈ N := fun w1 w2 n1 vn' hM g1 hown g2 hvv => by
      obtain ⟨b1, u1, q1⟩ := hb1 w1 g1
      have T1 : Below w1.heap.size w1 ((w1.drewN n1).alloc (.cells #[eI p] 3)) := ups (below_drewN (Below.refl _ w1) n1) (up1 (w1.drewN n1) _) (Nat.le_refl _)
      have o1 : Off (fun k => k = Bm ∨ k = B ∨ vn.ownBlock = some k) W0 w1 := ⟨g1.os, g1.tape, g1.output, g1.size, fun k hk hn => g1.block k hk (fun e => hn (.inl (by cases e; rfl)))⟩
      have o0 := ((Off.of (S := fun k => k = Bm ∨ k = B ∨ vn.ownBlock = some k) T0).trans o1 (fun _ _ h => h)).trans (Off.of T1) (fun _ _ h => h)
      have o2 : Off (fun k => k = Bm ∨ k = B ∨ vn.ownBlock = some k) ((w1.drewN n1).alloc (.cells #[eI p] 3)) w2 := ⟨g2.os, g2.tape, g2.output, g2.size, fun k hk hn => g2.block k hk (fun e => hn (.inr (.inr e.symm)))⟩
      have o3 := Off.set (S := fun k => k = Bm ∨ k = B ∨ vn.ownBlock = some k) (o0.trans o2 (fun _ _ h => h)) (B := B) (.inr (.inl rfl)) 1 vn'
      have b2 : Box w2 B #[.map (some Bm), vn, eI (m : Int)] 50 := (b1.below T1).grown g2 (fun e => nBN e.symm)
      have b3 := b2.set 1 vn'
      have q2 : Box w2 w.heap.size #[eU 0, .slice none 0 0] 72 := (q1.below T1).grown g2 (fun e => nQN e.symm)
      have q3 := q2.setNe (a := ⟨B, 1, none⟩) (by show w.heap.size ≠ B; omega) vn'
      have hs1 := g1.size
      have hs2 := T1.size
      have hs3 := g2.size
      have hM2 : MapP w2 Bm (N.length + 1) (fun j => if j = p then some w.heap.size else F j) := (hM.below T1).kept g2 (fun e => nMN e.symm)
      have hM3 : MapP (w2.setCell ⟨B, 1, none⟩ vn') Bm (N.length + 1) (fun j => if j = p then some w.heap.size else F j) := hM2.off (S := fun k => k = B) (Off.set (S := fun k => k = B) (Off.of (Below.refl _ _)) (B := B) rfl 1 vn') (fun e => nBM e.symm)
      have hN : (N.take (lowK p N) ++ p :: N.drop (lowK p N)).length = N.length + 1 := by simp; omega
      have hown3 : (w2.setCell ⟨B, 1, none⟩ vn').ownsRow 0 3 1 vn' (N.length + 1) (kC (N.take (lowK p N) ++ p :: N.drop (lowK p N))) := by
        rw [← kC_ins]
        refine (Off.set (S := fun k => k = B) (Off.of (Below.refl _ w2)) (B := B) rfl 1 vn').owns hown (fun g e e' => ?_)
        subst e'
        rcases hvv g e with h1 | h1
        · exact nBN h1
        · omega
      obtain ⟨t1, t2⟩ := h.shape (N' := N.take (lowK p N) ++ p :: N.drop (lowK p N)) (F' := fun j => if j = p then some w.heap.size else F j) (G' := fun j => if j = p then .slice none 0 0 else G j) (vn' := vn') o3 (by simpa using b3) (by rw [hN]; exact hM3) (by rw [hN]; exact hown3) d1
        (fun q hq => by
          rcases (d2 q).1 hq with rfl | hq
          · exact hp
          · exact h.rng q hq) (fun q => by
          rw [d2]
          show (if q = p then some w.heap.size else F q).isSome = true ↔ _
          by_cases e : q = p
          · simp [e]
          · rw [if_neg e, h.mem q]
            exact ⟨fun g => .inr g, fun g => by rcases g with g | g; exact absurd g e; exact g⟩) (fun g e => by
          rcases hvv g e with h1 | h1
          · exact .inl h1
          · exact .inr (by omega)) (fun q qb e => by
            by_cases e' : q = p
            · simp only [if_pos e'] at e
              cases e
              exact .inr ⟨Nat.le_refl _, by rw [e']; exact hpg, q3, if_pos e'⟩
            · simp only [if_neg e'] at e
              exact .inl ⟨e, if_neg e'⟩) (fun a b q ea eb => by
            have old : ∀ a q, F a = some q → q < w.heap.size := fun a q e => by obtain ⟨x, r1, _⟩ := h.page a q e; exact r1.lt
            by_cases e1 : a = p
            · by_cases e2 : b = p
              · rw [e1, e2]
              · simp only [if_pos e1] at ea; simp only [if_neg e2] at eb
                cases ea
                have := old b _ eb; omega
            · simp only [if_neg e1] at ea
              by_cases e2 : b = p
              · simp only [if_pos e2] at eb
                cases eb
                have := old a _ ea; omega
              · simp only [if_neg e2] at eb
                exact h.inj a b q ea eb) (fun q hq => (d2 q).2 (.inr (h.sub q hq)))
      exact ⟨w.heap.size, _, _, _, _, _, rfl, t2, t1, by simp, d2⟩
    have hpo := Lib.hid hpost
    have hFW : W0.heap.size = w.heap.size + 1 := hsz0
    have hnewN : ∀ w1, W0.grownBy w1 (some Bm) → ∀ n1, vn.ownBlock ≠ some (w1.drewN n1).heap.size := fun w1 g1 n1 e => by
      have h1 := (h.nums.lt _ e).2
      have h2 := g1.size
      have h3 : (w1.drewN n1).heap.size = w1.heap.size := by simp
      omega
    have hnwh := Lib.hid hnewN
    have hbw : ∀ (w1 : World) (n1 : Nat) (o : Obj) (w3 : World), Box w1 B #[.map (some Bm), vn, eI (m : Int)] 50 → ((w1.drewN n1).alloc o).grownBy w3 vn.ownBlock → Box w3 B #[.map (some Bm), vn, eI (m : Int)] 50 := fun w1 n1 o w3 hb hg => ((hb.below (below_drewN (Below.refl _ w1) n1)).alloc o).grown hg (fun e => nBN e.symm)
    have hbwh := Lib.hid hbw
    have cB := hbox0.cell 0
    clear hpost hb1 hnewN hbw d1 d2 h hnm hpg hBl hMl nQN nMN T0 bq hbox0 hnum0
    generalize hcon : N.contains p = bb at *
    clear hcon
    generalize lowK p N = r at *
    go_enter Tryd.func35, Tryd.ntmps35
    go_upto_region 5 with (at_mapUpdate; refine upd_p rfl _ _ _ rfl hmap0 (by omega) rfl p w.heap.size rfl hI hF rfl ?_; intro w1 hM1 g1)
    obtain ⟨b1, o1, q1⟩ := hb1h.out w1 g1
    have c1 := b1.cell 1
    have hS1 := hsrh.out w1 o1
    clear cB c0 hmap0
    go_upto_region 6 with (go_at_call 41; (with_reducible refine hS1.mono ?_); rintro e w2 ⟨rfl, n1, rfl⟩)
    have o2 : ((w1.drewN n1).alloc (.cells #[eI p] 3)).ownsRow 0 3 1 vn N.length (kC N) := own_below (own_below o1 (below_drewN (Below.refl _ w1) n1)) (up1 _ _)
    have hIn := hinh.out _ (w1.drewN n1).heap.size (Box.new (w1.drewN n1) 3 #[eI p]) (hnwh.out w1 g1 n1) o2
    clear hS1
    have hnx : (w1.drewN n1).heap.size = w1.heap.size := by simp
    rw [hnx] at hIn
    go_wp2_with (go_at_call 44; (with_reducible refine hIn.mono ?_); rintro e w3 ⟨v', rfl, k1, k2, k3⟩; obtain ⟨a', cap', rfl, _, _⟩ := own_len k1; have b3 := hbwh.out w1 n1 _ w3 b1 k2; have c3 := b3.cell 1; have f3 := b3.thaw 1)
    go_ret
    exact hpo.out _ _ _ _ hM1 g1 k1 k2 k3
end
end Go.Proofs.YtenghpgnhmglpaaDoor
