/- What the tree's calls find and Find answer, where the question is whether a value is at most a number. No condition. -/
import Derived.Test.YtjfpemkdidoacaaTW
namespace Go.Proofs.Ytjfpemkdidoacaa
open Go.RowKit Go.Shelf
set_option linter.unusedVariables false
namespace Tr
def fndT (y : Int) : Tr → Option It
  | nil => none
  | nd m r a b => if (nd m r a b).sum ≤ y then (match fndT y a with | some x => some x | none => if m.2 ≤ y then some m else fndT y b) else none
end Tr
abbrev okV (y : Int) : Value := .func (.func 23) #[eU y] #[]
/-- The result's block, written. -/
theorem keyset {w W : World} {B : Nat} {k k' : Ky} (h : Box W B #[eU k.1, eI k.2] 32) : Box ((W.setCell ⟨B, 0, none⟩ (.int .u64 k'.1)).setCell ⟨B, 1, none⟩ (.int .i64 k'.2)) B #[eU k'.1, eI k'.2] 32 := (h.set 0 (eU k'.1)).set 1 (eI k'.2)
theorem below_key {w W : World} {B : Nat} {k : Ky} (h : Below w.heap.size w W) (hB : w.heap.size ≤ B) : Below w.heap.size w ((W.setCell ⟨B, 0, none⟩ (.int .u64 k.1)).setCell ⟨B, 1, none⟩ (.int .i64 k.2)) :=
  (h.setCell (p := ⟨B, 0, none⟩) hB _).setCell (p := ⟨B, 1, none⟩) hB _
def FndAt (Bt : Nat) (tp : Pt) (tn y : Int) (t : Tr) : Prop :=
  ∀ (p : Pt) (w : World), Box w Bt (tree tp tn) 57 → Tre w p t →
    Calls Try.prog 50 #[.pointer (some ⟨Bt, 0, none⟩), .pointer p, okV y] w fun e w' => e = .returned (fstV (t.fndT y)) ∧ Below w.heap.size w w'
theorem find_nil (tq : Value) (y : Int) (w : World) : Calls Try.prog 50 #[tq, .pointer none, okV y] w fun e w' => e = .returned (.tuple #[.agg #[eU 0, eI 0], .bool false]) ∧ Below w.heap.size w w' := by
  have b1 := Box.new w 32 #[eU 0, eI 0]
  have T0 := up1 w (.cells #[eU 0, eI 0] 32)
  obtain ⟨W0, hW0⟩ : ∃ v, w.alloc (.cells #[eU 0, eI 0] 32) = v := ⟨_, rfl⟩
  rw [hW0] at b1 T0
  have f0 := b1.thaw 0
  have f1 := b1.thaw 1
  obtain ⟨c0, c1⟩ := kyC (k := (0, 0)) b1
  have l0 := b1.lt
  go_enter Try.func50, Try.ntmps50
  go_wp2
  obtain ⟨d0, d1⟩ := kyC (keyset (w := w) (k := (0, 0)) (k' := (0, 0)) b1)
  exact bodyPost_ret (v := .tuple #[.agg #[eU 0, eI 0], .bool false]) (by simp [results, Try.results50, go_sem, d0, d1]) rfl ⟨rfl, below_key (k := (0, 0)) T0 (Nat.le_refl _)⟩
set_option maxRecDepth 100000 in
set_option maxHeartbeats 2000000 in
theorem find_any (Bt : Nat) (tp : Pt) (tn y : Int) (t : Tr) : FndAt Bt tp tn y t := by
  induction t with
  | nil =>
    intro p w ht hp
    obtain rfl : p = none := hp
    exact find_nil _ y w
  | nd m r a b iha ihb =>
    intro p w ht hp
    have hq := hp.nod
    obtain ⟨B, pl, pr, rfl, hB, hw, ha, hb⟩ := hp.open
    have b1 := Box.new w 32 #[eU 0, eI 0]
    have T0 := up1 w (.cells #[eU 0, eI 0] 32)
    obtain ⟨W0, hW0⟩ : ∃ v, w.alloc (.cells #[eU 0, eI 0] 32) = v := ⟨_, rfl⟩
    rw [hW0] at b1 T0
    have c6 := (nodC (hB.below T0)).2.2.2.2.2.2
    by_cases hs : (Tr.nd m r a b).sum ≤ y
    · have eF : (Tr.nd m r a b).fndT y = (match a.fndT y with | some x => some x | none => if m.2 ≤ y then some m else b.fndT y) := by
        show (if _ then _ else _) = _
        rw [if_pos hs]
      have hO1 := fun w1 => ok_any y (Tr.nd m r a b).sum w1
      rw [show decide ((Tr.nd m r a b).sum ≤ y) = true by simpa using hs] at hO1
      obtain ⟨F, hF⟩ : ∃ F, (Tr.nd m r a b).fndT y = F := ⟨_, rfl⟩
      rw [hF] at eF ⊢
      replace eF := Lib.hid eF
      clear hF hs
      generalize (Tr.nd m r a b).sum = S at *
      have hL := fun w1 (h : Below w.heap.size w w1) => iha pl w1 (ht.below h) (ha.below h)
      have hR := fun w1 (h : Below w.heap.size w w1) => ihb pr w1 (ht.below h) (hb.below h)
      cases hfa : a.fndT y with
      | some x =>
        rw [hfa] at hL
        have hF : F = some x := by rw [eF.out, hfa]
        subst hF
        clear eF hfa hR iha ihb
        show Calls _ _ _ _ fun e w' => e = .returned (.tuple #[.agg #[eU x.1.1, eI x.1.2], .bool true]) ∧ Below w.heap.size w w'
        replace hL : ∀ w1, Below w.heap.size w w1 → Calls Try.prog 50 #[.pointer (some ⟨Bt, 0, none⟩), .pointer pl, okV y] w1 fun e w' => e = .returned (.tuple #[.agg #[eU x.1.1, eI x.1.2], .bool true]) ∧ Below w1.heap.size w1 w' := hL
        go_enter Try.func50, Try.ntmps50
        go_upto_region 3 with (go_at_call 23; (with_reducible refine (hO1 _).mono ?_); rintro e w1 ⟨rfl, hb1⟩)
        clear hW0
        have T1 := upp T0 hb1
        have c4 := (nodC (hB.below T1)).2.2.2.2.1
        go_upto_region 5 with (go_at_call 50; (with_reducible refine (hL _ T1).mono ?_); rintro e w2 ⟨rfl, hb2⟩)
        have T2 := upp T1 hb2
        have b2 := (b1.below (upp hb1 hb2)).alloc (.cells #[eU x.1.1, eI x.1.2] 32)
        have b3 := Box.new w2 32 #[eU x.1.1, eI x.1.2]
        have T3 := T2.alloc T2.size (.cells #[eU x.1.1, eI x.1.2] 32)
        obtain ⟨W3, hW3⟩ : ∃ v, w2.alloc (.cells #[eU x.1.1, eI x.1.2] 32) = v := ⟨_, rfl⟩
        rw [hW3] at b2 b3 T3 ⊢
        clear hW3
        obtain ⟨k0, k1⟩ := kyC b3
        have f0 := b2.thaw 0
        have f1 := b2.thaw 1
        obtain ⟨c0, c1⟩ := kyC (k := (0, 0)) b2
        have l0 := b2.lt
        go_wp2
        obtain ⟨d0, d1⟩ := kyC (keyset (w := w) (k := (0, 0)) (k' := x.1) b2)
        exact bodyPost_ret (v := .tuple #[.agg #[eU x.1.1, eI x.1.2], .bool true]) (by simp [results, Try.results50, go_sem, d0, d1]) rfl ⟨rfl, below_key (k := x.1) T3 (Nat.le_refl _)⟩
      | none =>
        rw [hfa] at hL
        have hF : F = if m.2 ≤ y then some m else b.fndT y := by rw [eF.out, hfa]
        clear eF hfa iha ihb
        replace hL : ∀ w1, Below w.heap.size w w1 → Calls Try.prog 50 #[.pointer (some ⟨Bt, 0, none⟩), .pointer pl, okV y] w1 fun e w' => e = .returned (.tuple #[.agg #[eU 0, eI 0], .bool false]) ∧ Below w1.heap.size w1 w' := hL
        have hO2 := fun w1 => ok_any y m.2 w1
        replace hF := Lib.hid hF
        go_enter Try.func50, Try.ntmps50
        go_upto_region 3 with (go_at_call 23; (with_reducible refine (hO1 _).mono ?_); rintro e w1 ⟨rfl, hb1⟩)
        clear hW0
        have T1 := upp T0 hb1
        have c4 := (nodC (hB.below T1)).2.2.2.2.1
        go_upto_region 6 with (go_at_call 50; (with_reducible refine (hL _ T1).mono ?_); rintro e w2 ⟨rfl, hb2⟩)
        have T2 := upp T1 hb2
        have b2 := (b1.below (upp hb1 hb2)).alloc (.cells #[eU 0, eI 0] 32)
        have T3 := T2.alloc T2.size (.cells #[eU 0, eI 0] 32)
        obtain ⟨W3, hW3⟩ : ∃ v, w2.alloc (.cells #[eU 0, eI 0] 32) = v := ⟨_, rfl⟩
        rw [hW3] at b2 T3 ⊢
        clear hW3 b1 T0 T1 T2 hb1 hb2 c4 c6 hL hO1
        have hS : ∀ w', Below W3.heap.size W3 w' → w'.cell? ⟨Bt, 0, none⟩ = some (.func (.func 33) #[] #[]) ∧ w'.cell? ⟨B, 0, none⟩ = some (.int .u64 m.1.1) ∧ w'.cell? ⟨B, 1, none⟩ = some (.int .i64 m.1.2) ∧ w'.cell? ⟨B, 2, none⟩ = some (.int .u64 m.2) := fun w' h =>
          ⟨(trC (ht.below (upp T3 h))).1, (nodC (hB.below (upp T3 h))).1, (nodC (hB.below (upp T3 h))).2.1, (nodC (hB.below (upp T3 h))).2.2.1⟩
        have hS0 := hS W3 (Below.refl _ _)
        obtain ⟨t0, c0, c1, c2⟩ := id hS0
        go_region_held3 (fun w' => w'.cell? ⟨Bt, 0, none⟩ = some (.func (.func 33) #[] #[]) ∧ w'.cell? ⟨B, 0, none⟩ = some (.int .u64 m.1.1) ∧ w'.cell? ⟨B, 1, none⟩ = some (.int .i64 m.1.2) ∧ w'.cell? ⟨B, 2, none⟩ = some (.int .u64 m.2))
          (first | exact hS0 | exact hS _ hb4 | exact hS _ (upp hb4 hb5))
          (first
            | (go_at_call 33; (with_reducible refine (value_any m.1 m.2 _).mono ?_); rintro e w4 ⟨rfl, hb4⟩; (first | replace hb4 := undrew hb4 | replace hb4 := undrewN hb4 | skip))
            | (go_at_call 23; (with_reducible refine (hO2 _).mono ?_); rintro e w5 ⟨rfl, hb5⟩; (first | replace hb5 := undrew hb5 | replace hb5 := undrewN hb5 | skip)))
        clear hS hS0 t0 c0 c1 c2 hO2
        have hb6 := upp hb4 hb5
        have T5 := upp T3 hb6
        have b5 := b2.below hb6
        clear hb4 hb5 hb6 T3 b2
        by_cases hm : m.2 ≤ y
        · have hF : F = some m := by rw [hF.out, if_pos hm]
          subst hF
          rw [show decide (m.2 ≤ y) = true by simpa using hm]
          have f0 := b5.thaw 0
          have f1 := b5.thaw 1
          obtain ⟨r0, r1⟩ := kyC (k := (0, 0)) b5
          have l0 := b5.lt
          obtain ⟨c0, c1, _⟩ := nodC (hB.below T5)
          go_wp2
          obtain ⟨d0, d1⟩ := kyC (keyset (w := w) (k := (0, 0)) (k' := m.1) b5)
          exact bodyPost_ret (v := .tuple #[.agg #[eU m.1.1, eI m.1.2], .bool true]) (by simp [results, Try.results50, go_sem, d0, d1]) rfl ⟨rfl, below_key (k := m.1) T5 (Nat.le_refl _)⟩
        · have hF : F = b.fndT y := by rw [hF.out, if_neg hm]
          subst hF
          rw [show decide (m.2 ≤ y) = false by simpa using hm]
          have hR := hR _ T5
          have c5 := (nodC (hB.below T5)).2.2.2.2.2.1
          cases hO : b.fndT y with
          | none =>
            rw [hO] at hR
            replace hO := Lib.hid hO
            replace hR : Calls Try.prog 50 #[.pointer (some ⟨Bt, 0, none⟩), .pointer pr, okV y] w5 fun e w' => e = .returned (.tuple #[.agg #[eU 0, eI 0], .bool false]) ∧ Below w5.heap.size w5 w' := hR
            go_wp2_with (go_at_call 50; (with_reducible refine hR.mono ?_); rintro e w6 ⟨rfl, hb6⟩; have b6 := b5.below hb6; have f0 := b6.thaw 0; have f1 := b6.thaw 1; obtain ⟨r0, r1⟩ := kyC (k := (0, 0)) b6; have l0 := b6.lt)
            obtain ⟨d0, d1⟩ := kyC (keyset (w := w) (k := (0, 0)) (k' := (0, 0)) b6)
            exact bodyPost_ret (v := .tuple #[.agg #[eU 0, eI 0], .bool false]) (by simp [results, Try.results50, go_sem, d0, d1]) rfl ⟨by rw [hO.out]; rfl, below_key (k := (0, 0)) (upp T5 hb6) (Nat.le_refl _)⟩
          | some x =>
            rw [hO] at hR
            replace hO := Lib.hid hO
            replace hR : Calls Try.prog 50 #[.pointer (some ⟨Bt, 0, none⟩), .pointer pr, okV y] w5 fun e w' => e = .returned (.tuple #[.agg #[eU x.1.1, eI x.1.2], .bool true]) ∧ Below w5.heap.size w5 w' := hR
            go_wp2_with (go_at_call 50; (with_reducible refine hR.mono ?_); rintro e w6 ⟨rfl, hb6⟩; have b6 := b5.below hb6; have f0 := b6.thaw 0; have f1 := b6.thaw 1; obtain ⟨r0, r1⟩ := kyC (k := (0, 0)) b6; have l0 := b6.lt)
            obtain ⟨d0, d1⟩ := kyC (keyset (w := w) (k := (0, 0)) (k' := x.1) b6)
            exact bodyPost_ret (v := .tuple #[.agg #[eU x.1.1, eI x.1.2], .bool true]) (by simp [results, Try.results50, go_sem, d0, d1]) rfl ⟨by rw [hO.out]; rfl, below_key (k := x.1) (upp T5 hb6) (Nat.le_refl _)⟩
    · have eF : (Tr.nd m r a b).fndT y = none := if_neg hs
      rw [eF]
      have hO1 := fun w1 => ok_any y (Tr.nd m r a b).sum w1
      rw [show decide ((Tr.nd m r a b).sum ≤ y) = false by simpa using hs] at hO1
      clear eF hs iha ihb
      generalize (Tr.nd m r a b).sum = S at *
      show Calls _ _ _ _ fun e w' => e = .returned (.tuple #[.agg #[eU 0, eI 0], .bool false]) ∧ Below w.heap.size w w'
      go_enter Try.func50, Try.ntmps50
      go_wp2_with (go_at_call 23; (with_reducible refine (hO1 _).mono ?_); rintro e w6 ⟨rfl, hb6⟩; have b6 := b1.below hb6; have f0 := b6.thaw 0; have f1 := b6.thaw 1; obtain ⟨r0, r1⟩ := kyC (k := (0, 0)) b6; have l0 := b6.lt)
      obtain ⟨d0, d1⟩ := kyC (keyset (w := w) (k := (0, 0)) (k' := (0, 0)) b6)
      exact bodyPost_ret (v := .tuple #[.agg #[eU 0, eI 0], .bool false]) (by simp [results, Try.results50, go_sem, d0, d1]) rfl ⟨rfl, below_key (k := (0, 0)) (upp T0 hb6) (Nat.le_refl _)⟩
end Go.Proofs.Ytjfpemkdidoacaa
