/- What the tree's call Get answers. No condition. -/
import Derived.Test.YtjfpemkdidoacaaTQ
import Derived.Test.YtjfpemkdidoacaaTO
namespace Go.Proofs.Ytjfpemkdidoacaa
open Go.RowKit Go.Shelf
set_option linter.unusedVariables false
namespace Tr
def get (k : Ky) : Tr → Option Int
  | nil => none
  | nd m r a b => if k = m.1 then some m.2 else if kLt k m.1 then get k a else get k b
end Tr
theorem ky_ne {k m : Ky} (h : k ≠ m) : ((m.1 == k.1) = true ∧ (m.2 == k.2) = false) ∨ (m.1 == k.1) = false := by
  rcases Decidable.em (m.1 = k.1) with h1 | h1
  · exact .inl ⟨by simpa using h1, by simpa using fun h2 : m.2 = k.2 => h (Prod.ext h1.symm h2.symm)⟩
  · exact .inr (by simpa using h1)
set_option maxRecDepth 100000 in
set_option maxHeartbeats 2000000 in
theorem get_any (tp : Value) (p0 : Pt) (t : Tr) (k : Ky) (w : World) (hT : ∀ w1, Below w.heap.size w w1 → Calls Try.prog 45 #[tp] w1 fun e w' => e = .returned (.pointer p0) ∧ w1 = w') (h : Tre w p0 t) :
    Calls Try.prog 17 #[tp, ky k] w fun e w' => e = .returned (.tuple #[eU ((t.get k).getD 0), .bool (t.get k).isSome]) ∧ Below w.heap.size w w' := by
  have T0 := up1 w (.cells #[eU k.1, eI k.2] 32)
  have hK := Box.new w 32 #[eU k.1, eI k.2]
  have hT := hT _ T0
  obtain ⟨W0, hW0⟩ : ∃ v, w.alloc (.cells #[eU k.1, eI k.2] 32) = v := ⟨_, rfl⟩
  rw [hW0] at T0 hK hT
  obtain ⟨G, hG⟩ : ∃ G, t.get k = G := ⟨_, rfl⟩
  rw [hG]
  replace hG := Lib.hid hG
  replace h := h.below T0
  go_enter Try.func17, Try.ntmps17
  go_wp2_with (go_at_call 45; (with_reducible refine hT.mono ?_); rintro e w1 ⟨rfl, rfl⟩)
  clear hW0 hT
  go_loopg [6] t.hgt (fun n s6 wr => ∃ (p : Pt) (s : Tr), s6 = .pointer p ∧ Tre wr p s ∧ s.hgt ≤ n ∧ Hid (s.get k = G) ∧ Box wr w.heap.size #[eU k.1, eI k.2] 32 ∧ Below w.heap.size w wr)
  case atStart => exact ⟨p0, t, rfl, h, Nat.le_refl _, hG, hK, T0⟩
  case round =>
    obtain ⟨p, s, rfl, hs, hn, hg, hK1, T1⟩ := hrel
    clear h hK T0 hG
    obtain ⟨k0, k1⟩ := kyC hK1
    cases s with
    | nil =>
      obtain rfl : p = none := hs
      have hg : none = G := hg.out
      subst hg
      go_upto_region 2 with (fail)
      go_quiet (fail)
      go_wp2
      go_ret2
      exact ⟨rfl, below_drewN T1 _⟩
    | nd m r a b =>
      obtain ⟨B, pl, pr, rfl, hB, hw, ha, hb⟩ := hs.open
      obtain ⟨c0, c1, c2, c3, c4, c5, c6⟩ := nodC hB
      by_cases hk : k = m.1
      · subst hk
        have hg : some m.2 = G := by have := hg.out; simpa [Tr.get] using this
        subst hg
        go_upto_region 2 with (fail)
        go_quiet (fail)
        go_wp2
        go_ret2
        exact ⟨rfl, below_drewN T1 _⟩
      · go_upto_region 2 with (fail)
        go_cut [19] from 10 to 33 (fun s19 wx => s19 = .bool true ∧ ∃ n, wx = wr.drewN n)
        case first =>
          rcases ky_ne hk with ⟨h1, h2⟩ | h1
          · go_quiet (fail)
            go_wp2_with fail
            go_meet
            exact ⟨rfl, _, rfl⟩
          · go_quiet (fail)
            go_wp2_with fail
            go_meet
            exact ⟨rfl, _, rfl⟩
        case rest =>
        obtain ⟨rfl, nq, rfl⟩ := hcut
        have T2 := below_drewN T1 nq
        have hB2 := hB.below (below_drewN (Below.refl _ wr) nq)
        have hK2 := hK1.below (below_drewN (Below.refl _ wr) nq)
        have ha2 := Tre.drewN (W := wr) ha nq
        have hb2 := Tre.drewN (W := wr) hb nq
        obtain ⟨W2, hW2⟩ : ∃ v, wr.drewN nq = v := ⟨_, rfl⟩
        rw [hW2] at T2 hB2 hK2 ha2 hb2 ⊢
        clear hW2 k0 k1 c0 c1 c2 c3 c4 c5 c6 hB hK1 ha hb hs T1
        have hL := less_any k m.1
        go_upto_region 3 with (fail)
        have hS : ∀ w', Below W2.heap.size W2 w' → (w'.cell? ⟨w.heap.size, 0, none⟩ = some (.int .u64 k.1) ∧ w'.cell? ⟨w.heap.size, 1, none⟩ = some (.int .i64 k.2)) ∧ w'.cell? ⟨B, 0, none⟩ = some (.int .u64 m.1.1) ∧ w'.cell? ⟨B, 1, none⟩ = some (.int .i64 m.1.2) := fun w' h =>
          ⟨kyC (hK2.below h), (nodC (hB2.below h)).1, (nodC (hB2.below h)).2.1⟩
        have hS0 := hS W2 (Below.refl _ _)
        obtain ⟨⟨k0, k1⟩, c0, c1⟩ := id hS0
        go_region_held3 (fun w' => (w'.cell? ⟨w.heap.size, 0, none⟩ = some (.int .u64 k.1) ∧ w'.cell? ⟨w.heap.size, 1, none⟩ = some (.int .i64 k.2)) ∧ w'.cell? ⟨B, 0, none⟩ = some (.int .u64 m.1.1) ∧ w'.cell? ⟨B, 1, none⟩ = some (.int .i64 m.1.2))
          (first | exact hS0 | exact hS _ hb3)
          (first
            | (go_at_call 36; (with_reducible refine (hL _).mono ?_); rintro e w3 ⟨rfl, hb3⟩; (first | replace hb3 := undrew hb3 | replace hb3 := undrewN hb3 | skip)))
        clear hS hS0 k0 k1 c0 c1 hL
        have T3 := upp T2 hb3
        have hB3 := hB2.below hb3
        have hK3 := hK2.below hb3
        obtain ⟨c0, c1, c2, c3, c4, c5, c6⟩ := nodC hB3
        by_cases hlt : kLt k m.1
        · have hg2 : a.get k = G := by have := hg.out; simpa [Tr.get, hk, hlt] using this
          rw [show decide (kLt k m.1) = true by simpa using hlt]
          replace hg2 := Lib.hid hg2
          go_wp2
          go_roundg (gk - 1)
          case measure => have := hn; simp only [Tr.hgt] at this; omega
          case rel => exact ⟨pl, a, rfl, ha2.below hb3, by have := hn; simp only [Tr.hgt] at this; omega, hg2, hK3, T3⟩
        · have hg2 : b.get k = G := by have := hg.out; simpa [Tr.get, hk, hlt] using this
          rw [show decide (kLt k m.1) = false by simpa using hlt]
          replace hg2 := Lib.hid hg2
          go_wp2
          go_roundg (gk - 1)
          case measure => have := hn; simp only [Tr.hgt] at this; omega
          case rel => exact ⟨pr, b, rfl, hb2.below hb3, by have := hn; simp only [Tr.hgt] at this; omega, hg2, hK3, T3⟩
end Go.Proofs.Ytjfpemkdidoacaa
