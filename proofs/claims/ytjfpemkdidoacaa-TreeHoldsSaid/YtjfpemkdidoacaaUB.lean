/- What the tree's call leans answers of a part that leans. No condition but that it isn't higher than there is room. -/
import Derived.Test.YtjfpemkdidoacaaTV
namespace Go.Proofs.Ytjfpemkdidoacaa
open Go.RowKit Go.Shelf
set_option linter.unusedVariables false
namespace Tr
/-- It leans: so many black nodes on each way down. -/
def LL : Nat → Tr → Prop
  | h, .nil => h = 0
  | h, .nd m r a b => ∃ g, h = (if r then g else g + 1) ∧ LL g a ∧ LL g b ∧ b.isRed = false ∧ (r = true → a.isRed = false)
end Tr
abbrev eqV : Value := .func (.func 30) #[] #[]
set_option maxRecDepth 100000 in
set_option maxHeartbeats 2000000 in
theorem leans_any (Bt : Nat) (tp : Pt) (tn : Int) (t : Tr) : ∀ (h : Nat) (p : Pt) (w : World), t.LL h → h < 4611686018427387904 → Box w Bt (tree tp tn) 57 → Tre w p t →
    Calls Try.prog 56 #[.pointer (some ⟨Bt, 0, none⟩), .pointer p, eqV] w fun e w' => e = .returned (.tuple #[eI h, .bool true]) ∧ Below w.heap.size w w' := by
  induction t with
  | nil =>
    intro h p w hh _ ht hp
    obtain rfl : p = none := hp
    obtain rfl : h = 0 := hh
    go_enter Try.func56, Try.ntmps56
    go_wp2
    go_ret2
    exact ⟨rfl, Below.refl _ _⟩
  | nd m r a b iha ihb =>
    intro h p w hh hlt ht hp
    have hq := hp.nod
    obtain ⟨g, hg, hla, hlb, hrb, hra⟩ := hh
    obtain ⟨B, pl, pr, rfl, hB, hw, ha, hb⟩ := hp.open
    have hgl : g < 4611686018427387904 := by cases r <;> simp at hg <;> omega
    have h1 := iha g pl w hla hgl ht ha
    have h2 := fun w1 (k : Below w.heap.size w w1) => ihb g pr w1 hlb hgl (ht.below k) (hb.below k)
    have hRb := fun w1 (k : Below w.heap.size w w1) => isRed_tre pr b w1 (hb.below k)
    have hRa := fun w1 (k : Below w.heap.size w w1) => isRed_tre pl a w1 (ha.below k)
    rw [hrb] at hRb
    have hT := fun w1 (k : Below w.heap.size w w1) => total_any Bt tp tn (some ⟨B, 0, none⟩) m r w1 pl pr a b (ht.below k) (hq.below k) (ha.below k) (hb.below k)
    have hE := fun w1 => equal_any (Tr.nd m r a b).sum (Tr.nd m r a b).sum w1
    rw [show decide ((Tr.nd m r a b).sum = (Tr.nd m r a b).sum) = true by simp] at hE
    obtain ⟨S, hS⟩ : ∃ S, (Tr.nd m r a b).sum = S := ⟨_, rfl⟩
    rw [hS] at hT hE hB
    have hgl' := Lib.hid hgl
    clear hS iha ihb hp hla hlb hrb hlt hgl ha hb hw
    obtain ⟨c0, c1, c2, c3, c4, c5, c6⟩ := nodC hB
    have hne : ((g : Int) != (g : Int)) = false := by simp
    have hu := undef_ne
    have hX : ∀ w1, Below w.heap.size w w1 → (w1.cell? ⟨B, 6, none⟩ = some (.int .u64 S) ∧ w1.cell? ⟨B, 4, none⟩ = some (.pointer pl) ∧ w1.cell? ⟨B, 5, none⟩ = some (.pointer pr)) := fun w1 k => ⟨(nodC (hB.below k)).2.2.2.2.2.2, (nodC (hB.below k)).2.2.2.2.1, (nodC (hB.below k)).2.2.2.2.2.1⟩
    cases r with
    | true =>
      have hra := hra rfl
      rw [hra] at hRa
      obtain rfl : h = g := by simpa using hg
      clear hg
      go_enter Try.func56, Try.ntmps56
      go_upto_region 7 with (first
        | (go_at_call 56; (with_reducible refine h1.mono ?_); clear h1; rintro e w1 ⟨rfl, hb1⟩; have d5 := (nodC (hB.below hb1)).2.2.2.2.2.1)
        | (go_at_call 56; (with_reducible refine (h2 _ hb1).mono ?_); clear h2; rintro e w2 ⟨rfl, hb2⟩; have T2 := upp hb1 hb2; have e3 := (nodC (hB.below T2)).2.2.2.1; have e4 := (nodC (hB.below T2)).2.2.2.2.1; have e5 := (nodC (hB.below T2)).2.2.2.2.2.1)
        | (go_at_call 57; (with_reducible refine (hRb _ T2).mono ?_); clear hRb; rintro e w3 ⟨rfl, rfl⟩)
        | (go_at_call 57; (with_reducible refine (hRa _ T2).mono ?_); clear hRa; rintro e w3 ⟨rfl, rfl⟩))
      have hS0 := hX _ T2
      obtain ⟨d6, d4, d5'⟩ := id hS0
      go_region_held3 (fun w' => w'.cell? ⟨B, 6, none⟩ = some (.int .u64 S) ∧ w'.cell? ⟨B, 4, none⟩ = some (.pointer pl) ∧ w'.cell? ⟨B, 5, none⟩ = some (.pointer pr))
        (first | exact hS0 | exact hX _ (upp T2 hb4) | exact hX _ (upp (upp T2 hb4) hb5))
        (first
          | (go_at_call 66; (with_reducible refine (hT _ (by first | exact T2 | exact T2.drew | exact below_drewN T2 _)).mono ?_); rintro e w4 ⟨rfl, hb4⟩; (first | replace hb4 := undrew hb4 | replace hb4 := undrewN hb4 | skip))
          | (go_at_call 30; (with_reducible refine (hE _).mono ?_); rintro e w5 ⟨rfl, hb5⟩; (first | replace hb5 := undrew hb5 | replace hb5 := undrewN hb5 | skip)))
      have T5 := upp (upp T2 hb4) hb5
      have q3 := (nodC (hB.below T5)).2.2.2.1
      go_wp2
      go_ret2
      exact ⟨rfl, T5⟩
    | false =>
      obtain rfl : h = g + 1 := by simpa using hg
      clear hg hra hRa
      have hwr : IntKind.i64.wrap ((g : Int) + 1) = (g : Int) + 1 := wrap_id (by omega) (by have := hgl'.out; omega)
      clear hgl'
      go_enter Try.func56, Try.ntmps56
      go_upto_region 7 with (first
        | (go_at_call 56; (with_reducible refine h1.mono ?_); clear h1; rintro e w1 ⟨rfl, hb1⟩; have d5 := (nodC (hB.below hb1)).2.2.2.2.2.1)
        | (go_at_call 56; (with_reducible refine (h2 _ hb1).mono ?_); clear h2; rintro e w2 ⟨rfl, hb2⟩; have T2 := upp hb1 hb2; have e3 := (nodC (hB.below T2)).2.2.2.1; have e4 := (nodC (hB.below T2)).2.2.2.2.1; have e5 := (nodC (hB.below T2)).2.2.2.2.2.1)
        | (go_at_call 57; (with_reducible refine (hRb _ T2).mono ?_); clear hRb; rintro e w3 ⟨rfl, rfl⟩)
        | (go_at_call 57; (with_reducible refine (hRa _ T2).mono ?_); clear hRa; rintro e w3 ⟨rfl, rfl⟩))
      have hS0 := hX _ T2
      obtain ⟨d6, d4, d5'⟩ := id hS0
      go_region_held3 (fun w' => w'.cell? ⟨B, 6, none⟩ = some (.int .u64 S) ∧ w'.cell? ⟨B, 4, none⟩ = some (.pointer pl) ∧ w'.cell? ⟨B, 5, none⟩ = some (.pointer pr))
        (first | exact hS0 | exact hX _ (upp T2 hb4) | exact hX _ (upp (upp T2 hb4) hb5))
        (first
          | (go_at_call 66; (with_reducible refine (hT _ (by first | exact T2 | exact T2.drew | exact below_drewN T2 _)).mono ?_); rintro e w4 ⟨rfl, hb4⟩; (first | replace hb4 := undrew hb4 | replace hb4 := undrewN hb4 | skip))
          | (go_at_call 30; (with_reducible refine (hE _).mono ?_); rintro e w5 ⟨rfl, hb5⟩; (first | replace hb5 := undrew hb5 | replace hb5 := undrewN hb5 | skip)))
      have T5 := upp (upp T2 hb4) hb5
      have q3 := (nodC (hB.below T5)).2.2.2.1
      go_wp2
      go_ret2
      exact ⟨rfl, T5⟩
end Go.Proofs.Ytjfpemkdidoacaa
