/- What the tree's call shortRight answers. No condition. -/
import Derived.Test.YtjfpemkdidoacaaTG
namespace Go.Proofs.Ytjfpemkdidoacaa
open Go.RowKit Go.Shelf
set_option linter.unusedVariables false
namespace Tr
theorem shr_no {m : It} {r : Bool} {b a : Tr} (h : a.isRed = false) : shr m r b a = evn r (mend m false (a.tint true) b) := by
  cases a with
  | nil => rfl
  | nd ma ra x y =>
    cases ra with
    | false => rfl
    | true => simp [isRed] at h
end Tr
def ShrAt (Bt : Nat) (tp : Pt) (tn : Int) (a : Tr) : Prop :=
  ∀ (q : Pt) (m : It) (r : Bool) (w : World) (pl pr : Pt) (b : Tr), Box w Bt (tree tp tn) 57 → Nod w q m r → Tre w pl a → Tre w pr b →
    Calls Try.prog 64 #[.pointer (some ⟨Bt, 0, none⟩), .pointer q, .pointer pl, .pointer pr] w fun e w' => ∃ p' : Pt, e = .returned (.tuple #[.pointer p', .bool (Tr.shr m r b a).2]) ∧ Tre w' p' (Tr.shr m r b a).1 ∧ Below w.heap.size w w'
set_option maxRecDepth 100000 in
set_option maxHeartbeats 2000000 in
theorem shortRight_of (Bt : Nat) (tp : Pt) (tn : Int) (a : Tr) (hI : ∀ m r x y, a = .nd m r x y → ShrAt Bt tp tn y) : ShrAt Bt tp tn a := by
  intro q m r w pl pr b ht hq hl hr
  have hR := isRed_tre pl a w hl
  cases ha : a.isRed with
  | false =>
    rw [ha] at hR
    have h1 := tinted_tre pl a true w hl
    have h2 := fun w1 p1 (h : Below w.heap.size w w1) (h1 : Tre w1 p1 (a.tint true)) => mended_any Bt tp tn b q m r false w1 p1 pr (a.tint true) (ht.below h) (hq.below h) h1 (hr.below h)
    have h3 := fun w1 p1 (h : Below w.heap.size w w1) (h1 : Tre w1 p1 (Tr.mend m false (a.tint true) b)) => evened_any q m r p1 _ w1 (hq.below h) h1 (Tr.mend_nd ..)
    rw [Tr.shr_no ha]
    clear ha hI
    generalize hM : Tr.mend m false (a.tint true) b = M at *
    go_enter Try.func64, Try.ntmps64
    go_wp2_with (first
      | (go_at_call 57; (with_reducible refine hR.mono ?_); rintro e w1 ⟨rfl, rfl⟩)
      | (go_at_call 60; (with_reducible refine h1.mono ?_); rintro e w1 ⟨p1, rfl, hT1, hb1⟩)
      | (go_at_call 62; (with_reducible refine (h2 _ _ hb1 hT1).mono ?_); rintro e w2 ⟨p2, rfl, hT2, hb2⟩)
      | (go_at_call 69; (with_reducible refine (h3 _ _ (upp hb1 hb2) hT2).mono ?_); rintro e w3 ⟨p3, rfl, hT3, hb3⟩))
    go_ret2
    exact ⟨p3, rfl, hT3, upp (upp hb1 hb2) hb3⟩
  | true =>
    rw [ha] at hR
    cases a with
    | nil => cases ha
    | nd ml ra x y =>
      obtain rfl : ra = true := ha
      have hq3 := hl.nod
      obtain ⟨B, px, py, rfl, hB, hw, hx, hy⟩ := hl.open
      have h1 := fun w1 (h : Below w.heap.size w w1) => tinted_nod q m r true w1 (hq.below h)
      have h2 := fun w1 q1 (h : Below w.heap.size w w1) (h1 : Nod w1 q1 m true) => hI ml true x y rfl q1 m true w1 py pr b (ht.below h) h1 (hy.below h) (hr.below h)
      have h3 := fun w1 p1 (h : Below w.heap.size w w1) (h1 : Tre w1 p1 (Tr.shr m true b y).1) => mended_any Bt tp tn _ (some ⟨B, 0, none⟩) ml true false w1 px p1 x (ht.below h) (hq3.below h) (hx.below h) h1
      show Calls _ _ _ _ fun e w' => ∃ p' : Pt, e = .returned (.tuple #[.pointer p', .bool false]) ∧ Tre w' p' (Tr.mend ml false x (Tr.shr m true b y).1) ∧ Below w.heap.size w w'
      generalize hM : Tr.shr m true b y = M at *
      go_enter Try.func64, Try.ntmps64
      go_upto_region 2 with (go_at_call 57; (with_reducible refine hR.mono ?_); rintro e w1 ⟨rfl, rfl⟩)
      go_cut [3] (fun s3 wx => ∃ p1 : Pt, s3 = .pointer p1 ∧ Tre wx p1 M.1 ∧ Below w.heap.size w wx)
      case first =>
        have c5 := (nodC hB).2.2.2.2.2.1
        go_region_held3 (fun w' => w'.cell? ⟨B, 5, none⟩ = some (.pointer py))
          (first | exact c5 | exact (nodC (hB.below hb1)).2.2.2.2.2.1 | exact (nodC (hB.below (upp hb1 hb2))).2.2.2.2.2.1)
          (first
            | (go_at_call 60; (with_reducible refine (h1 _ (by first | exact Below.refl _ _ | exact (Below.refl _ _).drew | exact below_drewN (Below.refl _ _) _)).mono ?_); rintro e w1 ⟨q1, rfl, hQ1, hb1⟩; (first | replace hb1 := undrew hb1 | replace hb1 := undrewN hb1 | skip))
            | (go_at_call 64; (with_reducible refine (h2 _ q1 (by first | exact hb1 | exact hb1.drew | exact below_drewN hb1 _) (by first | exact hQ1 | exact hQ1.below (Below.refl _ _).drew | exact hQ1.below (below_drewN (Below.refl _ _) _))).mono ?_); rintro e w2 ⟨p2, rfl, hT2, hb2⟩; (first | replace hb2 := undrew hb2 | replace hb2 := undrewN hb2 | skip)))
        all_goals
          go_wp2_with fail
          go_meet
          exact ⟨p2, rfl, hT2, upp hb1 hb2⟩
      case rest =>
        obtain ⟨p1, rfl, hT1, hb1⟩ := hcut
        rename World => W1
        have c4 := (nodC (hB.below hb1)).2.2.2.2.1
        go_wp2_with (go_at_call 62; (with_reducible refine (h3 _ _ hb1 hT1).mono ?_); rintro e w2 ⟨p2, rfl, hT2, hb2⟩)
        go_ret2
        exact ⟨p2, rfl, hT2, upp hb1 hb2⟩
theorem shortRight_any (Bt : Nat) (tp : Pt) (tn : Int) : ∀ a : Tr, ShrAt Bt tp tn a
  | .nil => shortRight_of Bt tp tn _ fun _ _ _ _ e => by cases e
  | .nd m r x y => shortRight_of Bt tp tn _ fun _ _ _ _ e => by cases e; exact shortRight_any Bt tp tn y
end Go.Proofs.Ytjfpemkdidoacaa
