/- In whatever order the same is put, the tree holds the same, and what is put and dropped again leaves it: the walk of the statement. No condition but words. -/
import Derived.Test.YtjfpemkdidoacaaVX
import Derived.Sort.CutIn
import Derived.LoopIn
namespace Go.Proofs.Ytjfpemkdidoacaa
open Go.RowKit Go.Shelf
set_option linter.unusedVariables false
set_option linter.unusedSimpArgs false
attribute [local go_sem] Oper.semAt_some
theorem mem_valS {x : It} : ∀ {L : List It}, Rise L → x ∈ L → valL x.1 L = x.2 ∧ has x.1 L = true
  | [], _, h => by cases h
  | a :: L, hr, h => by
    have hr' : Rise ([] ++ a :: L) := hr
    obtain ⟨_, h2, _, h4⟩ := rise_node.1 hr'
    refine ⟨?_, has_iff.2 ⟨x.2, h⟩⟩
    rcases List.mem_cons.1 h with rfl | h
    · simp [valL]
    · have hne : ¬ a.1 = x.1 := fun e => kLt_irr x.1 (by have := h4 x h; rwa [e] at this)
      have := (mem_valS h2 h).1
      unfold valL at this ⊢
      rw [List.find?_cons_of_neg (by simpa using hne)]
      exact this
/-- The value that is put under a key. -/
def kvV (k : Ky) : Int := IntKind.u64.wrap (IntKind.u64.wrap k.2 + k.1)
def kv (k : Ky) : It := (k, kvV k)
theorem kvV_word (k : Ky) : Word (kvV k) := by
  unfold kvV Word IntKind.wrap IntKind.bits IntKind.signed
  simp
  omega
/-- The items behind so many keys. -/
def putN (f : Nat → Ky) : Nat → List It
  | 0 => []
  | n + 1 => putL (kv (f n)) (putN f n)
theorem putN_rise (f : Nat → Ky) : ∀ n, Rise (putN f n)
  | 0 => List.Pairwise.nil
  | n + 1 => rise_putL (putN_rise f n)
theorem putN_len (f : Nat → Ky) : ∀ n, (putN f n).length ≤ n
  | 0 => Nat.le_refl _
  | n + 1 => by have h := putN_len f n; have := putL_len (x := kv (f n)) (L := putN f n); show (putL (kv (f n)) (putN f n)).length ≤ n + 1; omega
theorem putN_mem (f : Nat → Ky) : ∀ (n : Nat) (z : It), z ∈ putN f n ↔ ∃ j, j < n ∧ z = kv (f j)
  | 0, z => ⟨fun h => (by cases h), fun ⟨j, h, _⟩ => (by omega)⟩
  | n + 1, z => by
    have ih := putN_mem f n
    have key : z ∈ putL (kv (f n)) (putN f n) ↔ z = kv (f n) ∨ z ∈ putN f n := by
      unfold putL
      cases hh : has (kv (f n)).1 (putN f n) with
      | false => exact mem_ins
      | true =>
        obtain ⟨v, hv⟩ := has_iff.1 hh
        refine ⟨.inr, fun h => h.elim (fun e => ?_) id⟩
        obtain ⟨j, hj, e2⟩ := (ih _).1 hv
        have e3 : f j = f n := by have := congrArg Prod.fst e2; exact this.symm
        rw [e, ← e3, ← e2]; exact hv
    show z ∈ putL (kv (f n)) (putN f n) ↔ _
    rw [key, ih]
    constructor
    · rintro (h | ⟨j, hj, h⟩)
      · exact ⟨n, by omega, h⟩
      · exact ⟨j, by omega, h⟩
    · rintro ⟨j, hj, h⟩
      by_cases e : j = n
      · subst e; exact .inl h
      · exact .inr ⟨j, by omega, h⟩
theorem putN_rev (f : Nat → Ky) (n : Nat) : putN (fun j => f (n - 1 - j)) n = putN f n := by
  refine rise_ext (putN_rise _ _) (putN_rise _ _) fun a => ?_
  rw [putN_mem, putN_mem]
  constructor
  · rintro ⟨j, hj, e⟩; exact ⟨n - 1 - j, by omega, e⟩
  · rintro ⟨j, hj, e⟩; exact ⟨n - 1 - j, by omega, by rw [e, show n - 1 - (n - 1 - j) = j by omega]⟩
/-- Two trees, and a cell that points to the second. -/
def TT (w W : World) (B D C : Nat) (L L' : List It) : Prop :=
  (Ob W B L ∧ Ob W D L' ∧ B ≠ D) ∧ (w.heap.size ≤ B ∧ w.heap.size ≤ D ∧ w.heap.size ≤ C) ∧ Box W C #[.pointer (some ⟨D, 0, none⟩)] 23 ∧ Below w.heap.size w W
section
variable {w W W' : World} {B D C : Nat} {L L' : List It}
theorem TT.world (h : TT w W B D C L L') : Below w.heap.size w W := h.2.2.2
theorem TT.below (h : TT w W B D C L L') (hb : Below W.heap.size W W') : TT w W' B D C L L' :=
  ⟨⟨h.1.1.below hb, h.1.2.1.below hb, h.1.2.2⟩, h.2.1, h.2.2.1.below hb, upp h.2.2.2 hb⟩
theorem TT.cut (h : TT w W B D C L L') : W.cell? ⟨C, 0, none⟩ = some (.pointer (some ⟨D, 0, none⟩)) := h.2.2.1.cell 0
theorem tt_but1 (h : TT w W B D C L L') {L1 : List It} (h1 : Ob W' B L1) (hb : But B W W') : TT w W' B D C L1 L' := by
  obtain ⟨p, hT⟩ := h.1.1.box
  exact ⟨⟨h1, h.1.2.1.other hb (fun e => h.1.2.2 e.symm) h.1.1, h.1.2.2⟩, h.2.1, hb.box h.2.2.1 (box_ne h.2.2.1 hT (by decide)), h.2.2.2.trans (hb.below h.2.1.1 h.2.2.2.size)⟩
theorem tt_but2 (h : TT w W B D C L L') {L1 : List It} (h1 : Ob W' D L1) (hb : But D W W') : TT w W' B D C L L1 := by
  obtain ⟨p, hT⟩ := h.1.2.1.box
  exact ⟨⟨h.1.1.other hb h.1.2.2 h.1.2.1, h1, h.1.2.2⟩, h.2.1, hb.box h.2.2.1 (box_ne h.2.2.1 hT (by decide)), h.2.2.2.trans (hb.below h.2.1.2.1 h.2.2.2.size)⟩
theorem tt_put1 (x : It) (hx : Word x.1.1 ∧ Inte x.1.2 ∧ Word x.2) (hl : L.length ≤ 100000) (h : TT w W B D C L L') :
    Calls Try.prog 13 #[.pointer (some ⟨B, 0, none⟩), ky x.1, eU x.2] W fun e w' => e = .returned (eI (if has x.1 L then 80 else 0)) ∧ TT w w' B D C (putL x L) L' :=
  (ob_put x hx hl h.1.1).mono fun e w' ⟨e1, e2, e3⟩ => ⟨e1, tt_but1 h e2 e3⟩
theorem tt_put2 (x : It) (hx : Word x.1.1 ∧ Inte x.1.2 ∧ Word x.2) (hl : L'.length ≤ 100000) (h : TT w W B D C L L') :
    Calls Try.prog 13 #[.pointer (some ⟨D, 0, none⟩), ky x.1, eU x.2] W fun e w' => e = .returned (eI (if has x.1 L' then 80 else 0)) ∧ TT w w' B D C L (putL x L') :=
  (ob_put x hx hl h.1.2.1).mono fun e w' ⟨e1, e2, e3⟩ => ⟨e1, tt_but2 h e2 e3⟩
theorem tt_drop1 (k : Ky) (hl : L.length ≤ 100000) (h : TT w W B D C L L') :
    Calls Try.prog 14 #[.pointer (some ⟨B, 0, none⟩), ky k] W fun e w' => e = .returned (eI (if has k L then 0 else 81)) ∧ TT w w' B D C (del k L) L' :=
  (ob_drop k hl h.1.1).mono fun e w' ⟨e1, e2, e3⟩ => ⟨e1, tt_but1 h e2 e3⟩
end
end Go.Proofs.Ytjfpemkdidoacaa
