/- The walk of WideRows, whatever the rows. Conditions: words; rows as long as an int can count. -/
import Derived.Test.YtiieehnfbemleaaRowsZero
namespace Go.Proofs.Ytiieehnfbemleaa
open Go.RowKit W
set_option linter.unusedVariables false
namespace W
theorem sE_or (t : Int) : sE t = 0 ∨ (sE t = 10 ∧ sH t = 0 ∧ sL t = 0) := by
  by_cases h : t < 340282366920938463463374607431768211456
  · exact .inl (s_ok h).1
  · exact .inr (s_no h)
theorem pE_or (a b c d : Int) : pE a b c d = 0 ∨ pE a b c d = 10 := by unfold pE; split <;> simp
theorem sHL_word {t : Int} (h : 0 ≤ t) : Word (sH t) ∧ Word (sL t) := by
  by_cases k : t < 340282366920938463463374607431768211456
  · obtain ⟨_, e2, e3⟩ := s_ok k
    rw [e2, e3]; unfold Word; omega
  · obtain ⟨_, e2, e3⟩ := s_no k
    rw [e2, e3]; unfold Word; omega
theorem rows_case {t a b : Int} (h : t = a + b) (ha : 0 ≤ a) (hb : 0 ≤ b) :
    (sE t = 0 ∧ sE a = 0 ∧ sE b = 0 ∧ pE (sH a) (sL a) (sH b) (sL b) = 0 ∧ sH t = pH (sH a) (sL a) (sH b) (sL b) ∧ sL t = pL (sH a) (sL a) (sH b) (sL b)) ∨
    (sE t = 10 ∧ sH t = 0 ∧ sL t = 0 ∧ sE a = 10) ∨ (sE t = 10 ∧ sH t = 0 ∧ sL t = 0 ∧ sE a = 0 ∧ sE b = 10) ∨
    (sE t = 10 ∧ sH t = 0 ∧ sL t = 0 ∧ sE a = 0 ∧ sE b = 0 ∧ pE (sH a) (sL a) (sH b) (sL b) = 10) := by
  obtain ⟨p1, p2⟩ := parts h ha hb
  rcases sE_or t with e | ⟨e, e1, e2⟩
  · obtain ⟨g1, g2, g3⟩ := p1.1 e
    obtain ⟨k1, k2⟩ := p2 e
    exact .inl ⟨e, g1, g2, g3, k1.symm, k2.symm⟩
  · right
    rcases sE_or a with a1 | ⟨a1, _, _⟩
    · rcases sE_or b with b1 | ⟨b1, _, _⟩
      · rcases pE_or (sH a) (sL a) (sH b) (sL b) with c | c
        · have := p1.2 ⟨a1, b1, c⟩
          omega
        · exact .inr (.inr ⟨e, e1, e2, a1, b1, c⟩)
      · exact .inr (.inl ⟨e, e1, e2, a1, b1⟩)
    · exact .inl ⟨e, e1, e2, a1⟩
end W
theorem rows_some (f g : Nat → Int) (at' : Int) (ba oa la ca bb ob lb cb : Nat) (w : World) (h0 : 0 < la) (h1 : 0 < lb) (h2 : la ≤ 20) (h3 : lb ≤ 20) (hca : la ≤ ca) (hcb : lb ≤ cb)
    (hba : ba < w.heap.size) (hbb : bb < w.heap.size) (cf : ∀ j, j < la → w.cell? ⟨ba, oa + j, none⟩ = some (.int .u64 (f j))) (cg : ∀ j, j < lb → w.cell? ⟨bb, ob + j, none⟩ = some (.int .u64 (g j)))
    (hf : ∀ j, j < la → Word (f j)) (hg : ∀ j, j < lb → Word (g j)) :
    Calls Try.prog 3 #[.slice (some ⟨ba, oa, none⟩) la ca, .slice (some ⟨bb, ob, none⟩) lb cb, .int .i64 at'] w fun e w' => e = .returned (.bool true) ∧ Below w.heap.size w w' := by
  obtain ⟨n, hn⟩ : ∃ n, n = min la lb := ⟨_, rfl⟩
  have n0 : 0 < n := by omega
  have nA : n ≤ la := by omega
  have nB : n ≤ lb := by omega
  have u0 : 0 ≤ IntKind.u64.wrap at' := by rw [IntKind.wrap_u64]; omega
  obtain ⟨q, hq0⟩ : ∃ q : Nat, IntKind.u64.wrap at' % ((n : Int) + 1) = q := ⟨(IntKind.u64.wrap at' % ((n : Int) + 1)).toNat, by
    rw [Int.toNat_of_nonneg (Int.emod_nonneg _ (by omega))]⟩
  have hq : q ≤ n := by have := Int.emod_lt_of_pos (IntKind.u64.wrap at') (show (0 : Int) < (n : Int) + 1 by omega); omega
  have hplace : (IntKind.u64.wrap at').tmod ((n : Int) + 1) = q := by rw [Int.tmod_eq_emod_of_nonneg u0]; exact hq0
  have fq : ∀ j, j < q → Word (f j) := fun j hj => hf j (by omega)
  have gq : ∀ j, j < q → Word (g j) := fun j hj => hg j (by omega)
  have fr : ∀ j, j < n - q → Word (f (q + j)) := fun j hj => hf _ (by omega)
  have gr : ∀ j, j < n - q → Word (g (q + j)) := fun j hj => hg _ (by omega)
  have s1 := (S_mono fq gq q (Nat.le_refl _)).1
  have s2 := (S_mono (f := fun j => f (q + j)) (g := fun j => g (q + j)) fr gr (n - q) (Nat.le_refl _)).1
  have hs : S f g n = S f g q + S (fun j => f (q + j)) (fun j => g (q + j)) (n - q) := by
    have := S_split f g q (n - q)
    rwa [show q + (n - q) = n by omega] at this
  obtain ⟨y1, y2⟩ := sHL_word s1
  obtain ⟨z1, z2⟩ := sHL_word s2
  refine rows_pos f g at' ba oa la ca bb ob lb cb n w hn n0 h2 h3 hba hbb cf cg (sH (S f g n)) (sL (S f g n)) (sE (S f g n)) _ _ _ _ _ _ _ _ _ q hq hplace hca hcb
    (fun cA cB w r1 r2 => ?_) (fun ad bd cA cB w r1 r2 => ?_) (fun w => Plus_any _ _ _ _ w y1 y2 z1 z2) (fun w r1 r2 => ?_) (Lib.hid (rows_case hs s1 s2)) (fun w r1 r2 => ?_) (fun gA gB cA cB w r1 r2 => ?_)
  · have := Dot_any f g _ _ q cA q cB w (by omega) (by omega) fq gq r1 r2
    rwa [Nat.min_self] at this
  · have := Dot_any _ _ ad bd (n - q) cA (n - q) cB w (by omega) (by omega) fr gr r1 r2
    rwa [Nat.min_self] at this
  · have := Dot_any g f _ _ lb cb la ca w (by omega) (by omega) hg hf r1 r2
    rwa [Nat.min_comm, ← hn, S_comm g f] at this
  · have := Dot_any f g _ _ la ca lb cb w (by omega) (by omega) hf hg r1 r2
    rwa [← hn] at this
  · have := Dot_any (fun j => f (n - 1 - j)) (fun j => g (n - 1 - j)) _ _ n cA n cB w (by omega) (by omega) (fun j hj => hf _ (by omega)) (fun j hj => hg _ (by omega)) r1 r2
    rwa [Nat.min_self, S_rev] at this
end Go.Proofs.Ytiieehnfbemleaa
