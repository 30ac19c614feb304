/- What curves have together at a tick: the program's own sum. No condition but words, and how many there are. -/
import Derived.Test.YtpopcnebndgblaaGreatTwo
import Derived.Test.YtpopcnebndgblaaGreatGM
namespace Go.Proofs.YtpopcnebndgblaaGreat
open Go.RowKit Go.Shelf W
set_option linter.unusedVariables false
attribute [local go_sem] Oper.semAt_some
def slL : List Cv → List Int
  | [] => []
  | c :: cs => c.f :: c.r :: slL cs
def tkL (t : Int) : List Cv → List Int
  | [] => []
  | c :: cs => min t c.l :: (t - min t c.l) :: tkL t cs
theorem slL_snoc (xs : List Cv) (c : Cv) : slL (xs ++ [c]) = slL xs ++ [c.f, c.r] := by
  induction xs with
  | nil => rfl
  | cons x xs ih => simp [slL, ih]
theorem tkL_snoc (t : Int) (xs : List Cv) (c : Cv) : tkL t (xs ++ [c]) = tkL t xs ++ [min t c.l, t - min t c.l] := by
  induction xs with
  | nil => rfl
  | cons x xs ih => simp [tkL, ih]
theorem slL_len (xs : List Cv) : (slL xs).length = 2 * xs.length := by
  induction xs with
  | nil => rfl
  | cons x xs ih => simp [slL, ih]; omega
theorem tkL_len (t : Int) (xs : List Cv) : (tkL t xs).length = 2 * xs.length := by
  induction xs with
  | nil => rfl
  | cons x xs ih => simp [tkL, ih]; omega
theorem slL_word {xs : List Cv} (h : ∀ c ∈ xs, c.word) : ∀ x ∈ slL xs, Word x := by
  induction xs with
  | nil => intro x hx; cases hx
  | cons c cs ih =>
    intro x hx
    have hc := h c (by simp)
    simp only [slL, List.mem_cons] at hx
    rcases hx with rfl | rfl | hx
    · exact hc.1
    · exact hc.2.2
    · exact ih (fun d hd => h d (by simp [hd])) x hx
theorem tkL_word {t : Int} (ht : Word t) {xs : List Cv} (h : ∀ c ∈ xs, c.word) : ∀ x ∈ tkL t xs, Word x := by
  induction xs with
  | nil => intro x hx; cases hx
  | cons c cs ih =>
    intro x hx
    have hc := h c (by simp)
    simp only [tkL, List.mem_cons] at hx
    rcases hx with rfl | rfl | hx
    · obtain ⟨_, h2, _⟩ := hc; unfold Word at *; omega
    · obtain ⟨_, h2, _⟩ := hc; unfold Word at *; omega
    · exact ih (fun d hd => h d (by simp [hd])) x hx
/-- The sum of the products of two rows, element by element. -/
def dotL : List Int → List Int → Int
  | a :: us, b :: vs => a * b + dotL us vs
  | _, _ => 0
theorem S_shift (f g : Nat → Int) : ∀ n, S f g (n + 1) = f 0 * g 0 + S (fun i => f (i + 1)) (fun i => g (i + 1)) n
  | 0 => by simp [S]
  | n + 1 => by
    have := S_shift f g n
    simp only [S] at this ⊢
    omega
theorem S_dot : ∀ (us vs : List Int) (n : Nat), us.length = n → vs.length = n → S (fun i => us.getD i 0) (fun i => vs.getD i 0) n = dotL us vs
  | [], [], 0, _, _ => rfl
  | a :: us, b :: vs, n + 1, h1, h2 => by
    rw [S_shift]
    have := S_dot us vs n (by simpa using h1) (by simpa using h2)
    simp only [List.getD_cons_zero, List.getD_cons_succ] at this ⊢
    rw [this]
    rfl
  | [], [], n + 1, h1, _ => by simp at h1
  | [], _ :: _, n, h1, h2 => by simp at h1 h2; omega
  | _ :: _, [], n, h1, h2 => by simp at h1 h2; omega
  | _ :: _, _ :: _, 0, h1, _ => by simp at h1
theorem dot_sum {xs : List Cv} {t : Int} (h : ∀ c ∈ xs, cvB c = true) : dotL (slL xs) (tkL t xs) = sW xs t := by
  induction xs with
  | nil => rfl
  | cons c cs ih =>
    have hm : c.may := mayB_is.1 (h c (by simp))
    simp only [slL, tkL, dotL, sW, oneW]
    rw [if_pos hm, ih (fun d hd => h d (by simp [hd]))]
    unfold cW
    split
    · rename_i hle
      rw [Int.min_eq_left hle]; simp
    · rename_i hle
      rw [Int.min_eq_right (by omega)]; omega
theorem cnt_sum (xs : List Cv) (t : Int) : sW (cnt xs) t = sW xs t := by
  induction xs with
  | nil => rfl
  | cons c cs ih =>
    unfold cnt at ih ⊢
    by_cases hb : cvB c = true
    · rw [List.filter_cons_of_pos hb]; simp only [sW, ih]
    · rw [List.filter_cons_of_neg hb]
      have : ¬ c.may := fun hm => hb (mayB_is.2 hm)
      simp only [sW, oneW, if_neg this, ih, Int.zero_add]
theorem cnt_may (xs : List Cv) : ∀ c ∈ cnt xs, cvB c = true := fun c hc => (List.mem_filter.1 hc).2
theorem cnt_mem {xs : List Cv} {c : Cv} (h : c ∈ cnt xs) : c ∈ xs := (List.mem_filter.1 h).1
end Go.Proofs.YtpopcnebndgblaaGreat
