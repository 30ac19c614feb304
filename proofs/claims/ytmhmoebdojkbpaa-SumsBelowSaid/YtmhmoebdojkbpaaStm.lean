/- Stretches of a sum, by numbers: slopes, what happens at a corner. -/
import Derived.Test.YtmhmoebdojkbpaaCrn
namespace Go.Proofs.Ytmhmoebdojkbpaa
open Go.RowKit W
set_option linter.unusedVariables false
def sm (g : Cv → Int) : List Cv → Int
  | [] => 0
  | c :: cs => g c + sm g cs
theorem sm_app (g : Cv → Int) (a b : List Cv) : sm g (a ++ b) = sm g a + sm g b := by
  induction a with
  | nil => simp [sm]
  | cons c cs ih => simp only [List.cons_append, sm, ih]; omega
theorem sm_le {g : Cv → Int} {B : Int} : ∀ {l : List Cv}, (∀ c ∈ l, 0 ≤ g c ∧ g c ≤ B) → 0 ≤ sm g l ∧ sm g l ≤ l.length * B
  | [], _ => by simp [sm]
  | c :: cs, h => by
    have h1 := h c (by simp)
    have h2 := sm_le (l := cs) (fun d hd => h d (List.mem_cons_of_mem _ hd))
    simp only [sm, List.length_cons]
    have e : ((cs.length + 1 : Nat) : Int) * B = cs.length * B + B := by rw [Int.natCast_add, Int.add_mul]; simp
    omega
theorem sm_lin {g1 g2 g3 : Cv → Int} : ∀ {l : List Cv}, (∀ c ∈ l, g1 c = g2 c + g3 c) → sm g1 l = sm g2 l + sm g3 l
  | [], _ => by simp [sm]
  | c :: cs, h => by
    have h1 := h c (by simp)
    have h2 := sm_lin (l := cs) (fun d hd => h d (List.mem_cons_of_mem _ hd))
    simp only [sm]; omega
theorem sm_mul {g1 g2 g3 : Cv → Int} {m : Int} : ∀ {l : List Cv}, (∀ c ∈ l, g1 c = g2 c + g3 c * m) → sm g1 l = sm g2 l + sm g3 l * m
  | [], _ => by simp [sm]
  | c :: cs, h => by
    have h1 := h c (by simp)
    have h2 := sm_mul (l := cs) (fun d hd => h d (List.mem_cons_of_mem _ hd))
    simp only [sm, Int.add_mul]; omega
theorem sm_four {g1 g2 g3 g4 : Cv → Int} : ∀ {l : List Cv}, (∀ c ∈ l, g1 c + g2 c = g3 c + g4 c) → sm g1 l + sm g2 l = sm g3 l + sm g4 l
  | [], _ => by simp [sm]
  | c :: cs, h => by
    have h1 := h c (by simp)
    have h2 := sm_four (l := cs) (fun d hd => h d (List.mem_cons_of_mem _ hd))
    simp only [sm]; omega
/-- Curves that may be, told by words. -/
def Good (ys : List Cv) : Prop := ∀ c ∈ ys, c.word ∧ c.may
theorem good_cnt {xs : List Cv} (h : ∀ c ∈ xs, c.word) : Good (cnt xs) := fun c hc => ⟨h c (cnt_mem hc), mayB_is.1 (cnt_may xs c hc)⟩
def rAt (j : Int) (c : Cv) : Int := if c.l = j then c.r else 0
def fAt (j : Int) (c : Cv) : Int := if c.l = j then c.f else 0
def pU (ys : List Cv) (j : Int) : Int := (if j = 0 then sm (·.f) ys else 0) + sm (rAt j) ys
def pV (ys : List Cv) (j : Int) : Int := sm (fAt j) ys
def slope (F : Int) (c : Cv) : Int := if c.l ≤ F then c.r else c.f
def slF (ys : List Cv) (F : Int) : Int := sm (slope F) ys
theorem small {c : Cv} (h : c.word ∧ c.may) : 0 ≤ c.f ∧ c.f ≤ 1048576 ∧ 0 ≤ c.r ∧ c.r ≤ 1048576 ∧ 0 ≤ c.l ∧ c.l ≤ 1099511627776 ∧ (c.l = 0 → c.f = 0) := by
  obtain ⟨⟨h1, h2, h3⟩, h4, h5, h6, h7⟩ := h
  unfold Word at *
  refine ⟨h1.1, h4, h3.1, h5, h2.1, h6, fun e => ?_⟩
  rcases h7 with ⟨_, h⟩ | ⟨h, _⟩ <;> omega
theorem pU_le {ys : List Cv} (h : Good ys) (j : Int) : 0 ≤ pU ys j ∧ pU ys j ≤ ys.length * 2097152 := by
  have h1 := sm_le (g := (·.f)) (B := 1048576) (l := ys) (fun c hc => by have := small (h c hc); exact ⟨this.1, this.2.1⟩)
  have h2 := sm_le (g := rAt j) (B := 1048576) (l := ys) (fun c hc => by have := small (h c hc); unfold rAt; split <;> omega)
  unfold pU; split <;> omega
theorem pV_le {ys : List Cv} (h : Good ys) (j : Int) : 0 ≤ pV ys j ∧ pV ys j ≤ ys.length * 1048576 :=
  sm_le (fun c hc => by have := small (h c hc); unfold fAt; split <;> omega)
theorem slF_le {ys : List Cv} (h : Good ys) (F : Int) : 0 ≤ slF ys F ∧ slF ys F ≤ ys.length * 1048576 :=
  sm_le (fun c hc => by have := small (h c hc); unfold slope; split <;> omega)
theorem addW_eq {x y : Int} (h0 : 0 ≤ x + y) (h1 : x + y < 18446744073709551616) : addW x y = x + y := wrapU ⟨h0, by omega⟩
theorem uv_take {ys : List Cv} (h : Good ys) (hn : ys.length ≤ 1000) : ∀ i, i ≤ ys.length → (∀ j, uF (ys.take i) j = pU (ys.take i) j) ∧ ∀ j, vF (ys.take i) j = pV (ys.take i) j
  | 0, _ => ⟨fun j => by simp [uF, pU, sm], fun j => by simp [vF, pV, sm]⟩
  | i + 1, hi => by
    obtain ⟨h1, h2⟩ := uv_take h hn i (by omega)
    have hg : Good (ys.take i) := fun c hc => h c (List.mem_of_mem_take hc)
    have hl : ((ys.take i).length : Int) ≤ 1000 := by rw [List.length_take]; omega
    have hs := small (h _ (List.getElem_mem (show i < ys.length by omega)))
    rw [List.take_succ_eq_append_getElem (by omega), uF_snoc, vF_snoc]
    generalize ys[i] = c at *
    have b0 := fun j => pU_le hg j
    have b1 := fun j => pV_le hg j
    have c0 := b0 0
    have c1 := b0 c.l
    have c2 := b1 c.l
    have m1 : ((ys.take i).length : Int) * 2097152 ≤ 1000 * 2097152 := Int.mul_le_mul_of_nonneg_right hl (by omega)
    have m2 : ((ys.take i).length : Int) * 1048576 ≤ 1000 * 1048576 := Int.mul_le_mul_of_nonneg_right hl (by omega)
    have a0 : addW (pU (ys.take i) 0) c.f = pU (ys.take i) 0 + c.f := addW_eq (by omega) (by omega)
    have a1 : oneU (pU (ys.take i)) c c.l = pU (ys.take i) c.l + if c.l = 0 then c.f else 0 := by
      unfold oneU; split
      · rename_i e; rw [a0, e]
      · omega
    have a2 : addW (oneU (pU (ys.take i)) c c.l) c.r = oneU (pU (ys.take i)) c c.l + c.r := by
      rw [a1]; refine addW_eq ?_ ?_ <;> split <;> omega
    have a3 : addW (pV (ys.take i) c.l) c.f = pV (ys.take i) c.l + c.f := addW_eq (by omega) (by omega)
    have e1 : uF (ys.take i) = pU (ys.take i) := funext h1
    have e2 : vF (ys.take i) = pV (ys.take i) := funext h2
    rw [e1, e2]
    refine ⟨fun j => ?_, fun j => ?_⟩
    · have : pU (ys.take i ++ [c]) j = pU (ys.take i) j + (if j = 0 then c.f else 0) + (if c.l = j then c.r else 0) := by
        unfold pU; rw [sm_app, sm_app]; simp only [sm, rAt]; split <;> omega
      rw [this]
      unfold stU
      split
      · rename_i e; subst e; rw [a2, a1, if_pos rfl]
      · rename_i e
        rw [if_neg (show ¬ c.l = j from fun e' => e e'.symm)]
        unfold oneU; split
        · rename_i e0; rw [a0, e0]; omega
        · omega
    · have : pV (ys.take i ++ [c]) j = pV (ys.take i) j + (if c.l = j then c.f else 0) := by
        unfold pV; rw [sm_app]; simp only [sm, fAt]; omega
      rw [this]
      unfold stV
      have e3 : oneV (pV (ys.take i)) c.l = pV (ys.take i) c.l := by unfold oneV; split <;> simp_all
      split
      · rename_i e; subst e; rw [e3, a3, if_pos rfl]
      · rename_i e
        rw [if_neg (show ¬ c.l = j from fun e' => e e'.symm)]
        unfold oneV; split <;> simp_all
theorem uv_eq {ys : List Cv} (h : Good ys) (hn : ys.length ≤ 1000) : (∀ j, uF ys j = pU ys j) ∧ ∀ j, vF ys j = pV ys j := by
  have := uv_take h hn ys.length (Nat.le_refl _)
  rwa [List.take_length] at this
theorem slF_zero {ys : List Cv} (h : Good ys) : slF ys 0 = pU ys 0 := by
  unfold slF pU
  rw [if_pos rfl]
  exact sm_lin (fun c hc => by
    have := small (h c hc)
    unfold slope rAt
    by_cases e : c.l = 0
    · rw [if_pos (by omega), if_pos e]; omega
    · rw [if_neg (by omega), if_neg e]; omega)
/-- No corner between both. -/
def Clear (ys : List Cv) (F k : Int) : Prop := ∀ c ∈ ys, c.l ≤ F ∨ k ≤ c.l
theorem slF_step {ys : List Cv} (h : Good ys) {F k : Int} (hF : 0 ≤ F) (hk : F < k) (hc : Clear ys F k) : slF ys F + pU ys k - pV ys k = slF ys k := by
  have e : sm (slope F) ys + sm (rAt k) ys = sm (slope k) ys + sm (fAt k) ys := sm_four (fun c hcm => by
    have hcl := hc c hcm
    unfold slope rAt fAt
    by_cases h1 : c.l ≤ F
    · rw [if_pos h1, if_neg (by omega), if_pos (by omega), if_neg (by omega)]
    · rw [if_neg h1]
      by_cases h2 : c.l = k
      · rw [if_pos h2, if_pos (by omega), if_pos h2]; omega
      · rw [if_neg h2, if_neg (by omega), if_neg h2])
  unfold slF pU pV
  rw [if_neg (by omega)]
  omega
theorem sum_on {ys : List Cv} (h : Good ys) {F k x : Int} (hF : 0 ≤ F) (hx : F ≤ x) (hk : x ≤ k) (hc : Clear ys F k) : sW ys x = sW ys F + slF ys F * (x - F) := by
  have e : ∀ t, sW ys t = sm (fun c => oneW c t) ys := fun t => by
    clear h hc
    induction ys with
    | nil => rfl
    | cons c cs ih => simp only [sW, sm, ih]
  rw [e, e]
  refine sm_mul (fun c hcm => ?_)
  have hm := (h c hcm).2
  simp only [oneW, if_pos hm]
  unfold cW slope
  have hcl := hc c hcm
  by_cases h1 : c.l ≤ F
  · rw [if_pos h1]
    by_cases h2 : x ≤ c.l
    · have e1 : x = F := by omega
      have e2 : c.l = F := by omega
      subst e1; rw [if_pos h2]; simp
    · rw [if_neg h2]
      by_cases h3 : F ≤ c.l
      · have e2 : c.l = F := by omega
        rw [if_pos h3, e2]
      · rw [if_neg h3]
        have := Int.mul_add c.r (F - c.l) (x - F)
        rw [show F - c.l + (x - F) = x - c.l by omega] at this
        omega
  · have h2 : x ≤ c.l := by omega
    rw [if_neg h1, if_pos h2, if_pos (by omega)]
    have := Int.mul_add c.f F (x - F)
    rw [show F + (x - F) = x by omega] at this
    omega
end Go.Proofs.Ytmhmoebdojkbpaa
