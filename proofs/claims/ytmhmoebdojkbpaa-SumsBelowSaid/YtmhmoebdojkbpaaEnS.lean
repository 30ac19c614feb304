/- What a stretch of a sum has at its end, and what is spare there, in numbers. -/
import Derived.Test.YtmhmoebdojkbpaaStm
import Derived.Test.YtmhmoebdojkbpaaSpr
namespace Go.Proofs.Ytmhmoebdojkbpaa
open Go.RowKit Go.Shelf W
set_option linter.unusedVariables false
/-- The last tick that counts. -/
abbrev lastT : Int := 9223372036854775807 
def hiW (x : Int) : Int := x / 18446744073709551616
def loW (x : Int) : Int := x % 18446744073709551616
/-- The stretch from F to k. -/
def strV (ys : List Cv) (F k : Int) : Value := .agg #[eU F, eU k, eU (slF ys F), eU (hiW (sW ys F)), eU (loW (sW ys F))]
theorem good_words {ys : List Cv} (h : Good ys) : ∀ c ∈ ys, c.word := fun c hc => (h c hc).1
theorem sum_lt {ys : List Cv} (h : Good ys) (hn : ys.length ≤ 1000) {t : Int} (ht : Word t) : 0 ≤ sW ys t ∧ sW ys t < 340282366920938463463374607431768211456 := by
  have h1 := sW_nn (good_words h) ht.1
  have h2 := sW_le (good_words h) ht
  have : (ys.length : Int) ≤ 1000 := by omega
  have := Int.mul_le_mul_of_nonneg_right this (show (0 : Int) ≤ 19342813113834066795298816 by omega)
  omega
theorem split_word {x : Int} (h : 0 ≤ x ∧ x < 340282366920938463463374607431768211456) : Word (hiW x) ∧ Word (loW x) ∧ V (hiW x) (loW x) = x := by
  unfold hiW loW Word V; omega
theorem slope_word {ys : List Cv} (h : Good ys) (hn : ys.length ≤ 1000) (F : Int) : Word (slF ys F) := by
  have h1 := slF_le h F
  have : (ys.length : Int) ≤ 1000 := by omega
  have := Int.mul_le_mul_of_nonneg_right this (show (0 : Int) ≤ 1048576 by omega)
  unfold Word; omega
theorem end_sum {ys : List Cv} (h : Good ys) (hn : ys.length ≤ 1000) {F k : Int} (hF : 0 ≤ F) (hk : F < k) (hl : k ≤ 9223372036854775807) (hc : Clear ys F k) (w : World) :
    Calls Try.prog 53 #[strV ys F k] w fun e w' => e = .returned (.agg #[eU (hiW (sW ys k)), eU (loW (sW ys k))]) ∧ Below w.heap.size w w' := by
  have hFw : Word F := ⟨hF, by omega⟩
  have hkw : Word k := ⟨by omega, by omega⟩
  have hdw : Word (k - F) := ⟨by omega, by omega⟩
  obtain ⟨a1, a2, a3⟩ := split_word (sum_lt h hn hFw)
  have b := sum_lt h hn hkw
  have hs := sum_on h hF (by omega) (Int.le_refl k) hc
  have hm := V_x (slF ys F) (k - F)
  have hsl := slope_word h hn F
  have hxw : Word (xH (slF ys F) (k - F)) ∧ Word (xL (slF ys F) (k - F)) := by
    have h0 : 0 ≤ slF ys F * (k - F) := Int.mul_nonneg hsl.1 hdw.1
    have h1 := (sum_lt h hn hFw).1
    unfold xH xL Word; omega
  have hP := fun w => Plus_any (hiW (sW ys F)) (loW (sW ys F)) (xH (slF ys F) (k - F)) (xL (slF ys F) (k - F)) w a1 a2 hxw.1 hxw.2
  have e1 : V (hiW (sW ys F)) (loW (sW ys F)) + V (xH (slF ys F) (k - F)) (xL (slF ys F) (k - F)) = sW ys k := by rw [a3, hm, hs]
  unfold pH pL pE at hP
  rw [e1, if_pos b.2, if_pos b.2, if_pos b.2] at hP
  exact end_of F k (slF ys F) _ _ (k - F) _ _ _ _ w rfl (wrapU hdw) (fun w => Mul_any _ _ w hsl hdw) hP
def spQ (ys : List Cv) (rate k : Int) : Int := if sW ys k ≤ rate * k then (rate * k - sW ys k) / k else 0
def spB (ys : List Cv) (rate k : Int) : Bool := decide (sW ys k ≤ rate * k)
theorem spare_sum {ys : List Cv} (h : Good ys) (hn : ys.length ≤ 1000) {F k rate : Int} (hF : 0 ≤ F) (hk : F < k) (hl : k ≤ 9223372036854775807) (hc : Clear ys F k) (hr : Word rate) (w : World) :
    Calls Try.prog 39 #[strV ys F k, eU rate] w fun e w' => e = .returned (.tuple #[eU (spQ ys rate k), .bool (spB ys rate k)]) ∧ Below w.heap.size w w' := by
  have hkw : Word k := ⟨by omega, by omega⟩
  obtain ⟨a1, a2, a3⟩ := split_word (sum_lt h hn hkw)
  have b := sum_lt h hn hkw
  have hm := V_x rate k
  have h0 : 0 ≤ rate * k := Int.mul_nonneg hr.1 hkw.1
  have h1 : rate * k < 340282366920938463463374607431768211456 := by
    have := Int.mul_le_mul (show rate ≤ 18446744073709551615 by unfold Word at hr; omega) (show k ≤ 18446744073709551615 by omega) hkw.1 (by omega)
    omega
  have hxw : Word (xH rate k) ∧ Word (xL rate k) := by unfold xH xL Word; omega
  have hP := fun w => Minus_any (xH rate k) (xL rate k) (hiW (sW ys k)) (loW (sW ys k)) w hxw.1 hxw.2 a1 a2
  unfold mH mL mE at hP
  rw [hm, a3] at hP
  by_cases hle : sW ys k ≤ rate * k
  · rw [if_pos hle, if_pos hle, if_pos hle] at hP
    have s1 : spQ ys rate k = (rate * k - sW ys k) / k := if_pos hle
    have s2 : spB ys rate k = true := decide_eq_true hle
    rw [s1, s2]
    have hdl : 0 ≤ rate * k - sW ys k ∧ rate * k - sW ys k < 340282366920938463463374607431768211456 := by omega
    obtain ⟨c1, c2, c3⟩ := split_word hdl
    have hD := fun w => Div_any (hiW (rate * k - sW ys k)) (loW (rate * k - sW ys k)) k w c1 c2 hkw
    have hq : dQ (hiW (rate * k - sW ys k)) (loW (rate * k - sW ys k)) k = (rate * k - sW ys k) / k := by
      unfold dQ
      rw [if_neg (by omega), c3, if_neg]
      intro hh
      have h3 : rate * k - sW ys k < 18446744073709551616 * k := by
        have : rate * k < 18446744073709551616 * k := Int.mul_lt_mul_of_pos_right (by unfold Word at hr; omega) (by omega)
        omega
      have h4 : hiW (rate * k - sW ys k) < k := by unfold hiW; exact Int.ediv_lt_of_lt_mul (by omega) (by omega)
      omega
    rw [hq] at hD
    exact spare_of F k (slF ys F) _ _ rate _ _ _ _ _ _ 0 _ true w (fun w => Mul_any _ _ w hr hkw) (fun w => end_sum h hn hF hk hl hc w) hP (Lib.hid (.inr ⟨rfl, rfl, _, _, hD⟩))
  · rw [if_neg hle, if_neg hle, if_neg hle] at hP
    have s1 : spQ ys rate k = 0 := if_neg hle
    have s2 : spB ys rate k = false := decide_eq_false hle
    rw [s1, s2]
    exact spare_of F k (slF ys F) _ _ rate _ _ _ _ _ _ 10 0 false w (fun w => Mul_any _ _ w hr hkw) (fun w => end_sum h hn hF hk hl hc w) hP (Lib.hid (.inl ⟨rfl, rfl, rfl⟩))
end Go.Proofs.Ytmhmoebdojkbpaa
