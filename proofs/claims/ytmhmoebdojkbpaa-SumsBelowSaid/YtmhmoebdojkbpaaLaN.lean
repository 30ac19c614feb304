/- The first tick of a stretch at which a sum is late, in numbers. -/
import Derived.Test.YtmhmoebdojkbpaaLam
namespace Go.Proofs.Ytmhmoebdojkbpaa
open Go.RowKit Go.Shelf W
set_option linter.unusedVariables false
def laD (ys : List Cv) (rate F : Int) : Int := (rate * F - sW ys F) / (slF ys F - rate)
def laB (ys : List Cv) (rate F k : Int) : Bool := decide (¬ slF ys F ≤ rate ∧ laD ys rate F < k - F)
def laT (ys : List Cv) (rate F k : Int) : Int := if laB ys rate F k = true then F + laD ys rate F + 1 else 0
theorem div_lt_iff {a d x : Int} (hd : 0 < d) : a / d < x ↔ a < x * d := Int.ediv_lt_iff_lt_mul hd
/-- A tick of the stretch is late just if it is far enough. -/
theorem late_iff {ys : List Cv} (h : Good ys) {F k rate t : Int} (hF : 0 ≤ F) (hc : Clear ys F k) (h1 : F ≤ t) (h2 : t ≤ k) (hs : ¬ slF ys F ≤ rate) : lateAt ys rate t ↔ laD ys rate F < t - F := by
  unfold lateAt laD
  rw [sum_on h hF h1 h2 hc, div_lt_iff (by omega)]
  have e1 := Int.mul_sub (slF ys F) t F
  have e2 : (t - F) * (slF ys F - rate) = slF ys F * (t - F) - rate * (t - F) := by rw [Int.mul_comm, Int.sub_mul]
  have e3 := Int.mul_sub rate t F
  rw [e2]
  omega
theorem late_flat {ys : List Cv} (h : Good ys) {F k rate t : Int} (hF : 0 ≤ F) (hc : Clear ys F k) (h1 : F ≤ t) (h2 : t ≤ k) (hs : slF ys F ≤ rate) (hn : ¬ lateAt ys rate F) : ¬ lateAt ys rate t := by
  unfold lateAt at *
  rw [sum_on h hF h1 h2 hc]
  have e3 := Int.mul_sub rate t F
  have := Int.mul_le_mul_of_nonneg_right hs (show 0 ≤ t - F by omega)
  omega
theorem la_yes {ys : List Cv} (h : Good ys) {F k rate : Int} (hF : 0 ≤ F) (hc : Clear ys F k) (hn : ¬ lateAt ys rate F) (hb : laB ys rate F k = true) :
    F < laT ys rate F k ∧ laT ys rate F k ≤ k ∧ lateAt ys rate (laT ys rate F k) ∧ ∀ t, F ≤ t → t < laT ys rate F k → ¬ lateAt ys rate t := by
  have e : laT ys rate F k = F + laD ys rate F + 1 := if_pos hb
  obtain ⟨h1, h2⟩ := of_decide_eq_true hb
  have h0 : 0 ≤ laD ys rate F := Int.ediv_nonneg (by unfold lateAt at hn; omega) (by omega)
  rw [e]
  refine ⟨by omega, by omega, (late_iff h hF hc (by omega) (by omega) h1).2 (by omega), fun t t0 t1 hl => ?_⟩
  have := (late_iff h hF hc t0 (by omega) h1).1 hl
  omega
theorem la_no {ys : List Cv} (h : Good ys) {F k rate : Int} (hF : 0 ≤ F) (hc : Clear ys F k) (hn : ¬ lateAt ys rate F) (hb : laB ys rate F k = false) : ∀ t, F ≤ t → t ≤ k → ¬ lateAt ys rate t := by
  intro t t0 t1 hl
  have hb' := of_decide_eq_false hb
  by_cases h1 : slF ys F ≤ rate
  · exact late_flat h hF hc t0 t1 h1 hn hl
  · have := (late_iff h hF hc t0 t1 h1).1 hl
    exact hb' ⟨h1, by omega⟩
theorem late_sum {ys : List Cv} (h : Good ys) (hn : ys.length ≤ 1000) {F k rate : Int} (hF : 0 ≤ F) (hk : F < k) (hl : k ≤ 9223372036854775807) (hc : Clear ys F k) (hr : Word rate) (hnl : ¬ lateAt ys rate F) (w : World) :
    Calls Try.prog 37 #[strV ys F k, eU rate] w fun e w' => e = .returned (.tuple #[eU (laT ys rate F k), .bool (laB ys rate F k)]) ∧ Below w.heap.size w w' := by
  have hFw : Word F := ⟨hF, by omega⟩
  have hsl := slope_word h hn F
  by_cases hs : slF ys F ≤ rate
  · have hb : laB ys rate F k = false := decide_eq_false (fun h => h.1 hs)
    have ht : laT ys rate F k = 0 := by unfold laT; rw [hb]; rfl
    rw [hb, ht]
    exact lateM_flat F k (slF ys F) _ _ rate w hs
  · obtain ⟨a1, a2, a3⟩ := split_word (sum_lt h hn hFw)
    have b := sum_lt h hn hFw
    have hm := V_x rate F
    have h0 : 0 ≤ rate * F := Int.mul_nonneg hr.1 hF
    have h1 : rate * F < 340282366920938463463374607431768211456 := by
      have := Int.mul_le_mul (show rate ≤ 18446744073709551615 by unfold Word at hr; omega) (show F ≤ 18446744073709551615 by omega) hF (by omega)
      omega
    have hxw : Word (xH rate F) ∧ Word (xL rate F) := by unfold xH xL Word; omega
    have hle : sW ys F ≤ rate * F := by unfold lateAt at hnl; omega
    have hP := fun w => Minus_any (xH rate F) (xL rate F) (hiW (sW ys F)) (loW (sW ys F)) w hxw.1 hxw.2 a1 a2
    unfold mH mL mE at hP
    rw [hm, a3] at hP
    rw [if_pos hle, if_pos hle, if_pos hle] at hP
    have hdl : 0 ≤ rate * F - sW ys F ∧ rate * F - sW ys F < 340282366920938463463374607431768211456 := by omega
    obtain ⟨c1, c2, c3⟩ := split_word hdl
    have hdw : Word (slF ys F - rate) := by unfold Word at *; omega
    have hD := fun w => Div_any (hiW (rate * F - sW ys F)) (loW (rate * F - sW ys F)) (slF ys F - rate) w c1 c2 hdw
    have hq0 : 0 ≤ laD ys rate F := Int.ediv_nonneg (by omega) (by omega)
    have hgw : Word (k - F) := ⟨by omega, by omega⟩
    by_cases hfit : slF ys F - rate ≤ hiW (rate * F - sW ys F)
    · have he : dE (hiW (rate * F - sW ys F)) (slF ys F - rate) = 10 := by unfold dE; rw [if_neg (by omega), if_pos hfit]
      have hbig : ¬ laD ys rate F < k - F := by
        unfold laD
        rw [div_lt_iff (by omega)]
        intro hlt
        have h3 : (slF ys F - rate) * 18446744073709551616 ≤ rate * F - sW ys F := by
          have := Int.mul_le_mul_of_nonneg_right hfit (show (0 : Int) ≤ 18446744073709551616 by omega)
          have h5 : hiW (rate * F - sW ys F) * 18446744073709551616 ≤ rate * F - sW ys F := by unfold hiW; omega
          omega
        have h4 : (k - F) * (slF ys F - rate) ≤ 18446744073709551616 * (slF ys F - rate) := Int.mul_le_mul_of_nonneg_right (by omega) (by omega)
        have h6 := Int.mul_comm (slF ys F - rate) 18446744073709551616
        omega
      have hb : laB ys rate F k = false := decide_eq_false (fun h => hbig h.2)
      have ht : laT ys rate F k = 0 := by unfold laT; rw [hb]; rfl
      rw [hb, ht]
      rw [he] at hD
      exact lateM_of F k (slF ys F) _ _ rate _ _ _ _ _ _ _ 10 _ _ _ _ false 0 w hs rfl rfl rfl rfl (fun w => Mul_any _ _ w hr hFw) hP (by rw [wrapU hdw]; exact hD) (Lib.hid (.inl ⟨rfl, rfl, rfl⟩))
    · have he : dE (hiW (rate * F - sW ys F)) (slF ys F - rate) = 0 := by unfold dE; rw [if_neg (by omega), if_neg hfit]
      have hq : dQ (hiW (rate * F - sW ys F)) (loW (rate * F - sW ys F)) (slF ys F - rate) = laD ys rate F := by unfold dQ laD; rw [if_neg (by omega), if_neg hfit, c3]
      rw [he, hq] at hD
      by_cases hlt : laD ys rate F < k - F
      · have hb : laB ys rate F k = true := decide_eq_true ⟨hs, hlt⟩
        have ht : laT ys rate F k = F + laD ys rate F + 1 := by unfold laT; rw [if_pos hb]
        rw [hb, ht]
        exact lateM_of F k (slF ys F) _ _ rate _ _ _ _ _ _ _ 0 _ (k - F) (F + laD ys rate F) (F + laD ys rate F + 1) true _ w hs rfl (wrapU hgw) (wrapU ⟨by omega, by omega⟩) (wrapU ⟨by omega, by omega⟩) (fun w => Mul_any _ _ w hr hFw) hP (by rw [wrapU hdw]; exact hD) (Lib.hid (.inr (.inr ⟨rfl, hlt, rfl, rfl⟩)))
      · have hb : laB ys rate F k = false := decide_eq_false (fun h => hlt h.2)
        have ht : laT ys rate F k = 0 := by unfold laT; rw [hb]; rfl
        rw [hb, ht]
        exact lateM_of F k (slF ys F) _ _ rate _ _ _ _ _ _ _ 0 _ (k - F) _ _ false 0 w hs rfl (wrapU hgw) rfl rfl (fun w => Mul_any _ _ w hr hFw) hP (by rw [wrapU hdw]; exact hD) (Lib.hid (.inr (.inl ⟨rfl, by omega, rfl, rfl⟩)))
end Go.Proofs.Ytmhmoebdojkbpaa
