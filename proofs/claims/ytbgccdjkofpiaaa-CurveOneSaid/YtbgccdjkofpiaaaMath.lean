/- Plain arithmetic of numbers of 128 bits, written as a high and a low word: what sums, differences, products, quotients and comparisons are. No condition. -/
namespace Go.Proofs.Ytbgccdjkofpiaaa.W
set_option linter.unusedVariables false

/-- A word. -/
def Word (x : Int) : Prop := 0 ≤ x ∧ x < 18446744073709551616

/-- The number that a high and a low word make. -/
def V (h l : Int) : Int := h * 18446744073709551616 + l

def pE (a b c d : Int) : Int := if V a b + V c d < 340282366920938463463374607431768211456 then 0 else 10
def pH (a b c d : Int) : Int := if V a b + V c d < 340282366920938463463374607431768211456 then (V a b + V c d) / 18446744073709551616 else 0
def pL (a b c d : Int) : Int := if V a b + V c d < 340282366920938463463374607431768211456 then (V a b + V c d) % 18446744073709551616 else 0

def mE (a b c d : Int) : Int := if V c d ≤ V a b then 0 else 10
def mH (a b c d : Int) : Int := if V c d ≤ V a b then (V a b - V c d) / 18446744073709551616 else 0
def mL (a b c d : Int) : Int := if V c d ≤ V a b then (V a b - V c d) % 18446744073709551616 else 0

def cmpN (x y : Int) : Int := if x < y then -1 else if x = y then 0 else 1
def cmpW (a b c d : Int) : Int := cmpN (V a b) (V c d)

def dE (h n : Int) : Int := if n = 0 then 2 else if n ≤ h then 10 else 0
def dQ (h l n : Int) : Int := if n = 0 then 0 else if n ≤ h then 0 else V h l / n
def dR (h l n : Int) : Int := if n = 0 then 0 else if n ≤ h then 0 else V h l % n

def xH (a b : Int) : Int := a * b / 18446744073709551616
def xL (a b : Int) : Int := a * b % 18446744073709551616

theorem cmpN_lt {x y : Int} (h : x < y) : cmpN x y = -1 := by unfold cmpN; rw [if_pos h]
theorem cmpN_eq {x y : Int} (h : x = y) : cmpN x y = 0 := by unfold cmpN; rw [if_neg (by omega), if_pos h]
theorem cmpN_gt {x y : Int} (h : y < x) : cmpN x y = 1 := by unfold cmpN; rw [if_neg (by omega), if_neg (by omega)]
theorem cmpW_hi {a b c d : Int} (hb : Word b) (hd : Word d) (h : a ≠ c) : cmpW a b c d = cmpN a c := by
  unfold cmpW V
  unfold Word at hb hd
  rcases Int.lt_or_gt_of_ne h with h | h
  · rw [cmpN_lt h, cmpN_lt (by omega)]
  · rw [cmpN_gt h, cmpN_gt (by omega)]
theorem cmpW_lo {a b d : Int} : cmpW a b a d = cmpN b d := by
  unfold cmpW V
  rcases Int.lt_trichotomy b d with h | h | h
  · rw [cmpN_lt h, cmpN_lt (by omega)]
  · rw [cmpN_eq h, cmpN_eq (by omega)]
  · rw [cmpN_gt h, cmpN_gt (by omega)]

/-- A borrow, under a name. -/
def bor (x y : Int) : Int := if x < y then 1 else 0
theorem bor_lo (x y : Int) : 0 ≤ bor x y := by unfold bor; split <;> omega
theorem bor_hi (x y : Int) : bor x y ≤ 1 := by unfold bor; split <;> omega

theorem plus_ok {a b c d : Int} (ha : Word a) (hb : Word b) (hc : Word c) (hd : Word d) (h : (a + c + (b + d) / 18446744073709551616) / 18446744073709551616 = 0) :
    pE a b c d = 0 ∧ pH a b c d = (a + c + (b + d) / 18446744073709551616) % 18446744073709551616 ∧ pL a b c d = (b + d) % 18446744073709551616 := by
  unfold Word at ha hb hc hd
  unfold pE pH pL V
  rw [if_pos (by omega), if_pos (by omega), if_pos (by omega)]
  refine ⟨rfl, by omega, by omega⟩
theorem plus_no {a b c d : Int} (ha : Word a) (hb : Word b) (hc : Word c) (hd : Word d) (h : ¬ (a + c + (b + d) / 18446744073709551616) / 18446744073709551616 = 0) :
    pE a b c d = 10 ∧ pH a b c d = 0 ∧ pL a b c d = 0 := by
  unfold Word at ha hb hc hd
  unfold pE pH pL V
  rw [if_neg (by omega), if_neg (by omega), if_neg (by omega)]
  exact ⟨rfl, rfl, rfl⟩
theorem bor_or (x y : Int) : (x < y ∧ bor x y = 1) ∨ (y ≤ x ∧ bor x y = 0) := by
  unfold bor; split <;> omega
theorem minus_ok {a b c d : Int} (hb : Word b) (hd : Word d) (h : bor a (c + bor b d) = 0) :
    mE a b c d = 0 ∧ mH a b c d = (a - c - bor b d) ∧ mL a b c d = (b - d) % 18446744073709551616 := by
  unfold Word at hb hd
  unfold mE mH mL V
  have h1 := bor_or a (c + bor b d)
  have h2 := bor_or b d
  rw [if_pos (by omega), if_pos (by omega), if_pos (by omega)]
  exact ⟨rfl, by omega, by omega⟩
theorem minus_no {a b c d : Int} (hb : Word b) (hd : Word d) (h : ¬ bor a (c + bor b d) = 0) :
    mE a b c d = 10 ∧ mH a b c d = 0 ∧ mL a b c d = 0 := by
  unfold Word at hb hd
  unfold mE mH mL V
  have h1 := bor_or a (c + bor b d)
  have h2 := bor_or b d
  rw [if_neg (by omega), if_neg (by omega), if_neg (by omega)]
  exact ⟨rfl, rfl, rfl⟩
theorem minus_hi {a b c d : Int} (ha : Word a) (hc : Word c) (h : bor a (c + bor b d) = 0) : (a - c - bor b d) % 18446744073709551616 = a - c - bor b d := by
  unfold Word at ha hc
  have h1 := bor_or a (c + bor b d)
  have h2 := bor_or b d
  omega
theorem pOk {a b c d h l : Int} (e : V a b + V c d = V h l) (hl : Word l) (hh : Word h) : pE a b c d = 0 ∧ pH a b c d = h ∧ pL a b c d = l := by
  unfold Word at hl hh
  unfold V at e
  unfold pE pH pL V
  rw [if_pos (by omega), if_pos (by omega), if_pos (by omega)]
  exact ⟨rfl, by omega, by omega⟩
theorem pNo {a b c d : Int} (e : 340282366920938463463374607431768211456 ≤ V a b + V c d) : pE a b c d = 10 ∧ pH a b c d = 0 ∧ pL a b c d = 0 := by
  unfold pE pH pL
  rw [if_neg (by omega), if_neg (by omega), if_neg (by omega)]
  exact ⟨rfl, rfl, rfl⟩
theorem mOk {a b c d h l : Int} (e : V a b - V c d = V h l) (hl : Word l) (hh : Word h) : mE a b c d = 0 ∧ mH a b c d = h ∧ mL a b c d = l := by
  unfold Word at hl hh
  unfold V at e
  unfold mE mH mL V
  rw [if_pos (by omega), if_pos (by omega), if_pos (by omega)]
  exact ⟨rfl, by omega, by omega⟩
theorem mNo {a b c d : Int} (e : V a b < V c d) : mE a b c d = 10 ∧ mH a b c d = 0 ∧ mL a b c d = 0 := by
  unfold mE mH mL
  rw [if_neg (by omega), if_neg (by omega), if_neg (by omega)]
  exact ⟨rfl, rfl, rfl⟩
theorem cmpW_lt {a b c d : Int} (h : V a b < V c d) : cmpW a b c d = -1 := cmpN_lt h
theorem cmpW_gt {a b c d : Int} (h : V c d < V a b) : cmpW a b c d = 1 := cmpN_gt h
theorem cmpW_eq {a b c d : Int} (h : V c d = V a b) : cmpW a b c d = 0 := cmpN_eq h.symm
theorem V_lt {a b c d : Int} (hb : Word b) (hd : Word d) (h : a < c ∨ a = c ∧ b < d) : V a b < V c d := by
  unfold Word at hb hd; unfold V; omega
end Go.Proofs.Ytbgccdjkofpiaaa.W
