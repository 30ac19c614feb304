/- A block of memory that holds a number of two words, and what keeps it. No condition. A block that holds a number of two words: what a store into another block leaves, and a store into it. No condition. Plain arithmetic of quotients and sums that stop at 2^62. No condition. Plain arithmetic of quotients and sums that stop, more of it: orders, rounding up and down. No condition. What the program's calls answer that make a word wide and that stop a number, of one word and of two. No condition but that words are words. What the program's calls answer that stop a number of two words; and its Plus, Minus, Times. No condition but that words are words. A block of the call's own that holds a number of two words; the sum of products of two rows. No condition. What the program's call 'quotient' answers, for both roundings; and Down, Up, Over. No condition but that words are words. What the program's calls Down, Up, Over answer. No condition but that words are words. -/
import Derived.Test.YtjbpaapglamilaaGA
import Derived.WalkSmall
import Derived.Deep.RegionHeld3
import Derived.Deep.CutRange
import Derived.Test.YtjbpaapglamilaaGB
namespace Go.Proofs.Ytjbpaapglamilaa
open Go.RowKit W
/-- Block B holds the words x and y. -/
def Has (w : World) (B : Nat) (x y : Int) : Prop := B < w.heap.size ∧ w.cell? ⟨B, 0, none⟩ = some (.int .u64 x) ∧ w.cell? ⟨B, 1, none⟩ = some (.int .u64 y)
theorem Has.new (w : World) (x y : Int) : Has (w.alloc (.cells #[.int .u64 x, .int .u64 y] 96)) w.heap.size x y := by
  refine ⟨by simp, ?_, ?_⟩ <;> simp
theorem Has.new2 (w : World) (o : Obj) (x y : Int) : Has ((w.alloc o).alloc (.cells #[.int .u64 x, .int .u64 y] 96)) (w.heap.size + 1) x y := by
  have := Has.new (w.alloc o) x y
  simpa using this
theorem Has.alloc {w : World} {B : Nat} {x y : Int} (h : Has w B x y) (o : Obj) : Has (w.alloc o) B x y := by
  obtain ⟨a, b, c⟩ := h
  have hb : Below w.heap.size w (w.alloc o) := up1 w o
  exact ⟨Nat.lt_of_lt_of_le a hb.size, (hb.cell (p := ⟨B, 0, none⟩) a).trans b, (hb.cell (p := ⟨B, 1, none⟩) a).trans c⟩
theorem Has.below {W w : World} {B : Nat} {x y : Int} (h : Has W B x y) (hb : Below W.heap.size W w) : Has w B x y := by
  obtain ⟨a, b, c⟩ := h
  exact ⟨Nat.lt_of_lt_of_le a hb.size, (hb.cell (p := ⟨B, 0, none⟩) a).trans b, (hb.cell (p := ⟨B, 1, none⟩) a).trans c⟩
theorem Has.drewN {w : World} {B : Nat} {x y : Int} (h : Has w B x y) (n : Nat) : Has (w.drewN n) B x y := h
theorem Has.drew {w : World} {B : Nat} {x y : Int} (h : Has w B x y) : Has w.drew B x y := h
/-- What lies behind W lies behind what lies below W. -/
theorem up {B : Nat} {W w w' : World} (h : Below B W w) (k : Below w.heap.size w w') (hB : B ≤ w.heap.size) : Below B W w' := h.trans (k.mono hB)
theorem undrew {w w' : World} (h : Below w.drew.heap.size w.drew w') : Below w.heap.size w w' := ((Below.refl _ w).drew).trans h
theorem undrewN {w w' : World} {n : Nat} (h : Below (w.drewN n).heap.size (w.drewN n) w') : Below w.heap.size w w' := (below_drewN (Below.refl _ w) n).trans h
theorem word_of {x : Int} (h : (Lit.int .u64 x).wf = true) : Word x := by
  simp [Lit.wf, IntKind.min, IntKind.max, IntKind.bits, IntKind.signed] at h
  unfold Word; omega
end Go.Proofs.Ytjbpaapglamilaa
namespace Go.Proofs.Ytjbpaapglamilaa
open Go.RowKit W
theorem Has.setLt {w : World} {B : Nat} {x y : Int} (h : Has w B x y) {a : Addr} (hl : B < a.block) (v : Value) : Has (w.setCell a v) B x y := by
  obtain ⟨h1, h2, h3⟩ := h
  have hb : Below a.block w (w.setCell a v) := (Below.refl _ _).setCell (Nat.le_refl _) v
  exact ⟨Nat.lt_of_lt_of_le h1 hb.size, (hb.cell (p := ⟨B, 0, none⟩) hl).trans h2, (hb.cell (p := ⟨B, 1, none⟩) hl).trans h3⟩
theorem Has.store {w : World} {B : Nat} {x y : Int} (h : Has w B x y) (u v : Int) : Has ((w.setCell ⟨B, 0, none⟩ (.int .u64 u)).setCell ⟨B, 1, none⟩ (.int .u64 v)) B u v := by
  obtain ⟨h1, h2, h3⟩ := h
  refine ⟨by simpa [World.setCell] using h1, ?_, ?_⟩
  · simp [go_sem, h2]
  · simp [go_sem, h3]
end Go.Proofs.Ytjbpaapglamilaa
namespace Go.Proofs.Ytjbpaapglamilaa.W
set_option linter.unusedVariables false
/-- A number, stopped. -/
def stp (x : Int) : Int := if 4611686018427387904 < x then 4611686018427387904 else x
def rM (a b : Int) : Int := if a < b then 0 else stp (a - b)
def rP (a b : Int) : Int := stp (a + b)
def rT (a b : Int) : Int := stp (a * b)
def rH (a b : Int) : Int := if a ≤ b then a + (b - a) / 2 else b + (a - b) / 2
def qE (c : Int) : Int := if c = 0 then 2 else 0
def qD (a b c : Int) : Int := if c = 0 then 0 else stp (a * b / c)
def qU (a b c : Int) : Int := if c = 0 then 0 else stp ((a * b + (c - 1)) / c)
theorem stp_hi {x : Int} (h : 4611686018427387904 < x) : stp x = 4611686018427387904 := by unfold stp; rw [if_pos h]
theorem stp_lo {x : Int} (h : x ≤ 4611686018427387904) : stp x = x := by unfold stp; rw [if_neg (by omega)]
theorem stp_le (x : Int) : stp x ≤ 4611686018427387904 := by unfold stp; split <;> omega
theorem stp_nn {x : Int} (h : 0 ≤ x) : 0 ≤ stp x := by unfold stp; split <;> omega
theorem stp_word {x : Int} (h : 0 ≤ x) : Word (stp x) := by have := stp_le x; have := stp_nn h; unfold Word; omega
end Go.Proofs.Ytjbpaapglamilaa.W
namespace Go.Proofs.Ytjbpaapglamilaa.W
set_option linter.unusedVariables false
theorem rP_comm (a b : Int) : rP b a = rP a b := by unfold rP; rw [Int.add_comm]
theorem rT_comm (a b : Int) : rT b a = rT a b := by unfold rT; rw [Int.mul_comm]
theorem rM_nn {a b : Int} : 0 ≤ rM a b := by unfold rM; split; exact Int.le_refl _; exact stp_nn (by omega)
theorem rM_le {a b : Int} : rM a b ≤ 4611686018427387904 := by unfold rM; split; omega; exact stp_le _
theorem rP_word {a b : Int} (ha : Word a) (hb : Word b) : Word (rP a b) := stp_word (by unfold Word at *; omega)
theorem rT_word {a b : Int} (ha : Word a) (hb : Word b) : Word (rT a b) := stp_word (word_mul ha hb).1
theorem rM_word {a b : Int} : Word (rM a b) := by have := @rM_nn a b; have := @rM_le a b; unfold Word; omega
theorem stp_mono {x y : Int} (h : x ≤ y) : stp x ≤ stp y := by unfold stp; split <;> split <;> omega
theorem stp_or (x : Int) : (x ≤ 4611686018427387904 ∧ stp x = x) ∨ (4611686018427387904 < x ∧ stp x = 4611686018427387904) := by unfold stp; split <;> omega
theorem rP_assoc {a b c : Int} (ha : Word a) (hb : Word b) (hc : Word c) : rP a (rP b c) = rP (rP a b) c := by
  unfold rP
  unfold Word at *
  have h1 := stp_or (b + c)
  have h2 := stp_or (a + b)
  have h3 := stp_or (a + stp (b + c))
  have h4 := stp_or (stp (a + b) + c)
  omega
theorem stp_mul {x c : Int} (hx : 0 ≤ x) (hc : 0 ≤ c) : stp (stp x * c) = stp (x * c) := by
  rcases stp_or x with ⟨h, e⟩ | ⟨h, e⟩
  · rw [e]
  · rw [e]
    rcases Int.lt_or_eq_of_le hc with h0 | rfl
    · have h1 : (4611686018427387904 : Int) * 1 ≤ 4611686018427387904 * c := Int.mul_le_mul_of_nonneg_left (by omega) (by omega)
      have h2 : (4611686018427387904 : Int) * c < x * c := Int.mul_lt_mul_of_pos_right h h0
      rw [stp_hi (show 4611686018427387904 < x * c by omega)]
      rcases stp_or (4611686018427387904 * c) with ⟨h, e⟩ | ⟨h, e⟩ <;> omega
    · simp
theorem rT_assoc {a b c : Int} (ha : Word a) (hb : Word b) (hc : Word c) : rT a (rT b c) = rT (rT a b) c := by
  unfold rT
  rw [stp_mul (word_mul ha hb).1 hc.1, Int.mul_comm a, stp_mul (word_mul hb hc).1 ha.1, Int.mul_comm (b * c), Int.mul_assoc]
theorem rM_mono {a b c : Int} (h : a ≤ b) : rM a c ≤ rM b c := by
  unfold rM; split <;> split
  · omega
  · exact stp_nn (by omega)
  · omega
  · exact stp_mono (by omega)
theorem rM_anti {a b c : Int} (h : a ≤ b) : rM c b ≤ rM c a := by
  unfold rM; split <;> split
  · omega
  · exact stp_nn (by omega)
  · omega
  · exact stp_mono (by omega)
theorem rT_mono {a b c : Int} (h : a ≤ b) (hc : 0 ≤ c) : rT a c ≤ rT b c := stp_mono (Int.mul_le_mul_of_nonneg_right h hc)
theorem rP_mono {a b c : Int} (h : a ≤ b) : rP a c ≤ rP b c := stp_mono (by omega)
theorem rP_back {x y : Int} (h : x ≤ y) (hx : 0 ≤ x) : rP y 0 = rP (rM y x) x := by
  unfold rP rM
  rw [if_neg (by omega)]
  have h1 := stp_or (y - x)
  have h2 := stp_or (stp (y - x) + x)
  have h3 := stp_or (y + 0)
  omega
theorem rH_comm (a b : Int) : rH b a = rH a b := by
  unfold rH
  split <;> split <;> omega
theorem rH_lt {a b : Int} (h : a < b) : a ≤ rH a b ∧ rH a b ≤ b ∧ (b - rH a b = rH a b - a ∨ b - rH a b = rH a b - a + 1) := by
  unfold rH; rw [if_pos (by omega)]; omega
theorem rH_gt {a b : Int} (h : b < a) : b ≤ rH a b ∧ rH a b ≤ a ∧ (a - rH a b = rH a b - b ∨ a - rH a b = rH a b - b + 1) := by
  unfold rH; rw [if_neg (by omega)]; omega
theorem rH_eq (a : Int) : rH a a = a := by unfold rH; rw [if_pos (by omega)]; omega
theorem qD_nn {a b c : Int} (ha : Word a) (hb : Word b) (hc : Word c) : Word (qD a b c) := by
  unfold qD; split
  · exact ⟨by omega, by omega⟩
  · exact stp_word (Int.ediv_nonneg (word_mul ha hb).1 hc.1)
theorem qU_nn {a b c : Int} (ha : Word a) (hb : Word b) (hc : Word c) : Word (qU a b c) := by
  unfold qU; split
  · exact ⟨by omega, by omega⟩
  · have := (word_mul ha hb).1
    exact stp_word (Int.ediv_nonneg (by have := hc.1; omega) hc.1)
theorem ceil_some2 {x c : Int} (c0 : 1 ≤ c) (h : 0 < x % c) : (x + (c - 1)) / c = x / c + 1 := by
  have e := Int.mul_ediv_add_emod x c
  have m := Int.emod_lt_of_pos x (show 0 < c by omega)
  have e2 : x + (c - 1) = (x % c - 1) + c * (x / c + 1) := by rw [Int.mul_add]; omega
  rw [e2, Int.add_mul_ediv_left _ _ (by omega), Int.ediv_eq_zero_of_lt (by omega) (by omega)]
  omega
theorem ceil_none2 {x c : Int} (c0 : 1 ≤ c) (h : x % c = 0) : (x + (c - 1)) / c = x / c := by
  have e := Int.mul_ediv_add_emod x c
  have e2 : x + (c - 1) = (c - 1) + c * (x / c) := by omega
  rw [e2, Int.add_mul_ediv_left _ _ (by omega), Int.ediv_eq_zero_of_lt (by omega) (by omega)]
  omega
theorem div_mono {x y c : Int} (hc : 0 < c) (h : x ≤ y) : x / c ≤ y / c := Int.ediv_le_ediv hc h
theorem qD_mono {x y b c : Int} (h : x ≤ y) (hb : 0 ≤ b) (hc : 0 ≤ c) : qD x b c ≤ qD y b c := by
  unfold qD; split
  · omega
  · exact stp_mono (div_mono (by omega) (Int.mul_le_mul_of_nonneg_right h hb))
theorem qU_mono {x y b c : Int} (h : x ≤ y) (hb : 0 ≤ b) (hc : 0 ≤ c) : qU x b c ≤ qU y b c := by
  unfold qU; split
  · omega
  · have := Int.mul_le_mul_of_nonneg_right h hb
    exact stp_mono (div_mono (by omega) (by omega))
theorem div_anti {x c : Int} (hx : 0 ≤ x) (hc : 0 < c) : x / (c + 1) ≤ x / c := by
  apply Int.le_ediv_of_mul_le hc
  have e := Int.mul_ediv_add_emod x (c + 1)
  have m := Int.emod_nonneg x (show c + 1 ≠ 0 by omega)
  have q := Int.ediv_nonneg hx (show 0 ≤ c + 1 by omega)
  rw [Int.add_mul, Int.one_mul] at e
  rw [Int.mul_comm]
  omega
theorem qD_anti {x b c : Int} (hx : Word x) (hb : Word b) (hc : 0 < c) : qD x b (c + 1) ≤ qD x b c := by
  unfold qD; rw [if_neg (by omega), if_neg (by omega)]
  exact stp_mono (div_anti (word_mul hx hb).1 hc)
theorem ceil_anti {x c : Int} (hx : 0 ≤ x) (hc : 0 < c) : (x + (c + 1 - 1)) / (c + 1) ≤ (x + (c - 1)) / c := by
  rcases Int.lt_or_eq_of_le (Int.emod_nonneg x (show c ≠ 0 by omega)) with h | h
  · rw [ceil_some2 (by omega) h]
    have := div_anti hx hc
    have h2 : (x + (c + 1 - 1)) / (c + 1) ≤ x / (c + 1) + 1 := by
      rcases Int.lt_or_eq_of_le (Int.emod_nonneg x (show c + 1 ≠ 0 by omega)) with k | k
      · rw [ceil_some2 (by omega) k]; omega
      · rw [ceil_none2 (by omega) k.symm]; omega
    omega
  · rw [ceil_none2 (by omega) h.symm]
    -- x = c * q: (c q + c) / (c + 1) ≤ q
    have e := Int.mul_ediv_add_emod x c
    have q := Int.ediv_nonneg hx (show 0 ≤ c by omega)
    obtain ⟨Q, eQ⟩ : ∃ Q, x / c = Q := ⟨_, rfl⟩
    rw [eQ] at e q ⊢
    have : (x + (c + 1 - 1)) / (c + 1) < Q + 1 := by
      apply Int.ediv_lt_of_lt_mul (by omega)
      have e1 : (Q + 1) * (c + 1) = c * Q + Q + c + 1 := by rw [Int.add_mul, Int.mul_add, Int.mul_comm Q c]; omega
      omega
    omega
theorem qU_anti {x b c : Int} (hx : Word x) (hb : Word b) (hc : 0 < c) : qU x b (c + 1) ≤ qU x b c := by
  unfold qU; rw [if_neg (by omega), if_neg (by omega)]
  exact stp_mono (ceil_anti (word_mul hx hb).1 hc)
/-- The least number of which c times it is p at least. -/
theorem ceil_spec {p c : Int} (hp : 0 ≤ p) (hc : 0 < c) : 0 ≤ (p + (c - 1)) / c ∧ p ≤ (p + (c - 1)) / c * c ∧ (p + (c - 1)) / c * c < p + c := by
  have e := Int.mul_ediv_add_emod (p + (c - 1)) c
  have m0 := Int.emod_nonneg (p + (c - 1)) (show c ≠ 0 by omega)
  have m1 := Int.emod_lt_of_pos (p + (c - 1)) hc
  refine ⟨Int.ediv_nonneg (by omega) (by omega), ?_, ?_⟩ <;> rw [Int.mul_comm] <;> omega
theorem least_spec {a b c : Int} (ha : Word a) (hb : Word b) (hc : Word c) (b0 : 0 < b) (c0 : 0 < c) (aC : a < 4611686018427387904) :
    (qU a b c = 4611686018427387904 ∧ 4611686018427387903 * c < a * b) ∨
    (qU a b c = 0 ∧ a = 0) ∨
    (0 < qU a b c ∧ qU a b c < 4611686018427387904 ∧ a ≤ qD (qU a b c) c b ∧ qD (qU a b c - 1) c b < a) := by
  have hp := (word_mul ha hb).1
  obtain ⟨u0, u1, u2⟩ := ceil_spec hp c0
  have eU : qU a b c = stp ((a * b + (c - 1)) / c) := by unfold qU; rw [if_neg (by omega)]
  rw [eU]
  obtain ⟨u, hu⟩ : ∃ u, (a * b + (c - 1)) / c = u := ⟨_, rfl⟩
  rw [hu] at u0 u1 u2 ⊢
  rcases Int.lt_or_le u 4611686018427387904 with h | h
  · right
    rw [stp_lo (show u ≤ 4611686018427387904 by omega)]
    rcases Int.lt_or_eq_of_le u0 with k | k
    · right
      refine ⟨k, h, ?_, ?_⟩
      · unfold qD; rw [if_neg (by omega)]
        have h1 : a ≤ u * c / b := Int.le_ediv_of_mul_le b0 u1
        rcases stp_or (u * c / b) with ⟨h2, e⟩ | ⟨h2, e⟩ <;> omega
      · unfold qD; rw [if_neg (by omega)]
        have h1 : (u - 1) * c / b < a := by
          apply Int.ediv_lt_of_lt_mul b0
          rw [Int.sub_mul, Int.one_mul]; omega
        rw [stp_lo (by omega)]
        exact h1
    · left
      refine ⟨k.symm, ?_⟩
      rw [← k, Int.zero_mul] at u1
      have h3 : a * b = 0 := by omega
      rcases Int.mul_eq_zero.1 h3 with h4 | h4
      · exact h4
      · omega
  · left
    refine ⟨?_, ?_⟩
    · rcases stp_or u with ⟨h2, e⟩ | ⟨h2, e⟩ <;> omega
    · have h1 : (4611686018427387904 : Int) * c ≤ u * c := Int.mul_le_mul_of_nonneg_right h (by omega)
      omega
/-- What Down and Up are to the product. -/
theorem downUp_spec {a b c : Int} (ha : Word a) (hb : Word b) (hc : Word c) (c0 : 0 < c) :
    (qD a b c = 4611686018427387904 ∧ qU a b c = 4611686018427387904 ∧ 4611686018427387904 * c ≤ a * b) ∨
    (qD a b c < 4611686018427387904 ∧ qU a b c = qD a b c ∧ qD a b c * c = a * b ∧ a * b < (qD a b c + 1) * c) ∨
    (qD a b c < 4611686018427387904 ∧ qU a b c = qD a b c + 1 ∧ qD a b c * c < a * b ∧ a * b < (qD a b c + 1) * c) := by
  have hp := (word_mul ha hb).1
  unfold qD qU
  rw [if_neg (by omega), if_neg (by omega)]
  obtain ⟨p, ep⟩ : ∃ p, a * b = p := ⟨_, rfl⟩
  rw [ep] at hp ⊢
  have e := Int.mul_ediv_add_emod p c
  have m0 := Int.emod_nonneg p (show c ≠ 0 by omega)
  have m1 := Int.emod_lt_of_pos p c0
  have q0 := Int.ediv_nonneg hp (show 0 ≤ c by omega)
  rcases Int.lt_or_le (p / c) 4611686018427387904 with h | h
  · rw [stp_lo (show p / c ≤ 4611686018427387904 by omega)]
    rcases Int.lt_or_eq_of_le m0 with k | k
    · rw [ceil_some2 (by omega) k, stp_lo (by omega)]
      refine .inr (.inr ⟨h, rfl, ?_, ?_⟩)
      · rw [Int.mul_comm]; omega
      · rw [Int.add_mul, Int.mul_comm (p / c)]; omega
    · rw [ceil_none2 (by omega) k.symm, stp_lo (by omega)]
      refine .inr (.inl ⟨h, rfl, ?_, ?_⟩)
      · rw [Int.mul_comm]; omega
      · rw [Int.add_mul, Int.mul_comm (p / c)]; omega
  · left
    have h1 : p / c ≤ (p + (c - 1)) / c := div_mono c0 (by omega)
    refine ⟨?_, ?_, ?_⟩
    · rcases stp_or (p / c) with ⟨h2, e⟩ | ⟨h2, e⟩ <;> omega
    · rcases stp_or ((p + (c - 1)) / c) with ⟨h2, e⟩ | ⟨h2, e⟩ <;> omega
    · have := Int.mul_le_mul_of_nonneg_right h (show 0 ≤ c by omega)
      rw [Int.mul_comm (p / c)] at this
      omega
end Go.Proofs.Ytjbpaapglamilaa.W
namespace Go.Proofs.Ytjbpaapglamilaa
open Go.RowKit W
set_option linter.unusedVariables false
end Go.Proofs.Ytjbpaapglamilaa
namespace Go.Proofs.Ytjbpaapglamilaa
open Go.RowKit W
set_option linter.unusedVariables false

set_option maxRecDepth 100000 in
theorem fieldLow (x y : Int) (w : World) : (Instr.field 96 (.agg #[.int .u64 x, .int .u64 y]) 1).run Try.prog w = .ok (.int .u64 y) w := by rfl

end Go.Proofs.Ytjbpaapglamilaa
namespace Go.Proofs.Ytjbpaapglamilaa
open Go.RowKit W
set_option linter.unusedVariables false
/-- Block B holds the words x and y, and may be written. -/
def Own (w : World) (B : Nat) (x y : Int) : Prop := Has w B x y ∧ w.frozen? ⟨B, 0, none⟩ = false ∧ w.frozen? ⟨B, 1, none⟩ = false
theorem Own.new (w : World) (x y : Int) : Own (w.alloc (.cells #[.int .u64 x, .int .u64 y] 96)) w.heap.size x y :=
  ⟨Has.new w x y, World.frozen?_alloc_new _ _ _ _, World.frozen?_alloc_new _ _ _ _⟩
theorem Own.below {W w : World} {B : Nat} {x y : Int} (h : Own W B x y) (hb : Below W.heap.size W w) : Own w B x y :=
  ⟨h.1.below hb, (hb.frozen (p := ⟨B, 0, none⟩) h.1.1).trans h.2.1, (hb.frozen (p := ⟨B, 1, none⟩) h.1.1).trans h.2.2⟩
theorem Own.alloc {w : World} {B : Nat} {x y : Int} (h : Own w B x y) (o : Obj) : Own (w.alloc o) B x y := h.below (up1 w o)
theorem Own.setLt {w : World} {B : Nat} {x y : Int} (h : Own w B x y) {a : Addr} (hl : B < a.block) (v : Value) : Own (w.setCell a v) B x y :=
  ⟨h.1.setLt hl v, (World.frozen?_setCell _ _ _ _).trans h.2.1, (World.frozen?_setCell _ _ _ _).trans h.2.2⟩
theorem Has.setNe {w : World} {B : Nat} {x y : Int} (h : Has w B x y) {a : Addr} (hl : B ≠ a.block) (v : Value) : Has (w.setCell a v) B x y := by
  obtain ⟨h1, h2, h3⟩ := h
  have e : (w.setCell a v).heap[B]? = w.heap[B]? := Below.heap_setCell w a v B hl
  exact ⟨by simpa [World.setCell] using h1, (World.cell?_of_block (a := ⟨B, 0, none⟩) e).trans h2, (World.cell?_of_block (a := ⟨B, 1, none⟩) e).trans h3⟩
theorem Own.setNe {w : World} {B : Nat} {x y : Int} (h : Own w B x y) {a : Addr} (hl : B ≠ a.block) (v : Value) : Own (w.setCell a v) B x y :=
  ⟨h.1.setNe hl v, (World.frozen?_setCell _ _ _ _).trans h.2.1, (World.frozen?_setCell _ _ _ _).trans h.2.2⟩
theorem Own.store {w : World} {B : Nat} {x y : Int} (h : Own w B x y) (u v : Int) : Own ((w.setCell ⟨B, 0, none⟩ (.int .u64 u)).setCell ⟨B, 1, none⟩ (.int .u64 v)) B u v :=
  ⟨h.1.store u v, by rw [World.frozen?_setCell, World.frozen?_setCell]; exact h.2.1, by rw [World.frozen?_setCell, World.frozen?_setCell]; exact h.2.2⟩

namespace W
/-- The sum of the first k products. -/
def S (f g : Nat → Int) : Nat → Int
  | 0 => 0
  | k + 1 => S f g k + f k * g k
def sE (t : Int) : Int := if t < 340282366920938463463374607431768211456 then 0 else 10
def sH (t : Int) : Int := if t < 340282366920938463463374607431768211456 then t / 18446744073709551616 else 0
def sL (t : Int) : Int := if t < 340282366920938463463374607431768211456 then t % 18446744073709551616 else 0
theorem s_ok {t : Int} (h : t < 340282366920938463463374607431768211456) : sE t = 0 ∧ sH t = t / 18446744073709551616 ∧ sL t = t % 18446744073709551616 := by
  unfold sE sH sL; rw [if_pos h, if_pos h, if_pos h]; exact ⟨rfl, rfl, rfl⟩
theorem s_no {t : Int} (h : ¬ t < 340282366920938463463374607431768211456) : sE t = 10 ∧ sH t = 0 ∧ sL t = 0 := by
  unfold sE sH sL; rw [if_neg h, if_neg h, if_neg h]; exact ⟨rfl, rfl, rfl⟩
theorem V_s (t : Int) : V (t / 18446744073709551616) (t % 18446744073709551616) = t := by unfold V; omega
theorem p_s (t a b : Int) : pE (t / 18446744073709551616) (t % 18446744073709551616) (xH a b) (xL a b) = sE (t + a * b) ∧ pH (t / 18446744073709551616) (t % 18446744073709551616) (xH a b) (xL a b) = sH (t + a * b) ∧ pL (t / 18446744073709551616) (t % 18446744073709551616) (xH a b) (xL a b) = sL (t + a * b) := by
  unfold pE pH pL sE sH sL
  rw [V_s, V_x]
  exact ⟨rfl, rfl, rfl⟩
theorem S_mono {f g : Nat → Int} {n : Nat} (hf : ∀ j, j < n → Word (f j)) (hg : ∀ j, j < n → Word (g j)) : ∀ k, k ≤ n → 0 ≤ S f g k ∧ ∀ m, k + m ≤ n → S f g k ≤ S f g (k + m) := by
  have step : ∀ j, j < n → 0 ≤ f j * g j := fun j hj => (word_mul (hf j hj) (hg j hj)).1
  intro k
  induction k with
  | zero =>
    intro _
    refine ⟨Int.le_refl 0, fun m => ?_⟩
    induction m with
    | zero => intro _; exact Int.le_refl _
    | succ m ih => intro h; have := ih (by omega); have := step (0 + m) (by omega); show S f g 0 ≤ S f g (0 + m) + f (0 + m) * g (0 + m); omega
  | succ k ihk =>
    intro hk
    obtain ⟨a, _⟩ := ihk (by omega)
    have b := step k (by omega)
    refine ⟨by show 0 ≤ S f g k + f k * g k; omega, fun m => ?_⟩
    induction m with
    | zero => intro _; exact Int.le_refl _
    | succ m ih => intro h; have := ih (by omega); have := step (k + 1 + m) (by omega); show S f g (k + 1) ≤ S f g (k + 1 + m) + f (k + 1 + m) * g (k + 1 + m); omega
end W
end Go.Proofs.Ytjbpaapglamilaa
namespace Go.Proofs.Ytjbpaapglamilaa
open Go.RowKit W
set_option linter.unusedVariables false
/-- Block B holds, in its first cell, v. -/
def Cel (w : World) (B : Nat) (v : Value) : Prop := B < w.heap.size ∧ w.cell? ⟨B, 0, none⟩ = some v
theorem Cel.below {W w : World} {B : Nat} {v : Value} (h : Cel W B v) (hb : Below W.heap.size W w) : Cel w B v :=
  ⟨Nat.lt_of_lt_of_le h.1 hb.size, (hb.cell (p := ⟨B, 0, none⟩) h.1).trans h.2⟩
theorem Cel.alloc {w : World} {B : Nat} {v : Value} (h : Cel w B v) (o : Obj) : Cel (w.alloc o) B v := h.below (up1 w o)
theorem Cel.setNe {w : World} {B : Nat} {v : Value} (h : Cel w B v) {a : Addr} (hl : B ≠ a.block) (u : Value) : Cel (w.setCell a u) B v :=
  ⟨by simpa [World.setCell] using h.1, (World.cell?_of_block (a := ⟨B, 0, none⟩) (Below.heap_setCell w a u B hl)).trans h.2⟩
theorem Own.new2 (w : World) (o : Obj) (x y : Int) : Own ((w.alloc o).alloc (.cells #[.int .u64 x, .int .u64 y] 96)) (w.heap.size + 1) x y := by
  have := Own.new (w.alloc o) x y
  simpa using this
theorem Own.lt {w : World} {B : Nat} {x y : Int} (h : Own w B x y) : B < w.heap.size := h.1.1


end Go.Proofs.Ytjbpaapglamilaa
namespace Go.Proofs.Ytjbpaapglamilaa
open Go.RowKit W
set_option linter.unusedVariables false
namespace W
theorem much_le {h l c : Int} (hl : Word l) (c0 : 1 ≤ c) (h1 : c ≤ h) : 18446744073709551616 ≤ V h l / c := by
  unfold Word at hl
  apply Int.le_ediv_of_mul_le (by omega)
  have := Int.mul_le_mul_of_nonneg_left h1 (show (0 : Int) ≤ 18446744073709551616 by omega)
  unfold V; omega
theorem quo_word {h l c : Int} (hh : Word h) (hl : Word l) (c0 : 1 ≤ c) (h1 : h < c) : Word (V h l / c) := by
  unfold Word at *
  have hV : 0 ≤ V h l := by unfold V; omega
  refine ⟨Int.ediv_nonneg hV (by omega), ?_⟩
  apply Int.ediv_lt_of_lt_mul (by omega)
  have := Int.mul_le_mul_of_nonneg_left (show h + 1 ≤ c by omega) (show (0 : Int) ≤ 18446744073709551616 by omega)
  unfold V; omega
end W
end Go.Proofs.Ytjbpaapglamilaa
