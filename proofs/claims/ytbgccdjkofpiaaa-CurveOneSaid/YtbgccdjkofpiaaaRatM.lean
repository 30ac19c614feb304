/- Plain arithmetic of quotients and sums that stop at 2^62. No condition. -/
import Derived.Test.YtbgccdjkofpiaaaMathB
namespace Go.Proofs.Ytbgccdjkofpiaaa.W
set_option linter.unusedVariables false
/-- A number, stopped. -/
def stp (x : Int) : Int := if 4611686018427387904 < x then 4611686018427387904 else x
def rM (a b : Int) : Int := if a < b then 0 else stp (a - b)
def rP (a b : Int) : Int := stp (a + b)
def rT (a b : Int) : Int := stp (a * b)
def rH (a b : Int) : Int := if a ≤ b then a + (b - a) / 2 else b + (a - b) / 2
def qE (c : Int) : Int := if c = 0 then 2 else 0
def qD (a b c : Int) : Int := if c = 0 then 0 else stp (a * b / c)
def qU (a b c : Int) : Int := if c = 0 then 0 else stp ((a * b + (c - 1)) / c)
theorem stp_hi {x : Int} (h : 4611686018427387904 < x) : stp x = 4611686018427387904 := by unfold stp; rw [if_pos h]
theorem stp_lo {x : Int} (h : x ≤ 4611686018427387904) : stp x = x := by unfold stp; rw [if_neg (by omega)]
theorem stp_le (x : Int) : stp x ≤ 4611686018427387904 := by unfold stp; split <;> omega
theorem stp_nn {x : Int} (h : 0 ≤ x) : 0 ≤ stp x := by unfold stp; split <;> omega
theorem stp_word {x : Int} (h : 0 ≤ x) : Word (stp x) := by have := stp_le x; have := stp_nn h; unfold Word; omega
end Go.Proofs.Ytbgccdjkofpiaaa.W
