/- What both calls of Dot answer, rows of whatever length. Conditions: words; rows as long as an int can count. -/
import Derived.Test.YtiieehnfbemleaaDot
namespace Go.Proofs.Ytiieehnfbemleaa
open Go.RowKit W
set_option linter.unusedVariables false
/-- A row of n words f 0, f 1, .. at an address. -/
def Row (w : World) (ad : Option Addr) (n : Nat) (f : Nat → Int) : Prop := n = 0 ∨ ∃ b o, ad = some ⟨b, o, none⟩ ∧ b < w.heap.size ∧ ∀ j, j < n → w.cell? ⟨b, o + j, none⟩ = some (.int .u64 (f j))
theorem Row.below {W w : World} {ad : Option Addr} {n : Nat} {f : Nat → Int} (h : Row W ad n f) (hb : Below W.heap.size W w) : Row w ad n f := by
  rcases h with h | ⟨b, o, h1, h2, h3⟩
  · exact .inl h
  · exact .inr ⟨b, o, h1, Nat.lt_of_lt_of_le h2 hb.size, fun j hj => (hb.cell (p := ⟨b, o + j, none⟩) h2).trans (h3 j hj)⟩
theorem Row.alloc {w : World} {ad : Option Addr} {n : Nat} {f : Nat → Int} (h : Row w ad n f) (x : Obj) : Row (w.alloc x) ad n f := h.below (up1 w x)

theorem Dot_zero (ad bd : Option Addr) (la ca lb cb : Nat) (w : World) (hla : la ≤ 9223372036854775807) (hlb : lb ≤ 9223372036854775807) (h : la = 0 ∨ lb = 0) :
    Calls Try.prog 12 #[.slice ad la ca, .slice bd lb cb] w fun e w' => e = .returned (.tuple #[.agg #[.int .u64 0, .int .u64 0], .int .i64 0]) ∧ Below w.heap.size w w' := by
  by_cases h1 : la = 0
  · subst h1
    clear h
    go_enter Try.func12, Try.ntmps12
    go_wp2
    refine wp_loop_rounds 1 ?_
    rw [rounds_succ]
    go_wp2
    exact bodyPost_ret (v := .tuple #[.agg #[.int .u64 0, .int .u64 0], .int .i64 0]) (by simp [results, Try.results12, go_sem]) rfl ⟨rfl, up2 _ _ _⟩
  · obtain rfl : lb = 0 := by omega
    clear h
    have h2 : 0 < la := by omega
    go_enter Try.func12, Try.ntmps12
    go_wp2
    refine wp_loop_rounds 1 ?_
    rw [rounds_succ]
    go_wp2
    exact bodyPost_ret (v := .tuple #[.agg #[.int .u64 0, .int .u64 0], .int .i64 0]) (by simp [results, Try.results12, go_sem]) rfl ⟨rfl, up2 _ _ _⟩
theorem Dot_any (f g : Nat → Int) (ad bd : Option Addr) (la ca lb cb : Nat) (w : World) (hla : la ≤ 9223372036854775807) (hlb : lb ≤ 9223372036854775807) (hf : ∀ j, j < la → Word (f j)) (hg : ∀ j, j < lb → Word (g j)) (ra : Row w ad la f) (rb : Row w bd lb g) :
    Calls Try.prog 12 #[.slice ad la ca, .slice bd lb cb] w fun e w' =>
      e = .returned (.tuple #[.agg #[.int .u64 (sH (S f g (min la lb))), .int .u64 (sL (S f g (min la lb)))], .int .i64 (sE (S f g (min la lb)))]) ∧ Below w.heap.size w w' := by
  by_cases h : la = 0 ∨ lb = 0
  · have e : min la lb = 0 := by omega
    rw [e]
    exact Dot_zero ad bd la ca lb cb w hla hlb h
  · rcases ra with ra | ⟨ba, oa, rfl, h1, h2⟩
    · omega
    · rcases rb with rb | ⟨bb, ob, rfl, h3, h4⟩
      · omega
      · exact Dot_pos f g _ la ca lb cb ba oa bb ob w rfl hla hlb (fun j hj => hf j (by omega)) (fun j hj => hg j (by omega)) h1 h3 (fun j hj => h2 j (by omega)) (fun j hj => h4 j (by omega))
end Go.Proofs.Ytiieehnfbemleaa
