/- A command, a reply: what is read into it. No condition. -/
import Derived.Test.YtamjnekdfhocdaaDoorCmI
import Derived.Test.YtamjnekdfhocdaaDoorCmG
namespace Go.Proofs.YtamjnekdfhocdaaDoor
open Go.ChangeShapes Go.WideShapes Go.Deep Go.RowKit
set_option linter.unusedVariables false
set_option linter.unusedSimpArgs false
/-- Each of those leads to cells of those kinds, at those places. -/
def RdL (B : Nat) (t : TypeId) : List Value → List (List (Ft × Nat)) → Prop
  | [], _ => True
  | v :: vs, b :: bl => Rd v B t b ∧ RdL B t vs bl
  | _ :: _, [] => False
theorem RdL.at {B : Nat} {t : TypeId} : ∀ {vs : List Value} {bl : List (List (Ft × Nat))}, RdL B t vs bl → ∀ (j : Nat) (v : Value), vs[j]? = some v → ∃ b, bl[j]? = some b ∧ Rd v B t b
  | [], _, _, j, v, h => by simp at h
  | x :: vs, b :: bl, h, 0, v, hv => ⟨b, rfl, by
      have e : x = v := by simpa using hv
      exact e ▸ h.1⟩
  | x :: vs, b :: bl, h, j + 1, v, hv => by
    obtain ⟨b', h1, h2⟩ := h.2.at j v (by simpa using hv)
    exact ⟨b', by simpa using h1, h2⟩
theorem rd_all {T : TypeId} {p : Value} {B : Nat} {t : TypeId} {row : Array Value} {bl : List (List (Ft × Nat))} {n : Nat} {b : List (Ft × Nat)} (h96 : T ≠ 96) (h98 : T ≠ 98) (h100 : T ≠ 100) (h101 : T ≠ 101) (hn : row.toList.length = n) (hsm : n < 1000)
    (hp : ∀ w, Calls Tryd.prog 48 #[.iface T p] w fun e w' => e = .returned (.slice (some ⟨w.heap.size, 0, none⟩) n n) ∧ Box w' w.heap.size row 20 ∧ Below w.heap.size w w')
    (hw : RdL B t row.toList bl) (hb : (bl.take n).flatten = b) : Rd (.iface T p) B t b := by
  have h := rd_rec (B := B) (t := t) (vs := row.toList) (ll := bl) h96 h98 h100 h101 (fun w => by rw [hn, Array.toArray_toList]; exact hp w) hw.at (by omega)
  rw [hn, hb] at h
  exact h
theorem rd_cur (B k : Nat) (t : TypeId) : Rd (.iface 116 (ptrAt B k)) B t [(.u, k), (.u, k + 1), (.u, k + 2)] :=
  rd_all (row := row116 B k) (n := 3) (bl := [[(.u, k)], [(.u, k + 1)], [(.u, k + 2)]]) (by decide) (by decide) (by decide) (by decide) rfl (by decide) (parts_116 B k) ⟨rd_u, rd_u, rd_u, trivial⟩ rfl
def lyR : List (Ft × Nat) := [(.i, 0), (.u, 1), (.u, 2), (.u, 3), (.u, 4), (.u, 5), (.u, 6), (.u, 7), (.u, 8), (.u, 9)]
theorem rd_rep (B : Nat) (t : TypeId) : Rd (.iface 80 (ptrAt B 0)) B t lyR :=
  rd_all (row := row80 B 0) (n := 3) (bl := [[(.i, 0)], [(.u, 1)], [(.u, 2), (.u, 3), (.u, 4), (.u, 5), (.u, 6), (.u, 7), (.u, 8), (.u, 9)]]) (by decide) (by decide) (by decide) (by decide) rfl (by decide) (parts_80 B 0)
    ⟨rd_e, rd_u, rd_all (row := row117 B 2) (n := 8) (bl := [[(.u, 2)], [(.u, 3)], [(.u, 4)], [(.u, 5)], [(.u, 6)], [(.u, 7)], [(.u, 8)], [(.u, 9)]]) (by decide) (by decide) (by decide) (by decide) rfl (by decide) (parts_117 B 2) ⟨rd_u, rd_u, rd_u, rd_u, rd_u, rd_u, rd_u, rd_u, trivial⟩ rfl, trivial⟩ rfl
/-- Where a command of each kind has what it has. -/
def lyC (k : Nat) : List (Ft × Nat) :=
  if k = 1 then [(.u, 1), (.i, 2), (.u, 3)] else if k = 2 then [(.i, 4), (.i, 5), (.b, 6), (.u, 7), (.u, 8), (.u, 9), (.u, 10), (.u, 11), (.u, 12), (.u, 13), (.u, 14), (.u, 15), (.i, 16), (.i, 17)]
  else if k = 3 then [(.i, 4), (.u, 7), (.u, 8), (.u, 9), (.u, 10), (.u, 11), (.u, 12), (.u, 13), (.u, 14), (.u, 15)] else if k = 5 then [(.u, 19), (.i, 20), (.i, 21), (.u, 22)] else if k = 6 then [(.u, 23)] else [(.i, 18)]
theorem seven {k : Nat} (h1 : 1 ≤ k) (h7 : k ≤ 7) : k = 1 ∨ k = 2 ∨ k = 3 ∨ k = 4 ∨ k = 5 ∨ k = 6 ∨ k = 7 := by omega
theorem lyC_ty {k : Nat} (h1 : 1 ≤ k) (h7 : k ≤ 7) : (lyC k).map (·.1) = tyC k := by rcases seven h1 h7 with rfl | rfl | rfl | rfl | rfl | rfl | rfl <;> rfl
theorem lyC_lt {k : Nat} (h1 : 1 ≤ k) (h7 : k ≤ 7) : ∀ x ∈ lyC k, x.2 < 24 := by rcases seven h1 h7 with rfl | rfl | rfl | rfl | rfl | rfl | rfl <;> decide
theorem lyC_put {k : Nat} (h1 : 1 ≤ k) (h7 : k ≤ 7) (s : Ey) : putL (lyC k) (decL (tyC k) s) (cmV (Cm.zero k)) = cmV (mkC k (decL (tyC k) s)) := by rcases seven h1 h7 with rfl | rfl | rfl | rfl | rfl | rfl | rfl <;> kernel_rfl
theorem lyR_put (s : Ey) : putL lyR (decL tyR s) (rpV ⟨0, 0, 0, 0, 0, 0, 0, 0, 0, 0⟩) = rpV (mkR (decL tyR s)) := by kernel_rfl
theorem rd_cmd {k : Nat} (h1 : 1 ≤ k) (h7 : k ≤ 7) (B : Nat) (t : TypeId) : Rd (hadV B k) B t (lyC k) := by
  rcases seven h1 h7 with rfl | rfl | rfl | rfl | rfl | rfl | rfl
  · exact rd_all (row := row105 B 1) (n := 3) (bl := [[(.u, 1)], [(.i, 2)], [(.u, 3)]]) (by decide) (by decide) (by decide) (by decide) rfl (by decide) (parts_105 B 1) ⟨rd_u, rd_i, rd_u, trivial⟩ rfl
  · exact rd_all (row := row106 B 4) (n := 8) (bl := [[(.i, 4)], [(.i, 5)], [(.b, 6)], [(.u, 7), (.u, 8), (.u, 9)], [(.u, 10), (.u, 11), (.u, 12)], [(.u, 13), (.u, 14), (.u, 15)], [(.i, 16)], [(.i, 17)]]) (by decide) (by decide) (by decide) (by decide) rfl (by decide) (parts_106 B 4)
      ⟨rd_i, rd_i, rd_b, rd_cur B 7 t, rd_cur B 10 t, rd_cur B 13 t, rd_i, rd_i, trivial⟩ rfl
  · exact rd_all (row := row107 B 4) (n := 4) (bl := [[(.i, 4)], [(.u, 7), (.u, 8), (.u, 9)], [(.u, 10), (.u, 11), (.u, 12)], [(.u, 13), (.u, 14), (.u, 15)]]) (by decide) (by decide) (by decide) (by decide) rfl (by decide) (parts_107 B 4)
      ⟨rd_i, rd_cur B 7 t, rd_cur B 10 t, rd_cur B 13 t, trivial⟩ rfl
  · exact rd_i
  · exact rd_all (row := row108 B 19) (n := 4) (bl := [[(.u, 19)], [(.i, 20)], [(.i, 21)], [(.u, 22)]]) (by decide) (by decide) (by decide) (by decide) rfl (by decide) (parts_108 B 19) ⟨rd_u, rd_i, rd_i, rd_u, trivial⟩ rfl
  · exact rd_u
  · exact rd_i
end Go.Proofs.YtamjnekdfhocdaaDoor
