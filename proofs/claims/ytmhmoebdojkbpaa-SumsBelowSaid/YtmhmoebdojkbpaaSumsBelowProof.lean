/-
  Proved: A curve is below another one just if it has at most what that has; then it can be kept wherever that can be. No condition.
-/
import Derived.Test.YtmhmoebdojkbpaaRows
import Derived.Test.YtmhmoebdojkbpaaBwB
import Derived.WalkKit
import Derived.ProofKit
import Derived.OpenShut
import Derived.ShutString
import Derived.ChangeOld
import Derived.Lib.SmallJoins
import Derived.Below
namespace Go.Proofs.Ytmhmoebdojkbpaa.sumsBelow
open Go.ChangeShapes Go.WideShapes Go.ChangeAt Go.RowKit Go.Joins W
set_option linter.unusedVariables false


theorem own : ownKnob Try.prog.godebug = none := by kernel_rfl
theorem cellsC : Try.prog.cellsOf 31 = 3 := by kernel_rfl
theorem laidOut : laidOutB Try.prog = true := by kernel_rfl
set_option maxRecDepth 100000 in
theorem lifted (os : Os) (started : os.Started) (H : Type) (enc : TypeId × Value → H) :
    ReturnsInHanded {} Try.checked os 8 .any (Rows.sumsBelowSpec.pre6 enc Try.prog Try.f8 Rows.sumsBelowRow.domain false) (Rows.sumsBelowSpec.post enc Try.prog Try.f8 false true false false) := by
  refine returnsInHanded_of_change (C := Try.checked) own started (by kernel_rfl) Try.func8
    (ChangeSpec.witness6 (enc := enc) (C := Try.checked) false ⟨#[], #[.agg #[.int .u64 0, .int .u64 0, .int .u64 0], .agg #[.int .u64 0, .int .u64 0, .int .u64 0], .agg #[.int .u64 0, .int .u64 0, .int .u64 0], .slice none 0 0, .int .u64 0, .int .u64 0], []⟩ 8 (by kernel_rfl) (by kernel_rfl) (by kernel_rfl) (by kernel_rfl)) ?_
  intro V0 base args ds gs before hval0 hW hcnd _
  have hval : ∀ (j : Nat) t v, Try.f8.params[j]? = some t → args[j]? = some v → Value.okWide Try.prog V0 .any base t v := hval0
  have hW' := hW
  obtain ⟨p, q, hA0, hV, rfl, hfz, hnd⟩ := hW
  have hA : DataW.TrodAll enc Try.prog V0 0 (fun _ => true) true Try.f8.params.toList args.toList ds p := hA0
  rw [Try.params8] at hA hval
  obtain ⟨v0, vs0, d0, ds0, p0, q0, hargs, rfl, rfl, h0, r0⟩ := trodAll_cons hA
  obtain ⟨v1, vs1, d1, ds1, p1, q1, rfl, rfl, rfl, h1, r1⟩ := trodAll_cons r0
  obtain ⟨v2, vs2, d2, ds2, p2, q2, rfl, rfl, rfl, h2, r2⟩ := trodAll_cons r1
  obtain ⟨v3, vs3, d3, ds3, p3, q3, rfl, rfl, rfl, h3, r3⟩ := trodAll_cons r2
  obtain ⟨v4, vs4, d4, ds4, p4, q4, rfl, rfl, rfl, h4, r4⟩ := trodAll_cons r3
  obtain ⟨v5, vs5, d5, ds5, p5, q5, rfl, rfl, rfl, h5, r5⟩ := trodAll_cons r4
  obtain ⟨rfl, rfl, rfl⟩ := trodAll_nil r5
  obtain rfl : args = #[v0, v1, v2, v3, v4, v5] := by cases args; simp_all
  obtain ⟨rfl, rfl⟩ := trodVars_none hV
  obtain ⟨c0a, c0b, c0c, y0a, y0b, y0c, m0, rfl, rfl, rfl, hy0a, hy0b, hy0c⟩ := open_agg3 Try.underlying31 (by kernel_rfl) cellsC (hval 0 31 v0 rfl rfl) h0
  obtain ⟨a0, e0a, rfl, wa0⟩ := DataW.trod_int Try.underlying23 hy0a
  obtain ⟨b0, e0b, rfl, wb0⟩ := DataW.trod_int Try.underlying23 hy0b
  obtain ⟨c0, e0c, rfl, wc0⟩ := DataW.trod_int Try.underlying23 hy0c
  simp at e0a e0b e0c
  subst e0a e0b e0c
  obtain ⟨c1a, c1b, c1c, y1a, y1b, y1c, m1, rfl, rfl, rfl, hy1a, hy1b, hy1c⟩ := open_agg3 Try.underlying31 (by kernel_rfl) cellsC (hval 1 31 v1 rfl rfl) h1
  obtain ⟨a1, e1a, rfl, wa1⟩ := DataW.trod_int Try.underlying23 hy1a
  obtain ⟨b1, e1b, rfl, wb1⟩ := DataW.trod_int Try.underlying23 hy1b
  obtain ⟨c1, e1c, rfl, wc1⟩ := DataW.trod_int Try.underlying23 hy1c
  simp at e1a e1b e1c
  subst e1a e1b e1c
  obtain ⟨c2a, c2b, c2c, y2a, y2b, y2c, m2, rfl, rfl, rfl, hy2a, hy2b, hy2c⟩ := open_agg3 Try.underlying31 (by kernel_rfl) cellsC (hval 2 31 v2 rfl rfl) h2
  obtain ⟨a2, e2a, rfl, wa2⟩ := DataW.trod_int Try.underlying23 hy2a
  obtain ⟨b2, e2b, rfl, wb2⟩ := DataW.trod_int Try.underlying23 hy2b
  obtain ⟨c2, e2c, rfl, wc2⟩ := DataW.trod_int Try.underlying23 hy2c
  simp at e2a e2b e2c
  subst e2a e2b e2c
  obtain ⟨a3, n3, c3, rfl⟩ := okWide_slice Try.underlying22 (hval 3 22 v3 rfl rfl)
  have k3 := h3
  have lt3 : ∀ x ∈ p3, x.block < V0.heap.size := by obtain ⟨m, hm⟩ := k3; exact DataW.trod_lt m _ _ _ hm
  obtain ⟨xs3, cv3, wd3, cm3, nn3⟩ : ∃ xs, IsCvs V0 a3 n3 c3 xs ∧ (∀ v ∈ xs, v.word) ∧ c3 ≤ maxLen ∧ (a3 = none → n3 = 0 ∧ c3 = 0) := by
    obtain ⟨fuel, hf⟩ := h3
    obtain ⟨a, n, c, xs, hcs, g⟩ := open_cvs Try.underlying22 Try.underlying31 Try.underlying23 Try.underlying23 Try.underlying23 (by kernel_rfl) (by kernel_rfl) hf
    simp [Value.cells] at hcs
    obtain ⟨rfl, rfl, rfl⟩ := hcs
    exact ⟨xs, g⟩
  obtain ⟨a4, rfl, rfl, rfl, wa4⟩ := open_int Try.underlying23 (hval 4 23 v4 rfl rfl) h4
  obtain ⟨a5, rfl, rfl, rfl, wa5⟩ := open_int Try.underlying23 (hval 5 23 v5 rfl rfl) h5
  clear hA0 hval0
  have curv : ∀ (W' : World) (sp : Nat → Bool) (x y z : Int), (Lit.int .u64 x).wf = true → (Lit.int .u64 y).wf = true → (Lit.int .u64 z).wf = true → DataW.Trod enc Try.prog W' 0 sp true 31 (.agg #[.int .u64 x, .int .u64 y, .int .u64 z]) (.agg [.lit (.int .u64 x), .lit (.int .u64 y), .lit (.int .u64 z)]) [] := fun W' sp x y z wx wy wz =>
    shut_agg3 (y0 := (.lit (.int .u64 x), [])) (y1 := (.lit (.int .u64 y), [])) (y2 := (.lit (.int .u64 z), [])) Try.underlying31 (by kernel_rfl) cellsC ⟨1, by simp [DataW.trod, Try.underlying23, wx]⟩ ⟨1, by simp [DataW.trod, Try.underlying23, wy]⟩ ⟨1, by simp [DataW.trod, Try.underlying23, wz]⟩
  refine (SumsBelow_walk a0 b0 c0 a1 b1 c1 a2 b2 c2 a3 n3 c3 xs3 a4 a5 V0 (word_of wa0) (word_of wb0) (word_of wc0) (word_of wa1) (word_of wb1) (word_of wc1) (word_of wa2) (word_of wb2) (word_of wc2) cv3 wd3 cm3 nn3 (word_of wa4) (word_of wa5)).mono fun e W' ⟨he, hg⟩ => ?_
  subst he
  exact ⟨_, rfl, _, _, _, [], _, [], hW', trodAll_mk1 (shut_bool Try.underlying4 _), trodAll_cons_mk (curv _ _ a0 b0 c0 wa0 wb0 wc0) (trodAll_cons_mk (curv _ _ a1 b1 c1 wa1 wb1 wc1) (trodAll_cons_mk (curv _ _ a2 b2 c2 wa2 wb2 wc2) (trodAll_cons_mk (Below.trod laidOut (by kernel_rfl) (of_decide_eq_true (by kernel_rfl)) k3 hg lt3) (trodAll_cons_mk (shut_int Try.underlying23 wa4) (trodAll_cons_mk (shut_int Try.underlying23 wa5) (trodAll_mk0)))))), rfl,
    hg.frame _, fun h => by cases h⟩

theorem over : Rows.sumsBelowRow.holds Try.pinned (OpenSpec.ofChange Rows.sumsBelowSpec) :=
  OpenClaim.holds_of_wide 8 Try.f8 rfl rfl rfl rfl rfl rfl rfl ⟨rfl, rfl, rfl, rfl, rfl⟩ rfl rfl rfl rfl rfl (by kernel_rfl) Try.func8 (by kernel_rfl)
    (of_decide_eq_true (by kernel_rfl)) (by unfold Func.isWrapper; first | (rw [if_pos (by decide +kernel)]; kernel_rfl) | (rw [if_neg (by decide +kernel)]; exact ⟨rfl, rfl⟩))
    (fun os started H enc _ => lifted os started H enc)

theorem proved : Rows.SumsBelowSaid :=
  over
#print axioms proved
end Go.Proofs.Ytmhmoebdojkbpaa.sumsBelow
