/-
  Proved: What a run has, started anew, is never more than it was; started from what it has, it has just that there. No condition.
-/
import Derived.Test.YtejolaifdjcghaaRows
import Derived.Test.YtejolaifdjcghaaAneX
import Derived.WalkKit
import Derived.ProofKit
import Derived.OpenShut
import Derived.ShutString
import Derived.ChangeOld
import Derived.Lib.SmallJoins
import Derived.Below
namespace Go.Proofs.Ytejolaifdjcghaa.runAnew
open Go.ChangeShapes Go.WideShapes Go.ChangeAt Go.RowKit Go.Joins W
set_option linter.unusedVariables false


theorem own : ownKnob Try.prog.godebug = none := by kernel_rfl
theorem cellsC : Try.prog.cellsOf 27 = 3 := by kernel_rfl
theorem cellsA : Try.prog.cellsOf 24 = 4 := by kernel_rfl
theorem laidOut : laidOutB Try.prog = true := by kernel_rfl
set_option maxRecDepth 100000 in
theorem lifted (os : Os) (started : os.Started) (H : Type) (enc : TypeId × Value → H) :
    ReturnsInHanded {} Try.checked os 6 .any (Rows.runAnewSpec.pre6 enc Try.prog Try.f6 Rows.runAnewRow.domain false) (Rows.runAnewSpec.post enc Try.prog Try.f6 false true false false) := by
  refine returnsInHanded_of_change (C := Try.checked) own started (by kernel_rfl) Try.func6
    (ChangeSpec.witness6 (enc := enc) (C := Try.checked) false ⟨#[], #[.agg #[.int .u64 0, .int .u64 0, .int .u64 0], .slice none 0 0, .agg #[.int .u64 0, .int .u64 0, .int .u64 0, .int .u64 0], .int .u64 0], []⟩ 8 (by kernel_rfl) (by kernel_rfl) (by kernel_rfl) (by kernel_rfl)) ?_
  intro V0 base args ds gs before hval0 hW hcnd _
  have hval : ∀ (j : Nat) t v, Try.f6.params[j]? = some t → args[j]? = some v → Value.okWide Try.prog V0 .any base t v := hval0
  have hW' := hW
  obtain ⟨p, q, hA0, hV, rfl, hfz, hnd⟩ := hW
  have hA : DataW.TrodAll enc Try.prog V0 0 (fun _ => true) true Try.f6.params.toList args.toList ds p := hA0
  rw [Try.params6] at hA hval
  obtain ⟨v0, vs0, d0, ds0, p0, q0, hargs, rfl, rfl, h0, r0⟩ := trodAll_cons hA
  obtain ⟨v1, vs1, d1, ds1, p1, q1, rfl, rfl, rfl, h1, r1⟩ := trodAll_cons r0
  obtain ⟨v2, vs2, d2, ds2, p2, q2, rfl, rfl, rfl, h2, r2⟩ := trodAll_cons r1
  obtain ⟨v3, vs3, d3, ds3, p3, q3, rfl, rfl, rfl, h3, r3⟩ := trodAll_cons r2
  obtain ⟨rfl, rfl, rfl⟩ := trodAll_nil r3
  obtain rfl : args = #[v0, v1, v2, v3] := by cases args; simp_all
  obtain ⟨rfl, rfl⟩ := trodVars_none hV
  obtain ⟨c0a, c0b, c0c, y0a, y0b, y0c, m0, rfl, rfl, rfl, hy0a, hy0b, hy0c⟩ := open_agg3 Try.underlying27 (by kernel_rfl) cellsC (hval 0 27 v0 rfl rfl) h0
  obtain ⟨a0, e0a, rfl, wa0⟩ := DataW.trod_int Try.underlying22 hy0a
  obtain ⟨b0, e0b, rfl, wb0⟩ := DataW.trod_int Try.underlying22 hy0b
  obtain ⟨c0, e0c, rfl, wc0⟩ := DataW.trod_int Try.underlying22 hy0c
  simp at e0a e0b e0c
  subst e0a e0b e0c
  obtain ⟨a1, n1, c1, rfl⟩ := okWide_slice Try.underlying41 (hval 1 41 v1 rfl rfl)
  have k1 := h1
  have lt1 : ∀ x ∈ p1, x.block < V0.heap.size := by obtain ⟨m, hm⟩ := k1; exact DataW.trod_lt m _ _ _ hm
  obtain ⟨xs1, cv1, wd1, cm1, nn1⟩ : ∃ xs, IsAcs V0 a1 n1 c1 xs ∧ (∀ i, (xs i).word) ∧ c1 ≤ maxLen ∧ (a1 = none → n1 = 0 ∧ c1 = 0) := by
    obtain ⟨fuel, hf⟩ := h1
    obtain ⟨a, n, c, xs, hcs, g⟩ := open_acs Try.underlying41 Try.underlying24 Try.underlying22 Try.underlying22 Try.underlying22 Try.underlying22 (by kernel_rfl) (by kernel_rfl) hf
    simp [Value.cells] at hcs
    obtain ⟨rfl, rfl, rfl⟩ := hcs
    exact ⟨xs, g⟩
  obtain ⟨c2a, c2b, c2c, c2d, y2a, y2b, y2c, y2d, m2, rfl, rfl, rfl, hy2a, hy2b, hy2c, hy2d⟩ := open_agg4 Try.underlying24 (by kernel_rfl) cellsA (hval 2 24 v2 rfl rfl) h2
  obtain ⟨a2, e2a, rfl, wa2⟩ := DataW.trod_int Try.underlying22 hy2a
  obtain ⟨b2, e2b, rfl, wb2⟩ := DataW.trod_int Try.underlying22 hy2b
  obtain ⟨c2, e2c, rfl, wc2⟩ := DataW.trod_int Try.underlying22 hy2c
  obtain ⟨d2, e2d, rfl, wd2⟩ := DataW.trod_int Try.underlying22 hy2d
  simp at e2a e2b e2c e2d
  subst e2a e2b e2c e2d
  obtain ⟨a3, rfl, rfl, rfl, wa3⟩ := open_int Try.underlying22 (hval 3 22 v3 rfl rfl) h3
  clear hA0 hval0
  have curv : ∀ (W' : World) (sp : Nat → Bool) (x y z : Int), (Lit.int .u64 x).wf = true → (Lit.int .u64 y).wf = true → (Lit.int .u64 z).wf = true → DataW.Trod enc Try.prog W' 0 sp true 27 (.agg #[.int .u64 x, .int .u64 y, .int .u64 z]) (.agg [.lit (.int .u64 x), .lit (.int .u64 y), .lit (.int .u64 z)]) [] := fun W' sp x y z wx wy wz =>
    shut_agg3 (y0 := (.lit (.int .u64 x), [])) (y1 := (.lit (.int .u64 y), [])) (y2 := (.lit (.int .u64 z), [])) Try.underlying27 (by kernel_rfl) cellsC ⟨1, by simp [DataW.trod, Try.underlying22, wx]⟩ ⟨1, by simp [DataW.trod, Try.underlying22, wy]⟩ ⟨1, by simp [DataW.trod, Try.underlying22, wz]⟩
  have acts : ∀ (W' : World) (sp : Nat → Bool) (x y z t : Int), (Lit.int .u64 x).wf = true → (Lit.int .u64 y).wf = true → (Lit.int .u64 z).wf = true → (Lit.int .u64 t).wf = true → DataW.Trod enc Try.prog W' 0 sp true 24 (.agg #[.int .u64 x, .int .u64 y, .int .u64 z, .int .u64 t]) (.agg [.lit (.int .u64 x), .lit (.int .u64 y), .lit (.int .u64 z), .lit (.int .u64 t)]) [] := fun W' sp x y z t wx wy wz wt =>
    shut_agg4 (y0 := (.lit (.int .u64 x), [])) (y1 := (.lit (.int .u64 y), [])) (y2 := (.lit (.int .u64 z), [])) (y3 := (.lit (.int .u64 t), [])) Try.underlying24 (by kernel_rfl) cellsA ⟨1, by simp [DataW.trod, Try.underlying22, wx]⟩ ⟨1, by simp [DataW.trod, Try.underlying22, wy]⟩ ⟨1, by simp [DataW.trod, Try.underlying22, wz]⟩ ⟨1, by simp [DataW.trod, Try.underlying22, wt]⟩
  refine (RunAnew_walk a0 b0 c0 a1 n1 c1 xs1 a2 b2 c2 d2 a3 V0 (word_of wa0) (word_of wb0) (word_of wc0) cv1 wd1 cm1 nn1 (word_of wa2) (word_of wb2) (word_of wc2) (word_of wd2) (word_of wa3)).mono fun e W' ⟨he, hg⟩ => ?_
  subst he
  exact ⟨_, rfl, _, _, _, [], _, [], hW', trodAll_mk1 (shut_bool Try.underlying4 _), trodAll_cons_mk (curv _ _ a0 b0 c0 wa0 wb0 wc0) (trodAll_cons_mk (Below.trod laidOut (by kernel_rfl) (of_decide_eq_true (by kernel_rfl)) k1 hg lt1) (trodAll_cons_mk (acts _ _ a2 b2 c2 d2 wa2 wb2 wc2 wd2) (trodAll_cons_mk (shut_int Try.underlying22 wa3) (trodAll_mk0)))), rfl,
    hg.frame _, fun h => by cases h⟩

theorem over : Rows.runAnewRow.holds Try.pinned (OpenSpec.ofChange Rows.runAnewSpec) :=
  OpenClaim.holds_of_wide 6 Try.f6 rfl rfl rfl rfl rfl rfl rfl ⟨rfl, rfl, rfl, rfl, rfl⟩ rfl rfl rfl rfl rfl (by kernel_rfl) Try.func6 (by kernel_rfl)
    (of_decide_eq_true (by kernel_rfl)) (by unfold Func.isWrapper; first | (rw [if_pos (by decide +kernel)]; kernel_rfl) | (rw [if_neg (by decide +kernel)]; exact ⟨rfl, rfl⟩))
    (fun os started H enc _ => lifted os started H enc)

theorem proved : Rows.RunAnewSaid :=
  over
#print axioms proved
end Go.Proofs.Ytejolaifdjcghaa.runAnew
