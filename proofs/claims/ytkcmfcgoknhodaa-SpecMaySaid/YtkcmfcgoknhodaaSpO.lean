/- What the document's own May, Kind and With answer; the program's own With. Condition: the numbers are what the fields can hold. -/
import Derived.Test.YtkcmfcgoknhodaaSpK
namespace Go.Proofs.Ytkcmfcgoknhodaa
open Go.RowKit W
set_option linter.unusedVariables false

theorem rHas_any (c : Cw) (w : World) :
    Calls Try.prog 12 #[cwV c] w fun e w' => e = .returned (.bool (!hasC c)) ∧ Below w.heap.size w w' := by
  unfold hasC
  rw [Bool.not_not]
  exact kNone_any c.f c.l c.r w

theorem rKind_any (p : Sp) (w : World) :
    Calls Try.prog 7 #[spV p] w fun e w' => e = .returned (.int .u8 (kindN p)) ∧ Below w.heap.size w w' := by
  have h1 := fun w => rHas_any p.re w
  have h2 := fun w => rHas_any p.sh w
  have B := SB.new w p
  have T := up1 w (.cells (spC p) 26)
  unfold kindN
  obtain ⟨ii, qq, lf, re, sh, uu, pk, bt⟩ := p
  simp only at h1 h2 ⊢
  generalize hasC re = a at h1
  generalize hasC sh = b at h2
  go_enter Try.func7, Try.ntmps7
  go_upto_region 1 with (fail)
  have E := Below.refl (w.alloc (.cells (spC ⟨ii, qq, lf, re, sh, uu, pk, bt⟩) 26)).heap.size (w.alloc (.cells (spC ⟨ii, qq, lf, re, sh, uu, pk, bt⟩) 26))
  go_region_held3 (fun w' => SC w' w.heap.size ⟨ii, qq, lf, re, sh, uu, pk, bt⟩)
    (first | exact B.all | exact (B.below E).all)
    (first
      | (go_at_call 12; (with_reducible refine (h1 _).mono ?_); rintro e v1 ⟨rfl, hb⟩; (first | replace hb := undrew hb | replace hb := undrewN hb | skip); replace E := up E hb E.size; clear hb)
      | (go_at_call 12; (with_reducible refine (h2 _).mono ?_); rintro e v2 ⟨rfl, hb⟩; (first | replace hb := undrew hb | replace hb := undrewN hb | skip); replace E := up E hb E.size; clear hb))
  all_goals
    replace T := sps T E T.size
    obtain ⟨c0, c1, c2, c3, c4, c5, c6, c7, c8, c9, c10, c11, c12, c13⟩ := id (B.below E).all
    cases lf <;> cases a <;> cases b
    all_goals
      go_wp2
      go_ret
      exact ⟨by simp, T⟩
end Go.Proofs.Ytkcmfcgoknhodaa
