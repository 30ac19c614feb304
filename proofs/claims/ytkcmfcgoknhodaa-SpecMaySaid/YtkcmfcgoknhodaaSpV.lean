/- What the document's own With answers; the law's walk. Condition: the numbers are what the fields can hold; the library's sort sorts three words. -/
import Derived.Test.YtkcmfcgoknhodaaSpW
import Derived.Test.YtkcmfcgoknhodaaSrt12
import Derived.Test.YtkcmfcgoknhodaaSpN
import Derived.Test.YtkcmfcgoknhodaaSpR
namespace Go.Proofs.Ytkcmfcgoknhodaa
open Go.RowKit W
set_option linter.unusedVariables false
set_option maxHeartbeats 4000000 in
set_option maxRecDepth 100000 in
theorem rWith_any (p q : Sp) (w : World) :
    Calls Try.prog 9 #[spV p, spV q] w fun e w' => e = .returned (spV (withS p q)) ∧ Below w.heap.size w w' := by
  have BP : Bk (((w.alloc (.cells (spC p) TS)).alloc (.cells (spC q) TS)).alloc (.cells z14 TS)) w.heap.size (spC p) TS := ((Bk.new w TS (spC p)).alloc _).alloc _
  have BQ : Bk (((w.alloc (.cells (spC p) TS)).alloc (.cells (spC q) TS)).alloc (.cells z14 TS)) (w.heap.size + 1) (spC q) TS := by
    have h := (Bk.new (w.alloc (.cells (spC p) TS)) TS (spC q)).alloc (.cells z14 TS)
    rwa [World.size_alloc] at h
  have BZ : Bk (((w.alloc (.cells (spC p) TS)).alloc (.cells (spC q) TS)).alloc (.cells z14 TS)) (w.heap.size + 1 + 1) z14 TS := by
    have h := Bk.new ((w.alloc (.cells (spC p) TS)).alloc (.cells (spC q) TS)) TS z14
    rwa [World.size_alloc, World.size_alloc] at h
  have T := up2 w (.cells (spC p) TS) (.cells (spC q) TS)
  replace T := T.alloc T.size (.cells z14 TS)
  go_enter Try.func9, Try.ntmps9
  go_upto_region 1 with (fail)
  generalize ((w.alloc (.cells (spC p) TS)).alloc (.cells (spC q) TS)).alloc (.cells z14 TS) = W3 at BP BQ BZ T ⊢
  obtain ⟨a0, a1, a2, a3, a4, a5, a6, a7, a8, a9, a10, a11, a12, a13⟩ := BQ.cells14
  obtain ⟨b0, b1, b2, b3, b4, b5, b6, b7, b8, b9, b10, b11, b12, b13⟩ := BP.cells14
  obtain ⟨f0, f1, f2, f3, f4, f5, f6, f7, f8, f9, f10, f11, f12, f13⟩ := BZ.thaw14
  obtain ⟨z0, z1, z2, z3, z4, z5, z6, z7, z8, z9, z10, z11, z12, z13⟩ := BZ.cells14
  clear BP BQ BZ
  go_wp2
  exact bodyPost_ret (v := spV (withS p q)) (by simp [results, Try.results9, go_sem, z0, z1, z2, z3, z4, z5, z6, z7, z8, z9, z10, z11, z12, z13]; simp [withS]) rfl ⟨rfl, ((((((((((((((T.setCell (by simp; omega) _).setCell (by simp; omega) _).setCell (by simp; omega) _).setCell (by simp; omega) _).setCell (by simp; omega) _).setCell (by simp; omega) _).setCell (by simp; omega) _).setCell (by simp; omega) _).setCell (by simp; omega) _).setCell (by simp; omega) _).setCell (by simp; omega) _).setCell (by simp; omega) _).setCell (by simp; omega) _).setCell (by simp; omega) _)⟩
set_option maxHeartbeats 8000000 in
set_option maxRecDepth 100000 in
theorem SpecMay_of (m : Nat) (hsort : SortU m) (hm : 3 ≤ m) (p q : Sp) (hp : p.ok) (w : World) :
    Calls Try.prog 3 #[spV p, spV q] w fun e w' => e = .returned (.bool true) ∧ Below w.heap.size w w' := by
  have h1 := fun w => May_any m hsort hm p hp w
  have h2 := fun w => rMay_any p hp w
  have h3 := fun w => Kind_any p w
  have h4 := fun w => rKind_any p w
  have h5 := fun w => With_any p q w
  have h6 := fun w => rWith_any p q w
  have BP : SB ((w.alloc (.cells (spC p) TS)).alloc (.cells (spC q) TS)) w.heap.size p := (SB.new w p).alloc _
  have BQ : SB ((w.alloc (.cells (spC p) TS)).alloc (.cells (spC q) TS)) (w.heap.size + 1) q := by
    have h := SB.new (w.alloc (.cells (spC p) TS)) q
    rwa [World.size_alloc] at h
  have T := up2 w (.cells (spC p) TS) (.cells (spC q) TS)
  generalize mayN p = n1 at h1 h2
  generalize kindN p = n2 at h3 h4
  generalize withS p q = r at h5 h6
  go_enter Try.func3, Try.ntmps3
  go_upto_region 1 with (fail)
  generalize (w.alloc (.cells (spC p) TS)).alloc (.cells (spC q) TS) = W2 at BP BQ T ⊢
  have E := Below.refl W2.heap.size W2
  go_region_held3 (fun w' => SC w' w.heap.size p ∧ SC w' (w.heap.size + 1) q)
    (first | exact ⟨BP.all, BQ.all⟩ | exact ⟨(BP.below E).all, (BQ.below E).all⟩)
    (first
      | (go_at_call 4; (with_reducible refine (h1 _).mono ?_); rintro e v1 ⟨rfl, hb⟩; (first | replace hb := undrew hb | replace hb := undrewN hb | skip); replace E := up E hb E.size; clear hb)
      | (go_at_call 5; (with_reducible refine (h2 _).mono ?_); rintro e v2 ⟨rfl, hb⟩; (first | replace hb := undrew hb | replace hb := undrewN hb | skip); replace E := up E hb E.size; clear hb)
      | (go_at_call 6; (with_reducible refine (h3 _).mono ?_); rintro e v3 ⟨rfl, hb⟩; (first | replace hb := undrew hb | replace hb := undrewN hb | skip); replace E := up E hb E.size; clear hb)
      | (go_at_call 7; (with_reducible refine (h4 _).mono ?_); rintro e v4 ⟨rfl, hb⟩; (first | replace hb := undrew hb | replace hb := undrewN hb | skip); replace E := up E hb E.size; clear hb)
      | (go_at_call 8; (with_reducible refine (h5 _).mono ?_); rintro e v5 ⟨rfl, hb⟩; (first | replace hb := undrew hb | replace hb := undrewN hb | skip); replace E := up E hb E.size; clear hb)
      | (go_at_call 9; (with_reducible refine (h6 _).mono ?_); rintro e v6 ⟨rfl, hb⟩; (first | replace hb := undrew hb | replace hb := undrewN hb | skip); replace E := up E hb E.size; clear hb))
  all_goals
    go_wp2
    go_ret
    exact ⟨by simp, sps T E T.size⟩
theorem SpecMay_walk (p q : Sp) (V0 : World) (hp : p.ok) :
    Calls Try.prog 3 #[spV p, spV q] V0 fun e w' => e = .returned (.bool true) ∧ Below V0.heap.size V0 w' :=
  SpecMay_of 12 sort12 (by omega) p q hp V0
end Go.Proofs.Ytkcmfcgoknhodaa
