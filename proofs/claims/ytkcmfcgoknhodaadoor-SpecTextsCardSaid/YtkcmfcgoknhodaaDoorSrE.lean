/- What the document's own Parse tells of a text. Condition: at most 1000 bytes. -/
import Derived.Test.YtkcmfcgoknhodaaDoorSrC
import Derived.Test.YtkcmfcgoknhodaaDoorSpQ
import Derived.StillTailTactics
namespace Go.Proofs.YtkcmfcgoknhodaaDoor
open Go.RowKit Go.Lib W
set_option linter.unusedVariables false
theorem rCurve_any (s : ByteArray) (hs : s.size ≤ 1000) : ∃ (r : Cw) (e : Int), IsC s.data.toList r e ∧ ∀ w,
    Calls Tryd.prog 9 #[.string s] w fun x w' => x = .returned (.tuple #[.agg #[.int .u64 r.f, .int .u64 r.l, .int .u64 r.r], .int .i64 e]) ∧ Below w.heap.size w w' := by
  by_cases hb : ∃ x ∈ cutd 47 s.data.toList, dgB x = false
  · obtain ⟨x, hx, hd⟩ := hb
    refine ⟨Cw.zero, 2, IsC.of_bad hx (by have h := dg_is x; rw [hd] at h; exact h), fun w => rCurve_of s w hs _ _ (fun _ _ _ => ⟨rfl, rfl⟩) (fun _ => ⟨rfl, rfl⟩) (fun a b c e ha hb hc => ?_)⟩
    rw [e] at hx
    simp only [List.mem_cons, List.not_mem_nil, or_false] at hx
    rcases hx with rfl | rfl | rfl
    · rw [ha] at hd; cases hd
    · rw [hb] at hd; cases hd
    · rw [hc] at hd; cases hd
  · have hall : ∀ x ∈ cutd 47 s.data.toList, dgB x = true := fun x hx => by
      cases h : dgB x
      · exact absurd ⟨x, hx, h⟩ hb
      · rfl
    by_cases h3 : (cutd 47 s.data.toList).length = 3
    · obtain ⟨a, b, c, e⟩ := list3 h3
      have ha := dg_is a
      have hb' := dg_is b
      have hc := dg_is c
      rw [hall a (by rw [e]; simp)] at ha
      rw [hall b (by rw [e]; simp)] at hb'
      rw [hall c (by rw [e]; simp)] at hc
      refine ⟨⟨dgN a, dgN b, dgN c⟩, 0, IsC.of_cut e ha hb' hc, fun w => rCurve_of s w hs _ _ (fun x hx hd => absurd ⟨x, hx, hd⟩ hb) (fun h => absurd h3 h) (fun a' b' c' e' _ _ _ => ?_)⟩
      rw [e] at e'
      simp only [List.cons.injEq, and_true] at e'
      obtain ⟨rfl, rfl, rfl⟩ := e'
      exact ⟨rfl, rfl⟩
    · exact ⟨Cw.zero, 2, IsC.of_many h3, fun w => rCurve_of s w hs _ _ (fun x hx hd => absurd ⟨x, hx, hd⟩ hb) (fun _ => ⟨rfl, rfl⟩) (fun a b c e _ _ _ => absurd (by rw [e]; rfl) h3)⟩
theorem infoI : (Tryd.prog.info? 3).map (fun i => (i.zero, i.size, i.bytes)) = some (some (.int .i64 0), 1, 8) := by kernel_rfl
theorem one_i64 (x : Int) : ∀ u ∈ [Value.int .i64 x], u.oneCell' = true := by
  intro u hu
  simp only [List.mem_singleton] at hu
  subst hu; rfl
theorem Words_cut (s : ByteArray) (w : World) (hs : s.size ≤ 1000) :
    Calls Tryd.prog 17 #[.string s] w fun e w' => (∃ v, e = .returned v ∧ w'.ownsRow w.heap.size 9 1 v (cutd 32 s.data.toList).length ((cutd 32 s.data.toList).map str)) ∧ Below w.heap.size w w' := Words_any s w hs
set_option maxHeartbeats 8000000 in
set_option maxRecDepth 100000 in
theorem rParse_few (s : ByteArray) (w : World) (hs : s.size ≤ 1000) (h8 : (cutd 32 s.data.toList).length ≠ 8) :
    Calls Tryd.prog 7 #[.string s] w fun e w' => e = .returned (.tuple #[spW Sp.zero, .int .i64 2]) ∧ Below w.heap.size w w' := by
  have hW := fun w => Words_cut s w hs
  have h8' : (((cutd 32 s.data.toList).length : Int) == 8) = false := beq_eq_false_iff_ne.2 (by omega)
  have h8n : ¬ ((cutd 32 s.data.toList).length : Int) = 8 := by omega
  generalize (cutd 32 s.data.toList).length = n at hW h8' h8n
  have B := Bl.new w TSp zsp
  have T := up1 w (.cells zsp TSp)
  clear h8
  go_enter Tryd.func7, Tryd.ntmps7
  go_upto_region 2 with (go_at_call 17; (with_reducible refine (hW _).mono ?_); rintro e w1 ⟨⟨v, rfl, hown⟩, hb⟩; replace B := B.below hb; replace T := sps T hb T.size; clear hb; obtain ⟨sa, sc, rfl⟩ := own_slice hown; clear hown)
  obtain ⟨c0, c1, c2, c3, c4, c5, c6, c7, c8, c9, c10, c11, c12, c13⟩ := id B.at14
  obtain ⟨t0, t1, t2, t3, t4, t5, t6, t7, t8, t9, t10, t11, t12, t13⟩ := id B.thaw14
  clear B
  go_wp2
  exact bodyPost_ret (v := .tuple #[spW Sp.zero, .int .i64 2]) (by simp [results, Tryd.results7, go_sem, c0, c1, c2, c3, c4, c5, c6, c7, c8, c9, c10, c11, c12, c13, Sp.zero, Cw.zero]) rfl ⟨rfl, below14 T (Nat.le_refl _) _ _ _ _ _ _ _ _ _ _ _ _ _ _⟩
end Go.Proofs.YtkcmfcgoknhodaaDoor
