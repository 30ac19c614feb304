/- SpecTexts' walk. Condition: the library's tables and errors are laid; the numbers are what the fields can hold. -/
import Derived.Test.YtkcmfcgoknhodaaDoorSrQ
import Derived.Test.YtkcmfcgoknhodaaDoorSrT
namespace Go.Proofs.YtkcmfcgoknhodaaDoor
open Go.RowKit Go.Lib W
set_option linter.unusedVariables false
set_option maxHeartbeats 16000000 in
set_option maxRecDepth 100000 in
theorem SpecTexts_walk (p : Sp) (s u : ByteArray) (w : World) (hl : Lw w) (hp : p.ok) :
    Calls Tryd.prog 3 #[spW p, .string s, .string u] w fun e w' => e = .returned (.bool true) ∧ Below w.heap.size w w' := by
  have B := Bl.new w TSp (spA p)
  have T := up1 w (.cells (spA p) TSp)
  by_cases h1 : s.size ≤ 400
  · have h1n : ¬ (400 : Int) < (s.size : Int) := by omega
    by_cases h2 : u.size ≤ 400
    · have h2n : ¬ (400 : Int) < (u.size : Int) := by omega
      obtain ⟨r, f, hr, hP⟩ := Parse_any s (by omega)
      obtain ⟨r', f', hr', hR⟩ := rParse_any s (by omega)
      obtain ⟨rfl, rfl⟩ := hr.unique hr'
      obtain ⟨cc, g, hc, hC⟩ := Curve_any u (by omega)
      obtain ⟨c', g', hc', hD⟩ := rCurve_any u (by omega)
      obtain ⟨rfl, rfl⟩ := hc.unique hc'
      obtain ⟨D, te, hT, hU⟩ : ∃ (D : ByteArray) (te : Int), (∀ w, Lw w → Calls Tryd.prog 4 #[spW p] w fun e w' => e = .returned (.tuple #[.string D, .int .i64 te]) ∧ Below w.heap.size w w') ∧ (∀ w, Calls Tryd.prog 5 #[spW p] w fun e w' => e = .returned (.tuple #[.string D, .int .i64 te]) ∧ Below w.heap.size w w') := by
        by_cases g : p.good
        · exact ⟨bs (txt p), 0, fun w hl => Text_good p hp g w hl, fun w => rText_good p hp g w⟩
        · exact ⟨⟨#[]⟩, 2, fun w hl => Text_bad p g w, fun w => rText_bad p g w⟩
      clear hr hr' hc hc' h1 h2
      obtain ⟨qb0, qb1, qb2, qb3, qb4, qb5, qb6, qb7, qb8, qb9, qb10, qb11, qb12, qb13⟩ := id B.at14
      go_enter Tryd.func3, Tryd.ntmps3
      go_wp2_with (first
        | (go_at_call 4; (with_reducible refine (hT _ (hl.below T)).mono ?_); rintro e w1 ⟨rfl, hb⟩; replace B := B.below hb; replace T := sps T hb T.size; clear hb; obtain ⟨qa0, qa1, qa2, qa3, qa4, qa5, qa6, qa7, qa8, qa9, qa10, qa11, qa12, qa13⟩ := id B.at14)
        | (go_at_call 5; (with_reducible refine (hU _).mono ?_); rintro e w2 ⟨rfl, hb⟩; replace T := sps T hb T.size; clear hb)
        | (go_at_call 6; (with_reducible refine (hP _ (hl.below T)).mono ?_); rintro e w3 ⟨rfl, hb⟩; replace T := sps T hb T.size; clear hb; have C := Bl.new w3 TSp (spA r); replace T := T.alloc T.size (.cells (spA r) TSp))
        | (go_at_call 7; (with_reducible refine (hR _).mono ?_); rintro e w4 ⟨rfl, hb⟩; replace C := C.below hb; replace T := sps T hb T.size; clear hb; have G := Bl.new w4 TSp (spA r); replace C := C.alloc (.cells (spA r) TSp); replace T := T.alloc T.size (.cells (spA r) TSp))
        | (go_at_call 8; (with_reducible refine (hC _ (hl.below T)).mono ?_); rintro e w5 ⟨rfl, hb⟩; replace C := C.below hb; replace G := G.below hb; replace T := sps T hb T.size; clear hb; have H := Bl.new w5 24 #[.int .u64 cc.f, .int .u64 cc.l, .int .u64 cc.r]; replace C := C.alloc (.cells #[.int .u64 cc.f, .int .u64 cc.l, .int .u64 cc.r] 24); replace G := G.alloc (.cells #[.int .u64 cc.f, .int .u64 cc.l, .int .u64 cc.r] 24); replace T := T.alloc T.size (.cells #[.int .u64 cc.f, .int .u64 cc.l, .int .u64 cc.r] 24))
        | (go_at_call 9; (with_reducible refine (hD _).mono ?_); rintro e w6 ⟨rfl, hb⟩; replace C := C.below hb; replace G := G.below hb; replace H := H.below hb; replace T := sps T hb T.size; clear hb; have J := Bl.new w6 24 #[.int .u64 cc.f, .int .u64 cc.l, .int .u64 cc.r]; replace C := C.alloc (.cells #[.int .u64 cc.f, .int .u64 cc.l, .int .u64 cc.r] 24); replace G := G.alloc (.cells #[.int .u64 cc.f, .int .u64 cc.l, .int .u64 cc.r] 24); replace H := H.alloc (.cells #[.int .u64 cc.f, .int .u64 cc.l, .int .u64 cc.r] 24); replace T := T.alloc T.size (.cells #[.int .u64 cc.f, .int .u64 cc.l, .int .u64 cc.r] 24); obtain ⟨qc0, qc1, qc2, qc3, qc4, qc5, qc6, qc7, qc8, qc9, qc10, qc11, qc12, qc13⟩ := id C.at14; obtain ⟨qg0, qg1, qg2, qg3, qg4, qg5, qg6, qg7, qg8, qg9, qg10, qg11, qg12, qg13⟩ := id G.at14; obtain ⟨h0, h1, h2, _, _, _⟩ := id H.tri3; obtain ⟨j0, j1, j2, _, _, _⟩ := id J.tri3))
      go_ret
      exact ⟨by simp, T⟩
    · have h2n : (400 : Int) < (u.size : Int) := by omega
      as_aux_lemma =>
        go_enter Tryd.func3, Tryd.ntmps3
        go_wp2
        go_ret
        exact ⟨rfl, T⟩
  · have h1n : (400 : Int) < (s.size : Int) := by omega
    as_aux_lemma =>
      go_enter Tryd.func3, Tryd.ntmps3
      go_wp2
      go_ret
      exact ⟨rfl, T⟩
end Go.Proofs.YtkcmfcgoknhodaaDoor
