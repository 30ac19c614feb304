/- The document's own Parse where the first word is neither. Condition: at most 1000 bytes. -/
import Derived.Test.YtkcmfcgoknhodaaDoorSrE
namespace Go.Proofs.YtkcmfcgoknhodaaDoor
open Go.RowKit Go.Lib W
set_option linter.unusedVariables false
set_option maxHeartbeats 16000000 in
set_option maxRecDepth 100000 in
theorem rParse_bad (s : ByteArray) (l0 l1 l2 l3 l4 l5 l6 l7 : List UInt8) (x1 x2 x6 x7 e3 e4 e5 : Int) (y1 y2 y6 y7 : Bool) (x y z : Cw) (R : Sp) (ee : Int) (w : World) (hs : s.size ≤ 1000)
    (hcut : cutd 32 s.data.toList = [l0, l1, l2, l3, l4, l5, l6, l7]) (n1 : 0 ≤ x1) (n2 : 0 ≤ x2) (n6 : 0 ≤ x6) (n7 : 0 ≤ x7)
    (ha0 : (l0 == [108, 101, 97, 102]) = false) (hb0 : (l0 == [105, 110, 110, 101, 114]) = false)
    (h1 : ∀ w, Calls Tryd.prog 18 #[str l1] w fun e w' => e = .returned (.tuple #[.int .u64 x1, .bool y1]) ∧ Below w.heap.size w w')
    (h2 : ∀ w, Calls Tryd.prog 18 #[str l2] w fun e w' => e = .returned (.tuple #[.int .u64 x2, .bool y2]) ∧ Below w.heap.size w w')
    (h6 : ∀ w, Calls Tryd.prog 18 #[str l6] w fun e w' => e = .returned (.tuple #[.int .u64 x6, .bool y6]) ∧ Below w.heap.size w w')
    (h7 : ∀ w, Calls Tryd.prog 18 #[str l7] w fun e w' => e = .returned (.tuple #[.int .u64 x7, .bool y7]) ∧ Below w.heap.size w w')
    (h3 : ∀ w, Calls Tryd.prog 9 #[str l3] w fun e w' => e = .returned (.tuple #[.agg #[.int .u64 x.f, .int .u64 x.l, .int .u64 x.r], .int .i64 e3]) ∧ Below w.heap.size w w')
    (h4 : ∀ w, Calls Tryd.prog 9 #[str l4] w fun e w' => e = .returned (.tuple #[.agg #[.int .u64 y.f, .int .u64 y.l, .int .u64 y.r], .int .i64 e4]) ∧ Below w.heap.size w w')
    (h5 : ∀ w, Calls Tryd.prog 9 #[str l5] w fun e w' => e = .returned (.tuple #[.agg #[.int .u64 z.f, .int .u64 z.l, .int .u64 z.r], .int .i64 e5]) ∧ Below w.heap.size w w')
    (hno : ¬ ((false = true ∨ false = true) ∧ (y1 = true ∧ x1 ≤ 9223372036854775807) ∧ (y2 = true ∧ x2 ≤ 9223372036854775807) ∧ (y6 = true ∧ x6 ≤ 9223372036854775807) ∧ (y7 = true ∧ x7 ≤ 9223372036854775807) ∧ e3 = 0 ∧ e4 = 0 ∧ e5 = 0) → R = Sp.zero ∧ ee = 2)
    (hyes : ((false = true ∨ false = true) ∧ (y1 = true ∧ x1 ≤ 9223372036854775807) ∧ (y2 = true ∧ x2 ≤ 9223372036854775807) ∧ (y6 = true ∧ x6 ≤ 9223372036854775807) ∧ (y7 = true ∧ x7 ≤ 9223372036854775807) ∧ e3 = 0 ∧ e4 = 0 ∧ e5 = 0) → R = ⟨x1, x2, false, x, y, z, x6, x7⟩ ∧ ee = 0) :
    Calls Tryd.prog 7 #[.string s] w fun e w' => e = .returned (.tuple #[spW R, .int .i64 ee]) ∧ Below w.heap.size w w' := by
  have hW := fun w => Words_cut s w hs
  rw [hcut] at hW
  obtain ⟨i0, hi, hz0, hz1, hz2⟩ := info_parts infoI
  have B := Bl.new w TSp zsp
  have T := up1 w (.cells zsp TSp)
  clear hcut
  replace hno := Lib.hid hno
  replace hyes := Lib.hid hyes
  go_enter Tryd.func7, Tryd.ntmps7
  go_upto_region 2 with (go_at_call 17; (with_reducible refine (hW _).mono ?_); rintro e w1 ⟨⟨v, rfl, hown⟩, hb⟩; replace B := B.below hb; replace T := sps T hb T.size; clear hb; obtain ⟨g, cap, rfl, _, hlt, hcap, _, hcells⟩ := own_some hown (by simp); clear hown)
  have q0 : w1.cell? ⟨g, 0, none⟩ = some (str l0) := by have := hcells 0 (str l0) rfl; rwa [Lib.add_plain] at this
  have q1 : w1.cell? ⟨g, 1, none⟩ = some (str l1) := by have := hcells 1 (str l1) rfl; rwa [Lib.add_plain] at this
  have q2 : w1.cell? ⟨g, 2, none⟩ = some (str l2) := by have := hcells 2 (str l2) rfl; rwa [Lib.add_plain] at this
  have q3 : w1.cell? ⟨g, 3, none⟩ = some (str l3) := by have := hcells 3 (str l3) rfl; rwa [Lib.add_plain] at this
  have q4 : w1.cell? ⟨g, 4, none⟩ = some (str l4) := by have := hcells 4 (str l4) rfl; rwa [Lib.add_plain] at this
  have q5 : w1.cell? ⟨g, 5, none⟩ = some (str l5) := by have := hcells 5 (str l5) rfl; rwa [Lib.add_plain] at this
  have q6 : w1.cell? ⟨g, 6, none⟩ = some (str l6) := by have := hcells 6 (str l6) rfl; rwa [Lib.add_plain] at this
  have q7 : w1.cell? ⟨g, 7, none⟩ = some (str l7) := by have := hcells 7 (str l7) rfl; rwa [Lib.add_plain] at this
  have hBw := B.lt
  clear hcells hW
  have QQ : ∀ {v : World}, Below w1.heap.size w1 v → v.cell? ⟨g, 0, none⟩ = some (str l0) ∧ v.cell? ⟨g, 1, none⟩ = some (str l1) ∧ v.cell? ⟨g, 2, none⟩ = some (str l2) ∧ v.cell? ⟨g, 3, none⟩ = some (str l3) ∧ v.cell? ⟨g, 4, none⟩ = some (str l4) ∧ v.cell? ⟨g, 5, none⟩ = some (str l5) ∧ v.cell? ⟨g, 6, none⟩ = some (str l6) ∧ v.cell? ⟨g, 7, none⟩ = some (str l7) := fun hb => ⟨(hb.cell (p := ⟨g, 0, none⟩) hlt).trans q0, (hb.cell (p := ⟨g, 1, none⟩) hlt).trans q1, (hb.cell (p := ⟨g, 2, none⟩) hlt).trans q2, (hb.cell (p := ⟨g, 3, none⟩) hlt).trans q3, (hb.cell (p := ⟨g, 4, none⟩) hlt).trans q4, (hb.cell (p := ⟨g, 5, none⟩) hlt).trans q5, (hb.cell (p := ⟨g, 6, none⟩) hlt).trans q6, (hb.cell (p := ⟨g, 7, none⟩) hlt).trans q7⟩
  obtain ⟨rfl, rfl⟩ := hno.out (by simp)
  obtain ⟨c0, c1, c2, c3, c4, c5, c6, c7, c8, c9, c10, c11, c12, c13⟩ := id B.at14
  obtain ⟨t0, t1, t2, t3, t4, t5, t6, t7, t8, t9, t10, t11, t12, t13⟩ := id B.thaw14
  clear QQ
  go_wp2
  exact bodyPost_ret (v := .tuple #[spW Sp.zero, .int .i64 2]) (by simp [results, Tryd.results7, go_sem, c0, c1, c2, c3, c4, c5, c6, c7, c8, c9, c10, c11, c12, c13, Sp.zero, Cw.zero]) rfl ⟨rfl, below14 T (Nat.le_refl _) _ _ _ _ _ _ _ _ _ _ _ _ _ _⟩
end Go.Proofs.YtkcmfcgoknhodaaDoor
