/- The neighbours on both sides of where something comes to be true. -/
import Derived.Test.YtejolaifdjcghaaGreatSgS
namespace Go.Proofs.YtejolaifdjcghaaGreat
open Go.RowKit Go.Shelf W
set_option linter.unusedVariables false
set_option maxRecDepth 100000
set_option maxHeartbeats 2000000 in
theorem around_59 (B g o cap : Nat) (K : List (Int × Int)) (b : Nat → Bool) (f l r x k : Int) (md : Bool) (pc pd : Value) (w : World) (hn : 0 < K.length) (hn2 : K.length ≤ 1000) (hS : SgB w B f l r (.slice (some ⟨g, o, none⟩) K.length cap) x k md) (hR : RowAt w g o cap K)
    (hm : ∀ i j, i ≤ j → j < K.length → b i = true → b j = true)
    (hT : ∀ (j : Nat) (hj : j < K.length) w', Below w.heap.size w w' → Calls Tryz.prog 113 #[.agg #[eU K[j].1, eU K[j].2], pc, pd] w' fun e w'' => e = .returned (.bool (b j)) ∧ Below w'.heap.size w' w'') :
    Calls Tryz.prog 112 #[.pointer (some ⟨B, 0, none⟩), .func (.func 113) #[] #[pc, pd]] w fun e w' =>
      (∃ i : Nat, e = .returned (.slice (some ⟨g, o + (max i 1 - 1) * 2, none⟩) (min (i + 1) K.length - (max i 1 - 1)) (cap - (max i 1 - 1))) ∧ IsTurn (fun j => b j = true) K.length i) ∧ Below w.heap.size w w' := by
  have B1 := (Box.new w 46 #[.pointer (some ⟨B, 0, none⟩)]).alloc (.cells #[.func (.func 113) #[] #[pc, pd]] 138)
  have B2 := Box.new (w.alloc (.cells #[.pointer (some ⟨B, 0, none⟩)] 46)) 138 #[.func (.func 113) #[] #[pc, pd]]
  have T := up2 w (.cells #[.pointer (some ⟨B, 0, none⟩)] 46) (.cells #[.func (.func 113) #[] #[pc, pd]] 138)
  simp only [World.size_alloc] at B2
  obtain ⟨hc1, hc2⟩ := hR.le
  have hSh := fun w' (hb : Below w.heap.size w w') => hS.below hb
  have hQ : ∀ w0, Below w.heap.size w w0 → Box w0 w.heap.size #[.pointer (some ⟨B, 0, none⟩)] 46 → Box w0 (w.heap.size + 1) #[.func (.func 113) #[] #[pc, pd]] 138 →
      Calls Tryz.prog 118 #[.int .i64 K.length, .func (.func 119) #[] #[.pointer (some ⟨w.heap.size + 1, 0, none⟩), .pointer (some ⟨w.heap.size, 0, none⟩)]] w0 fun e w' => (∃ i : Nat, e = .returned (.int .i64 i) ∧ IsTurn (fun j => b j = true) K.length i) ∧ Below w0.heap.size w0 w' := fun w0 T0 X1 X2 =>
    search_any K.length b _ _ w0 (by omega) hm (fun j w' hj hb => by
      have T1 := up T0 hb T0.size
      have hc := (hR.below T1).cell hj
      exact ask_59 B _ _ g o cap j K.length f l r x k _ _ md (b j) pc pd w' hj (hS.below T1) ((X1.below hb).cell 0) ((X2.below hb).cell 0) hc.1 hc.2 (fun w'' hb2 => hT j hj w'' (up T1 hb2 T1.size)))
  have hSw := (hS.below T).cells.2.2.2.2.2.2.1
  have b0 : ((w.alloc (.cells #[.pointer (some ⟨B, 0, none⟩)] 46)).alloc (.cells #[.func (.func 113) #[] #[pc, pd]] 138)).cell? ⟨w.heap.size, 0, none⟩ = some (.pointer (some ⟨B, 0, none⟩)) := B1.cell 0
  clear hS hR hT hm
  have hQh := Lib.hid hQ
  have hShh := Lib.hid hSh
  clear hQ hSh
  go_enter Tryz.func112, Tryz.ntmps112
  go_upto_region 2 with (go_at_call 118; (with_reducible refine (hQh.out _ T B1 B2).mono ?_); rintro e w1 ⟨⟨i, rfl, hi⟩, hb⟩; replace T := up T hb T.size; replace B1 := B1.below hb; clear hb B2 b0 hSw)
  have hi0 := hi.1
  have hiH := Lib.hid hi
  clear hi
  obtain ⟨A, hA⟩ : ∃ A : Nat, A = max i 1 - 1 := ⟨_, rfl⟩
  obtain ⟨E, hE⟩ : ∃ E : Nat, E = min (i + 1) K.length := ⟨_, rfl⟩
  have hS1 := hShh.out _ T
  obtain ⟨c0, c1, c2, c3, c4, c5, c6, c7, c8, c9⟩ := hS1.cells
  clear c0 c1 c2 c3 c4 c5 c7 c8 c9 hS1
  have b0 : w1.cell? ⟨w.heap.size, 0, none⟩ = some (.pointer (some ⟨B, 0, none⟩)) := B1.cell 0
  have e1 : max (i : Int) 1 = (A : Int) + 1 := by omega
  have e2 : min ((i : Int) + 1) (K.length : Int) = (E : Int) := by omega
  have q1 : A ≤ E := by omega
  have q2 : E ≤ cap := by omega
  have q3 : ¬ cap = A := by omega
  have hAE := Lib.hid (show A = max i 1 - 1 ∧ E = min (i + 1) K.length from ⟨hA, hE⟩)
  clear hA hE
  go_region
  all_goals go_wp2
  all_goals go_ret
  all_goals (obtain ⟨rfl, rfl⟩ := hAE.out; exact ⟨⟨i, rfl, hiH.out⟩, T.drew⟩)
set_option maxHeartbeats 2000000 in
theorem around_55 (B g o cap : Nat) (K : List (Int × Int)) (b : Nat → Bool) (f l r x k : Int) (md : Bool) (pc pd : Value) (w : World) (hn : 0 < K.length) (hn2 : K.length ≤ 1000) (hS : SgB w B f l r (.slice (some ⟨g, o, none⟩) K.length cap) x k md) (hR : RowAt w g o cap K)
    (hm : ∀ i j, i ≤ j → j < K.length → b i = true → b j = true)
    (hT : ∀ (j : Nat) (hj : j < K.length) w', Below w.heap.size w w' → Calls Tryz.prog 115 #[.agg #[eU K[j].1, eU K[j].2], pc, pd] w' fun e w'' => e = .returned (.bool (b j)) ∧ Below w'.heap.size w' w'') :
    Calls Tryz.prog 112 #[.pointer (some ⟨B, 0, none⟩), .func (.func 115) #[] #[pc, pd]] w fun e w' =>
      (∃ i : Nat, e = .returned (.slice (some ⟨g, o + (max i 1 - 1) * 2, none⟩) (min (i + 1) K.length - (max i 1 - 1)) (cap - (max i 1 - 1))) ∧ IsTurn (fun j => b j = true) K.length i) ∧ Below w.heap.size w w' := by
  have B1 := (Box.new w 46 #[.pointer (some ⟨B, 0, none⟩)]).alloc (.cells #[.func (.func 115) #[] #[pc, pd]] 138)
  have B2 := Box.new (w.alloc (.cells #[.pointer (some ⟨B, 0, none⟩)] 46)) 138 #[.func (.func 115) #[] #[pc, pd]]
  have T := up2 w (.cells #[.pointer (some ⟨B, 0, none⟩)] 46) (.cells #[.func (.func 115) #[] #[pc, pd]] 138)
  simp only [World.size_alloc] at B2
  obtain ⟨hc1, hc2⟩ := hR.le
  have hSh := fun w' (hb : Below w.heap.size w w') => hS.below hb
  have hQ : ∀ w0, Below w.heap.size w w0 → Box w0 w.heap.size #[.pointer (some ⟨B, 0, none⟩)] 46 → Box w0 (w.heap.size + 1) #[.func (.func 115) #[] #[pc, pd]] 138 →
      Calls Tryz.prog 118 #[.int .i64 K.length, .func (.func 119) #[] #[.pointer (some ⟨w.heap.size + 1, 0, none⟩), .pointer (some ⟨w.heap.size, 0, none⟩)]] w0 fun e w' => (∃ i : Nat, e = .returned (.int .i64 i) ∧ IsTurn (fun j => b j = true) K.length i) ∧ Below w0.heap.size w0 w' := fun w0 T0 X1 X2 =>
    search_any K.length b _ _ w0 (by omega) hm (fun j w' hj hb => by
      have T1 := up T0 hb T0.size
      have hc := (hR.below T1).cell hj
      exact ask_55 B _ _ g o cap j K.length f l r x k _ _ md (b j) pc pd w' hj (hS.below T1) ((X1.below hb).cell 0) ((X2.below hb).cell 0) hc.1 hc.2 (fun w'' hb2 => hT j hj w'' (up T1 hb2 T1.size)))
  have hSw := (hS.below T).cells.2.2.2.2.2.2.1
  have b0 : ((w.alloc (.cells #[.pointer (some ⟨B, 0, none⟩)] 46)).alloc (.cells #[.func (.func 115) #[] #[pc, pd]] 138)).cell? ⟨w.heap.size, 0, none⟩ = some (.pointer (some ⟨B, 0, none⟩)) := B1.cell 0
  clear hS hR hT hm
  have hQh := Lib.hid hQ
  have hShh := Lib.hid hSh
  clear hQ hSh
  go_enter Tryz.func112, Tryz.ntmps112
  go_upto_region 2 with (go_at_call 118; (with_reducible refine (hQh.out _ T B1 B2).mono ?_); rintro e w1 ⟨⟨i, rfl, hi⟩, hb⟩; replace T := up T hb T.size; replace B1 := B1.below hb; clear hb B2 b0 hSw)
  have hi0 := hi.1
  have hiH := Lib.hid hi
  clear hi
  obtain ⟨A, hA⟩ : ∃ A : Nat, A = max i 1 - 1 := ⟨_, rfl⟩
  obtain ⟨E, hE⟩ : ∃ E : Nat, E = min (i + 1) K.length := ⟨_, rfl⟩
  have hS1 := hShh.out _ T
  obtain ⟨c0, c1, c2, c3, c4, c5, c6, c7, c8, c9⟩ := hS1.cells
  clear c0 c1 c2 c3 c4 c5 c7 c8 c9 hS1
  have b0 : w1.cell? ⟨w.heap.size, 0, none⟩ = some (.pointer (some ⟨B, 0, none⟩)) := B1.cell 0
  have e1 : max (i : Int) 1 = (A : Int) + 1 := by omega
  have e2 : min ((i : Int) + 1) (K.length : Int) = (E : Int) := by omega
  have q1 : A ≤ E := by omega
  have q2 : E ≤ cap := by omega
  have q3 : ¬ cap = A := by omega
  have hAE := Lib.hid (show A = max i 1 - 1 ∧ E = min (i + 1) K.length from ⟨hA, hE⟩)
  clear hA hE
  go_region
  all_goals go_wp2
  all_goals go_ret
  all_goals (obtain ⟨rfl, rfl⟩ := hAE.out; exact ⟨⟨i, rfl, hiH.out⟩, T.drew⟩)
end Go.Proofs.YtejolaifdjcghaaGreat
