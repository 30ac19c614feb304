/- The least of what two neighbours have; the latest tick at which they have so much. -/
import Derived.Test.YtejolaifdjcghaaGreatSgQ
namespace Go.Proofs.YtejolaifdjcghaaGreat
open Go.RowKit Go.Shelf W
set_option linter.unusedVariables false
set_option maxRecDepth 100000
namespace W
/-- The least of Cap and of what those of a list have. -/
def minL (V : Int × Int → Int) : List (Int × Int) → Int
  | [] => 4611686018427387904
  | k :: K => min (minL V K) (stp (V k))
/-- The greatest of m and of those. -/
theorem minL_snoc (V : Int × Int → Int) (k : Int × Int) : ∀ K, minL V (K ++ [k]) = min (minL V K) (stp (V k))
  | [] => rfl
  | a :: K => by
    show min (minL V (K ++ [k])) (stp (V a)) = min (min (minL V K) (stp (V a))) (stp (V k))
    rw [minL_snoc V k K]; omega
theorem minL_le (V : Int × Int → Int) : ∀ {K : List (Int × Int)} {k : Int × Int}, k ∈ K → minL V K ≤ stp (V k)
  | a :: K, k, h => by
    show min _ _ ≤ _
    rcases List.mem_cons.1 h with rfl | h
    · omega
    · have := minL_le V h; omega
theorem minL_ex (V : Int × Int → Int) : ∀ K : List (Int × Int), minL V K = 4611686018427387904 ∨ ∃ k ∈ K, minL V K = stp (V k)
  | [] => .inl rfl
  | a :: K => by
    show min _ _ = _ ∨ ∃ k ∈ a :: K, min _ _ = _
    rcases Int.le_total (minL V K) (stp (V a)) with h | h
    · rw [Int.min_eq_left h]
      rcases minL_ex V K with e | ⟨k, hk, e⟩
      · exact .inl e
      · exact .inr ⟨k, List.mem_cons_of_mem _ hk, e⟩
    · exact .inr ⟨a, by simp, Int.min_eq_right h⟩
end W
set_option maxHeartbeats 4000000 in
/-- The loop of the least: whatever the neighbours are. -/
theorem least_of (B g o cap : Nat) (K N : List (Int × Int)) (f l r F L R x k t t2 : Int) (md : Bool) (V : Int × Int → Int) (w : World) (hS : SgB w B f l r (.slice (some ⟨g, o, none⟩) K.length cap) x k md) (ht : max t x = t2)
    (g2 o2 c2 : Nat) (hg2 : g2 < w.heap.size) (hN : N.length ≤ 1000) (hNc : N.length ≤ c2)
    (hA : ∀ w' C D, Below w.heap.size w w' → Box w' C #[eU F, eU L, eU R] 24 → Box w' D #[eU t2] 22 →
      Calls Tryz.prog 112 #[.pointer (some ⟨B, 0, none⟩), .func (.func 113) #[] #[.pointer (some ⟨C, 0, none⟩), .pointer (some ⟨D, 0, none⟩)]] w' fun e w'' => e = .returned (.slice (some ⟨g2, o2, none⟩) N.length c2) ∧ Below w'.heap.size w' w'')
    (hR : ∀ w', Below w.heap.size w w' → ∀ (j : Nat) (hj : j < N.length), w'.cell? ⟨g2, o2 + j * 2, none⟩ = some (.int .u64 N[j].1) ∧ w'.cell? ⟨g2, o2 + j * 2 + 1, none⟩ = some (.int .u64 N[j].2))
    (hV : ∀ (j : Nat) (hj : j < N.length) w', Calls Tryz.prog 114 #[.agg #[eU N[j].1, eU N[j].2], .agg #[eU F, eU L, eU R], eU t2] w' fun e w'' => e = .returned (eU (stp (V N[j]))) ∧ Below w'.heap.size w' w'') :
    Calls Tryz.prog 107 #[.pointer (some ⟨B, 0, none⟩), .agg #[eU F, eU L, eU R], eU t] w fun e w' => e = .returned (eU (minL V N)) ∧ Below w.heap.size w w' := by
  have B1 := (Box.new w 24 #[eU F, eU L, eU R]).alloc (.cells #[eU t] 22)
  have B2 := Box.new (w.alloc (.cells #[eU F, eU L, eU R] 24)) 22 #[eU t]
  have T := up2 w (.cells #[eU F, eU L, eU R] 24) (.cells #[eU t] 22)
  simp only [World.size_alloc] at B2
  have hf := B2.thaw 0
  have b0 : ((w.alloc (.cells #[eU F, eU L, eU R] 24)).alloc (.cells #[eU t] 22)).cell? ⟨w.heap.size + 1, 0, none⟩ = some (.int .u64 t) := B2.cell 0
  have hS2 := hS.below T
  obtain ⟨c0, c1, c2', c3, c4, c5, c6, c7, c8, c9⟩ := hS2.cells
  clear c0 c1 c2' c3 c4 c5 c6 c8 c9
  have hne : B ≠ w.heap.size + 1 := by have := hS.lt; omega
  have X1 := B1.alloc (.cells #[eU t2] 22) 
  go_enter Tryz.func107, Tryz.ntmps107
  go_upto_region 1 with fail
  go_region
  obtain ⟨W1, hW1⟩ : ∃ W1, ((w.alloc (.cells #[eU F, eU L, eU R] 24)).alloc (.cells #[eU t2] 22)).drew = W1 := ⟨_, rfl⟩
  have X1 : Box W1 w.heap.size #[eU F, eU L, eU R] 24 := by rw [← hW1]; exact ((Box.new w 24 #[eU F, eU L, eU R]).alloc (.cells #[eU t2] 22)).below (Below.refl _ _).drew
  have X2 : Box W1 (w.heap.size + 1) #[eU t2] 22 := by
    have h := (Box.new (w.alloc (.cells #[eU F, eU L, eU R] 24)) 22 #[eU t2]).below (Below.refl _ _).drew
    rw [World.size_alloc, hW1] at h
    exact h
  have T1 : Below w.heap.size w W1 := by rw [← hW1]; exact (up2 w (.cells #[eU F, eU L, eU R] 24) (.cells #[eU t2] 22)).drew
  have hAw := hA W1 _ _ T1 X1 X2
  rw [hW1]
  clear hA hW1 B1 B2 T hf b0 hS hS2 c7 hne ht
  have hRh := Lib.hid hR
  have hVh := Lib.hid hV
  clear hR hV
  go_wp2_with (go_at_call 112; (with_reducible refine hAw.mono ?_); rintro e w1 ⟨rfl, hb⟩; replace T1 := up T1 hb T1.size; replace X1 := X1.below hb; replace X2 := X2.below hb; clear hb hAw)
  go_loopw [7, 20] (fun s7 s20 wr => ∃ k : Nat, s7 = eU (minL V (N.take k)) ∧ s20 = .int .i64 k ∧ k ≤ N.length ∧ Box wr w.heap.size #[eU F, eU L, eU R] 24 ∧ Box wr (w.heap.size + 1) #[eU t2] 22 ∧ Below w.heap.size w wr) (fun _ s20 _ => N.length - (intOf s20).toNat)
  case atStart => exact ⟨0, rfl, rfl, by omega, X1, X2, T1⟩
  case round =>
    clear X1 X2 T1
    obtain ⟨k, h7, rfl, hk, X1, X2, T1⟩ := hrel
    by_cases hlt : k < N.length
    · have i1 : (k : Int) < (N.length : Int) := by omega
      have i2 : (0 : Int) ≤ (k : Int) := by omega
      have i3 : (N.length : Int) ≤ (c2 : Int) := by omega
      obtain ⟨a, ha⟩ : ∃ a, N[k] = a := ⟨_, rfl⟩
      obtain ⟨z0, z1⟩ := hRh.out wr T1 k hlt
      have hVk := hVh.out k hlt
      rw [ha] at z0 z1 hVk
      have e1 : minL V (N.take (k + 1)) = min (minL V (N.take k)) (stp (V a)) := by
        rw [List.take_succ_eq_append_getElem hlt, minL_snoc, ha]
      have e1h := Lib.hid e1
      obtain ⟨u, hu⟩ : ∃ u, minL V (N.take k) = u := ⟨_, rfl⟩
      obtain ⟨z, hz⟩ : ∃ z, stp (V a) = z := ⟨_, rfl⟩
      rw [hz] at hVk
      obtain ⟨mn, hmn⟩ : ∃ mn, min u z = mn := ⟨_, rfl⟩
      have e2 : minL V (N.take (k + 1)) = mn := by rw [e1h.out, hu, hz, hmn]
      have e2h := Lib.hid e2
      rw [hu] at h7
      subst h7
      clear e1 e2 hz e1h ha
      replace T1 := T1.alloc T1.size (.cells #[.int .u64 a.1, .int .u64 a.2] 136)
      replace X1 := X1.alloc (.cells #[.int .u64 a.1, .int .u64 a.2] 136)
      replace X2 := X2.alloc (.cells #[.int .u64 a.1, .int .u64 a.2] 136)
      obtain ⟨y0, y1, y2⟩ := X1.three
      have d0 : (wr.alloc (.cells #[.int .u64 a.1, .int .u64 a.2] 136)).cell? ⟨w.heap.size + 1, 0, none⟩ = some (.int .u64 t2) := X2.cell 0
      go_wp2_with (go_at_call 114; (with_reducible refine (hVk _).mono ?_); rintro e w2 ⟨rfl, hb⟩; replace T1 := up T1 hb T1.size; replace X1 := X1.below hb; replace X2 := X2.below hb; clear hb)
      go_roundw
      case rel => exact ⟨k + 1, by rw [e2h.out], by go_num, by omega, X1, X2, T1⟩
      case measure => simp [intOf]; omega
    · obtain rfl : k = N.length := by omega
      rw [List.take_length] at h7
      subst h7
      have i1 : ¬ (N.length : Int) < (N.length : Int) := by omega
      go_wp2
      go_ret
      exact ⟨rfl, T1⟩
end Go.Proofs.YtejolaifdjcghaaGreat
