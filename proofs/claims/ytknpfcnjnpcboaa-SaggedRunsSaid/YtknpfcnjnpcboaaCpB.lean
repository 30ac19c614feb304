/- The document's copies: is one below another one, at five ticks; how many are kept. -/
import Derived.Test.YtknpfcnjnpcboaaCpL
namespace Go.Proofs.Ytknpfcnjnpcboaa
open Go.RowKit Go.Shelf W
set_option linter.unusedVariables false
set_option maxRecDepth 100000
namespace W
def isF (c : Nat → Int) : Nat → Bool
  | 0 => true
  | j + 1 => isF c j && decide (c j ≤ 0)
def lsF (c : Nat → Int) : Nat → Bool
  | 0 => false
  | j + 1 => lsF c j || decide (c j < 0)
/-- The five ticks. -/
def tkF (t0 t1 t2 t3 t4 : Int) (j : Nat) : Int := [t0, t1, t2, t3, t4].getD j 0
end W
set_option maxHeartbeats 8000000 in
theorem c_below (B i k n : Nat) (x L xi xk t1 t2 t3 t4 : Int) (G : Nat → Int → Int) (g cap : Nat) (R : World → Prop) (hRb : ∀ w w', R w → Below w.heap.size w w' → R w') (hi : i < n) (hk : k < n) (hnc : n ≤ cap)
    (hL : ∀ w, R w → Calls Try.prog 32 #[.pointer (some ⟨B, 0, none⟩)] w fun e w' => e = .returned (eU x) ∧ Below w.heap.size w w')
    (hC : ∀ w, R w → (w.cell? ⟨B, 1, none⟩ = some (.int .u64 L) ∧ w.cell? ⟨B, 3, none⟩ = some (.slice (some ⟨g, 0, none⟩) n cap)) ∧ w.cell? ⟨g, i, none⟩ = some (.int .u64 xi) ∧ w.cell? ⟨g, k, none⟩ = some (.int .u64 xk))
    (hO : ∀ j, j < 5 → ∀ w, R w → Calls Try.prog 68 #[.pointer (some ⟨B, 0, none⟩), .int .i64 i, eU (tkF x t1 t2 t3 t4 j)] w fun e w' => e = .returned (.agg #[eU (hiW (G i (tkF x t1 t2 t3 t4 j))), eU (loW (G i (tkF x t1 t2 t3 t4 j)))]) ∧ Below w.heap.size w w')
    (hO2 : ∀ j, j < 5 → ∀ w, R w → Calls Try.prog 68 #[.pointer (some ⟨B, 0, none⟩), .int .i64 k, eU (tkF x t1 t2 t3 t4 j)] w fun e w' => e = .returned (.agg #[eU (hiW (G k (tkF x t1 t2 t3 t4 j))), eU (loW (G k (tkF x t1 t2 t3 t4 j)))]) ∧ Below w.heap.size w w')
    (w1 : IntKind.u64.wrap (x + L) = t3) (w2 : IntKind.u64.wrap (xi + L) = xi + L) (w3 : IntKind.u64.wrap (xk + L) = xk + L) (w4 : IntKind.u64.wrap (t3 + 1) = t4) (m1 : max x (xi + L) = t1) (m2 : max x (xk + L) = t2) (w : World) (h : R w) :
    Calls Try.prog 50 #[.pointer (some ⟨B, 0, none⟩), .int .i64 i, .int .i64 k] w fun e w' =>
      e = .returned (.tuple #[.bool (isF (fun j => cmpN (G i (tkF x t1 t2 t3 t4 j)) (G k (tkF x t1 t2 t3 t4 j))) 5), .bool (lsF (fun j => cmpN (G i (tkF x t1 t2 t3 t4 j)) (G k (tkF x t1 t2 t3 t4 j))) 5)]) ∧ Below w.heap.size w w' := by
  obtain ⟨c, hc⟩ : ∃ c, (fun j => cmpN (G i (tkF x t1 t2 t3 t4 j)) (G k (tkF x t1 t2 t3 t4 j))) = c := ⟨_, rfl⟩
  rw [hc]
  have hcj : ∀ j, cmpN (G i (tkF x t1 t2 t3 t4 j)) (G k (tkF x t1 t2 t3 t4 j)) = c j := fun j => by rw [← hc]
  have hch := Lib.hid hcj
  clear hc hcj
  have hRh := Lib.hid (fun w' (T : Below w.heap.size w w') => hRb _ _ h T)
  have T : Below w.heap.size w w := Below.refl _ _
  have h0 := h
  have i1 : (i : Int) < (n : Int) := by omega
  have i2 : (0 : Int) ≤ (i : Int) := by omega
  have i3 : (k : Int) < (n : Int) := by omega
  have i4 : (0 : Int) ≤ (k : Int) := by omega
  have i5 : (n : Int) ≤ (cap : Int) := by omega
  have hOh := Lib.hid hO
  have hO2h := Lib.hid hO2
  have hS := fun w' (T : Below w.heap.size w w') => hC _ (hRb _ _ h T)
  have hSh := Lib.hid hS
  have hS0 := Lib.hid (hC _ h)
  have hLl := fun w' (T : Below w.heap.size w w') => hL _ (hRb _ _ h T)
  have hLh := Lib.hid hLl
  clear hO hO2 hS hC hL hLl hRb h h0 T hi hk hnc
  go_enter Try.func50, Try.ntmps50
  go_upto_region 1 with fail
  go_cut [8] (fun s8 wx => s8 = eU t3 ∧ Below w.heap.size w wx)
  case first =>
    obtain ⟨⟨c1, c3⟩, x1, x2⟩ := hS0.out
    go_region_held3 (fun w' => (w'.cell? ⟨B, 1, none⟩ = some (.int .u64 L) ∧ w'.cell? ⟨B, 3, none⟩ = some (.slice (some ⟨g, 0, none⟩) n cap)) ∧ w'.cell? ⟨g, i, none⟩ = some (.int .u64 xi) ∧ w'.cell? ⟨g, k, none⟩ = some (.int .u64 xk))
      (first | exact hS0.out | exact hSh.out _ hb2)
      (first | (go_at_call 32; (with_reducible refine (hLh.out _ (by first | exact Below.refl _ _ | exact (Below.refl _ _).drew)).mono ?_); rintro e w2 ⟨rfl, hb2⟩; (first | replace hb2 := undrew hb2 | replace hb2 := undrewN hb2 | skip)))
    all_goals go_wp2_with fail
    all_goals go_meet
    all_goals exact ⟨rfl, hb2⟩
  case rest =>
    obtain ⟨rfl, T⟩ := hcut
    rename World => W1
    clear hS0
    go_upto_region 2 with fail
    go_cut [9] (fun s9 wx => ∃ M : Nat, s9 = .slice (some ⟨M, 0, none⟩) 5 5 ∧ Box wx M #[eU x, eU t1, eU t2, eU t3, eU t4] 22 ∧ Below w.heap.size w wx)
    case first =>
      obtain ⟨⟨c1, c3⟩, x1, x2⟩ := hSh.out _ T
      go_region_held3 (fun w' => (w'.cell? ⟨B, 1, none⟩ = some (.int .u64 L) ∧ w'.cell? ⟨B, 3, none⟩ = some (.slice (some ⟨g, 0, none⟩) n cap)) ∧ w'.cell? ⟨g, i, none⟩ = some (.int .u64 xi) ∧ w'.cell? ⟨g, k, none⟩ = some (.int .u64 xk))
        (first | exact hSh.out _ T | exact hSh.out _ T.drew | exact hSh.out _ (T.alloc T.size _))
        (first | (go_at_call 32; (with_reducible refine (hLh.out _ (by first | exact T | exact T.drew)).mono ?_); rintro e w2 ⟨rfl, hb2⟩; (first | replace hb2 := undrew hb2 | replace hb2 := undrewN hb2 | skip); replace T := up T hb2 T.size; clear hb2))
      all_goals go_wp2_with fail
      all_goals go_meet
      all_goals exact ⟨_, rfl, Box.new _ _ _, T.alloc T.size _⟩
    case rest =>
      clear T
      obtain ⟨M, rfl, BM, T⟩ := hcut
      clear hSh hLh
      go_wp2_with fail
      go_loopw [10, 11, 12] (fun s10 s11 s12 wr => ∃ j : Nat, s10 = .bool (isF c j) ∧ s11 = .bool (lsF c j) ∧ s12 = .int .i64 j ∧ j ≤ 5 ∧ Box wr M #[eU x, eU t1, eU t2, eU t3, eU t4] 22 ∧ Below w.heap.size w wr) (fun _ _ s12 _ => 5 - (intOf s12).toNat)
      case atStart => exact ⟨0, rfl, rfl, rfl, by omega, BM, T⟩
      case round =>
        clear BM T
        obtain ⟨j, h10, h11, rfl, hj, BM, T⟩ := hrel
        by_cases hlt : j < 5
        · have j1 : (j : Int) < 5 := by omega
          have j2 : (0 : Int) ≤ (j : Int) := by omega
          have tick : ∀ w', Box w' M #[eU x, eU t1, eU t2, eU t3, eU t4] 22 → w'.cell? ⟨M, j, none⟩ = some (.int .u64 (tkF x t1 t2 t3 t4 j)) := fun w' hb => by
            match j, hlt with
            | 0, _ => exact hb.cell 0
            | 1, _ => exact hb.cell 1
            | 2, _ => exact hb.cell 2
            | 3, _ => exact hb.cell 3
            | 4, _ => exact hb.cell 4
          have a1 := hOh.out j hlt
          have a2 := hO2h.out j hlt
          have a3 := fun w => rCmp_any (hiW (G i (tkF x t1 t2 t3 t4 j))) (loW (G i (tkF x t1 t2 t3 t4 j))) (hiW (G k (tkF x t1 t2 t3 t4 j))) (loW (G k (tkF x t1 t2 t3 t4 j))) w (loW_word _) (loW_word _)
          have e0 : cmpW (hiW (G i (tkF x t1 t2 t3 t4 j))) (loW (G i (tkF x t1 t2 t3 t4 j))) (hiW (G k (tkF x t1 t2 t3 t4 j))) (loW (G k (tkF x t1 t2 t3 t4 j))) = c j := by
            rw [← hch.out j]; unfold cmpW; rw [V_hl, V_hl]
          rw [e0] at a3
          obtain ⟨t, ht⟩ : ∃ t, tkF x t1 t2 t3 t4 j = t := ⟨_, rfl⟩
          rw [ht] at a1 a2 a3 tick
          obtain ⟨p1, hp1⟩ : ∃ z, hiW (G i t) = z := ⟨_, rfl⟩
          obtain ⟨p2, hp2⟩ : ∃ z, loW (G i t) = z := ⟨_, rfl⟩
          obtain ⟨q1, hq1⟩ : ∃ z, hiW (G k t) = z := ⟨_, rfl⟩
          obtain ⟨q2, hq2⟩ : ∃ z, loW (G k t) = z := ⟨_, rfl⟩
          rw [hp1, hp2] at a1 a3
          rw [hq1, hq2] at a2 a3
          obtain ⟨cj, hcj⟩ : ∃ z, c j = z := ⟨_, rfl⟩
          rw [hcj] at a3
          have n1 : isF c (j + 1) = (isF c j && decide (cj ≤ 0)) := by rw [← hcj]; rfl
          have n2 : lsF c (j + 1) = (lsF c j || decide (cj < 0)) := by rw [← hcj]; rfl
          obtain ⟨b1, hb1⟩ : ∃ z, isF c j = z := ⟨_, rfl⟩
          obtain ⟨b2, hb2⟩ : ∃ z, lsF c j = z := ⟨_, rfl⟩
          rw [hb1] at h10 n1
          rw [hb2] at h11 n2
          subst h10 h11
          have N12 := Lib.hid (And.intro n1 n2)
          have tickh := Lib.hid tick
          have z0 := tick wr BM
          clear n1 n2 hb1 hb2 hcj hp1 hp2 hq1 hq2 ht e0 tick
          go_upto_region 7 with fail
          go_cut [13] from 60 to 90 (fun s13 wx => s13 = .int .i64 cj ∧ Box wx M #[eU x, eU t1, eU t2, eU t3, eU t4] 22 ∧ Below w.heap.size w wx)
          case first =>
            go_region_held3 (fun w' => w'.cell? ⟨M, j, none⟩ = some (.int .u64 t))
              (first | exact z0 | exact tickh.out _ BM)
              (first
                | (go_at_call 68; (with_reducible refine (a1 _ (hRh.out _ (by first | exact T | exact T.drew))).mono ?_); rintro e w3 ⟨rfl, hb⟩; (first | replace hb := undrew hb | replace hb := undrewN hb | skip); replace T := up T hb T.size; replace BM := BM.below hb; clear hb)
                | (go_at_call 68; (with_reducible refine (a2 _ (hRh.out _ (by first | exact T | exact T.drew))).mono ?_); rintro e w4 ⟨rfl, hb⟩; (first | replace hb := undrew hb | replace hb := undrewN hb | skip); replace T := up T hb T.size; replace BM := BM.below hb; clear hb)
                | (go_at_call 67; (with_reducible refine (a3 _).mono ?_); rintro e w5 ⟨rfl, hb⟩; (first | replace hb := undrew hb | replace hb := undrewN hb | skip); replace T := up T hb T.size; replace BM := BM.below hb; clear hb))
            all_goals go_wp2_with fail
            all_goals go_meet
            all_goals exact ⟨rfl, BM, T⟩
          case rest =>
            clear T BM
            obtain ⟨rfl, BM, T⟩ := hcut
            clear a1 a2 a3 z0
            cases b1 <;> cases b2
            all_goals go_wp2_with fail
            all_goals go_roundw
            all_goals first
              | exact ⟨j + 1, by rw [N12.out.1]; rfl, by rw [N12.out.2]; rfl, by go_num, by omega, BM, T⟩
              | (simp [intOf]; omega)
        · obtain rfl : j = 5 := by omega
          have j1 : ¬ (((5 : Nat) : Int) < 5) := by omega
          subst h10 h11
          go_wp2_with fail
          go_ret2
          exact ⟨rfl, T⟩
end Go.Proofs.Ytknpfcnjnpcboaa
