/- A nil tree of ids, and one that nobody made, is empty, and takes nothing: the walk of the statement. No condition but words. -/
import Derived.Test.YtcpienpkpodfmaaRN
import Derived.StillTailTactics
namespace Go.Proofs.Ytcpienpkpodfmaa
open Go.RowKit Go.Shelf Go.Maps
set_option linter.unusedVariables false
theorem rw_none {w : World} {M : Nat} (h : Box w M #[.slice none 0 0] 28) : Rw w M [] := ⟨none, 0, h, Nat.le_refl _, .inl rfl⟩
theorem same_none (q : Pt) (M : Nat) (x : Ac) (hx : Inte x.i) (w : World) (hz : Za q w) (hM : Box w M #[.slice none 0 0] 28) : Calls Try.prog 11 #[.pointer q, .pointer (some ⟨M, 0, none⟩), .agg #[eI x.i, eU x.k, eU x.v, .bool x.d, eU x.q, eU x.y]] w fun e w' => e = .returned (.bool true) ∧ Below w.heap.size w w' :=
  same_of q M [] x w (by decide) (rw_none hM) (fun w1 hb => za_get x.i hx (hz.below hb)) (fun w1 hb => za_first (hz.below hb)) (fun w1 hb => za_least x.q (hz.below hb)) (fun w1 hb => za_within x.y (hz.below hb)) (fun w1 hb => za_lowest (hz.below hb)) (fun w1 hb => za_len (hz.below hb))
    (fun w1 hb => (za_ids (hz.below hb)).mono fun e w' ⟨v, x1, x2, x3⟩ => ⟨v, x1, IntS.of_owns x2, x3⟩)
set_option maxRecDepth 100000 in
set_option maxHeartbeats 8000000 in
theorem AugNone_walk (x : Ac) (w : World) (hx : x.word) : Calls Try.prog 4 #[.agg #[eI x.i, eU x.k, eU x.v, .bool x.d, eU x.q, eU x.y]] w fun e w' => e = .returned (.bool true) ∧ Below w.heap.size w w' := by
  have TW := up3 w (.cells #[eI x.i, eU x.k, eU x.v, .bool x.d, eU x.q, eU x.y] 31) (.cells #[.map none, .pointer none] 39) (.cells #[.pointer none, .pointer (some ⟨w.heap.size + 1, 0, none⟩)] 23)
  have bP := ((Box.new w 31 #[eI x.i, eU x.k, eU x.v, .bool x.d, eU x.q, eU x.y]).alloc (.cells #[.map none, .pointer none] 39)).alloc (.cells #[.pointer none, .pointer (some ⟨w.heap.size + 1, 0, none⟩)] 23)
  have bZ := (Box.new (w.alloc (.cells #[eI x.i, eU x.k, eU x.v, .bool x.d, eU x.q, eU x.y] 31)) 39 #[.map none, .pointer none]).alloc (.cells #[.pointer none, .pointer (some ⟨w.heap.size + 1, 0, none⟩)] 23)
  have bL := Box.new ((w.alloc (.cells #[eI x.i, eU x.k, eU x.v, .bool x.d, eU x.q, eU x.y] 31)).alloc (.cells #[.map none, .pointer none] 39)) 23 #[.pointer none, .pointer (some ⟨w.heap.size + 1, 0, none⟩)]
  simp only [World.size_alloc] at bZ bL
  have hi := hx.1.2.1
  go_enter Try.func4, Try.ntmps4
  go_wp2
  obtain ⟨W0, hW0⟩ : ∃ v, ((w.alloc (.cells #[eI x.i, eU x.k, eU x.v, .bool x.d, eU x.q, eU x.y] 31)).alloc (.cells #[.map none, .pointer none] 39)).alloc (.cells #[.pointer none, .pointer (some ⟨w.heap.size + 1, 0, none⟩)] 23) = v := ⟨_, rfl⟩
  rw [hW0] at TW bP bZ bL
  first
    | rw [hW0]
    | skip
  clear hW0
  obtain ⟨Bl, hBl⟩ : ∃ z, w.heap.size + 1 + 1 = z := ⟨_, rfl⟩
  have hq : ∀ k : Nat, k < 2 → ∃ q : Pt, ∀ w', Below W0.heap.size W0 w' → w'.cell? ⟨Bl, k, none⟩ = some (.pointer q) ∧ Za q w' := fun k hk => by
    subst hBl
    match k, hk with
    | 0, _ => exact ⟨none, fun w' hb => ⟨(bL.below hb).cell 0, .inl rfl⟩⟩
    | 1, _ => exact ⟨some ⟨w.heap.size + 1, 0, none⟩, fun w' hb => ⟨(bL.below hb).cell 1, .inr ⟨_, rfl, bZ.below hb⟩⟩⟩
  have hP : ∀ w', Below W0.heap.size W0 w' → ActC w' w.heap.size x := fun w' hb => actC (bP.below hb)
  replace hq := Lib.hid hq
  obtain ⟨P, hPe⟩ : ∃ z, w.heap.size = z := ⟨_, rfl⟩
  rw [hPe] at hP TW
  simp only [hPe] at hBl
  clear bP bZ bL
  first
    | simp only [hBl, hPe]
    | skip
  go_loopw [5] (fun s5 wr => ∃ k : Nat, s5 = .int .i64 k ∧ k ≤ 2 ∧ Below W0.heap.size W0 wr) (fun s5 _ => 2 - (intOf s5).toNat)
  case atStart => exact ⟨0, rfl, by omega, Below.refl _ _⟩
  case round =>
    obtain ⟨k, rfl, hk, T⟩ := hrel
    by_cases hlt : k < 2
    · have i1 : (k : Int) < 2 := by omega
      have i2 : (0 : Int) ≤ (k : Int) := by omega
      obtain ⟨q, hq1⟩ := hq.out k hlt
      obtain ⟨c0, _⟩ := hq1 wr T
      obtain ⟨k0, k1, k2, k3, k4, k5⟩ := hP wr T
      have hZ := fun w' hb => (hq1 w' hb).2
      have hput := za_put x.i x.k x.v (hZ _ T.drew)
      go_upto_region 6 with (fail)
      go_still_tail 10, (by kernel_rfl)
      change wpList _ _ _ _ _ wr.drew
      have T1 := T.drew
      generalize wr.drew = w1 at *
      clear c0 k0 k1 k2 k3 k4 k5 T
      go_upto_region 7 with (go_at_call 12; (with_reducible refine hput.mono ?_); rintro e w2 ⟨rfl, hb⟩; have T := upp T1 hb; clear hb)
      have hS : ∀ w', Below W0.heap.size W0 w' → w'.cell? ⟨Bl, k, none⟩ = some (.pointer q) ∧ ActC w' P x := fun w' hb => ⟨(hq1 w' hb).1, hP w' hb⟩
      have c13 : ∀ w', Below W0.heap.size W0 w' → Calls Try.prog 13 #[.pointer q, eI x.i] w' fun e w'' => e = .returned (.bool false) ∧ Below w'.heap.size w' w'' := fun w' hb => za_drop x.i hi (hZ w' hb)
      have c11 : ∀ w' M, Below W0.heap.size W0 w' → Box w' M #[.slice none 0 0] 28 → Calls Try.prog 11 #[.pointer q, .pointer (some ⟨M, 0, none⟩), .agg #[eI x.i, eU x.k, eU x.v, .bool x.d, eU x.q, eU x.y]] w' fun e w'' => e = .returned (.bool true) ∧ Below w'.heap.size w' w'' := fun w' M hb hM => same_none q M x hi w' (hZ w' hb) hM
      have hS0 := hS _ T
      obtain ⟨c0, k0, k1, k2, k3, k4, k5⟩ := id hS0
      clear hput T1 hZ
      go_cut [44] (fun s44 wx => s44 = .bool false ∧ Below W0.heap.size W0 wx)
      case first =>
        go_region_held3 (fun w' => w'.cell? ⟨Bl, k, none⟩ = some (.pointer q) ∧ ActC w' P x)
          (first | with_reducible exact hS _ T | with_reducible exact hS _ T.drew | exact hS _ (T.alloc T.size _) | exact hS _ (T.alloc T.size _).drew | exact hS _ (T.setCell (by exact hN) _) | exact hS _ ((T.alloc T.size _).setCell (by exact T.size) _))
          (first
            | (go_at_call 13; (with_reducible refine (c13 _ (by first | exact T | exact T.drew | exact T.alloc T.size _ | exact (T.alloc T.size _).drew | exact T.drew.alloc T.drew.size _)).mono ?_); rintro e w3 ⟨rfl, hb⟩; (first | replace hb := undrew hb | replace hb := undrewN hb | skip); (first | (replace T := up T hb T.size) | (have HN := (Box.new _ 28 _).below hb; have hN := T.size; replace T := up (T.alloc T.size _) hb (T.alloc T.size _).size; have xN : w3.cell? ⟨_, 0, none⟩ = some (.slice none 0 0) := HN.cell 0; have fN := HN.thaw 0; have lN := HN.lt)); clear hb)
            | (go_at_call 11; (with_reducible refine (c11 _ _ (by first | exact T.alloc T.size _ | exact (T.alloc T.size _).drew | exact T.drew.alloc T.drew.size _ | exact T.setCell (by exact hN) _ | exact (T.setCell (by exact hN) _).drew) (by first | exact Box.new _ _ _ | exact (Box.new _ _ _).below ((Below.refl _ _).drew) | exact HN.set 0 _ | exact (HN.set 0 _).below ((Below.refl _ _).drew))).mono ?_); rintro e w4 ⟨rfl, hb⟩; (first | replace hb := undrew hb | replace hb := undrewN hb | skip); (first | replace T := upp (T.alloc T.size _) hb | replace T := upp (T.setCell (by exact hN) _) hb); clear hb))
        all_goals go_wp2_with fail
        all_goals go_meet
        all_goals first
          | exact ⟨rfl, T⟩
          | exact ⟨rfl, T.drew⟩
      case rest =>
        obtain ⟨rfl, T2⟩ := hcut
        have hkk : (((k + 1 : Nat)) : Int) = (k : Int) + 1 := by omega
        clear c0 k0 k1 k2 k3 k4 k5 hS0 c11 c13 hS T
        go_wp2_with fail
        exact ⟨⟨k + 1, by rw [hkk], by omega, T2⟩, by simp [intOf]; omega⟩
    · obtain rfl : k = 2 := by omega
      go_wp2_with (first
        | (go_at_call 10; (with_reducible refine (za_copy _).mono ?_); rintro e w5 ⟨rfl, rfl⟩)
        | (go_at_call 16; (with_reducible refine (awake_any _).mono ?_); rintro e w6 ⟨rfl, hb⟩; replace T := upp T hb; clear hb))
      go_ret
      exact ⟨rfl, by rw [← hPe] at TW; exact upp TW T⟩
end Go.Proofs.Ytcpienpkpodfmaa
