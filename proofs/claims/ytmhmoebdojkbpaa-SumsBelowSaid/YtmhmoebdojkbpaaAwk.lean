/- The chapter's examples hold. No condition. -/
import Derived.Test.YtmhmoebdojkbpaaAwM
namespace Go.Proofs.Ytmhmoebdojkbpaa
open Go.RowKit Go.Shelf W
set_option linter.unusedVariables false
theorem isc {w : World} {L : Nat} (h : CvRow w L 0 exL) : IsCvs w (some ⟨L, 0, none⟩) 2 2 exL := ⟨rfl, Nat.le_refl _, .inr ⟨L, 0, rfl, h⟩⟩
theorem cv_d {w : World} {L : Nat} (h : CvRow w L 0 exL) : CvRow w.drew L 0 exL := h
theorem isc_d {w : World} {L : Nat} (h : CvRow w L 0 exL) : IsCvs w.drew (some ⟨L, 0, none⟩) 2 2 exL := isc (cv_d h)
theorem six_of {w : World} {L : Nat} (h : CvRow w L 0 exL) : (w.cell? ⟨L, 0, none⟩ = some (.int .u64 3) ∧ w.cell? ⟨L, 1, none⟩ = some (.int .u64 10) ∧ w.cell? ⟨L, 2, none⟩ = some (.int .u64 1)) ∧ w.cell? ⟨L, 3, none⟩ = some (.int .u64 0) ∧ w.cell? ⟨L, 4, none⟩ = some (.int .u64 0) ∧ w.cell? ⟨L, 5, none⟩ = some (.int .u64 2) := by
  have a := h.2 0 (by decide)
  have b := h.2 1 (by decide)
  simpa using ⟨a, b⟩
theorem nu_below {W w : World} {b o : Nat} {cs : List Int} (h : NuRow W b o cs) (hb : Below W.heap.size W w) : NuRow w b o cs := ⟨Nat.lt_of_lt_of_le h.1 hb.size, fun j hj => (hb.cell (p := ⟨b, o + j, none⟩) h.1).trans (h.2 j hj)⟩
theorem two_nu (w : World) (x y : Int) : NuRow (w.alloc (.cells #[eU x, eU y] 23)) w.heap.size 0 [x, y] := by
  have hb : (w.alloc (.cells #[eU x, eU y] 23)).heap[w.heap.size]? = some (.cells #[eU x, eU y] 23 (0, 0)) := World.alloc_heap_new w _
  have hz : w.heap.size < (w.alloc (.cells #[eU x, eU y] 23)).heap.size := by simp
  generalize w.alloc (.cells #[eU x, eU y] 23) = X at *
  have hc : ∀ j, X.cell? ⟨w.heap.size, j, none⟩ = (#[eU x, eU y] : Array Value)[j]? := fun j => by simp [World.cell?, hb]
  refine ⟨hz, fun j hj => ?_⟩
  have : j = 0 ∨ j = 1 := by simp at hj; omega
  rcases this with rfl | rfl <;> (rw [hc]; simp)
theorem same2 {g cap B : Nat} {w : World} (h1 : NuRow w g 0 [0, 10]) (h2 : NuRow w B 0 [0, 10]) : Calls Try.prog 12 #[.slice (some ⟨g, 0, none⟩) 2 cap, .slice (some ⟨B, 0, none⟩) 2 2] w fun e w' => e = .returned (.bool true) ∧ Below w.heap.size w w' := kSame_of [0, 10] g 0 cap B 0 2 w h1 h2 (by decide)
open Classical in
theorem ex_b1 (w' : World) : Calls Try.prog 21 #[.agg #[eU 0, eU 0, eU 2], .agg #[eU 0, eU 0, eU 3]] w' fun e w'' => e = .returned (.bool true) ∧ Below w'.heap.size w' w'' := by
  have := belowP_any 12 sort12 (by omega) 0 0 2 0 0 3 w' ⟨by omega, by omega⟩ ⟨by omega, by omega⟩ ⟨by omega, by omega⟩ ⟨by omega, by omega⟩ ⟨by omega, by omega⟩ ⟨by omega, by omega⟩
  rwa [decide_eq_true ex_below] at this
open Classical in
theorem ex_b2 (w' : World) : Calls Try.prog 21 #[.agg #[eU 3, eU 10, eU 1], .agg #[eU 0, eU 0, eU 2]] w' fun e w'' => e = .returned (.bool false) ∧ Below w'.heap.size w' w'' := by
  have := belowP_any 12 sort12 (by omega) 3 10 1 0 0 2 w' ⟨by omega, by omega⟩ ⟨by omega, by omega⟩ ⟨by omega, by omega⟩ ⟨by omega, by omega⟩ ⟨by omega, by omega⟩ ⟨by omega, by omega⟩
  rwa [decide_eq_false ex_above] at this
set_option maxRecDepth 100000 in
set_option maxHeartbeats 8000000 in
theorem awake_any (w : World) : Calls Try.prog 23 #[] w fun e w' => e = .returned (.bool true) ∧ Below w.heap.size w w' := by
  have s5 : ∀ w', IsCvs w' (some ⟨w.heap.size, 0, none⟩) 2 2 exL → Calls Try.prog 19 #[.slice (some ⟨w.heap.size, 0, none⟩) 2 2, eU 5] w' fun e w'' => e = .returned (.tuple #[eU 0, .bool true]) ∧ Below w'.heap.size w' w'' := fun w' h => spareP_any 12 sort12 exL ex_words (by decide) (by decide) 5 0 ⟨by omega, by omega⟩ _ 2 2 w' h ex_kept5 ex_spare5
  have s6 : ∀ w', IsCvs w' (some ⟨w.heap.size, 0, none⟩) 2 2 exL → Calls Try.prog 19 #[.slice (some ⟨w.heap.size, 0, none⟩) 2 2, eU 6] w' fun e w'' => e = .returned (.tuple #[eU 1, .bool true]) ∧ Below w'.heap.size w' w'' := fun w' h => spareP_any 12 sort12 exL ex_words (by decide) (by decide) 6 1 ⟨by omega, by omega⟩ _ 2 2 w' h (spare_kept ex_spare6) ex_spare6
  have s4 : ∀ w', IsCvs w' (some ⟨w.heap.size, 0, none⟩) 2 2 exL → Calls Try.prog 19 #[.slice (some ⟨w.heap.size, 0, none⟩) 2 2, eU 4] w' fun e w'' => e = .returned (.tuple #[eU 0, .bool false]) ∧ Below w'.heap.size w' w'' := fun w' h => spareP_off 12 sort12 exL ex_words (by decide) (by decide) 4 ⟨by omega, by omega⟩ _ 2 2 w' h ex_not4
  have aa : ∀ w', IsCvs w' (some ⟨w.heap.size, 0, none⟩) 2 2 exL → Calls Try.prog 10 #[.slice (some ⟨w.heap.size, 0, none⟩) 2 2, eU 10] w' fun e w'' => e = .returned (.agg #[eU 0, eU 50]) ∧ Below w'.heap.size w' w'' := fun w' h => by
    have := atSum_any exL 10 (some ⟨w.heap.size, 0, none⟩) 2 2 w' ex_words ⟨by omega, by omega⟩ (by decide) h
    rw [ex_sum (by omega)] at this
    exact this
  have l4 : ∀ w', IsCvs w' (some ⟨w.heap.size, 0, none⟩) 2 2 exL → Calls Try.prog 15 #[.slice (some ⟨w.heap.size, 0, none⟩) 2 2, eU 4] w' fun e w'' => e = .returned (eU 1) ∧ Below w'.heap.size w' w'' := fun w' h => lateP_any 12 sort12 exL ex_words (by decide) (by decide) 4 1 ⟨by omega, by omega⟩ _ 2 2 w' h ex_is4
  have k4 : ∀ w', IsCvs w' (some ⟨w.heap.size, 0, none⟩) 2 2 exL → Calls Try.prog 17 #[.slice (some ⟨w.heap.size, 0, none⟩) 2 2, eU 4] w' fun e w'' => e = .returned (.bool false) ∧ Below w'.heap.size w' w'' := fun w' h => keptP_any 12 sort12 exL ex_words (by decide) (by decide) 4 false ⟨by omega, by omega⟩ _ 2 2 w' h ⟨fun h => (by cases h), fun h => absurd h ex_not4⟩
  have k5 : ∀ w', IsCvs w' (some ⟨w.heap.size, 0, none⟩) 2 2 exL → Calls Try.prog 17 #[.slice (some ⟨w.heap.size, 0, none⟩) 2 2, eU 5] w' fun e w'' => e = .returned (.bool true) ∧ Below w'.heap.size w' w'' := fun w' h => keptP_any 12 sort12 exL ex_words (by decide) (by decide) 5 true ⟨by omega, by omega⟩ _ 2 2 w' h ⟨fun _ => ex_kept5, fun _ => rfl⟩
  have l5 : ∀ w', IsCvs w' (some ⟨w.heap.size, 0, none⟩) 2 2 exL → Calls Try.prog 15 #[.slice (some ⟨w.heap.size, 0, none⟩) 2 2, eU 5] w' fun e w'' => e = .returned (eU 9223372036854775808) ∧ Below w'.heap.size w' w'' := fun w' h => lateP_any 12 sort12 exL ex_words (by decide) (by decide) 5 _ ⟨by omega, by omega⟩ _ 2 2 w' h ex_is5
  have cc : ∀ w', IsCvs w' (some ⟨w.heap.size, 0, none⟩) 2 2 exL → Calls Try.prog 13 #[.slice (some ⟨w.heap.size, 0, none⟩) 2 2] w' fun e w'' => (∃ g cap, e = .returned (.slice (some ⟨g, 0, none⟩) 2 cap) ∧ NuRow w'' g 0 [0, 10]) ∧ Below w'.heap.size w' w'' := fun w' h => by
    obtain ⟨ys, hys⟩ := unW_ex ex_words
    have hyl : ys.length = 2 := by have := congrArg List.length hys; simpa [unW] using this
    have := corners_of 12 sort12 ys (some ⟨w.heap.size, 0, none⟩) 2 2 w' (by omega) (by omega) (by rw [hys]; exact h)
    rw [hys, ex_corners] at this
    refine this.mono ?_
    rintro e w'' ⟨v, rfl, hrow, hb⟩
    obtain ⟨g, cap, rfl, _, _, hg⟩ := owns_some hrow (by decide)
    exact ⟨⟨g, cap, rfl, hg, fun j hj => by rw [Nat.zero_add]; have := owns_cell hrow hj; simpa [List.getD, List.getElem?_eq_getElem hj] using this⟩, hb⟩
  have b1 := ex_b1
  have b2 := ex_b2
  have k0 : ∀ w', Calls Try.prog 17 #[.slice none 0 0, eU 0] w' fun e w'' => e = .returned (.bool true) ∧ Below w'.heap.size w' w'' := fun w' => keptP_any 12 sort12 [] (fun c hc => by cases hc) (by decide) (by decide) 0 true ⟨by omega, by omega⟩ none 0 0 w' ⟨rfl, Nat.le_refl _, .inl rfl⟩ ⟨fun _ => ex_none, fun _ => rfl⟩
  have HR := two_row w 3 10 1 0 0 2
  have T := up1 w (.cells #[eU 3, eU 10, eU 1, eU 0, eU 0, eU 2] 31)
  go_enter Try.func23, Try.ntmps23
  go_upto_region 5 with (first
    | (go_at_call 19; (with_reducible refine (s5 _ (isc HR)).mono ?_); rintro e w1 ⟨rfl, hb⟩; replace T := up T hb T.size; replace HR := HR.below hb; clear hb)
    | (go_at_call 19; (with_reducible refine (s6 _ (isc HR)).mono ?_); rintro e w2 ⟨rfl, hb⟩; replace T := up T hb T.size; replace HR := HR.below hb; clear hb)
    | (go_at_call 19; (with_reducible refine (s4 _ (isc HR)).mono ?_); rintro e w3 ⟨rfl, hb⟩; replace T := up T hb T.size; replace HR := HR.below hb; clear hb))
  obtain ⟨⟨z0, z1, z2⟩, z3, z4, z5⟩ := six_of HR
  clear s5 s6 s4
  simp only [List.append_eq, List.cons_append, List.nil_append]
  go_region_held3 (fun w' => (w'.cell? ⟨w.heap.size, 0, none⟩ = some (.int .u64 3) ∧ w'.cell? ⟨w.heap.size, 1, none⟩ = some (.int .u64 10) ∧ w'.cell? ⟨w.heap.size, 2, none⟩ = some (.int .u64 1)) ∧ w'.cell? ⟨w.heap.size, 3, none⟩ = some (.int .u64 0) ∧ w'.cell? ⟨w.heap.size, 4, none⟩ = some (.int .u64 0) ∧ w'.cell? ⟨w.heap.size, 5, none⟩ = some (.int .u64 2))
    (first | exact six_of HR | exact six_of (HR.alloc _) | go_keep)
    (first
      | (go_at_call 10; (first | (with_reducible refine (aa _ (isc HR)).mono ?_) | (with_reducible refine (aa _ (isc_d HR)).mono ?_) | (with_reducible refine (aa _ (isc (HR.alloc _))).mono ?_) | (with_reducible refine (aa _ (isc_d (HR.alloc _))).mono ?_) | (with_reducible refine (aa _ (isc ((cv_d HR).alloc _))).mono ?_)); rintro e wa ⟨rfl, hb⟩; (first | replace hb := undrew hb | replace hb := undrewN hb | skip); (first | (replace T := up T hb T.size; replace HR := HR.below hb; (try (replace RC := nu_below RC hb)); (try (replace RB := nu_below RB hb))) | (replace T := up (T.alloc T.size _) hb (T.alloc T.size _).size; replace HR := (HR.alloc _).below hb; (try (replace RC := nu_below (nu_below RC (up1 _ _)) hb)); (try (have RB := nu_below (two_nu _ 0 10) hb)))); obtain ⟨⟨z0, z1, z2⟩, z3, z4, z5⟩ := six_of HR; clear hb)
      | (go_at_call 15; (first | (with_reducible refine (l4 _ (isc HR)).mono ?_) | (with_reducible refine (l4 _ (isc_d HR)).mono ?_) | (with_reducible refine (l4 _ (isc (HR.alloc _))).mono ?_) | (with_reducible refine (l4 _ (isc_d (HR.alloc _))).mono ?_) | (with_reducible refine (l4 _ (isc ((cv_d HR).alloc _))).mono ?_)); rintro e wb ⟨rfl, hb⟩; (first | replace hb := undrew hb | replace hb := undrewN hb | skip); (first | (replace T := up T hb T.size; replace HR := HR.below hb; (try (replace RC := nu_below RC hb)); (try (replace RB := nu_below RB hb))) | (replace T := up (T.alloc T.size _) hb (T.alloc T.size _).size; replace HR := (HR.alloc _).below hb; (try (replace RC := nu_below (nu_below RC (up1 _ _)) hb)); (try (have RB := nu_below (two_nu _ 0 10) hb)))); obtain ⟨⟨z0, z1, z2⟩, z3, z4, z5⟩ := six_of HR; clear hb)
      | (go_at_call 17; (first | (with_reducible refine (k4 _ (isc HR)).mono ?_) | (with_reducible refine (k4 _ (isc_d HR)).mono ?_) | (with_reducible refine (k4 _ (isc (HR.alloc _))).mono ?_) | (with_reducible refine (k4 _ (isc_d (HR.alloc _))).mono ?_) | (with_reducible refine (k4 _ (isc ((cv_d HR).alloc _))).mono ?_)); rintro e wc ⟨rfl, hb⟩; (first | replace hb := undrew hb | replace hb := undrewN hb | skip); (first | (replace T := up T hb T.size; replace HR := HR.below hb; (try (replace RC := nu_below RC hb)); (try (replace RB := nu_below RB hb))) | (replace T := up (T.alloc T.size _) hb (T.alloc T.size _).size; replace HR := (HR.alloc _).below hb; (try (replace RC := nu_below (nu_below RC (up1 _ _)) hb)); (try (have RB := nu_below (two_nu _ 0 10) hb)))); obtain ⟨⟨z0, z1, z2⟩, z3, z4, z5⟩ := six_of HR; clear hb)
      | (go_at_call 17; (first | (with_reducible refine (k5 _ (isc HR)).mono ?_) | (with_reducible refine (k5 _ (isc_d HR)).mono ?_) | (with_reducible refine (k5 _ (isc (HR.alloc _))).mono ?_) | (with_reducible refine (k5 _ (isc_d (HR.alloc _))).mono ?_) | (with_reducible refine (k5 _ (isc ((cv_d HR).alloc _))).mono ?_)); rintro e wd ⟨rfl, hb⟩; (first | replace hb := undrew hb | replace hb := undrewN hb | skip); (first | (replace T := up T hb T.size; replace HR := HR.below hb; (try (replace RC := nu_below RC hb)); (try (replace RB := nu_below RB hb))) | (replace T := up (T.alloc T.size _) hb (T.alloc T.size _).size; replace HR := (HR.alloc _).below hb; (try (replace RC := nu_below (nu_below RC (up1 _ _)) hb)); (try (have RB := nu_below (two_nu _ 0 10) hb)))); obtain ⟨⟨z0, z1, z2⟩, z3, z4, z5⟩ := six_of HR; clear hb)
      | (go_at_call 15; (first | (with_reducible refine (l5 _ (isc HR)).mono ?_) | (with_reducible refine (l5 _ (isc_d HR)).mono ?_) | (with_reducible refine (l5 _ (isc (HR.alloc _))).mono ?_) | (with_reducible refine (l5 _ (isc_d (HR.alloc _))).mono ?_) | (with_reducible refine (l5 _ (isc ((cv_d HR).alloc _))).mono ?_)); rintro e we ⟨rfl, hb⟩; (first | replace hb := undrew hb | replace hb := undrewN hb | skip); (first | (replace T := up T hb T.size; replace HR := HR.below hb; (try (replace RC := nu_below RC hb)); (try (replace RB := nu_below RB hb))) | (replace T := up (T.alloc T.size _) hb (T.alloc T.size _).size; replace HR := (HR.alloc _).below hb; (try (replace RC := nu_below (nu_below RC (up1 _ _)) hb)); (try (have RB := nu_below (two_nu _ 0 10) hb)))); obtain ⟨⟨z0, z1, z2⟩, z3, z4, z5⟩ := six_of HR; clear hb)
      | (go_at_call 13; (first | (with_reducible refine (cc _ (isc HR)).mono ?_) | (with_reducible refine (cc _ (isc_d HR)).mono ?_) | (with_reducible refine (cc _ (isc (HR.alloc _))).mono ?_) | (with_reducible refine (cc _ (isc_d (HR.alloc _))).mono ?_) | (with_reducible refine (cc _ (isc ((cv_d HR).alloc _))).mono ?_)); rintro e wf ⟨⟨g, cap, rfl, RC⟩, hb⟩; (first | replace hb := undrew hb | replace hb := undrewN hb | skip); (first | (replace T := up T hb T.size; replace HR := HR.below hb; (try (replace RC := nu_below RC hb)); (try (replace RB := nu_below RB hb))) | (replace T := up (T.alloc T.size _) hb (T.alloc T.size _).size; replace HR := (HR.alloc _).below hb; (try (replace RC := nu_below (nu_below RC (up1 _ _)) hb)); (try (have RB := nu_below (two_nu _ 0 10) hb)))); obtain ⟨⟨z0, z1, z2⟩, z3, z4, z5⟩ := six_of HR; clear hb)
      | (go_at_call 12; (first | (with_reducible refine (same2 RC RB).mono ?_) | (with_reducible refine (same2 (nu_below RC (up1 _ _)) (two_nu _ 0 10)).mono ?_)); rintro e wg ⟨rfl, hb⟩; (first | replace hb := undrew hb | replace hb := undrewN hb | skip); (first | (replace T := up T hb T.size; replace HR := HR.below hb; (try (replace RC := nu_below RC hb)); (try (replace RB := nu_below RB hb))) | (replace T := up (T.alloc T.size _) hb (T.alloc T.size _).size; replace HR := (HR.alloc _).below hb; (try (replace RC := nu_below (nu_below RC (up1 _ _)) hb)); (try (have RB := nu_below (two_nu _ 0 10) hb)))); obtain ⟨⟨z0, z1, z2⟩, z3, z4, z5⟩ := six_of HR; clear hb)
      | (go_at_call 21; (first | (with_reducible refine (b1 _).mono ?_)); rintro e wh ⟨rfl, hb⟩; (first | replace hb := undrew hb | replace hb := undrewN hb | skip); (first | (replace T := up T hb T.size; replace HR := HR.below hb; (try (replace RC := nu_below RC hb)); (try (replace RB := nu_below RB hb))) | (replace T := up (T.alloc T.size _) hb (T.alloc T.size _).size; replace HR := (HR.alloc _).below hb; (try (replace RC := nu_below (nu_below RC (up1 _ _)) hb)); (try (have RB := nu_below (two_nu _ 0 10) hb)))); obtain ⟨⟨z0, z1, z2⟩, z3, z4, z5⟩ := six_of HR; clear hb)
      | (go_at_call 21; (first | (with_reducible refine (b2 _).mono ?_)); rintro e wi ⟨rfl, hb⟩; (first | replace hb := undrew hb | replace hb := undrewN hb | skip); (first | (replace T := up T hb T.size; replace HR := HR.below hb; (try (replace RC := nu_below RC hb)); (try (replace RB := nu_below RB hb))) | (replace T := up (T.alloc T.size _) hb (T.alloc T.size _).size; replace HR := (HR.alloc _).below hb; (try (replace RC := nu_below (nu_below RC (up1 _ _)) hb)); (try (have RB := nu_below (two_nu _ 0 10) hb)))); obtain ⟨⟨z0, z1, z2⟩, z3, z4, z5⟩ := six_of HR; clear hb)
      | (go_at_call 17; (first | (with_reducible refine (k0 _).mono ?_)); rintro e wj ⟨rfl, hb⟩; (first | replace hb := undrew hb | replace hb := undrewN hb | skip); (first | (replace T := up T hb T.size; replace HR := HR.below hb; (try (replace RC := nu_below RC hb)); (try (replace RB := nu_below RB hb))) | (replace T := up (T.alloc T.size _) hb (T.alloc T.size _).size; replace HR := (HR.alloc _).below hb; (try (replace RC := nu_below (nu_below RC (up1 _ _)) hb)); (try (have RB := nu_below (two_nu _ 0 10) hb)))); obtain ⟨⟨z0, z1, z2⟩, z3, z4, z5⟩ := six_of HR; clear hb))
  all_goals
    go_wp2_with fail
    go_ret
    exact ⟨rfl, T⟩
end Go.Proofs.Ytmhmoebdojkbpaa
