/- What the document's own Parse tells of any text: as the program's. Condition: at most 1000 bytes. -/
import Derived.Test.YtkcmfcgoknhodaaDoorSrP
namespace Go.Proofs.YtkcmfcgoknhodaaDoor
open Go.RowKit Go.Lib W
set_option linter.unusedVariables false
theorem cutd_short {d : UInt8} : ∀ (s : List UInt8), ∀ a ∈ cutd d s, a.length ≤ s.length
  | [], a, h => by simp [cutd] at h; subst h; simp
  | c :: r, a, h => by
    have ih := cutd_short (d := d) r
    have hn := cutd_ne (d := d) r
    rw [cutd] at h
    split at h
    · rcases List.mem_cons.1 h with rfl | h
      · simp
      · have := ih a h; simp; omega
    · match hr : cutd d r, hn with
      | x :: y, _ =>
        rw [hr] at h ih
        rcases List.mem_cons.1 h with rfl | h
        · have := ih x (by simp); simp; omega
        · have := ih a (by simp [h]); simp; omega
theorem Digits_str (l : List UInt8) (w : World) : Calls Tryd.prog 18 #[str l] w fun e w' => e = .returned (.tuple #[.int .u64 (dgN l), .bool (dgB l)]) ∧ Below w.heap.size w w' := Digits_of ⟨l.toArray⟩ w
set_option maxHeartbeats 4000000 in
theorem rParse_any (s : ByteArray) (hs : s.size ≤ 1000) : ∃ (r : Sp) (e : Int), IsS s.data.toList r e ∧ ∀ w,
    Calls Tryd.prog 7 #[.string s] w fun x w' => x = .returned (.tuple #[spW r, .int .i64 e]) ∧ Below w.heap.size w w' := by
  by_cases h8 : (cutd 32 s.data.toList).length = 8
  · obtain ⟨l0, l1, l2, l3, l4, l5, l6, l7, hc⟩ := list8 h8
    have hsz : ∀ a ∈ cutd 32 s.data.toList, (bs a).size ≤ 1000 := fun a h => by
      have h1 := cutd_short _ a h
      have h2 : s.data.toList.length = s.size := by rw [Array.length_toList]; rfl
      have h3 : (bs a).size = a.length := by simp [ByteArray.size]
      omega
    rw [hc] at hsz
    obtain ⟨x, e3, hx, g3⟩ := rCurve_any (bs l3) (hsz l3 (by simp))
    obtain ⟨y, e4, hy, g4⟩ := rCurve_any (bs l4) (hsz l4 (by simp))
    obtain ⟨z, e5, hz, g5⟩ := rCurve_any (bs l5) (hsz l5 (by simp))
    have k := IsS.of_words hc (dg_is l1) (dg_is l2) hx hy hz (dg_is l6) (dg_is l7)
    have e1 : (l0 = firstT true) ↔ (l0 == [108, 101, 97, 102]) = true := by rw [beq_iff_eq]; rfl
    have e2 : (l0 = firstT false) ↔ (l0 == [105, 110, 110, 101, 114]) = true := by rw [beq_iff_eq]; rfl
    obtain ⟨a0, ha0⟩ : ∃ a0, (l0 == [108, 101, 97, 102]) = a0 := ⟨_, rfl⟩
    obtain ⟨b0, hb0⟩ : ∃ b0, (l0 == [105, 110, 110, 101, 114]) = b0 := ⟨_, rfl⟩
    have hW := fun (R : Sp) (ee : Int) hno hyes (w : World) => rParse_at s l0 l1 l2 l3 l4 l5 l6 l7 (dgN l1) (dgN l2) (dgN l6) (dgN l7) e3 e4 e5 (dgB l1) (dgB l2) (dgB l6) (dgB l7) a0 b0 x y z R ee w hs hc (dg_is l1).1.1 (dg_is l2).1.1 (dg_is l6).1.1 (dg_is l7).1.1 ha0 hb0 (Digits_str l1) (Digits_str l2) (Digits_str l6) (Digits_str l7) g3 g4 g5 hno hyes
    rw [ha0] at e1
    rw [hb0] at e2
    by_cases hg : (a0 = true ∨ b0 = true) ∧ (dgB l1 = true ∧ dgN l1 ≤ 9223372036854775807) ∧ (dgB l2 = true ∧ dgN l2 ≤ 9223372036854775807) ∧ (dgB l6 = true ∧ dgN l6 ≤ 9223372036854775807) ∧ (dgB l7 = true ∧ dgN l7 ≤ 9223372036854775807) ∧ e3 = 0 ∧ e4 = 0 ∧ e5 = 0
    · refine ⟨⟨dgN l1, dgN l2, a0, x, y, z, dgN l6, dgN l7⟩, 0, k.1 a0 ?_ hg.2.1 hg.2.2.1 hg.2.2.2.1 hg.2.2.2.2.1 hg.2.2.2.2.2.1 hg.2.2.2.2.2.2.1 hg.2.2.2.2.2.2.2, fun w => hW _ _ (fun h => absurd hg h) (fun _ => ⟨rfl, rfl⟩) w⟩
      cases a0
      · rcases hg.1 with h | h
        · cases h
        · exact e2.2 h
      · exact e1.2 rfl
    · refine ⟨Sp.zero, 2, k.2 (fun h => hg ⟨?_, h.2⟩), fun w => hW _ _ (fun _ => ⟨rfl, rfl⟩) (fun h => absurd h hg) w⟩
      rcases h.1 with h | h
      · exact .inl (e1.1 h)
      · exact .inr (e2.1 h)
  · exact ⟨Sp.zero, 2, IsS.of_many h8, fun w => rParse_few s w hs h8⟩
end Go.Proofs.YtkcmfcgoknhodaaDoor
