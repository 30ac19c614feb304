/- The document's own row of ids: the least, the lowest, all ids. No condition but that it isn't long. -/
import Derived.Test.YtcpienpkpodfmaaRA
namespace Go.Proofs.Ytcpienpkpodfmaa
open Go.RowKit Go.Shelf
set_option linter.unusedVariables false
section
variable (R : Nat) (L : List It) (w : World)
theorem low1_snoc {A : List It} (x : It) (h : A ≠ []) : (low (A ++ [x])).1 = if x.2 < (low A).1 then x.2 else (low A).1 := by
  rw [low_snoc x h]
  rcases mn_cases (low A) (mkO x) with ⟨h1, e⟩ | ⟨h1, e⟩ <;> rw [e] <;> unfold mLt at h1 <;> simp only at h1 ⊢ <;> split <;> omega
set_option maxRecDepth 100000 in
set_option maxHeartbeats 2000000 in
theorem rw_lowest (hl : L.length ≤ 100000) (h : Rw w R L) : Calls Try.prog 35 #[.pointer (some ⟨R, 0, none⟩)] w fun e w' => e = .returned (.tuple #[eU (low L).1, .bool (decide (L ≠ []))]) ∧ w = w' := by
  obtain ⟨a, c, hR, hLc, hI⟩ := h
  have hce := Lib.hid (row_cells hI)
  have hnc : (L.length : Int) ≤ (c : Int) := by omega
  have cR : w.cell? ⟨R, 0, none⟩ = some (.slice a L.length c) := hR.cell 0
  clear hI hR
  go_enter Try.func35, Try.ntmps35
  go_wp2
  go_loopw [4, 5, 6] (fun s6 s7 s8 wr => ∃ (k : Nat) (o : Int) (b : Bool), s6 = .int .u64 o ∧ s7 = .bool b ∧ s8 = .int .i64 k ∧ k ≤ L.length ∧ Hid ((low (L.take k)).1 = o ∧ decide (L.take k ≠ []) = b) ∧ wr = w) (fun s6 s7 s8 _ => L.length - (intOf s8).toNat)
  case atStart => exact ⟨0, 0, false, rfl, rfl, rfl, by omega, Lib.hid ⟨rfl, rfl⟩, rfl⟩
  case round =>
    obtain ⟨k, o, b, rfl, rfl, rfl, hk, hf, rfl⟩ := hrel
    by_cases hlt : k < L.length
    · have i1 : (k : Int) < (L.length : Int) := by omega
      have i2 : (0 : Int) ≤ (k : Int) := by omega
      obtain ⟨g, oo, rfl, hg, x1, x2, x3⟩ := hce.out k wr hlt (Below.refl _ _)
      obtain ⟨e1, e2⟩ := hf.out
      have es : L.take (k + 1) = L.take k ++ [L[k]] := by rw [List.take_succ_eq_append_getElem hlt]
      generalize L[k] = x at *
      generalize L.take k = U at *
      have hu := undef_ne
      cases b with
      | false =>
        have hU : U = [] := by simpa using e2
        subst hU
        have hn : Hid ((low (L.take (k + 1))).1 = x.2 ∧ decide (L.take (k + 1) ≠ []) = true) := Lib.hid (by rw [es]; exact ⟨rfl, rfl⟩)
        clear e1 e2 es hf
        go_wp2_with fail
        exact ⟨⟨k + 1, x.2, true, rfl, rfl, rfl, by omega, hn, by first | rfl | trivial⟩, by simp [intOf]; omega⟩
      | true =>
        have hU : U ≠ [] := by simpa using e2
        have hs := low1_snoc x hU
        rw [e1, ← es] at hs
        by_cases hv : x.2 < o
        · rw [if_pos hv] at hs
          have hn : Hid ((low (L.take (k + 1))).1 = x.2 ∧ decide (L.take (k + 1) ≠ []) = true) := Lib.hid ⟨hs, by rw [es]; simp⟩
          clear e1 e2 es hf hs hU
          go_wp2_with fail
          exact ⟨⟨k + 1, x.2, true, rfl, rfl, rfl, by omega, hn, by first | rfl | trivial⟩, by simp [intOf]; omega⟩
        · rw [if_neg hv] at hs
          have hn : Hid ((low (L.take (k + 1))).1 = o ∧ decide (L.take (k + 1) ≠ []) = true) := Lib.hid ⟨hs, by rw [es]; simp⟩
          clear e1 e2 es hf hs hU
          go_wp2_with fail
          exact ⟨⟨k + 1, o, true, rfl, rfl, rfl, by omega, hn, by first | rfl | trivial⟩, by simp [intOf]; omega⟩
    · obtain rfl : k = L.length := by omega
      have i1 : ¬ (L.length : Int) < (L.length : Int) := by omega
      obtain ⟨e1, e2⟩ := hf.out
      rw [List.take_length] at e1 e2
      subst e1 e2
      go_wp2_with fail
      go_ret2
      exact ⟨rfl, rfl⟩
/-- The best so far, in a box. -/
def Bst (W : World) (P : Nat) (U : List It) (b : Bool) : Prop := (∃ key : Int, Box W P #[eI (low U).2, eU key, eU (low U).1] 76) ∧ decide (U ≠ []) = b
theorem triC {w : World} {B : Nat} {x y z : Int} {t : TypeId} (h : Box w B #[eI x, eU y, eU z] t) : w.cell? ⟨B, 0, none⟩ = some (.int .i64 x) ∧ w.cell? ⟨B, 1, none⟩ = some (.int .u64 y) ∧ w.cell? ⟨B, 2, none⟩ = some (.int .u64 z) := ⟨h.cell 0, h.cell 1, h.cell 2⟩
set_option maxRecDepth 100000 in
set_option maxHeartbeats 4000000 in
theorem rw_least (q : Int) (hl : L.length ≤ 100000) (h : Rw w R L) :
    Calls Try.prog 33 #[.pointer (some ⟨R, 0, none⟩), eU q] w fun e w' => e = .returned (.tuple #[eI (low (upto q L)).2, .bool (decide (upto q L ≠ []))]) ∧ Below w.heap.size w w' := by
  obtain ⟨a, c, hR, hLc, hI⟩ := h
  have hce := Lib.hid (row_cells hI)
  have hnc : (L.length : Int) ≤ (c : Int) := by omega
  have b1 := Box.new w 76 #[eI 0, eU 0, eU 0]
  have T0 := up1 w (.cells #[eI 0, eU 0, eU 0] 76)
  clear hI
  go_enter Try.func33, Try.ntmps33
  go_wp2
  go_loopw [7, 8] (fun s7 s8 wr => ∃ (k : Nat) (b : Bool), s7 = .bool b ∧ s8 = .int .i64 k ∧ k ≤ L.length ∧ Hid (Bst wr w.heap.size (upto q (L.take k)) b) ∧ Below w.heap.size w wr) (fun s7 s8 _ => L.length - (intOf s8).toNat)
  case atStart => exact ⟨0, false, rfl, rfl, by omega, Lib.hid ⟨⟨0, b1⟩, rfl⟩, T0⟩
  case round =>
    clear b1 T0
    obtain ⟨k, b, rfl, rfl, hk, hf, T⟩ := hrel
    have cR : wr.cell? ⟨R, 0, none⟩ = some (.slice a L.length c) := (hR.below T).cell 0
    obtain ⟨⟨key, B⟩, e2⟩ := hf.out
    by_cases hlt : k < L.length
    · have i1 : (k : Int) < (L.length : Int) := by omega
      have i2 : (0 : Int) ≤ (k : Int) := by omega
      obtain ⟨g, oo, rfl, hg, x1, x2, x3⟩ := hce.out k wr hlt T
      have et : L.take (k + 1) = L.take k ++ [L[k]] := by rw [List.take_succ_eq_append_getElem hlt]
      have es := upto_snoc q (L.take k) L[k]
      rw [← et] at es
      generalize L[k] = x at *
      generalize upto q (L.take k) = U at *
      obtain ⟨u, hu⟩ : ∃ u, low U = u := ⟨_, rfl⟩
      rw [hu] at B
      have B' := B.alloc (.cells #[eI x.1.2, eU x.1.1, eU x.2] 76)
      have bx := Box.new wr 76 #[eI x.1.2, eU x.1.1, eU x.2]
      have T' := T.alloc T.size (.cells #[eI x.1.2, eU x.1.1, eU x.2] 76)
      go_upto_region 6 with (fail)
      obtain ⟨W1, hW1⟩ : ∃ v, wr.alloc (.cells #[eI x.1.2, eU x.1.1, eU x.2] 76) = v := ⟨_, rfl⟩
      rw [hW1] at B' bx T'
      first | rw [hW1] | skip
      obtain ⟨p0, p1, p2⟩ := triC B'
      obtain ⟨y0, y1, y2⟩ := triC bx
      have f0 := B'.thaw 0
      have f1 := B'.thaw 1
      have f2 := B'.thaw 2
      have l0 := B'.lt
      have hset : Box (((W1.setCell ⟨w.heap.size, 0, none⟩ (.int .i64 x.1.2)).setCell ⟨w.heap.size, 1, none⟩ (.int .u64 x.1.1)).setCell ⟨w.heap.size, 2, none⟩ (.int .u64 x.2)) w.heap.size #[eI x.1.2, eU x.1.1, eU x.2] 76 := ((B'.set 0 (eI x.1.2)).set 1 (eU x.1.1)).set 2 (eU x.2)
      have hsT : Below w.heap.size w (((W1.setCell ⟨w.heap.size, 0, none⟩ (.int .i64 x.1.2)).setCell ⟨w.heap.size, 1, none⟩ (.int .u64 x.1.1)).setCell ⟨w.heap.size, 2, none⟩ (.int .u64 x.2)) := ((T'.setCell (p := ⟨w.heap.size, 0, none⟩) (Nat.le_refl _) _).setCell (p := ⟨w.heap.size, 1, none⟩) (Nat.le_refl _) _).setCell (p := ⟨w.heap.size, 2, none⟩) (Nat.le_refl _) _
      have hund := undef_ne
      have hnew : (low (upto q (L.take (k + 1)))).2 = x.1.2 → (low (upto q (L.take (k + 1)))).1 = x.2 → upto q (L.take (k + 1)) ≠ [] → Hid (Bst (((W1.setCell ⟨w.heap.size, 0, none⟩ (.int .i64 x.1.2)).setCell ⟨w.heap.size, 1, none⟩ (.int .u64 x.1.1)).setCell ⟨w.heap.size, 2, none⟩ (.int .u64 x.2)) w.heap.size (upto q (L.take (k + 1))) true) := fun h1 h2 h3 =>
        Lib.hid ⟨⟨x.1.1, by rw [h1, h2]; exact hset⟩, by simpa using h3⟩
      have hold : ∀ b', low (upto q (L.take (k + 1))) = u → decide (upto q (L.take (k + 1)) ≠ []) = b' → Hid (Bst W1 w.heap.size (upto q (L.take (k + 1))) b') := fun b' h1 h2 => Lib.hid ⟨⟨key, by rw [h1]; exact B'⟩, h2⟩
      clear hset bx B hf et hW1 B' T x1 x2 x3 hR cR hce
      by_cases hq : x.1.1 ≤ q
      · rw [if_pos hq] at es
        rw [es] at hnew hold
        cases b with
        | false =>
          have hU : U = [] := by simpa using e2
          have hn := hnew (by rw [hU]; rfl) (by rw [hU]; rfl) (by simp)
          rw [← es] at hn
          clear hnew hold e2 es hU hu
          go_wp2_with fail
          exact ⟨⟨k + 1, true, rfl, rfl, by omega, hn, hsT⟩, by simp [intOf]; omega⟩
        | true =>
          have hU : U ≠ [] := by simpa using e2
          have hs := low_snoc x hU
          rw [hu] at hs
          rcases mn_cases u (mkO x) with ⟨h1, e⟩ | ⟨h1, e⟩
          · rw [e] at hs
            have hn := hnew (by rw [hs]) (by rw [hs]) (by simp)
            rw [← es] at hn
            clear hnew hold e2 es hU hu hs e
            unfold mLt mkO at h1
            simp only at h1
            rcases h1 with h1 | ⟨h1, h2⟩
            · have g1 : decide (x.2 < u.1) = true := by simpa using h1
              clear h1
              go_wp2_with fail
              exact ⟨⟨k + 1, true, rfl, rfl, by omega, hn, hsT⟩, by simp [intOf]; omega⟩
            · have g1 : decide (x.2 < u.1) = false := by simp; omega
              have g2 : (x.2 == u.1) = true := by simp; omega
              have g3 : decide (x.1.2 < u.2) = true := by simpa using h2
              clear h1 h2
              go_wp2_with fail
              exact ⟨⟨k + 1, true, rfl, rfl, by omega, hn, hsT⟩, by simp [intOf]; omega⟩
          · rw [e] at hs
            have hn := hold true hs (by simp)
            rw [← es] at hn
            clear hnew hold e2 es hU hu hs e hsT
            unfold mLt mkO at h1
            simp only [not_or, not_and] at h1
            obtain ⟨h1, h2⟩ := h1
            have g1 : decide (x.2 < u.1) = false := by simpa using h1
            by_cases h3 : x.2 = u.1
            · have g2 : (x.2 == u.1) = true := by simpa using h3
              have g3 : decide (x.1.2 < u.2) = false := by simpa using h2 h3
              clear h1 h2 h3
              go_wp2_with fail
              exact ⟨⟨k + 1, true, rfl, rfl, by omega, hn, T'⟩, by simp [intOf]; omega⟩
            · have g2 : (x.2 == u.1) = false := by simpa using h3
              clear h1 h2 h3
              go_wp2_with fail
              exact ⟨⟨k + 1, true, rfl, rfl, by omega, hn, T'⟩, by simp [intOf]; omega⟩
      · rw [if_neg hq] at es
        rw [es] at hold
        have hn := hold b hu e2
        rw [← es] at hn
        clear hnew hold e2 es hu hsT
        go_wp2_with fail
        exact ⟨⟨k + 1, b, rfl, rfl, by omega, hn, T'⟩, by simp [intOf]; omega⟩
    · obtain rfl : k = L.length := by omega
      have i1 : ¬ (L.length : Int) < (L.length : Int) := by omega
      rw [List.take_length] at B e2
      obtain ⟨p0, p1, p2⟩ := triC B
      subst e2
      clear hf
      go_wp2_with fail
      go_ret2
      exact ⟨rfl, T⟩
end
end Go.Proofs.Ytcpienpkpodfmaa
