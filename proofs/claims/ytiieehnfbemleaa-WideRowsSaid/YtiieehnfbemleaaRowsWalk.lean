/- The walk of WideRows. Conditions: words; rows of at most 20 numbers. -/
import Derived.Test.YtiieehnfbemleaaRowsM
import Derived.Test.YtiieehnfbemleaaRowsB
import Derived.Test.YtiieehnfbemleaaAwake
import Derived.Deep.AppendLies
import Derived.Deep.RegionHeld3
import Derived.Deep.CutRange
namespace Go.Proofs.Ytiieehnfbemleaa
open Go.RowKit W
set_option linter.unusedVariables false
/-- The first k words of a row, from its end. -/
def revOf (f : Nat → Int) (n k : Nat) : List Value := newsOf (fun j => f (n - 1 - j)) k
theorem At.new (w : World) (v : Int) : At (w.alloc (.cells #[.int .u64 v] 24)) w.heap.size 0 v := by
  refine ⟨by simp, by simp⟩
theorem At.new2 (w : World) (o : Obj) (v : Int) : At ((w.alloc o).alloc (.cells #[.int .u64 v] 24)) (w.heap.size + 1) 0 v := by
  have := At.new (w.alloc o) v
  simpa using this
theorem At.drew {w : World} {b o : Nat} {v : Int} (h : At w b o v) : At w.drew b o v := h
theorem At.far {w w' : World} {row : Option Nat} {b o : Nat} {v : Int} (h : At w b o v) (hg : w.grownBy w' row) (hne : some b ≠ row) : At w' b o v :=
  ⟨Nat.lt_of_lt_of_le h.1 hg.size, (hg.cell_far ⟨b, o, none⟩ h.1 hne).trans h.2⟩
theorem At.news {w : World} {b : Nat} {v : Int} (h : At w b 0 v) : ∀ j u, [Value.int .u64 v][j]? = some u → w.cell? ((⟨b, 0, none⟩ : Addr).add j) = some u := by
  intro j u hj
  match j, hj with
  | 0, hj =>
    simp at hj; subst hj
    have hadd : (⟨b, 0, none⟩ : Addr).add 0 = ⟨b, 0, none⟩ := by unfold Addr.add; split <;> simp_all
    rw [hadd]; exact h.2
  | j + 1, hj => simp at hj
theorem Row.take {w : World} {ad : Option Addr} {n m : Nat} {f : Nat → Int} (h : Row w ad n f) (hm : m ≤ n) : Row w ad m f := by
  rcases h with h | ⟨b, o, h1, h2, h3⟩
  · exact .inl (by omega)
  · exact .inr ⟨b, o, h1, h2, fun j hj => h3 j (by omega)⟩
theorem Row.from {w : World} {ba oa n la ca q : Nat} {f : Nat → Int} (h : Row w (some ⟨ba, oa, none⟩) la f) (hq : q ≤ n) (hn : n ≤ la) (hc : la ≤ ca) :
    Row w (if ca = q then some ⟨ba, oa, none⟩ else some ⟨ba, oa + q, none⟩) (n - q) (fun j => f (q + j)) := by
  by_cases e : q = n
  · exact .inl (by omega)
  · rw [if_neg (by omega)]
    rcases h with h | ⟨b, o, h1, h2, h3⟩
    · omega
    · obtain ⟨rfl, rfl⟩ : ba = b ∧ oa = o := by simpa using h1
      refine .inr ⟨ba, oa + q, rfl, h2, fun j hj => ?_⟩
      have := h3 (q + j) (by omega)
      rwa [← Nat.add_assoc] at this
theorem Row.drew {w : World} {ad : Option Addr} {n : Nat} {f : Nat → Int} (h : Row w ad n f) : Row w.drew ad n f := h
theorem Own.new2 (w : World) (o : Obj) (x y : Int) : Own ((w.alloc o).alloc (.cells #[.int .u64 x, .int .u64 y] 26)) (w.heap.size + 1) x y := by
  have := Own.new (w.alloc o) x y
  simpa using this
theorem revOf_next (f : Nat → Int) (n k : Nat) : revOf f n k ++ [.int .u64 (f (n - 1 - k))] = revOf f n (k + 1) := by
  simp [revOf, newsOf, List.range_succ]
set_option maxRecDepth 100000 in
set_option maxHeartbeats 4000000 in
theorem rows_pos (f g : Nat → Int) (at' : Int) (ba oa la ca bb ob lb cb n : Nat) (w : World) (hn : n = min la lb) (h0 : 0 < n) (h2 : la ≤ 20) (h3 : lb ≤ 20)
    (hba : ba < w.heap.size) (hbb : bb < w.heap.size) (cf : ∀ j, j < la → w.cell? ⟨ba, oa + j, none⟩ = some (.int .u64 (f j))) (cg : ∀ j, j < lb → w.cell? ⟨bb, ob + j, none⟩ = some (.int .u64 (g j)))
    (x1 x2 xe y1 y2 ge z1 z2 he b1 b2 ie : Int) (q : Nat) (hq : q ≤ n) (hplace : (IntKind.u64.wrap at').tmod ((n : Int) + 1) = q) (hca : la ≤ ca) (hcb : lb ≤ cb)
    (D3 : ∀ cA cB w, Row w (some ⟨ba, oa, none⟩) q f → Row w (some ⟨bb, ob, none⟩) q g → Calls Try.prog 12 #[.slice (some ⟨ba, oa, none⟩) q cA, .slice (some ⟨bb, ob, none⟩) q cB] w fun e w' => e = .returned (.tuple #[.agg #[.int .u64 y1, .int .u64 y2], .int .i64 ge]) ∧ Below w.heap.size w w')
    (D4 : ∀ ad bd cA cB w, Row w ad (n - q) (fun j => f (q + j)) → Row w bd (n - q) (fun j => g (q + j)) → Calls Try.prog 12 #[.slice ad (n - q) cA, .slice bd (n - q) cB] w fun e w' => e = .returned (.tuple #[.agg #[.int .u64 z1, .int .u64 z2], .int .i64 he]) ∧ Below w.heap.size w w')
    (P : ∀ w, Calls Try.prog 13 #[.agg #[.int .u64 y1, .int .u64 y2], .agg #[.int .u64 z1, .int .u64 z2]] w fun e w' => e = .returned (.tuple #[.agg #[.int .u64 b1, .int .u64 b2], .int .i64 ie]) ∧ Below w.heap.size w w')
    (D5 : ∀ w, Row w (some ⟨bb, ob, none⟩) lb g → Row w (some ⟨ba, oa, none⟩) la f → Calls Try.prog 12 #[.slice (some ⟨bb, ob, none⟩) lb cb, .slice (some ⟨ba, oa, none⟩) la ca] w fun e w' => e = .returned (.tuple #[.agg #[.int .u64 x1, .int .u64 x2], .int .i64 xe]) ∧ Below w.heap.size w w')
    (hcase : Hid ((xe = 0 ∧ ge = 0 ∧ he = 0 ∧ ie = 0 ∧ x1 = b1 ∧ x2 = b2) ∨ (xe = 10 ∧ x1 = 0 ∧ x2 = 0 ∧ ge = 10) ∨ (xe = 10 ∧ x1 = 0 ∧ x2 = 0 ∧ ge = 0 ∧ he = 10) ∨ (xe = 10 ∧ x1 = 0 ∧ x2 = 0 ∧ ge = 0 ∧ he = 0 ∧ ie = 10)))
    (D1 : ∀ w, Row w (some ⟨ba, oa, none⟩) la f → Row w (some ⟨bb, ob, none⟩) lb g → Calls Try.prog 12 #[.slice (some ⟨ba, oa, none⟩) la ca, .slice (some ⟨bb, ob, none⟩) lb cb] w fun e w' => e = .returned (.tuple #[.agg #[.int .u64 x1, .int .u64 x2], .int .i64 xe]) ∧ Below w.heap.size w w')
    (D2 : ∀ gA gB cA cB w, Row w (some ⟨gA, 0, none⟩) n (fun j => f (n - 1 - j)) → Row w (some ⟨gB, 0, none⟩) n (fun j => g (n - 1 - j)) → Calls Try.prog 12 #[.slice (some ⟨gA, 0, none⟩) n cA, .slice (some ⟨gB, 0, none⟩) n cB] w fun e w' => e = .returned (.tuple #[.agg #[.int .u64 x1, .int .u64 x2], .int .i64 xe]) ∧ Below w.heap.size w w') :
    Calls Try.prog 3 #[.slice (some ⟨ba, oa, none⟩) la ca, .slice (some ⟨bb, ob, none⟩) lb cb, .int .i64 at'] w fun e w' => e = .returned (.bool true) ∧ Below w.heap.size w w' := by
  obtain ⟨i0, hi, hz0, hz1, hz2⟩ := info_parts info24
  have hi' := Lib.hid hi
  have hz0' := Lib.hid hz0
  have hz1' := Lib.hid hz1
  have hz2' := Lib.hid hz2
  clear hi hz0 hz1 hz2
  have hcf := Lib.hid cf
  have hcg := Lib.hid cg
  clear cf cg
  have d1 : decide (20 < (la : Int)) = false := by simp; omega
  have d2 : decide (20 < (lb : Int)) = false := by simp; omega
  have hn1 : n ≤ la := by omega
  have hn2 : n ≤ lb := by omega
  have hmin : min (la : Int) (lb : Int) = n := by omega
  clear hn
  go_enter Try.func3, Try.ntmps3
  go_wp2_with (go_at_call 11; (with_reducible refine (awake_any _).mono ?_); rintro e w1 ⟨rfl, hb1⟩)
  go_loopw [8, 9, 10] (fun s8 s9 s10 wr => ∃ k : Nat, k ≤ n ∧ s10 = .int .i64 ((n : Int) - 1 - k) ∧ wr.ownsRow w1.heap.size 24 1 s8 k (revOf f n k) ∧ wr.ownsRow w1.heap.size 24 1 s9 k (revOf g n k) ∧ (s8.ownBlock = none ∨ s8.ownBlock ≠ s9.ownBlock) ∧ Below w1.heap.size w1 wr) (fun _ _ s10 _ => (intOf s10 + 1).toNat)
  case atStart => exact ⟨0, Nat.zero_le _, by simp, World.ownsRow_nil _ _ _ _, World.ownsRow_nil _ _ _ _, .inl rfl, Below.refl _ _⟩
  case round =>
    obtain ⟨k, hk, rfl, hA, hB, hne, T⟩ := hrel
    obtain ⟨vA, rfl⟩ : ∃ v, v = u8 := ⟨_, rfl⟩
    obtain ⟨vB, rfl⟩ : ∃ v, v = u9 := ⟨_, rfl⟩
    by_cases hlt : k < n
    · obtain ⟨i, hi⟩ : ∃ i : Nat, (n : Int) - 1 - k = i := ⟨n - 1 - k, by omega⟩
      have hin : n - 1 - k = i := by omega
      rw [hi]
      have cA : wr.cell? ⟨ba, oa + i, none⟩ = some (.int .u64 (f i)) := (T.cell (p := ⟨ba, oa + i, none⟩) (Nat.lt_of_lt_of_le hba hb1.size)).trans ((hb1.cell (p := ⟨ba, oa + i, none⟩) hba).trans (hcf.out i (by omega)))
      have cB : wr.cell? ⟨bb, ob + i, none⟩ = some (.int .u64 (g i)) := (T.cell (p := ⟨bb, ob + i, none⟩) (Nat.lt_of_lt_of_le hbb hb1.size)).trans ((hb1.cell (p := ⟨bb, ob + i, none⟩) hbb).trans (hcg.out i (by omega)))
      have q1 : (i : Int) < (la : Int) := by omega
      have q2 : (0 : Int) ≤ (i : Int) := by omega
      have q3 : (i : Int) < (lb : Int) := by omega
      have hi2 := Lib.hid hi
      have hin2 := Lib.hid hin
      clear hi hin
      go_upto_region 10 with fail
      have CA : At wr ba (oa + i) (f i) := ⟨Nat.lt_of_lt_of_le hba (Nat.le_trans hb1.size T.size), cA⟩
      have CB : At wr bb (ob + i) (g i) := ⟨Nat.lt_of_lt_of_le hbb (Nat.le_trans hb1.size T.size), cB⟩
      have lA := hA.lt
      have lB := hB.lt
      have hs1 := hb1.size
      have fAA : some ba ≠ vA.ownBlock := fun h => by have := lA ba h.symm; omega
      have fBA : some bb ≠ vA.ownBlock := fun h => by have := lA bb h.symm; omega
      have fAB : some ba ≠ vB.ownBlock := fun h => by have := lB ba h.symm; omega
      have fBB : some bb ≠ vB.ownBlock := fun h => by have := lB bb h.symm; omega
      have hneB : vB.ownBlock = none ∨ vB.ownBlock ≠ vA.ownBlock := by
        rcases hne with h | h
        · rw [h]
          cases hx : vB.ownBlock with
          | none => exact .inl rfl
          | some x => exact .inr (by simp)
        · exact .inr (fun e => h e.symm)
      have hneA := hne
      go_region_held3 (fun w' => w'.cell? ⟨ba, oa + i, none⟩ = some (.int .u64 (f i)) ∧ w'.cell? ⟨bb, ob + i, none⟩ = some (.int .u64 (g i)))
        (first | exact ⟨CA.2, CB.2⟩ | exact ⟨(CA.alloc _).2, (CB.alloc _).2⟩ | exact ⟨((CA.alloc _).alloc _).2, ((CB.alloc _).alloc _).2⟩)
        (first
          | (refine step_append_lies _ (by rfl) (.tmp 45) (.tmp 50) 22 (by rfl) w1.heap.size 24 i0 (.int .u64 0) 1 8 Try.underlying22 hi'.out hz0'.out hz1'.out hz2'.out rfl (by omega) vA k (revOf f n k) (by rfl) ((hA.alloc _).drew) ⟨wr.heap.size, 0, none⟩ 1 1 [.int .u64 (f i)] (by rfl) (by rfl) ((At.new wr (f i)).drew.news) (by simp [Value.oneCell']) (by omega) (by unfold maxLen; omega) (by omega) (by have := T.size; simp; omega) (wr.heap.size + 1) (by simp) ?_; intro gA capA wA hAn hgA hatA hltA; have sA : w1.heap.size ≤ wA.heap.size := (by have h1 := hgA.size; have h2 := T.size; simp at h1; omega); replace hB := ((hB.alloc _).drew).kept hgA hneB; replace T := ((T.alloc T.size _).drew).grown hgA (by have := T.size; simp; omega) (fun k hk => (lA k hk).1); replace CA := ((CA.alloc _).drew).far hgA fAA; replace CB := ((CB.alloc _).drew).far hgA fBA; clear hA; have hA := hAn; have hneAB : some gA ≠ vB.ownBlock := (by
            rcases hatA with h | h
            · rcases hne with e | e
              · rw [h] at e; cases e
              · rw [← h]; exact e
            · intro e; have := lB _ e.symm; omega))
          | (refine step_append_lies _ (by rfl) (.tmp 45) (.tmp 50) 22 (by rfl) w1.heap.size 24 i0 (.int .u64 0) 1 8 Try.underlying22 hi'.out hz0'.out hz1'.out hz2'.out rfl (by omega) vA k (revOf f n k) (by rfl) (((hA.alloc _).alloc _).drew) ⟨wr.heap.size, 0, none⟩ 1 1 [.int .u64 (f i)] (by rfl) (by rfl) (((At.new wr (f i)).alloc _).drew.news) (by simp [Value.oneCell']) (by omega) (by unfold maxLen; omega) (by omega) (by have := T.size; simp; omega) (wr.heap.size + 1 + 1) (by simp) ?_; intro gA capA wA hAn hgA hatA hltA; have sA : w1.heap.size ≤ wA.heap.size := (by have h1 := hgA.size; have h2 := T.size; simp at h1; omega); have NB := ((At.new2 wr (.cells #[.int .u64 (f i)] 24) (g i)).drew).far hgA (fun h => by have := lA _ h.symm; omega); replace hB := (((hB.alloc _).alloc _).drew).kept hgA hneB; replace T := (((T.alloc T.size _).alloc (T.alloc T.size _).size _).drew).grown hgA (by have := T.size; simp; omega) (fun k hk => (lA k hk).1); replace CA := (((CA.alloc _).alloc _).drew).far hgA fAA; replace CB := (((CB.alloc _).alloc _).drew).far hgA fBA; clear hA; have hA := hAn; have hneAB : some gA ≠ vB.ownBlock := (by
            rcases hatA with h | h
            · rcases hne with e | e
              · rw [h] at e; cases e
              · rw [← h]; exact e
            · intro e; have := lB _ e.symm; omega))
          | (refine step_append_lies _ (by rfl) (.tmp 45) (.tmp 50) 22 (by rfl) w1.heap.size 24 i0 (.int .u64 0) 1 8 Try.underlying22 hi'.out hz0'.out hz1'.out hz2'.out rfl (by omega) vA k (revOf f n k) (by rfl) (((hA.alloc _).alloc _).drew) ⟨wr.heap.size + 1, 0, none⟩ 1 1 [.int .u64 (f i)] (by rfl) (by rfl) ((At.new2 wr (.cells #[.int .u64 (g i)] 24) (f i)).drew.news) (by simp [Value.oneCell']) (by omega) (by unfold maxLen; omega) (by omega) (by have := T.size; simp; omega) (wr.heap.size + 1 + 1) (by simp) ?_; intro gA capA wA hAn hgA hatA hltA; have sA : w1.heap.size ≤ wA.heap.size := (by have h1 := hgA.size; have h2 := T.size; simp at h1; omega); have NB := (((At.new wr (g i)).alloc (.cells #[.int .u64 (f i)] 24)).drew).far hgA (fun h => by have := lA _ h.symm; omega); replace hB := (((hB.alloc _).alloc _).drew).kept hgA hneB; replace T := (((T.alloc T.size _).alloc (T.alloc T.size _).size _).drew).grown hgA (by have := T.size; simp; omega) (fun k hk => (lA k hk).1); replace CA := (((CA.alloc _).alloc _).drew).far hgA fAA; replace CB := (((CB.alloc _).alloc _).drew).far hgA fBA; clear hA; have hA := hAn; have hneAB : some gA ≠ vB.ownBlock := (by
            rcases hatA with h | h
            · rcases hne with e | e
              · rw [h] at e; cases e
              · rw [← h]; exact e
            · intro e; have := lB _ e.symm; omega))
          | (refine step_append_lies _ (by rfl) (.tmp 52) (.tmp 57) 22 (by rfl) w1.heap.size 24 i0 (.int .u64 0) 1 8 Try.underlying22 hi'.out hz0'.out hz1'.out hz2'.out rfl (by omega) vB k (revOf g n k) (by rfl) (hB.alloc _) ⟨wA.heap.size, 0, none⟩ 1 1 [.int .u64 (g i)] (by rfl) (by rfl) ((At.new wA (g i)).news) (by simp [Value.oneCell']) (by omega) (by unfold maxLen; omega) (by omega) (by simp; omega) (wA.heap.size + 1) (by simp) ?_; intro gB capB wB hBn hgB hatB hltB; replace hA := (hA.alloc _).kept hgB (.inr hneAB); replace T := (T.alloc T.size _).grown hgB (by have := T.size; first | omega | (simp; omega)) (fun k hk => (lB k hk).1); replace CA := (CA.alloc _).far hgB fAB; replace CB := (CB.alloc _).far hgB fBB; clear hB; have hB := hBn; have hAB : gA ≠ gB := (by intro e; subst e; rcases hatB with h | h; exact hneAB h.symm; omega))
          | (refine step_append_lies _ (by rfl) (.tmp 52) (.tmp 57) 22 (by rfl) w1.heap.size 24 i0 (.int .u64 0) 1 8 Try.underlying22 hi'.out hz0'.out hz1'.out hz2'.out rfl (by omega) vB k (revOf g n k) (by rfl) (hB) ⟨wr.heap.size + 1, 0, none⟩ 1 1 [.int .u64 (g i)] (by rfl) (by rfl) (NB.news) (by simp [Value.oneCell']) (by omega) (by unfold maxLen; omega) (by omega) sA (wA.heap.size) (by simp) ?_; intro gB capB wB hBn hgB hatB hltB; replace hA := (hA).kept hgB (.inr hneAB); replace T := (T).grown hgB (by have := T.size; first | omega | (simp; omega)) (fun k hk => (lB k hk).1); replace CA := (CA).far hgB fAB; replace CB := (CB).far hgB fBB; clear hB; have hB := hBn; have hAB : gA ≠ gB := (by intro e; subst e; rcases hatB with h | h; exact hneAB h.symm; omega))
          | (refine step_append_lies _ (by rfl) (.tmp 52) (.tmp 57) 22 (by rfl) w1.heap.size 24 i0 (.int .u64 0) 1 8 Try.underlying22 hi'.out hz0'.out hz1'.out hz2'.out rfl (by omega) vB k (revOf g n k) (by rfl) (hB) ⟨wr.heap.size, 0, none⟩ 1 1 [.int .u64 (g i)] (by rfl) (by rfl) (NB.news) (by simp [Value.oneCell']) (by omega) (by unfold maxLen; omega) (by omega) sA (wA.heap.size) (by simp) ?_; intro gB capB wB hBn hgB hatB hltB; replace hA := (hA).kept hgB (.inr hneAB); replace T := (T).grown hgB (by have := T.size; first | omega | (simp; omega)) (fun k hk => (lB k hk).1); replace CA := (CA).far hgB fAB; replace CB := (CB).far hgB fBB; clear hB; have hB := hBn; have hAB : gA ≠ gB := (by intro e; subst e; rcases hatB with h | h; exact hneAB h.symm; omega)))
      all_goals
        go_wp2
        rw [← hin2.out] at hA hB
        rw [revOf_next] at hA hB
        go_roundw
        case rel => exact ⟨k + 1, by omega, by have := hi2.out; congr 1; omega, hA, hB, .inr (by simpa [Value.ownBlock] using hAB), T⟩
        case measure => simp [intOf]
    · obtain rfl : k = n := by omega
      have hTT := up hb1 T hb1.size
      have RR : ∀ (v : Value) (q : Nat → Int), wr.ownsRow w1.heap.size 24 1 v k (revOf q k k) → ∃ gg cap, v = .slice (some ⟨gg, 0, none⟩) k cap ∧ Row wr (some ⟨gg, 0, none⟩) k (fun j => q (k - 1 - j)) := by
        intro v q hq
        have hq' := hq
        obtain ⟨hlen, ho⟩ := hq
        rcases ho with ⟨_, hv⟩ | ⟨gg, cap, cur, rfl, hgb, hblk, hcap, hmax, hsz, htk⟩
        · omega
        · refine ⟨gg, cap, rfl, .inr ⟨gg, 0, rfl, (Array.getElem?_eq_some_iff.1 hblk).1, fun j hj => ?_⟩⟩
          have := hq'.cells (g := gg) rfl j _ (newsOf_at (fun j => q (k - 1 - j)) k j hj)
          have hadd : (⟨gg, 0, none⟩ : Addr).add j = ⟨gg, 0 + j, none⟩ := by unfold Addr.add; split <;> simp_all
          rwa [hadd] at this
      obtain ⟨gA, capA, rfl, RA⟩ := RR _ _ hA
      obtain ⟨gB, capB, rfl, RB⟩ := RR _ _ hB
      have hout : Hid ((k : Int) - 1 - k = -1) := Lib.hid (by omega)
      rw [hout.out]
      clear RR hA hB hne
      have RL : Row wr (some ⟨ba, oa, none⟩) la f := .inr ⟨ba, oa, rfl, Nat.lt_of_lt_of_le hba hTT.size, fun j hj => (hTT.cell (p := ⟨ba, oa + j, none⟩) hba).trans (hcf.out j hj)⟩
      have RM : Row wr (some ⟨bb, ob, none⟩) lb g := .inr ⟨bb, ob, rfl, Nat.lt_of_lt_of_le hbb hTT.size, fun j hj => (hTT.cell (p := ⟨bb, ob + j, none⟩) hbb).trans (hcg.out j hj)⟩
      have E := up (Below.refl wr.heap.size wr) (Below.refl _ _) (Nat.le_refl _)
      go_upto_region 14 with (first
        | (go_at_call 12; (with_reducible refine (D1 _ RL RM).mono ?_); rintro e w2 ⟨rfl, hb2⟩; have RL2 := (RL.below hb2).alloc (.cells #[.int .u64 x1, .int .u64 x2] 26); have RM2 := (RM.below hb2).alloc (.cells #[.int .u64 x1, .int .u64 x2] 26); have RA2 := (RA.below hb2).alloc (.cells #[.int .u64 x1, .int .u64 x2] 26); have RB2 := (RB.below hb2).alloc (.cells #[.int .u64 x1, .int .u64 x2] 26); have HP2 := Has.new w2 x1 x2)
        | (go_at_call 12; (with_reducible refine (D2 _ _ _ _ _ RA2 RB2).mono ?_); rintro e w3 ⟨rfl, hb3⟩; have RL3 := (RL2.below hb3).alloc (.cells #[.int .u64 x1, .int .u64 x2] 26); have RM3 := (RM2.below hb3).alloc (.cells #[.int .u64 x1, .int .u64 x2] 26); have HP3 := (HP2.below hb3).alloc (.cells #[.int .u64 x1, .int .u64 x2] 26); have HQ3 := Has.new w3 x1 x2))
      have U1 := up hTT hb2 hTT.size
      have U2 := U1.alloc U1.size (.cells #[.int .u64 x1, .int .u64 x2] 26)
      have U3 := up U2 hb3 U2.size
      have U4 := U3.alloc U3.size (.cells #[.int .u64 x1, .int .u64 x2] 26)
      go_cut [16, 17] from 18 (fun s16 s17 wx => ∃ M : Nat, s16 = .pointer (some ⟨M, 0, none⟩) ∧ s17 = .int .i64 ge ∧ Has wx M y1 y2 ∧ Below (w3.alloc (.cells #[.int .u64 x1, .int .u64 x2] 26)).heap.size (w3.alloc (.cells #[.int .u64 x1, .int .u64 x2] 26)) wx)
      case first =>
        have r1 : (q : Int) ≤ (ca : Int) := by omega
        have r2 : (q : Int) ≤ (cb : Int) := by omega
        have RLq := RL3.take (show q ≤ la by omega)
        have RMq := RM3.take (show q ≤ lb by omega)
        have RLd := RLq.drew
        have RMd := RMq.drew
        have RLz := (RLq.alloc (.cells #[.int .u64 0, .int .u64 0] 26)).drew
        have RMz := (RMq.alloc (.cells #[.int .u64 0, .int .u64 0] 26)).drew
        go_region_held3 (fun _ => True) (trivial)
          (first
            | (go_at_call 12; (with_reducible refine (D3 _ _ _ RLd RMd).mono ?_); rintro e w5 ⟨rfl, hb⟩; have E5 := undrew hb; clear hb)
            | (go_at_call 12; (with_reducible refine (D3 _ _ _ RLz RMz).mono ?_); rintro e w5 ⟨rfl, hb⟩; have F5 := undrew hb; have HN5 := (Own.new2 w3 (.cells #[.int .u64 x1, .int .u64 x2] 26) 0 0).below F5; obtain ⟨⟨xN, yN, zN⟩, fN, gN⟩ := id HN5; clear hb))
        all_goals
          go_wp2_with fail
          go_meet
          first
            | exact ⟨_, rfl, rfl, Has.new _ _ _, E5.alloc E5.size _⟩
            | exact ⟨_, rfl, rfl, (HN5.store y1 y2).1, (((up1 _ _).trans (F5.mono (by simp))).setCell (by simp) _).setCell (by simp) _⟩
      case rest =>
        obtain ⟨M, rfl, rfl, HY, E1⟩ := hcut
        have RLc := RL3.below E1
        have RMc := RM3.below E1
        have HPc := HP3.below E1
        have HQc := HQ3.below E1
        have U5 := up U4 E1 U4.size
        clear RL3 RM3 HP3 HQ3 U1 U2 U3 U4 E1 RL2 RM2 RA2 RB2 HP2 RL RM RA RB hb2 hb3 hTT
        have r1 : (q : Int) ≤ (ca : Int) := by omega
        have r2 : (q : Int) ≤ (cb : Int) := by omega
        have r3 : (q : Int) ≤ (k : Int) := by omega
        have r4 : (k : Int) ≤ (ca : Int) := by omega
        have r5 : (k : Int) ≤ (cb : Int) := by omega
        go_upto_region 15 with fail
        go_cut [18, 19] from 20 (fun s18 s19 wx => ∃ M2 : Nat, s18 = .pointer (some ⟨M2, 0, none⟩) ∧ s19 = .int .i64 he ∧ Has wx M2 z1 z2 ∧ Below wc.heap.size wc wx)
        case first =>
          have RLs := RLc.from hq hn1 hca
          have RMs := RMc.from hq hn2 hcb
          obtain ⟨adA, hadA⟩ : ∃ x, (if ca = q then some (⟨ba, oa, none⟩ : Addr) else some ⟨ba, oa + q, none⟩) = x := ⟨_, rfl⟩
          obtain ⟨adB, hadB⟩ : ∃ x, (if cb = q then some (⟨bb, ob, none⟩ : Addr) else some ⟨bb, ob + q, none⟩) = x := ⟨_, rfl⟩
          rw [hadA] at RLs
          rw [hadB] at RMs
          have RLd := RLs.drew
          have RMd := RMs.drew
          have RLz := (RLs.alloc (.cells #[.int .u64 0, .int .u64 0] 26)).drew
          have RMz := (RMs.alloc (.cells #[.int .u64 0, .int .u64 0] 26)).drew
          go_region_held3 (fun _ => True) (trivial)
            (first
              | (go_at_call 12; (with_reducible refine (D4 _ _ _ _ _ RLd RMd).mono ?_); rintro e w5 ⟨rfl, hb⟩; have E5 := undrew hb; clear hb)
              | (go_at_call 12; (with_reducible refine (D4 _ _ _ _ _ RLz RMz).mono ?_); rintro e w5 ⟨rfl, hb⟩; have F5 := undrew hb; have HN5 := (Own.new wc 0 0).below F5; obtain ⟨⟨xN, yN, zN⟩, fN, gN⟩ := id HN5; clear hb))
          all_goals
            go_wp2_with fail
            go_meet
            first
              | exact ⟨_, rfl, rfl, Has.new _ _ _, E5.alloc E5.size _⟩
              | exact ⟨_, rfl, rfl, (HN5.store z1 z2).1, (((up1 _ _).trans (F5.mono (by simp))).setCell (Nat.le_refl _) _).setCell (Nat.le_refl _) _⟩
        case rest =>
          obtain ⟨M2, rfl, rfl, HZ, E2⟩ := hcut
          have RLe := RLc.below E2
          have RMe := RMc.below E2
          have HPe := HPc.below E2
          have HQe := HQc.below E2
          have HYe := HY.below E2
          have U6 := up U5 E2 U5.size
          clear RLc RMc HPc HQc HY U5 E2
          obtain ⟨xP, yP, zP⟩ := id HPe
          obtain ⟨xQ, yQ, zQ⟩ := id HQe
          obtain ⟨xY, yY, zY⟩ := id HYe
          obtain ⟨xZ, yZ, zZ⟩ := id HZ
          rcases hcase.out with ⟨rfl, rfl, rfl, rfl, rfl, rfl⟩ | ⟨rfl, rfl, rfl, rfl⟩ | ⟨rfl, rfl, rfl, rfl, rfl⟩ | ⟨rfl, rfl, rfl, rfl, rfl, rfl⟩
          · go_wp2_with (first
              | (go_at_call 13; (with_reducible refine (P _).mono ?_); rintro e w6 ⟨rfl, hb⟩; have HPf := (HPe.below hb).alloc (.cells #[.int .u64 x1, .int .u64 x2] 26); have HQf := (HQe.below hb).alloc (.cells #[.int .u64 x1, .int .u64 x2] 26); have RLf := (RLe.below hb).alloc (.cells #[.int .u64 x1, .int .u64 x2] 26); have RMf := (RMe.below hb).alloc (.cells #[.int .u64 x1, .int .u64 x2] 26); have U7 := up U6 hb U6.size; have U8 := U7.alloc U7.size (.cells #[.int .u64 x1, .int .u64 x2] 26); have HBf := Has.new w6 x1 x2; obtain ⟨aP, bP, cP⟩ := id HPf; obtain ⟨aQ, bQ, cQ⟩ := id HQf; obtain ⟨aB, bB, cB⟩ := id HBf; clear hb)
              | (go_at_call 12; (with_reducible refine (D5 _ RMf RLf).mono ?_); rintro e w7 ⟨rfl, hb⟩; have HPg := (HPf.below hb).alloc (.cells #[.int .u64 x1, .int .u64 x2] 26); have HRg := Has.new w7 x1 x2; have U9 := up U8 hb U8.size; have U10 := U9.alloc U9.size (.cells #[.int .u64 x1, .int .u64 x2] 26); obtain ⟨dP, eP, fP⟩ := id HPg; obtain ⟨dR, eR, fR⟩ := id HRg; clear hb))
            go_ret
            exact ⟨rfl, U10⟩
          all_goals
            go_wp2_with (first
              | (go_at_call 13; (with_reducible refine (P _).mono ?_); rintro e w6 ⟨rfl, hb⟩; have HPf := (HPe.below hb).alloc (.cells #[.int .u64 b1, .int .u64 b2] 26); have HQf := (HQe.below hb).alloc (.cells #[.int .u64 b1, .int .u64 b2] 26); have U7 := up U6 hb U6.size; have U8 := U7.alloc U7.size (.cells #[.int .u64 b1, .int .u64 b2] 26); have HBf := Has.new w6 b1 b2; obtain ⟨aP, bP, cP⟩ := id HPf; obtain ⟨aQ, bQ, cQ⟩ := id HQf; obtain ⟨aB, bB, cB⟩ := id HBf; clear hb))
            go_ret
            exact ⟨rfl, U8⟩
end Go.Proofs.Ytiieehnfbemleaa
