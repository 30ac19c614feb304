/- QueueCopies: its walk. No condition. -/
import Derived.Test.YtlfpaebfpmjclaaQM
namespace Go.Proofs.Ytlfpaebfpmjclaa
open Go.RowKit
set_option linter.unusedVariables false
/-- Two queues and a row, each of a colour of its own. -/
def Tw (w0 W : World) (B C : Nat) (P R : Int) (L M : List Pk) (u : Value) (X : List Pk) : Prop := ∃ χ, Fr w0 χ W ∧ Qu W χ 1 B P R L ∧ Qu W χ 2 C P R M ∧ Ro W χ 3 u X
section
variable {w0 w w' : World} {B C : Nat} {P R : Int} {L M X : List Pk} {u : Value}
theorem Tw.one (h : Tw w0 w B C P R L M u X) : On w0 w B P R L := by obtain ⟨χ, h1, h2, h3, h4⟩ := h; exact ⟨χ, h1, h2⟩
theorem Tw.world (h : Tw w0 w B C P R L M u X) : Below w0.heap.size w0 w := h.one.world
theorem Tw.below (h : Tw w0 w B C P R L M u X) (k : Below w.heap.size w w') : Tw w0 w' B C P R L M u X := by obtain ⟨χ, h1, h2, h3, h4⟩ := h; exact ⟨χ, h1.below k, h2.below k, h3.below k, h4.below k⟩
theorem Tw.row (h : Tw w0 w B C P R L M u X) : w.ownsRow 0 31 4 u X.length (rowV X) := by obtain ⟨χ, h1, h2, h3, h4⟩ := h; exact h4.1
theorem Tw.fit (h : Tw w0 w B C P R L M u X) : L.length ≤ 4096 ∧ M.length ≤ 4096 := by
  obtain ⟨χ, h1, h2, h3, h4⟩ := h
  have a := h2.fit
  have b := h3.fit
  have := a.1.many
  have := b.1.many
  have := a.2.1
  omega
theorem tw_copy (h : On w0 w B P R L) : Calls Try.prog 11 #[.pointer (some ⟨B, 0, none⟩)] w fun e w' => ∃ C, e = .returned (.pointer (some ⟨C, 0, none⟩)) ∧ Tw w0 w' B C P R L L (.slice none 0 0) [] := by
  obtain ⟨χ, h1, h2⟩ := h
  exact (qu_copy h2 2).mono fun e w' ⟨C, x, y, z⟩ => ⟨C, x, _, h1.next (Col.new (c := 1) z 2) (by decide), h2.new z 2, y, Ro.nil _ _ _⟩
theorem tw_all (h : Tw w0 w B C P R L M u X) : Calls Try.prog 21 #[.pointer (some ⟨B, 0, none⟩)] w fun e w' => ∃ v, e = .returned v ∧ Tw w0 w' B C P R L M v L ∧ w'.ownsRow 0 31 4 v L.length (rowV L) ∧ Below w.heap.size w w' := by
  obtain ⟨χ, h1, h2, h3, h4⟩ := h
  exact (qu_all h2).mono fun e w' ⟨v, x, y, z⟩ => ⟨v, x, ⟨_, h1.next (Col.new (c := 1) z 3) (by decide), h2.new z 3, h3.new z 3, Ro.made y 3⟩, own_mono y (Nat.zero_le _), z⟩
theorem tw_all2 (h : Tw w0 w B C P R L M u X) : Calls Try.prog 21 #[.pointer (some ⟨C, 0, none⟩)] w fun e w' => ∃ v, e = .returned v ∧ w'.ownsRow 0 31 4 v M.length (rowV M) ∧ Below w.heap.size w w' := by
  obtain ⟨χ, h1, h2, h3, h4⟩ := h
  exact (qu_all h3).mono fun e w' ⟨v, x, y, z⟩ => ⟨v, x, own_mono y (Nat.zero_le _), z⟩
theorem tw_push1 (h : Tw w0 w B C P R L M u X) (q : Pk) (hok : q.ok) : Calls Try.prog 14 #[.pointer (some ⟨B, 0, none⟩), pkV q] w fun e w' => (∃ z : Int, e = .returned (eI z)) ∧ Tw w0 w' B C P R (pushL P R L q) M u X := by
  obtain ⟨χ, h1, h2, h3, h4⟩ := h
  exact (qu_push h2 q hok).mono fun e w' ⟨x, χ', y, z⟩ => ⟨⟨_, x⟩, χ', h1.next z (by decide), y, h3.other z (by decide), h4.other z (by decide)⟩
theorem tw_push2 (h : Tw w0 w B C P R L M u X) (q : Pk) (hok : q.ok) : Calls Try.prog 14 #[.pointer (some ⟨C, 0, none⟩), pkV q] w fun e w' => (∃ z : Int, e = .returned (eI z)) ∧ Tw w0 w' B C P R L (pushL P R M q) u X := by
  obtain ⟨χ, h1, h2, h3, h4⟩ := h
  exact (qu_push h3 q hok).mono fun e w' ⟨x, χ', y, z⟩ => ⟨⟨_, x⟩, χ', h1.next z (by decide), h2.other z (by decide), y, h4.other z (by decide)⟩
theorem tw_pop1 (h : Tw w0 w B C P R L M u X) : Calls Try.prog 13 #[.pointer (some ⟨B, 0, none⟩)] w fun e w' => e = .returned (.tuple #[pkV (headP L), .bool (headB L)]) ∧ Tw w0 w' B C P R L.tail M u X := by
  obtain ⟨χ, h1, h2, h3, h4⟩ := h
  exact (qu_pop h2).mono fun e w' ⟨x, χ', y, z⟩ => ⟨x, χ', h1.next z (by decide), y, h3.other z (by decide), h4.other z (by decide)⟩
theorem tw_pop2 (h : Tw w0 w B C P R L M u X) : Calls Try.prog 13 #[.pointer (some ⟨C, 0, none⟩)] w fun e w' => e = .returned (.tuple #[pkV (headP M), .bool (headB M)]) ∧ Tw w0 w' B C P R L M.tail u X := by
  obtain ⟨χ, h1, h2, h3, h4⟩ := h
  exact (qu_pop h3).mono fun e w' ⟨x, χ', y, z⟩ => ⟨x, χ', h1.next z (by decide), h2.other z (by decide), y, h4.other z (by decide)⟩
theorem tw_bytes1 (h : Tw w0 w B C P R L M u X) : Calls Try.prog 20 #[.pointer (some ⟨B, 0, none⟩)] w fun e w' => e = .returned (eI (bsum L)) ∧ w = w' := on_bytes h.one
theorem tw_bytes2 (h : Tw w0 w B C P R L M u X) : Calls Try.prog 20 #[.pointer (some ⟨C, 0, none⟩)] w fun e w' => e = .returned (eI (bsum M)) ∧ w = w' := by
  obtain ⟨χ, h1, h2, h3, h4⟩ := h
  exact qu_bytes h3
end
theorem runG_pop {P R : Int} {xs : Nat → Aq} {k : Nat} (L : List Pk) (h : (xs k).pop = true) : runL P R xs L (k + 1) = (runL P R xs L k).tail := by
  show actL P R (runL P R xs L k) (xs k) = _
  unfold actL; rw [if_pos h]
theorem runG_push {P R : Int} {xs : Nat → Aq} {k : Nat} (L : List Pk) (h : (xs k).pop = false) : runL P R xs L (k + 1) = pushL P R (runL P R xs L k) (xs k).p := by
  show actL P R (runL P R xs L k) (xs k) = _
  unfold actL; rw [if_neg (by rw [h]; decide)]
set_option maxHeartbeats 8000000 in
set_option maxRecDepth 100000 in
theorem QueueCopies_some (P R : Int) (a : Option Addr) (n c : Nat) (xs : Nat → Aq) (a' : Option Addr) (n' c' : Nat) (ys : Nat → Aq) (w0 : World) (hP : roomy P R) (hn : n ≤ 100) (hn' : n' ≤ 100) (hI : IsActs w0 a n c xs) (hok : ∀ i, (xs i).ok) (hI' : IsActs w0 a' n' c' ys) (hok' : ∀ i, (ys i).ok) :
    Calls Try.prog 8 #[eI P, eI R, .slice a n c, .slice a' n' c'] w0 fun e w' => e = .returned (.bool true) ∧ Below w0.heap.size w0 w' := by
  have hA := awake_any w0
  have hN : ∀ w, Below w0.heap.size w0 w → Calls Try.prog 9 #[eI P, eI R] w fun e w' => ∃ C, e = .returned (.pointer (some ⟨C, 0, none⟩)) ∧ On w0 w' C P R [] := fun w hw => on_new hw hP
  have j0 : ¬ (100 : Int) < (n : Int) := by omega
  have j1 : (n : Int) ≤ (c : Int) := by have := hI.1; omega
  have j2 : ¬ (100 : Int) < (n' : Int) := by omega
  have j3 : (n' : Int) ≤ (c' : Int) := by have := hI'.1; omega
  have hIh := Lib.hid hI
  have hoh := Lib.hid hok
  have hIh' := Lib.hid hI'
  have hoh' := Lib.hid hok'
  have hPh := Lib.hid hP
  clear hI hok hI' hok' hP
  go_enter Try.func8, Try.ntmps8
  go_wp2_with (first
    | (go_at_call 22; (with_reducible refine hA.mono ?_); rintro e w1 ⟨rfl, T⟩; have hN1 := hN _ T)
    | (go_at_call 9; (with_reducible refine hN1.mono ?_); rintro e w2 ⟨B, rfl, H⟩))
  clear hN1 hN hA T
  go_loopw [11] (fun s11 wr => ∃ k : Nat, s11 = .int .i64 k ∧ k ≤ n ∧ On w0 wr B P R (runL P R xs [] k)) (fun s11 _ => n - (intOf s11).toNat)
  case atStart => exact ⟨0, rfl, by omega, H⟩
  case round =>
    clear H
    obtain ⟨k, rfl, hk, H⟩ := hrel
    by_cases hlt : k < n
    · have i1 : (k : Int) < (n : Int) := by omega
      have i2 : (0 : Int) ≤ (k : Int) := by omega
      have hw1 : IntKind.i64.wrap ((k : Int) + 1) = (k : Int) + 1 := i64_id (by omega)
      obtain ⟨b, o, rfl, hbw, hx⟩ := act_at hIh.out k hlt
      obtain ⟨L, hL⟩ : ∃ L, runL P R xs [] k = L := ⟨_, rfl⟩
      rw [hL] at H
      cases hpop : (xs k).pop with
      | true =>
        have hs : runL P R xs [] (k + 1) = L.tail := by rw [runL_pop hpop, hL]
        simp only [hpop] at hx
        obtain ⟨x0, x1, x2, x3, x4⟩ := hx _ H.world
        replace hs := Lib.hid hs
        clear hL hx hpop
        go_wp2_with (go_at_call 13; (with_reducible refine (on_pop H).mono ?_); rintro e w3 ⟨rfl, H3⟩)
        exact ⟨⟨k + 1, rfl, by omega, by rw [hs.out]; exact H3⟩, by simp [intOf]; omega⟩
      | false =>
        have hs : runL P R xs [] (k + 1) = pushL P R L (xs k).p := by rw [runL_push hpop, hL]
        have hpk : (xs k).p.ok := hoh.out k
        simp only [hpop] at hx
        generalize (xs k).p = q at *
        obtain ⟨x0, x1, x2, x3, x4⟩ := hx _ H.world
        have hPu := on_push H q hpk
        generalize pushE P R L q = E at *
        replace hs := Lib.hid hs
        clear hL hx hpop hpk
        go_wp2_with (go_at_call 14; (with_reducible refine hPu.mono ?_); rintro e w3 ⟨rfl, H3⟩)
        exact ⟨⟨k + 1, rfl, by omega, by rw [hs.out]; exact H3⟩, by simp [intOf]; omega⟩
    · obtain rfl : k = n := by omega
      have i1 : ¬ (k : Int) < (k : Int) := by omega
      generalize runL P R xs [] k = L at *
      go_wp2_with (first
        | (go_at_call 11; (with_reducible refine (tw_copy H).mono ?_); rintro e w3 ⟨C, rfl, H3⟩)
        | (go_at_call 21; (with_reducible refine (tw_all H3).mono ?_); rintro e w4 ⟨v, rfl, H4, _, _⟩))
      clear H H3
      go_loopw [13] (fun s13 wr => ∃ k : Nat, s13 = .int .i64 k ∧ k ≤ n' ∧ Tw w0 wr B C P R L (runL P R ys L k) v L) (fun s13 _ => n' - (intOf s13).toNat)
      case atStart => exact ⟨0, rfl, by omega, H4⟩
      case round =>
        clear H4
        obtain ⟨i, rfl, hi, H⟩ := hrel
        by_cases hlt' : i < n'
        · have i3 : (i : Int) < (n' : Int) := by omega
          have i2 : (0 : Int) ≤ (i : Int) := by omega
          have hw1 : IntKind.i64.wrap ((i : Int) + 1) = (i : Int) + 1 := i64_id (by omega)
          obtain ⟨b, o, rfl, hbw, hx⟩ := act_at hIh'.out i hlt'
          obtain ⟨M, hM⟩ : ∃ M, runL P R ys L i = M := ⟨_, rfl⟩
          rw [hM] at H
          cases hpop : (ys i).pop with
          | true =>
            have hs : runL P R ys L (i + 1) = M.tail := by rw [runG_pop L hpop, hM]
            simp only [hpop] at hx
            obtain ⟨x0, x1, x2, x3, x4⟩ := hx _ H.world
            replace hs := Lib.hid hs
            clear hM hx hpop
            go_wp2_with (go_at_call 13; (with_reducible refine (tw_pop2 H).mono ?_); rintro e w3 ⟨rfl, H3⟩)
            exact ⟨⟨i + 1, rfl, by omega, by rw [hs.out]; exact H3⟩, by simp [intOf]; omega⟩
          | false =>
            have hs : runL P R ys L (i + 1) = pushL P R M (ys i).p := by rw [runG_push L hpop, hM]
            have hpk : (ys i).p.ok := hoh'.out i
            simp only [hpop] at hx
            generalize (ys i).p = q at *
            obtain ⟨x0, x1, x2, x3, x4⟩ := hx _ H.world
            have hPu := tw_push2 H q hpk
            replace hs := Lib.hid hs
            clear hM hx hpop hpk
            go_wp2_with (go_at_call 14; (with_reducible refine hPu.mono ?_); rintro e w3 ⟨⟨E, rfl⟩, H3⟩)
            exact ⟨⟨i + 1, rfl, by omega, by rw [hs.out]; exact H3⟩, by simp [intOf]; omega⟩
        · obtain rfl : i = n' := by omega
          have i3 : ¬ (i : Int) < (i : Int) := by omega
          obtain ⟨M, hM⟩ : ∃ M, runL P R ys L i = M := ⟨_, rfl⟩
          replace hM := Lib.hid hM
          rw [hM.out] at H
          have hfit := H.fit
          have hrow := H.row
          go_wp2_with (first
            | (go_at_call 21; (with_reducible refine (tw_all H).mono ?_); rintro e w5 ⟨v2, rfl, H5, hO5, hb5⟩; have hSa := Same_true v2 v L _ (by omega) hO5 (own_below hrow hb5))
            | (go_at_call 23; (with_reducible refine hSa.mono ?_); rintro e w6 ⟨rfl, hb6⟩; replace H5 := H5.below hb6))
          clear H hSa hO5 hb5 hb6 hrow hfit
          go_loopw [14] (fun s14 wr => ∃ k : Nat, s14 = .int .i64 k ∧ k ≤ i ∧ Tw w0 wr B C P R (runL P R ys L k) M v2 L) (fun s14 _ => i - (intOf s14).toNat)
          case atStart => exact ⟨0, rfl, by omega, H5⟩
          case round =>
            clear H5
            obtain ⟨j, rfl, hj, H⟩ := hrel
            by_cases hltj : j < i
            · have i4 : (j : Int) < (i : Int) := by omega
              have i2 : (0 : Int) ≤ (j : Int) := by omega
              have hw1 : IntKind.i64.wrap ((j : Int) + 1) = (j : Int) + 1 := i64_id (by omega)
              obtain ⟨b, o, rfl, hbw, hx⟩ := act_at hIh'.out j hltj
              obtain ⟨K, hK⟩ : ∃ K, runL P R ys L j = K := ⟨_, rfl⟩
              rw [hK] at H
              cases hpop : (ys j).pop with
              | true =>
                have hs : runL P R ys L (j + 1) = K.tail := by rw [runG_pop L hpop, hK]
                simp only [hpop] at hx
                obtain ⟨x0, x1, x2, x3, x4⟩ := hx _ H.world
                replace hs := Lib.hid hs
                clear hK hx hpop
                go_wp2_with (go_at_call 13; (with_reducible refine (tw_pop1 H).mono ?_); rintro e w3 ⟨rfl, H3⟩)
                exact ⟨⟨j + 1, rfl, by omega, by rw [hs.out]; exact H3⟩, by simp [intOf]; omega⟩
              | false =>
                have hs : runL P R ys L (j + 1) = pushL P R K (ys j).p := by rw [runG_push L hpop, hK]
                have hpk : (ys j).p.ok := hoh'.out j
                simp only [hpop] at hx
                generalize (ys j).p = q at *
                obtain ⟨x0, x1, x2, x3, x4⟩ := hx _ H.world
                have hPu := tw_push1 H q hpk
                replace hs := Lib.hid hs
                clear hK hx hpop hpk
                go_wp2_with (go_at_call 14; (with_reducible refine hPu.mono ?_); rintro e w3 ⟨⟨E, rfl⟩, H3⟩)
                exact ⟨⟨j + 1, rfl, by omega, by rw [hs.out]; exact H3⟩, by simp [intOf]; omega⟩
            · obtain rfl : j = i := by omega
              have i4 : ¬ (j : Int) < (j : Int) := by omega
              rw [hM.out] at H
              have hfit := H.fit
              go_wp2_with (first
                | (go_at_call 21; (with_reducible refine (tw_all H).mono ?_); rintro e w5 ⟨v3, rfl, H5, hO5, hb5⟩)
                | (go_at_call 21; (with_reducible refine (tw_all2 H5).mono ?_); rintro e w6 ⟨v4, rfl, hO6, hb6⟩; have H6 := H5.below hb6; have hSa := Same_true v3 v4 M _ (by omega) (own_below hO5 hb6) hO6)
                | (go_at_call 23; (with_reducible refine hSa.mono ?_); rintro e w7 ⟨rfl, hb7⟩; have H7 := H6.below hb7)
                | (go_at_call 20; (with_reducible refine (tw_bytes1 H7).mono ?_); rintro e w8 ⟨rfl, rfl⟩)
                | (go_at_call 20; (with_reducible refine (tw_bytes2 H7).mono ?_); rintro e w8 ⟨rfl, rfl⟩))
              go_ret
              exact ⟨rfl, H7.world⟩
theorem QueueCopies_walk (P R : Int) (a : Option Addr) (n c : Nat) (xs : Nat → Aq) (a' : Option Addr) (n' c' : Nat) (ys : Nat → Aq) (w0 : World) (hI : IsActs w0 a n c xs) (hok : ∀ i, (xs i).ok) (hcm : c ≤ maxLen) (hnn : a = none → n = 0 ∧ c = 0) (hI' : IsActs w0 a' n' c' ys) (hok' : ∀ i, (ys i).ok) (hcm' : c' ≤ maxLen) (hnn' : a' = none → n' = 0 ∧ c' = 0) :
    Calls Try.prog 8 #[eI P, eI R, .slice a n c, .slice a' n' c'] w0 fun e w' => e = .returned (.bool true) ∧ Below w0.heap.size w0 w' := by
  have hA := awake_any w0
  by_cases hP : roomy P R
  · have hN : ∀ w, Below w0.heap.size w0 w → Calls Try.prog 9 #[eI P, eI R] w fun e w' => ∃ C, e = .returned (.pointer (some ⟨C, 0, none⟩)) ∧ On w0 w' C P R [] := fun w hw => on_new hw hP
    by_cases hn : n ≤ 100
    · by_cases hn' : n' ≤ 100
      · exact QueueCopies_some P R a n c xs a' n' c' ys w0 hP hn hn' hI hok hI' hok'
      · have j0 : ¬ (100 : Int) < (n : Int) := by omega
        have j2 : (100 : Int) < (n' : Int) := by omega
        clear hI hok hcm hnn hI' hok' hcm' hnn'
        go_enter Try.func8, Try.ntmps8
        go_wp2_with (first
          | (go_at_call 22; (with_reducible refine hA.mono ?_); rintro e w1 ⟨rfl, T⟩; have hN1 := hN _ T)
          | (go_at_call 9; (with_reducible refine hN1.mono ?_); rintro e w2 ⟨B, rfl, H⟩))
        go_ret
        exact ⟨rfl, H.world⟩
    · have j0 : (100 : Int) < (n : Int) := by omega
      clear hI hok hcm hnn hI' hok' hcm' hnn'
      go_enter Try.func8, Try.ntmps8
      go_wp2_with (first
        | (go_at_call 22; (with_reducible refine hA.mono ?_); rintro e w1 ⟨rfl, T⟩; have hN1 := hN _ T)
        | (go_at_call 9; (with_reducible refine hN1.mono ?_); rintro e w2 ⟨B, rfl, H⟩))
      go_ret
      exact ⟨rfl, H.world⟩
  · have hN : ∀ w, Calls Try.prog 9 #[eI P, eI R] w fun e w' => e = .returned (.pointer none) ∧ w = w' := fun w => New_no P R w hP
    clear hI hok hcm hnn hI' hok' hcm' hnn'
    go_enter Try.func8, Try.ntmps8
    go_wp2_with (first
      | (go_at_call 22; (with_reducible refine hA.mono ?_); rintro e w1 ⟨rfl, T⟩)
      | (go_at_call 9; (with_reducible refine (hN _).mono ?_); rintro e w2 ⟨rfl, rfl⟩))
    go_ret
    exact ⟨rfl, T⟩
end Go.Proofs.Ytlfpaebfpmjclaa
