/- Nobody with a key of at most k has a lesser value than Least's; nobody ahead of Within's has one of at most v: the walk of the statement. No condition but words. -/
import Derived.Test.YtcpienpkpodfmaaAI
namespace Go.Proofs.Ytcpienpkpodfmaa
open Go.RowKit Go.Shelf
set_option linter.unusedVariables false
def gk (o : Option It) : Int := match o with | none => 0 | some a => a.1.1
def gw (o : Option It) : Int := match o with | none => 0 | some a => a.2
theorem gotV_eq (o : Option It) : gotV o = .tuple #[eU (gk o), eU (gw o), .bool o.isSome] := by cases o <;> rfl
theorem mem_upto {q : Int} {L : List It} {x : It} : x ∈ upto q L ↔ x ∈ L ∧ x.1.1 ≤ q := by unfold upto; simp
theorem least_facts (q : Int) {L : List It} (hF : Fine L) :
    (decide (upto q L ≠ []) = false ∧ ∀ x ∈ L, ¬ x.1.1 ≤ q) ∨ ∃ a, a ∈ L ∧ decide (upto q L ≠ []) = true ∧ a.1.1 ≤ q ∧ low (upto q L) = mkO a ∧ getA (low (upto q L)).2 L = some a ∧ ∀ x ∈ L, x.1.1 ≤ q → ¬ mLt (mkO x) (mkO a) := by
  by_cases h : upto q L = []
  · refine .inl ⟨by simp [h], fun x hx hq => ?_⟩
    have : x ∈ upto q L := mem_upto.2 ⟨hx, hq⟩
    rw [h] at this; cases this
  · obtain ⟨a, ha, e⟩ := low_mem h
    obtain ⟨h1, h2⟩ := mem_upto.1 ha
    refine .inr ⟨a, h1, by simp [h], h2, e.symm, (getA_some hF).2 ⟨h1, by rw [← e]⟩, fun x hx hq => ?_⟩
    rw [e]
    exact low_le (mem_upto.2 ⟨hx, hq⟩)
/-- What one step does to what was met. -/
theorem met_step (y : Int) {A C : List It} {x : It} (hF : Fine (A ++ x :: C)) (hr : Rise (A ++ x :: C)) :
    ((fnd y A).isSome = true ∧ (fnd y (A ++ x :: C)).isSome = true ∧ ¬ x.1.2 = (kO (fnd y (A ++ x :: C))).2 ∧ (fnd y (A ++ [x])).isSome = true) ∨
    ((fnd y A).isSome = false ∧ x.2 ≤ y ∧ (fnd y (A ++ x :: C)).isSome = true ∧ x.1.2 = (kO (fnd y (A ++ x :: C))).2 ∧ (fnd y (A ++ [x])).isSome = true) ∨
    ((fnd y A).isSome = false ∧ ¬ x.2 ≤ y ∧ ((fnd y (A ++ x :: C)).isSome = true → ¬ x.1.2 = (kO (fnd y (A ++ x :: C))).2) ∧ (fnd y (A ++ [x])).isSome = false) := by
  have hx : x ∈ A ++ x :: C := by simp
  cases hA : fnd y A with
  | some f =>
    have e : fnd y (A ++ x :: C) = some f := by unfold fnd at *; rw [List.find?_append, hA]; rfl
    have e2 : fnd y (A ++ [x]) = some f := by unfold fnd at *; rw [List.find?_append, hA]; rfl
    rw [e, e2]
    refine .inl ⟨rfl, rfl, fun h => ?_, rfl⟩
    have hf : f ∈ A := List.mem_of_find?_eq_some hA
    have hl := (rise_node.1 hr).2.2.1 f hf
    have : f = x := hF.2 f (by simp [hf]) x hx h.symm
    subst this
    exact kLt_irr _ hl
  | none =>
    by_cases hv : x.2 ≤ y
    · have e : fnd y (A ++ x :: C) = some x := by unfold fnd at *; rw [List.find?_append, hA, List.find?_cons]; simp [hv]
      have e2 : fnd y (A ++ [x]) = some x := by unfold fnd at *; rw [List.find?_append, hA, List.find?_cons]; simp [hv]
      rw [e, e2]
      exact .inr (.inl ⟨rfl, hv, rfl, rfl, rfl⟩)
    · refine .inr (.inr ⟨rfl, hv, fun h => ?_, ?_⟩)
      · cases hf : fnd y (A ++ x :: C) with
        | none => rw [hf] at h; cases h
        | some f =>
          intro e
          have h1 := List.mem_of_find?_eq_some hf
          have h2 : f.2 ≤ y := by have := List.find?_some hf; simpa using this
          have : x = f := hF.2 x hx f h1 e
          subst this
          exact hv h2
      · unfold fnd at *; rw [List.find?_append, hA, List.find?_cons]; simp [hv]
theorem ids_at {A C : List It} {x : It} : (idsI (A ++ x :: C)).getD A.length 0 = x.1.2 := by simp [idsI]
theorem ids_len (L : List It) : (idsI L).length = L.length := by simp [idsI]
/-- The slice of ids, as a loop reads it. -/
theorem ids_cells {W : World} {v : Value} {L : List It} (h : IntS W v (idsI L)) : ∃ (a : Option Addr) (c b o : Nat), v = .slice a L.length c ∧ L.length ≤ c ∧ (L ≠ [] → a = some ⟨b, o, none⟩) ∧
    ∀ w', Below W.heap.size W w' → ∀ (A C : List It) (x : It), L = A ++ x :: C → w'.cell? ⟨b, o + A.length, none⟩ = some (eI x.1.2) := by
  obtain ⟨a, c, e, hc, h⟩ := h
  rw [ids_len] at e hc h
  rcases h with h | ⟨b, o, e2, h1, h2⟩
  · refine ⟨a, c, 0, 0, e, hc, fun hL => ?_, fun w' T A C x hL => ?_⟩
    · exact absurd (by simpa [idsI] using h) hL
    · subst hL; simp [idsI] at h
  · refine ⟨a, c, b, o, e, hc, fun _ => e2, fun w' T A C x hL => (T.cell (p := ⟨b, _, none⟩) h1).trans ?_⟩
    have := h2 A.length (by subst hL; simp)
    rw [this]
    subst hL
    rw [ids_at]
theorem snoc_of {A C : List It} {x : It} : A ++ x :: C = (A ++ [x]) ++ C := by simp
theorem getA_at {A C : List It} {x : It} (hF : Fine (A ++ x :: C)) : getA x.1.2 (A ++ x :: C) = some x := (getA_some hF).2 ⟨by simp, rfl⟩
set_option maxRecDepth 100000 in
set_option maxHeartbeats 4000000 in
theorem AugLeast_walk (a : Option Addr) (n c : Nat) (xs : Nat → Ac) (q y : Int) (w : World) (hI : IsAcs w a n c xs) (hw : ∀ i, (xs i).word) (hcm : c ≤ maxLen) (hnn : a = none → n = 0 ∧ c = 0) (hq : Word q) (hy : Word y) :
    Calls Try.prog 5 #[.slice a n c, eU q, eU y] w fun e w' => e = .returned (.bool true) ∧ Below w.heap.size w w' := by
  by_cases hn : n ≤ 200
  · have hact : ∀ w1, Below w.heap.size w w1 → Calls Try.prog 17 #[.slice a n c] w1 fun e w' => ∃ B : Nat, e = .returned (.pointer (some ⟨B, 0, none⟩)) ∧ Aug w1 w' n B (rowA xs n) := fun w1 T => acted_ok a n c xs w1 hn (hI.below T) hw
    clear hI hw hnn hcm
    generalize rowA xs n = L at *
    obtain ⟨li, hli⟩ : ∃ z, (low (upto q L)).2 = z := ⟨_, rfl⟩
    obtain ⟨is, his⟩ : ∃ z, decide (upto q L ≠ []) = z := ⟨_, rfl⟩
    obtain ⟨wi, hwi⟩ : ∃ z, (kO (fnd y L)).2 = z := ⟨_, rfl⟩
    obtain ⟨fo, hfo⟩ : ∃ z, (fnd y L).isSome = z := ⟨_, rfl⟩
    have cL : ∀ w0 W B, Aug w0 W n B L → Calls Try.prog 18 #[.pointer (some ⟨B, 0, none⟩), eU q] W fun e w' => e = .returned (.tuple #[eI li, .bool is]) ∧ Below W.heap.size W w' := fun w0 W B h => by rw [← hli, ← his]; exact aug_least q h
    have cW : ∀ w0 W B, Aug w0 W n B L → Calls Try.prog 19 #[.pointer (some ⟨B, 0, none⟩), eU y] W fun e w' => e = .returned (.tuple #[eI wi, .bool fo]) ∧ Below W.heap.size W w' := fun w0 W B h => by rw [← hwi, ← hfo]; exact aug_within y h
    have hinte : Fine L → Inte li := fun hF => by
      rcases least_facts q hF with ⟨h1, _⟩ | ⟨z, hz, _, _, h3, _⟩
      · have : upto q L = [] := by simpa using h1
        rw [← hli, this]; exact ⟨by decide, by decide⟩
      · rw [← hli, h3]; exact (hF.1 z hz).2.1
    obtain ⟨g, hg⟩ : ∃ z, getA li L = z := ⟨_, rfl⟩
    obtain ⟨K, hK⟩ : ∃ z, gk g = z := ⟨_, rfl⟩
    obtain ⟨V, hV⟩ : ∃ z, gw g = z := ⟨_, rfl⟩
    obtain ⟨th, hth⟩ : ∃ z, g.isSome = z := ⟨_, rfl⟩
    have cG : ∀ w0 W B, Aug w0 W n B L → Calls Try.prog 20 #[.pointer (some ⟨B, 0, none⟩), eI li] W fun e w' => e = .returned (.tuple #[eU K, eU V, .bool th]) ∧ Below W.heap.size W w' := fun w0 W B h => by rw [← hK, ← hV, ← hth, ← hg, ← gotV_eq]; exact aug_get li (hinte h.fine) h
    have cX : ∀ w0 W B A C (x : It), Aug w0 W n B L → L = A ++ x :: C → Calls Try.prog 20 #[.pointer (some ⟨B, 0, none⟩), eI x.1.2] W fun e w' => e = .returned (.tuple #[eU x.1.1, eU x.2, .bool true]) ∧ Below W.heap.size W w' := fun w0 W B A C x h hL => by
      have hg := aug_get x.1.2 ((h.fine.1 x (by rw [hL]; simp)).2.1) h
      have e : getA x.1.2 L = some x := by have := h.fine; rw [hL] at this ⊢; exact getA_at this
      rw [e] at hg
      exact hg
    have cI : ∀ w0 W B, Aug w0 W n B L → Calls Try.prog 21 #[.pointer (some ⟨B, 0, none⟩)] W fun e w' => ∃ v, e = .returned v ∧ IntS w' v (idsI L) ∧ Below W.heap.size W w' := fun w0 W B h =>
      (aug_ids (by omega) h).mono fun e w' ⟨v, x1, x2, x3⟩ => ⟨v, x1, IntS.of_owns x2, x3⟩
    have hfacts : Fine L → (is = false ∧ ∀ x ∈ L, ¬ x.1.1 ≤ q) ∨ ∃ z, z ∈ L ∧ is = true ∧ z.1.1 ≤ q ∧ li = z.1.2 ∧ (K = z.1.1 ∧ V = z.2 ∧ th = true) ∧ ∀ x ∈ L, x.1.1 ≤ q → ¬ mLt (mkO x) (mkO z) := fun hF => by
      rcases least_facts q hF with ⟨h1, h2⟩ | ⟨z, hz, h1, h2, h3, h4, h5⟩
      · exact .inl ⟨by rw [← his]; exact h1, h2⟩
      · have e : g = some z := by rw [← hg, ← hli]; exact h4
        have e2 : K = z.1.1 ∧ V = z.2 ∧ th = true := by subst e; exact ⟨hK.symm, hV.symm, hth.symm⟩
        exact .inr ⟨z, hz, by rw [← his]; exact h1, h2, by rw [← hli, h3], e2, h5⟩
    have hfc := Lib.hid hfacts
    have T := Below.refl w.heap.size w
    clear hfacts hinte hli his hK hV hth hg
    replace hwi := Lib.hid hwi
    replace hfo := Lib.hid hfo
    go_enter Try.func5, Try.ntmps5
    go_upto_region 9 with (first
      | (go_at_call 16; (with_reducible refine (awake_any _).mono ?_); rintro e w1 ⟨rfl, hb⟩; replace T := upp T hb; clear hb)
      | (go_at_call 17; (with_reducible refine (hact _ T).mono ?_); rintro e w2 ⟨B, rfl, H⟩; have hT := upp T H.world)
      | (go_at_call 18; (with_reducible refine (cL _ _ _ H).mono ?_); rintro e w3 ⟨rfl, hb⟩; replace H := H.below hb; replace hT := upp hT hb; clear hb)
      | (go_at_call 19; (with_reducible refine (cW _ _ _ H).mono ?_); rintro e w4 ⟨rfl, hb⟩; replace H := H.below hb; replace hT := upp hT hb; clear hb)
      | (go_at_call 20; (with_reducible refine (cG _ _ _ H).mono ?_); rintro e w5 ⟨rfl, hb⟩; replace H := H.below hb; replace hT := upp hT hb; clear hb))
    have hF := H.fine
    have hr := H.rise
    have hl := H.len
    have hfc2 := Lib.hid (hfc.out hF)
    clear hact cL cW cG hfc
    go_cut [55] (fun s55 wx => s55 = .bool false ∧ w5 = wx)
    case first =>
      rcases hfc2.out with ⟨rfl, _⟩ | ⟨z, hz, rfl, h2, h3, ⟨h4, h5, rfl⟩, _⟩
      · go_wp2
        go_meet
        exact ⟨rfl, rfl⟩
      · have g1 : decide (q < K) = false := by simp; omega
        clear h4 h5 h3 h2
        go_wp2
        go_meet
        exact ⟨rfl, rfl⟩
    case rest =>
      obtain ⟨rfl, rfl⟩ := hcut
      have cIh := cI _ _ _ H
      clear cI
      go_wp2_with (go_at_call 21; (with_reducible refine cIh.mono ?_); rintro e w6 ⟨v, rfl, hS, hb⟩)
      have H6 := H.below hb
      have hT6 := upp hT hb
      clear cIh H hT hb
      obtain ⟨sa, sc, sb, so, rfl, hsc, hne, hce⟩ := ids_cells hS
      replace hne := Lib.hid hne
      replace hce := Lib.hid hce
      replace cX := Lib.hid cX
      replace hF := Lib.hid hF
      replace hr := Lib.hid hr
      clear hS
      obtain ⟨m, hm⟩ : ∃ z, L.length = z := ⟨_, rfl⟩
      have hm2 := Lib.hid hm
      have hm3 : m ≤ 200 := by omega
      rw [hm] at hsc
      simp only [hm]
      clear hm
      have i3 : (m : Int) ≤ (sc : Int) := by omega
      go_loopw [15, 17] (fun s15 s17 wr => ∃ A C : List It, L = A ++ C ∧ s17 = .int .i64 A.length ∧ s15 = .bool (fnd y A).isSome ∧ Below w6.heap.size w6 wr) (fun _ s17 _ => m - (intOf s17).toNat)
      case atStart => exact ⟨[], L, rfl, rfl, rfl, Below.refl _ _⟩
      case round =>
        obtain ⟨A, C, hL, rfl, rfl, H⟩ := hrel
        cases C with
        | nil =>
          have e : A = L := by rw [hL, List.append_nil]
          subst e
          have hm4 := hm2.out
          have hf4 := hfo.out
          clear hm2 hfo hce hne cX hF hr hL hfc2
          have i1 : ¬ (A.length : Int) < (m : Int) := by omega
          have i2 : ((fnd y A).isSome == fo) = true := by rw [hf4]; simp
          clear hm4 hf4
          go_wp2_with fail
          go_ret
          exact ⟨rfl, upp hT6 H⟩
        | cons x C =>
          have hlen := hm2.out
          have i1 : (A.length : Int) < (m : Int) := by rw [← hlen, hL]; simp; omega
          have i1n : A.length < m := by omega
          have i2 : (0 : Int) ≤ (A.length : Int) := by omega
          obtain rfl := hne.out (by rw [hL]; simp)
          have x1 := hce.out wr H A C x hL
          have hX := cX.out _ _ _ A C x (H6.below H) hL
          have hx : x ∈ L := by rw [hL]; simp
          have hst := met_step y (A := A) (C := C) (x := x) (by rw [← hL]; exact hF.out) (by rw [← hL]; exact hr.out)
          rw [← hL, hfo.out, hwi.out] at hst
          have hgo : (is = false ∧ decide (x.1.1 ≤ q) = false) ∨ (is = true ∧ decide (x.1.1 ≤ q) = false) ∨ (is = true ∧ decide (x.1.1 ≤ q) = true ∧ decide (x.2 < V) = false ∧ ((x.2 == V) = false ∨ ((x.2 == V) = true ∧ decide (x.1.2 < li) = false))) := by
            rcases hfc2.out with ⟨h1, h2⟩ | ⟨z, hz, h1, h2, h3, ⟨h4, h5, h6⟩, h7⟩
            · exact .inl ⟨h1, by simpa using h2 x hx⟩
            · by_cases hq : x.1.1 ≤ q
              · have := h7 x hx hq
                unfold mLt mkO at this
                refine .inr (.inr ⟨h1, by simpa using hq, ?_⟩)
                rw [h3, h5]
                simp only [not_or, not_and] at this
                obtain ⟨g1, g2⟩ := this
                refine ⟨by simpa using g1, ?_⟩
                by_cases hv : x.2 = z.2
                · exact .inr ⟨by simp [hv], by simpa using g2 hv⟩
                · exact .inl (by simpa using hv)
              · exact .inr (.inl ⟨h1, by simpa using hq⟩)
          have hend : L = (A ++ [x]) ++ C := by rw [hL]; simp
          have hlen2 : (A ++ [x]).length = A.length + 1 := by simp
          have hst2 : ((fnd y A).isSome = true ∧ fo = true ∧ (x.1.2 == wi) = false ∧ (fnd y (A ++ [x])).isSome = true) ∨
              ((fnd y A).isSome = false ∧ decide (x.2 ≤ y) = true ∧ fo = true ∧ (x.1.2 == wi) = true ∧ (fnd y (A ++ [x])).isSome = true) ∨
              ((fnd y A).isSome = false ∧ decide (x.2 ≤ y) = false ∧ (fo = false ∨ (fo = true ∧ (x.1.2 == wi) = false)) ∧ (fnd y (A ++ [x])).isSome = false) := by
            rcases hst with ⟨h1, h2, h3, h4⟩ | ⟨h1, h2, h3, h4, h5⟩ | ⟨h1, h2, h3, h4⟩
            · exact .inl ⟨h1, h2, by simpa using h3, h4⟩
            · exact .inr (.inl ⟨h1, by simpa using h2, h3, by simpa using h4, h5⟩)
            · refine .inr (.inr ⟨h1, by simpa using h2, ?_, h4⟩)
              cases fo with
              | false => exact .inl rfl
              | true => exact .inr ⟨rfl, by simpa using h3 rfl⟩
          clear hst
          have hce2 : ∀ w', Below w6.heap.size w6 w' → w'.cell? ⟨sb, so + A.length, none⟩ = some (eI x.1.2) := fun w' hb => hce.out w' hb A C x hL
          replace hce2 := Lib.hid hce2
          replace hgo := Lib.hid hgo
          have hst := Lib.hid hst2
          clear hst2 hce hne
          replace hend := Lib.hid hend
          replace hlen2 := Lib.hid hlen2
          obtain ⟨x', hx'⟩ : ∃ z, A ++ [x] = z := ⟨_, rfl⟩
          simp only [hx'] at hst hend hlen2
          clear hx' hx hL hlen hfc2
          generalize (fnd y A).isSome = s at *
          generalize A.length = k at *
          obtain ⟨⟨a1, a2⟩, a3⟩ := x
          dsimp only at *
          clear hm2 hF hr cX hfo hwi
          go_upto_region 17 with (go_at_call 20; (with_reducible refine hX.mono ?_); rintro e w7 ⟨rfl, hb⟩)
          replace H := upp H hb
          clear hb hX x1
          have x1 := hce2.out w7 H
          clear hce2
          go_cut [102] (fun s102 wx => s102 = .bool false ∧ w7 = wx)
          case first =>
            clear hst hend hlen2
            rcases hgo.out with ⟨rfl, h1⟩ | ⟨rfl, h1⟩ | ⟨rfl, h1, h2, h3 | ⟨h3, h4⟩⟩
            · clear hgo; go_wp2; go_meet; exact ⟨rfl, rfl⟩
            · clear hgo; go_wp2; go_meet; exact ⟨rfl, rfl⟩
            · clear hgo; go_wp2; go_meet; exact ⟨rfl, rfl⟩
            · clear hgo; go_wp2; go_meet; exact ⟨rfl, rfl⟩
          case rest =>
            obtain ⟨rfl, rfl⟩ := hcut
            clear hgo
            have hk : (((k + 1 : Nat)) : Int) = (k : Int) + 1 := by omega
            rcases hst.out with ⟨rfl, rfl, h3, h4⟩ | ⟨rfl, h1, rfl, h3, h4⟩ | ⟨rfl, h1, rfl | ⟨rfl, h3⟩, h4⟩
            · clear hst; go_wp2; exact ⟨⟨x', C, hend.out, by rw [hlen2.out, hk], by rw [h4], H⟩, by simp [intOf]; omega⟩
            · clear hst; go_wp2; exact ⟨⟨x', C, hend.out, by rw [hlen2.out, hk], by rw [h4], H⟩, by simp [intOf]; omega⟩
            · clear hst; go_wp2; exact ⟨⟨x', C, hend.out, by rw [hlen2.out, hk], by rw [h4], H⟩, by simp [intOf]; omega⟩
            · clear hst; go_wp2; exact ⟨⟨x', C, hend.out, by rw [hlen2.out, hk], by rw [h4], H⟩, by simp [intOf]; omega⟩
  · have h1 : 200 < n := by omega
    have h2 : n ≤ maxLen := Nat.le_trans hI.1 hcm
    clear hI hw hnn hn hcm
    have T := Below.refl w.heap.size w
    go_enter Try.func5, Try.ntmps5
    go_wp2_with (first
      | (go_at_call 16; (with_reducible refine (awake_any _).mono ?_); rintro e w1 ⟨rfl, hb⟩; replace T := upp T hb; clear hb)
      | (go_at_call 17; (with_reducible refine (acted_over a n c _ h1 h2).mono ?_); rintro e w2 ⟨rfl, hb⟩; replace T := upp T hb; clear hb))
    go_ret
    exact ⟨rfl, T⟩
end Go.Proofs.Ytcpienpkpodfmaa
