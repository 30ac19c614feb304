/- A copy goes on alone, and so does the tree. Condition: numbers are what the fields can hold. -/
import Derived.Test.YtpopcnebndgblaaGreatHmD
namespace Go.Proofs.YtpopcnebndgblaaGreat.H
open Go.ChangeShapes Go.WideShapes Go.Deep Go.RowKit
set_option linter.unusedVariables false
set_option linter.unusedSimpArgs false
section
variable {w0 w w' : World} {t R c v : Nat} {L M K N : List Sp} {s : Sp}
def P2 (w0 w : World) (t R : Nat) (L M : List Sp) : Prop := ∃ χ, Fr w0 χ w ∧ Tre w χ 1 t L ∧ Rt w χ 2 R M ∧ Fit M
def P3 (w0 w : World) (t R c : Nat) (L M K : List Sp) : Prop := ∃ χ, Fr w0 χ w ∧ Tre w χ 1 t L ∧ Rt w χ 2 R M ∧ Fit M ∧ Tre w χ 3 c K
def P4 (w0 w : World) (t R c v : Nat) (L M K N : List Sp) : Prop := ∃ χ, Fr w0 χ w ∧ Tre w χ 1 t L ∧ Rt w χ 2 R M ∧ Fit M ∧ Tre w χ 3 c K ∧ Rt w χ 4 v N ∧ Fit N
theorem P2.world (h : P2 w0 w t R L M) : Below w0.heap.size w0 w := by obtain ⟨χ, hf, _⟩ := h; exact hf.world
theorem P4.world (h : P4 w0 w t R c v L M K N) : Below w0.heap.size w0 w := by obtain ⟨χ, hf, _⟩ := h; exact hf.world
theorem p2_new {w0 w1 w2 : World} {C : Nat} (h1 : ∀ χ, Tre w1 (recol χ w0.heap.size 1) 1 C []) (T1 : Below w0.heap.size w0 w1) (X : Box w2 w1.heap.size #[.slice none 0 0] 29) (T2 : Below w1.heap.size w1 w2) : P2 w0 w2 C w1.heap.size [] [] := by
  have k1 : Col (fun _ => 0) (recol (fun _ => 0) w0.heap.size 1) 1 w0 w1 := Col.new T1 1
  exact ⟨recol (recol (fun _ => 0) w0.heap.size 1) w1.heap.size 2, ((Fr.start w0).next k1 (by decide)).next (Col.new (c := 2) T2 2) (by decide), (h1 _).new T2 2, rnil X (recol_ge (Nat.le_refl _)), Fit.nil⟩
theorem p2_add (h : P2 w0 w t R L M) {p : Sp} (hp : p.ok) : Calls Tryz.prog 11 #[ptr t, .agg (sV p)] w fun e w' => e = .returned (eI (addE L p)) ∧ P2 w0 w' t R (addL L p) M := by
  obtain ⟨χ, hf, h1, h2, h3⟩ := h
  refine (add_any h1 hp).mono ?_
  rintro e w' ⟨e1, χ', hT, hC⟩
  exact ⟨e1, χ', hf.next hC (by decide), hT, h2.other hC (by decide), h3⟩
theorem p2_radd (h : P2 w0 w t R L M) {p : Sp} (hp : p.ok) : Calls Tryz.prog 12 #[ptr R, .agg (sV p)] w fun e w' => e = .returned (eI (addE M p)) ∧ P2 w0 w' t R L (addL M p) := by
  obtain ⟨χ, hf, h1, h2, h3⟩ := h
  refine (radd_any h2 h3 hp).mono ?_
  rintro e w' ⟨e1, χ', hT, hC⟩
  exact ⟨e1, χ', hf.next hC (by decide), h1.other hC (by decide), hT, h3.add hp⟩
theorem p2_copy (h : P2 w0 w t R L M) : Calls Tryz.prog 17 #[ptr t] w fun e w' => ∃ C, e = .returned (ptr C) ∧ P3 w0 w' t R C L M L := by
  obtain ⟨χ, hf, h1, h2, h3⟩ := h
  refine (copy_any h1 3).mono ?_
  rintro e w' ⟨C, rfl, hT, hb⟩
  exact ⟨C, rfl, _, hf.next (Col.new (c := 3) hb 3) (by decide), h1.new hb _, h2.new hb _, h3, hT⟩
theorem p3_copy (h : P3 w0 w t R c L M K) : Calls Tryz.prog 19 #[ptr R] w fun e w' => ∃ V, e = .returned (ptr V) ∧ P4 w0 w' t R c V L M K M := by
  obtain ⟨χ, hf, h1, h2, h3, h4⟩ := h
  refine (rcopy_any h2 h3 4).mono ?_
  rintro e w' ⟨V, rfl, hT, hb⟩
  exact ⟨V, rfl, _, hf.next (Col.new (c := 4) hb 4) (by decide), h1.new hb _, h2.new hb _, h3, h4.new hb _, hT, h3⟩
theorem p4_drop (h : P4 w0 w t R c v L M K N) {k : Int} (hk : I64 k) : Calls Tryz.prog 15 #[ptr c, eI k] w fun e w' => e = .returned (eI (drpE K k)) ∧ P4 w0 w' t R c v L M (drpL K k) N := by
  obtain ⟨χ, hf, h1, h2, h3, h4, h5, h6⟩ := h
  refine (drop_any h4 hk).mono ?_
  rintro e w' ⟨e1, χ', hT, hC⟩
  exact ⟨e1, χ', hf.next hC (by decide), h1.other hC (by decide), h2.other hC (by decide), h3, hT, h5.other hC (by decide), h6⟩
theorem p4_rdrop (h : P4 w0 w t R c v L M K N) (k : Int) : Calls Tryz.prog 16 #[ptr v, eI k] w fun e w' => e = .returned (eI (drpE N k)) ∧ P4 w0 w' t R c v L M K (drpL N k) := by
  obtain ⟨χ, hf, h1, h2, h3, h4, h5, h6⟩ := h
  refine (rdrop_any h5 h6 k).mono ?_
  rintro e w' ⟨e1, χ', hT, hC⟩
  exact ⟨e1, χ', hf.next hC (by decide), h1.other hC (by decide), h2.other hC (by decide), h3, h4.other hC (by decide), hT, h6.drop k⟩
theorem p4_add (h : P4 w0 w t R c v L M K N) {p : Sp} (hp : p.ok) : Calls Tryz.prog 11 #[ptr c, .agg (sV p)] w fun e w' => e = .returned (eI (addE K p)) ∧ P4 w0 w' t R c v L M (addL K p) N := by
  obtain ⟨χ, hf, h1, h2, h3, h4, h5, h6⟩ := h
  refine (add_any h4 hp).mono ?_
  rintro e w' ⟨e1, χ', hT, hC⟩
  exact ⟨e1, χ', hf.next hC (by decide), h1.other hC (by decide), h2.other hC (by decide), h3, hT, h5.other hC (by decide), h6⟩
theorem p4_radd (h : P4 w0 w t R c v L M K N) {p : Sp} (hp : p.ok) : Calls Tryz.prog 12 #[ptr v, .agg (sV p)] w fun e w' => e = .returned (eI (addE N p)) ∧ P4 w0 w' t R c v L M K (addL N p) := by
  obtain ⟨χ, hf, h1, h2, h3, h4, h5, h6⟩ := h
  refine (radd_any h5 h6 hp).mono ?_
  rintro e w' ⟨e1, χ', hT, hC⟩
  exact ⟨e1, χ', hf.next hC (by decide), h1.other hC (by decide), h2.other hC (by decide), h3, h4.other hC (by decide), hT, h6.add hp⟩
theorem P4.below (h : P4 w0 w t R c v L M K N) (hb : Below w.heap.size w w') : P4 w0 w' t R c v L M K N := by
  obtain ⟨χ, hf, h1, h2, h3, h4, h5, h6⟩ := h
  exact ⟨χ, hf.below hb, h1.below hb, h2.below hb, h3, h4.below hb, h5.below hb, h6⟩
theorem p4_same (h : P4 w0 w t R c v L L K N) {k : Int} (hk : I64 k) : Calls Tryz.prog 18 #[ptr t, ptr R, eI k] w fun e w' => e = .returned (.bool true) ∧ P4 w0 w' t R c v L L K N := by
  have h' := h
  obtain ⟨χ, hf, h1, h2, h3, h4, h5, h6⟩ := h
  exact (same_any h1 h2 hk).mono fun e w' ⟨x, y⟩ => ⟨x, h'.below y⟩
theorem p4_same2 (h : P4 w0 w t R c v L M K K) {k : Int} (hk : I64 k) : Calls Tryz.prog 18 #[ptr c, ptr v, eI k] w fun e w' => e = .returned (.bool true) ∧ P4 w0 w' t R c v L M K K := by
  have h' := h
  obtain ⟨χ, hf, h1, h2, h3, h4, h5, h6⟩ := h
  exact (same_any h4 h5 hk).mono fun e w' ⟨x, y⟩ => ⟨x, h'.below y⟩
end
set_option maxHeartbeats 4000000 in
set_option maxRecDepth 100000 in
theorem HierCopies_walk (a : Option Addr) (n c : Nat) (xs : Nat → Ac) (a' : Option Addr) (n' c' : Nat) (ys : Nat → Ac) (id : Int) (w0 : World) (hI : IsRow aV 15 w0 a n c xs) (hok : ∀ i, (xs i).ok) (hcm : c ≤ maxLen) (hI' : IsRow aV 15 w0 a' n' c' ys) (hok' : ∀ i, (ys i).ok) (hcm' : c' ≤ maxLen) (hid : I64 id) :
    Calls Tryz.prog 4 #[.slice a n c, .slice a' n' c', eI id] w0 fun e w' => e = .returned (.bool true) ∧ Below w0.heap.size w0 w' := by
  have hL := long_any (a := a) hI.1 w0
  have hL' := long_any (a := a') hI'.1 w0
  by_cases hn : 150 < n
  · rw [decide_eq_true hn] at hL
    go_enter Tryz.func4, Tryz.ntmps4
    go_wp2_with (go_at_call 9; (with_reducible refine hL.mono ?_); rintro e w1 ⟨rfl, rfl⟩)
    go_ret
    exact ⟨rfl, Below.refl _ _⟩
  rw [decide_eq_false hn] at hL
  by_cases hn' : 150 < n'
  · rw [decide_eq_true hn'] at hL'
    go_enter Tryz.func4, Tryz.ntmps4
    go_wp2_with (first
      | (go_at_call 9; (with_reducible refine hL.mono ?_); rintro e w1 ⟨rfl, rfl⟩)
      | (go_at_call 9; (with_reducible refine hL'.mono ?_); rintro e w1 ⟨rfl, rfl⟩))
    go_ret
    exact ⟨rfl, Below.refl _ _⟩
  rw [decide_eq_false hn'] at hL'
  have hN1 := tnew_all w0 1
  have j1 : (n : Int) ≤ (c : Int) := by have := hI.1; omega
  have j2 : (n' : Int) ≤ (c' : Int) := by have := hI'.1; omega
  have hIh := Lib.hid hI
  have hoh := Lib.hid hok
  have hIh' := Lib.hid hI'
  have hoh' := Lib.hid hok'
  clear hI hok hI' hok'
  go_enter Tryz.func4, Tryz.ntmps4
  go_wp2_with (first
    | (go_at_call 9; (with_reducible refine hL.mono ?_); rintro e w1 ⟨rfl, rfl⟩)
    | (go_at_call 9; (with_reducible refine hL'.mono ?_); rintro e w1 ⟨rfl, rfl⟩)
    | (go_at_call 10; (with_reducible refine hN1.mono ?_); rintro e w1 ⟨C, hC, rfl, hT, T1⟩; have hp := ptr_eq C)
    | (refine wl_box 29 rfl rfl rfl ?_; intro w2 X2 T2; have hP := p2_new hT T1 X2 T2))
  clear hL hL' hN1 hT T1 X2 T2
  go_loopw [9] (fun s9 wr => ∃ i : Nat, s9 = .int .i64 i ∧ i ≤ n ∧ ∃ L, P2 w0 wr C w1.heap.size L L) (fun s9 _ => n - (intOf s9).toNat)
  case atStart => exact ⟨0, rfl, by omega, _, hP⟩
  case round =>
    clear hP
    obtain ⟨i, rfl, hi, L, hP⟩ := hrel
    by_cases hlt : i < n
    · have i1 : (i : Int) < (n : Int) := by omega
      have i2 : (0 : Int) ≤ (i : Int) := by omega
      have hw1 : IntKind.i64.wrap ((i : Int) + 1) = (i : Int) + 1 := i64_id (by omega)
      obtain ⟨b, q, rfl, hb, hcell⟩ := act_at hIh.out i hlt
      obtain ⟨hk0, hs⟩ := hoh.out i
      generalize xs i = y at *
      have x2 := (hcell wr hP.world).2.2
      have hQ1 := p2_add hP hs
      go_wp2_with (first
        | (refine wl_run (xl_loadr x2 rfl rfl) rfl ?_)
        | (go_at_call 11; (with_reducible refine hQ1.mono ?_); rintro e wc ⟨rfl, Qc⟩; have x3 := (hcell wc Qc.world).2.2; have hQ2 := p2_radd Qc hs)
        | (refine wl_run (xl_loadr x3 rfl rfl) rfl ?_)
        | (go_at_call 12; (with_reducible refine hQ2.mono ?_); rintro e wd ⟨rfl, Qd⟩))
      exact ⟨⟨i + 1, rfl, by omega, _, Qd⟩, by simp [intOf]; omega⟩
    · have i1 : ¬ (i : Int) < (n : Int) := by omega
      have hQ1 := p2_copy hP
      go_wp2_with (first
        | (go_at_call 17; (with_reducible refine hQ1.mono ?_); rintro e wc ⟨c2, rfl, Qc⟩; have hp2 := ptr_eq c2; have hQ2 := p3_copy Qc)
        | (go_at_call 19; (with_reducible refine hQ2.mono ?_); rintro e wd ⟨V, rfl, Qd⟩))
      clear hP Qc hQ1 hQ2
      go_loopw [12] (fun s12 wr => ∃ i : Nat, s12 = .int .i64 i ∧ i ≤ n' ∧ ∃ K, P4 w0 wr C w1.heap.size c2 V L L K K) (fun s12 _ => n' - (intOf s12).toNat)
      case atStart => exact ⟨0, rfl, by omega, _, Qd⟩
      case round =>
        clear Qd
        obtain ⟨k, rfl, hk, K, hP⟩ := hrel
        by_cases hlt : k < n'
        · have i1 : (k : Int) < (n' : Int) := by omega
          have i2 : (0 : Int) ≤ (k : Int) := by omega
          have hw1 : IntKind.i64.wrap ((k : Int) + 1) = (k : Int) + 1 := i64_id (by omega)
          obtain ⟨b, q, rfl, hb, hcell⟩ := act_at hIh'.out k hlt
          obtain ⟨hk0, hs⟩ := hoh'.out k
          generalize ys k = y at *
          have x1 := (hcell wr hP.world).2.1
          have hQ1 := p4_drop hP hs.1
          go_wp2_with (first
            | (go_at_call 15; (with_reducible refine hQ1.mono ?_); rintro e wa ⟨rfl, Qa⟩; have z1 := (hcell wa Qa.world).2.1; have hQ2 := p4_rdrop Qa y.s.id)
            | (go_at_call 16; (with_reducible refine hQ2.mono ?_); rintro e wb ⟨rfl, Qb⟩; have x2 := (hcell wb Qb.world).2.2; have hQ3 := p4_add Qb hs)
            | (refine wl_run (xl_loadr x2 rfl rfl) rfl ?_)
            | (go_at_call 11; (with_reducible refine hQ3.mono ?_); rintro e wc ⟨rfl, Qc⟩; have x3 := (hcell wc Qc.world).2.2; have hQ4 := p4_radd Qc hs)
            | (refine wl_run (xl_loadr x3 rfl rfl) rfl ?_)
            | (go_at_call 12; (with_reducible refine hQ4.mono ?_); rintro e wd ⟨rfl, Qd⟩))
          exact ⟨⟨k + 1, rfl, by omega, _, Qd⟩, by simp [intOf]; omega⟩
        · have i1 : ¬ (k : Int) < (n' : Int) := by omega
          have hS1 := p4_same hP hid
          go_wp2_with (first
            | (go_at_call 18; (with_reducible refine hS1.mono ?_); rintro e we ⟨rfl, Pe⟩; have hS2 := p4_same2 Pe hid)
            | (go_at_call 18; (with_reducible refine hS2.mono ?_); rintro e wf ⟨rfl, Pf⟩))
          go_ret
          exact ⟨rfl, Pf.world⟩
end Go.Proofs.YtpopcnebndgblaaGreat.H
