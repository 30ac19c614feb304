/- The document's count of those kept, by the starts. -/
import Derived.Test.YtknpfcnjnpcboaaCpK
namespace Go.Proofs.Ytknpfcnjnpcboaa
open Go.RowKit Go.Shelf W
set_option linter.unusedVariables false
set_option maxRecDepth 100000
namespace W
theorem isF_iff (c : Nat → Int) : ∀ n, isF c n = true ↔ ∀ j, j < n → c j ≤ 0
  | 0 => ⟨fun _ j h => by omega, fun _ => rfl⟩
  | n + 1 => by
    show (isF c n && decide (c n ≤ 0)) = true ↔ _
    rw [Bool.and_eq_true, isF_iff c n, decide_eq_true_iff]
    constructor
    · rintro ⟨h1, h2⟩ j hj
      rcases Nat.lt_or_ge j n with h | h
      · exact h1 j h
      · obtain rfl : j = n := by omega
        exact h2
    · intro h
      exact ⟨fun j hj => h j (by omega), h n (by omega)⟩
theorem lsF_iff (c : Nat → Int) : ∀ n, lsF c n = true ↔ ∃ j, j < n ∧ c j < 0
  | 0 => ⟨fun h => (by cases h), fun ⟨j, h, _⟩ => (by omega)⟩
  | n + 1 => by
    show (lsF c n || decide (c n < 0)) = true ↔ _
    rw [Bool.or_eq_true, lsF_iff c n, decide_eq_true_iff]
    constructor
    · rintro (⟨j, h1, h2⟩ | h)
      · exact ⟨j, by omega, h2⟩
      · exact ⟨n, by omega, h⟩
    · rintro ⟨j, h1, h2⟩
      rcases Nat.lt_or_ge j n with h | h
      · exact .inl ⟨j, h, h2⟩
      · obtain rfl : j = n := by omega
        exact .inr h2
theorem cmpN_le {x y : Int} : cmpN x y ≤ 0 ↔ x ≤ y := by
  unfold cmpN
  split
  · omega
  · split <;> omega
theorem cmpN_neg {x y : Int} : cmpN x y < 0 ↔ x < y := by
  unfold cmpN
  split
  · omega
  · split <;> omega
theorem noneB_ext {a b : Nat → Bool} : ∀ {n : Nat}, (∀ i, i < n → a i = b i) → noneB a n = noneB b n
  | 0, _ => rfl
  | n + 1, h => by
    show (noneB a n && !a n) = (noneB b n && !b n)
    rw [noneB_ext (fun i hi => h i (by omega)), h n (by omega)]
theorem five {f l r x : Int} {p q : Int × Int} (hl : 0 ≤ l) (hfr : f ≤ r) (hp : p.1 ≤ x) (hq : q.1 ≤ x) :
    (∀ j, j < 5 → hv f l r p (tkF x (max x (p.1 + l)) (max x (q.1 + l)) (x + l) (x + l + 1) j) ≤ hv f l r q (tkF x (max x (p.1 + l)) (max x (q.1 + l)) (x + l) (x + l + 1) j)) ↔ (hv f l r p x ≤ hv f l r q x ∧ lv r p x ≤ lv r q x) := by
  constructor
  · intro h
    refine ⟨h 0 (by omega), ?_⟩
    have h3 : hv f l r p (x + l) ≤ hv f l r q (x + l) := h 3 (by omega)
    exact lv_of_dom hl (by omega) (by omega) h3
  · rintro ⟨h1, h2⟩ j hj
    refine hv_dom hl hfr hp hq ?_ h1 h2
    match j, hj with
    | 0, _ => exact Int.le_refl _
    | 1, _ => show x ≤ max x (p.1 + l); omega
    | 2, _ => show x ≤ max x (q.1 + l); omega
    | 3, _ => show x ≤ x + l; omega
    | 4, _ => show x ≤ x + l + 1; omega
theorem five_less {f l r x : Int} {p q : Int × Int} (hl : 0 ≤ l) (hfr : f ≤ r) (hp : p.1 ≤ x) (hq : q.1 ≤ x) (h1 : hv f l r p x ≤ hv f l r q x) (h2 : lv r p x ≤ lv r q x) :
    (∃ j, j < 5 ∧ hv f l r p (tkF x (max x (p.1 + l)) (max x (q.1 + l)) (x + l) (x + l + 1) j) < hv f l r q (tkF x (max x (p.1 + l)) (max x (q.1 + l)) (x + l) (x + l + 1) j)) ↔ (hv f l r p x < hv f l r q x ∨ lv r p x < lv r q x) := by
  constructor
  · rintro ⟨j, hj, h⟩
    rcases Int.lt_or_le (hv f l r p x) (hv f l r q x) with c | c
    · exact .inl c
    · rcases Int.lt_or_le (lv r p x) (lv r q x) with d | d
      · exact .inr d
      · exfalso
        have h5 : hv f l r q (tkF x (max x (p.1 + l)) (max x (q.1 + l)) (x + l) (x + l + 1) j) ≤ hv f l r p (tkF x (max x (p.1 + l)) (max x (q.1 + l)) (x + l) (x + l + 1) j) := by
          refine hv_dom hl hfr hq hp ?_ c d
          match j, hj with
          | 0, _ => exact Int.le_refl _
          | 1, _ => show x ≤ max x (p.1 + l); omega
          | 2, _ => show x ≤ max x (q.1 + l); omega
          | 3, _ => show x ≤ x + l; omega
          | 4, _ => show x ≤ x + l + 1; omega
        omega
  · rintro (h | h)
    · exact ⟨0, by omega, h⟩
    · refine ⟨3, by omega, ?_⟩
      show hv f l r p (x + l) < hv f l r q (x + l)
      rw [hv_line (by omega), hv_line (by omega)]
      have := lv_lt (t := x + l) h
      omega
end W
section
variable {f l r : Int} {X Y : Nat → Int} (hc : CvS f l r) (hY : ∀ k, 0 ≤ Y k)
include hc hY
theorem rc_kept (m B n : Nat) (w : World) (hn : n ≤ 900) (h : Rc w m B f l r X Y n) :
    Calls Try.prog 33 #[.pointer (some ⟨B, 0, none⟩)] w fun e w' => e = .returned (.int .i64 (docN f l r X Y n)) ∧ Below w.heap.size w w' := by
  obtain ⟨hf, hl, hr, hm, hfr⟩ := hc
  obtain ⟨hf1, hr1, hl1, _⟩ := id hm
  obtain ⟨vX, vY, h⟩ := h
  have hx0 := xS_nn X n
  have hx1 := xS_never X n
  obtain ⟨aX, cX, rfl, hcx⟩ := wOwn_len h.rx
  have hlx := xsL_len X n
  have key := c_keptN B n (fun i k => isF (fun j => cmpN (hv f l r (cpy X Y i) (tkF (xS X n) (max (xS X n) ((cpy X Y i).1 + l)) (max (xS X n) ((cpy X Y k).1 + l)) (xS X n + l) (xS X n + l + 1) j)) (hv f l r (cpy X Y k) (tkF (xS X n) (max (xS X n) ((cpy X Y i).1 + l)) (max (xS X n) ((cpy X Y k).1 + l)) (xS X n + l) (xS X n + l + 1) j))) 5)
    (fun i k => lsF (fun j => cmpN (hv f l r (cpy X Y i) (tkF (xS X n) (max (xS X n) ((cpy X Y i).1 + l)) (max (xS X n) ((cpy X Y k).1 + l)) (xS X n + l) (xS X n + l + 1) j)) (hv f l r (cpy X Y k) (tkF (xS X n) (max (xS X n) ((cpy X Y i).1 + l)) (max (xS X n) ((cpy X Y k).1 + l)) (xS X n + l) (xS X n + l + 1) j))) 5)
    (fun w => Cp m w B f l r (xsL X n) (ysL Y n) (.slice aX (xsL X n).length cX) vY) (fun w w' h hb => h.below hb) (by omega) (fun w h => ⟨aX, cX, by have := h.cells.2.2.2.1; rw [hlx] at this; exact this⟩) ?_ w h
  · have e : cntB (fun k => noneB (beB (fun i k => isF (fun j => cmpN (hv f l r (cpy X Y i) (tkF (xS X n) (max (xS X n) ((cpy X Y i).1 + l)) (max (xS X n) ((cpy X Y k).1 + l)) (xS X n + l) (xS X n + l + 1) j)) (hv f l r (cpy X Y k) (tkF (xS X n) (max (xS X n) ((cpy X Y i).1 + l)) (max (xS X n) ((cpy X Y k).1 + l)) (xS X n + l) (xS X n + l + 1) j))) 5)
        (fun i k => lsF (fun j => cmpN (hv f l r (cpy X Y i) (tkF (xS X n) (max (xS X n) ((cpy X Y i).1 + l)) (max (xS X n) ((cpy X Y k).1 + l)) (xS X n + l) (xS X n + l + 1) j)) (hv f l r (cpy X Y k) (tkF (xS X n) (max (xS X n) ((cpy X Y i).1 + l)) (max (xS X n) ((cpy X Y k).1 + l)) (xS X n + l) (xS X n + l + 1) j))) 5) k) n) n = docN f l r X Y n := by
      unfold docN
      refine cntB_ext fun k hk => noneB_ext fun i hi => ?_
      have hik : (cpy X Y i).1 ≤ xS X n := xS_le X (by omega)
      have hkk : (cpy X Y k).1 ≤ xS X n := xS_le X (by omega)
      have g1 := five (f := f) (l := l) (r := r) (x := xS X n) (p := cpy X Y i) (q := cpy X Y k) hl.1 hfr hik hkk
      have g2 := five_less (f := f) (l := l) (r := r) (x := xS X n) (p := cpy X Y i) (q := cpy X Y k) hl.1 hfr hik hkk
      have i1 : isF (fun j => cmpN (hv f l r (cpy X Y i) (tkF (xS X n) (max (xS X n) ((cpy X Y i).1 + l)) (max (xS X n) ((cpy X Y k).1 + l)) (xS X n + l) (xS X n + l + 1) j)) (hv f l r (cpy X Y k) (tkF (xS X n) (max (xS X n) ((cpy X Y i).1 + l)) (max (xS X n) ((cpy X Y k).1 + l)) (xS X n + l) (xS X n + l + 1) j))) 5 = true ↔ (hv f l r (cpy X Y i) (xS X n) ≤ hv f l r (cpy X Y k) (xS X n) ∧ lv r (cpy X Y i) (xS X n) ≤ lv r (cpy X Y k) (xS X n)) := by
        rw [isF_iff, ← g1]
        exact ⟨fun h j hj => cmpN_le.1 (h j hj), fun h j hj => cmpN_le.2 (h j hj)⟩
      have i2 := lsF_iff (fun j => cmpN (hv f l r (cpy X Y i) (tkF (xS X n) (max (xS X n) ((cpy X Y i).1 + l)) (max (xS X n) ((cpy X Y k).1 + l)) (xS X n + l) (xS X n + l + 1) j)) (hv f l r (cpy X Y k) (tkF (xS X n) (max (xS X n) ((cpy X Y i).1 + l)) (max (xS X n) ((cpy X Y k).1 + l)) (xS X n + l) (xS X n + l + 1) j))) 5
      rw [Bool.eq_iff_iff]
      unfold beB btB
      simp only [Bool.or_eq_true, Bool.and_eq_true, decide_eq_true_eq]
      rw [i1, i2]
      constructor
      · rintro (⟨h1, h2⟩ | ⟨⟨h1, h2⟩, j, hj, h3⟩)
        · exact ⟨h2, .inl h1⟩
        · exact ⟨h2, .inr ⟨h1, (g2 h2.1 h2.2).1 ⟨j, hj, cmpN_neg.1 h3⟩⟩⟩
      · rintro ⟨h2, h1 | ⟨h1, h3⟩⟩
        · exact .inl ⟨h1, h2⟩
        · obtain ⟨j, hj, h4⟩ := (g2 h2.1 h2.2).2 h3
          exact .inr ⟨⟨h1, h2⟩, j, hj, cmpN_neg.2 h4⟩
    rw [e] at key
    exact key
  · intro i k hi hk w hw
    rcases hw.rx.2 with ⟨_, e⟩ | ⟨g, cap, cur, e, hb, hg, hcc, _⟩
    · rw [hlx] at e; omega
    · injection e with e1 e2 e3
      subst e1 e3
      have xi := xS_nn X (i + 1); have xk := xS_nn X (k + 1)
      have xi1 := xS_le X (show i + 1 ≤ n by omega); have xk1 := xS_le X (show k + 1 ≤ n by omega)
      have hone : ∀ q, q < n → ∀ t, Word t → xS X n ≤ t → ∀ w, Cp m w B f l r (xsL X n) (ysL Y n) (.slice (some ⟨g, 0, none⟩) (xsL X n).length cX) vY → Calls Try.prog 68 #[.pointer (some ⟨B, 0, none⟩), .int .i64 q, eU t] w fun e w' => e = .returned (.agg #[eU (hiW (hv f l r (cpy X Y q) t)), eU (loW (hv f l r (cpy X Y q) t))]) ∧ Below w.heap.size w w' := fun q hq t ht hxt w h => by
        have hxk : xS X (q + 1) ≤ t := Int.le_trans (xS_le X (by omega)) hxt
        have hxn := xS_nn X (q + 1)
        have hd : Word (t - xS X (q + 1)) := ⟨by omega, by have := ht.2; omega⟩
        exact c_one6 m B f l r _ _ _ vY w q t (t - xS X (q + 1)) (xS X (q + 1)) (min (Y q) 4611686018427387904) _ _ _ _ (by rw [xsL_len]; exact hq) (by rw [ysL_len]; exact hq) (xsL_at X hq) (ysL_at Y hq) (u64_id _ hd) (fun w => kWide_any f l r _ w hf hl hr hd) (fun w => rc_plus ⟨hf.1, hf1⟩ hl ⟨hr.1, hr1⟩ hY q t w ht hxk) h
      have htk : ∀ j, j < 5 → Word (tkF (xS X n) (max (xS X n) ((cpy X Y i).1 + l)) (max (xS X n) ((cpy X Y k).1 + l)) (xS X n + l) (xS X n + l + 1) j) ∧ xS X n ≤ tkF (xS X n) (max (xS X n) ((cpy X Y i).1 + l)) (max (xS X n) ((cpy X Y k).1 + l)) (xS X n + l) (xS X n + l + 1) j := fun j hj => by
        have := hl.1
        match j, hj with
        | 0, _ => show Word (xS X n) ∧ xS X n ≤ xS X n; unfold Word; omega
        | 1, _ => show Word (max (xS X n) (xS X (i + 1) + l)) ∧ xS X n ≤ max (xS X n) (xS X (i + 1) + l); unfold Word; omega
        | 2, _ => show Word (max (xS X n) (xS X (k + 1) + l)) ∧ xS X n ≤ max (xS X n) (xS X (k + 1) + l); unfold Word; omega
        | 3, _ => show Word (xS X n + l) ∧ xS X n ≤ xS X n + l; unfold Word; omega
        | 4, _ => show Word (xS X n + l + 1) ∧ xS X n ≤ xS X n + l + 1; unfold Word; omega
      have hl0 := hl.1
      exact c_below B i k n (xS X n) l (xS X (i + 1)) (xS X (k + 1)) _ _ _ _ (fun q t => hv f l r (cpy X Y q) t) g cX (fun w => Cp m w B f l r (xsL X n) (ysL Y n) (.slice (some ⟨g, 0, none⟩) (xsL X n).length cX) vY) (fun w w' h hb => h.below hb) hi hk (by rw [hlx] at hcc; exact hcc)
        (fun w h => by have := c_last m B f l r _ _ _ vY w (by rw [hlx]; omega) h; rwa [Cp.last] at this)
        (fun w h => ⟨⟨h.cells.2.1, by have := h.cells.2.2.2.1; rw [hlx] at this; exact this⟩, by have := wOwn_cell h.rx (j := i) (by rw [hlx]; exact hi); rwa [xsL_at X hi] at this, by have := wOwn_cell h.rx (j := k) (by rw [hlx]; exact hk); rwa [xsL_at X hk] at this⟩)
        (fun j hj w h => hone i hi _ (htk j hj).1 (htk j hj).2 w h) (fun j hj w h => hone k hk _ (htk j hj).1 (htk j hj).2 w h)
        (u64_id _ ⟨by omega, by omega⟩) (u64_id _ ⟨by omega, by omega⟩) (u64_id _ ⟨by omega, by omega⟩) (u64_id _ ⟨by omega, by omega⟩) rfl rfl w hw
end
end Go.Proofs.Ytknpfcnjnpcboaa
