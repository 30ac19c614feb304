/- The document's copies behind n starts: what their calls tell, by the starts. -/
import Derived.Test.YtdhfblcheoahaaaCpL
namespace Go.Proofs.Ytdhfblcheoahaaa
open Go.RowKit Go.Shelf W
set_option linter.unusedVariables false
set_option maxRecDepth 100000
namespace W
def xsL (X : Nat → Int) (n : Nat) : List Int := (List.range n).map (fun k => xS X (k + 1))
def ysL (Y : Nat → Int) (n : Nat) : List Int := (List.range n).map (fun k => min (Y k) 4611686018427387904)
theorem xsL_len (X : Nat → Int) (n : Nat) : (xsL X n).length = n := by simp [xsL]
theorem ysL_len (X : Nat → Int) (n : Nat) : (ysL X n).length = n := by simp [ysL]
theorem xsL_succ (X : Nat → Int) (n : Nat) : xsL X (n + 1) = xsL X n ++ [xS X (n + 1)] := by simp [xsL, List.range_succ]
theorem ysL_succ (Y : Nat → Int) (n : Nat) : ysL Y (n + 1) = ysL Y n ++ [min (Y n) 4611686018427387904] := by simp [ysL, List.range_succ]
theorem xsL_at (X : Nat → Int) {n k : Nat} (h : k < n) : (xsL X n).getD k 0 = xS X (k + 1) := by simp [xsL, List.getD, h]
theorem ysL_at (Y : Nat → Int) {n k : Nat} (h : k < n) : (ysL Y n).getD k 0 = min (Y k) 4611686018427387904 := by simp [ysL, List.getD, h]
theorem minI_le (G : Nat → Int) : ∀ {n k : Nat}, k < n → minI G n ≤ G k
  | n + 1, k, h => by
    show min _ _ ≤ _
    rcases Nat.lt_or_ge k n with h1 | h1
    · exact Int.le_trans (Int.min_le_left _ _) (minI_le G h1)
    · obtain rfl : k = n := by omega
      exact Int.min_le_right _ _
theorem minI_ex (G : Nat → Int) : ∀ n : Nat, minI G n = 170141183460469231731687303715884105728 ∨ ∃ k, k < n ∧ minI G n = G k
  | 0 => .inl rfl
  | n + 1 => by
    rcases Int.le_total (minI G n) (G n) with h | h
    · have e : minI G (n + 1) = minI G n := Int.min_eq_left h
      rcases minI_ex G n with e1 | ⟨k, hk, e1⟩
      · exact .inl (e.trans e1)
      · exact .inr ⟨k, by omega, e.trans e1⟩
    · exact .inr ⟨n, by omega, Int.min_eq_right h⟩
theorem minI_ex' (G : Nat → Int) {n : Nat} (hn : 0 < n) (h : ∀ k, k < n → G k < 170141183460469231731687303715884105728) : ∃ k, k < n ∧ minI G n = G k := by
  rcases minI_ex G n with e | e
  · have := minI_le G hn
    have := h 0 hn
    omega
  · exact e
theorem stp_cap {y c : Int} (hy : 0 ≤ y) (hc : 0 ≤ c) : stp (min y 4611686018427387904 + c) = stp (y + c) := by
  have h1 := stp_or (min y 4611686018427387904 + c); have h2 := stp_or (y + c)
  omega
end W
theorem Cp.last {X : Nat → Int} (n : Nat) : lastOf (xsL X n) = xS X n := by
  unfold lastOf
  rw [xsL_len]
  rcases Nat.eq_zero_or_pos n with h | h
  · subst h; rfl
  · rw [xsL_at X (by omega), show n - 1 + 1 = n by omega]
/-- Block B holds the document's copies of a curve behind n starts. -/
def Rc (w : World) (B : Nat) (f l r : Int) (X Y : Nat → Int) (n : Nat) : Prop := ∃ vX vY, Cp B w B f l r (xsL X n) (ysL Y n) vX vY
theorem Rc.below {W w : World} {B : Nat} {f l r : Int} {X Y : Nat → Int} {n : Nat} (h : Rc W B f l r X Y n) (hb : Below W.heap.size W w) : Rc w B f l r X Y n := by
  obtain ⟨vX, vY, h⟩ := h
  exact ⟨vX, vY, h.below hb⟩
theorem Rc.but {W w : World} {B B' : Nat} {f l r : Int} {X Y : Nat → Int} {n : Nat} {u : Array Value} {t : TypeId} (h : Rc W B f l r X Y n) (hb : But B' W w) (b : Box W B' u t) (h1 : t ≠ 22) (h2 : t ≠ 62) : Rc w B f l r X Y n := by
  obtain ⟨vX, vY, h⟩ := h
  exact ⟨vX, vY, h.but hb b h1 h2⟩
theorem Rc.lt {W : World} {B : Nat} {f l r : Int} {X Y : Nat → Int} {n : Nat} (h : Rc W B f l r X Y n) : B < W.heap.size := by
  obtain ⟨vX, vY, h⟩ := h
  exact h.box.lt
theorem Rc.len {W : World} {B : Nat} {f l r : Int} {X Y : Nat → Int} {n : Nat} (h : Rc W B f l r X Y n) : ∃ a cap, W.cell? ⟨B, 3, none⟩ = some (.slice a n cap) := by
  obtain ⟨vX, vY, h⟩ := h
  obtain ⟨a, cap, rfl, _⟩ := wOwn_len h.rx
  have := h.cells.2.2.2.1
  rw [xsL_len] at this
  exact ⟨a, cap, this⟩
section
variable {f l r : Int} {X Y : Nat → Int} (hc : CvB f l r) (hY : ∀ k, 0 ≤ Y k)
theorem rc_last (B n : Nat) (w : World) (hn : n ≤ 1000) (h : Rc w B f l r X Y n) : Calls Try.prog 30 #[.pointer (some ⟨B, 0, none⟩)] w fun e w' => e = .returned (eU (xS X n)) ∧ Below w.heap.size w w' := by
  obtain ⟨vX, vY, h⟩ := h
  have := c_last B B f l r _ _ vX vY w (by rw [xsL_len]; omega) h
  rwa [Cp.last] at this
theorem rc_start (B n : Nat) (w : World) (hn : n ≤ 900) (h : Rc w B f l r X Y n) :
    Calls Try.prog 14 #[.pointer (some ⟨B, 0, none⟩), eU (X n), eU (Y n)] w fun e w' => e = .returned (.tuple #[]) ∧ Rc w' B f l r X Y (n + 1) ∧ Below B w w' ∧ ∀ k u t, Box w k u t → t ≠ 22 → t ≠ 62 → Box w' k u t := by
  have hlt := h.lt
  obtain ⟨vX, vY, h⟩ := h
  refine (c_start B B f l r (X n) (Y n) _ _ (xS X (n + 1)) (xsL X n) (ysL Y n) vX vY w (by rw [xsL_len]; omega) (by rw [ysL_len]; omega) (by omega) (Nat.le_refl _) rfl (by rw [Cp.last, xS_succ]) rfl h).mono ?_
  rintro e w' ⟨rfl, ⟨uX, uY, h1⟩, h2, h3⟩
  refine ⟨rfl, ⟨uX, uY, ?_⟩, h2, h3⟩
  rw [xsL_succ, ysL_succ]
  exact h1
def oneV (f l r : Int) (X Y : Nat → Int) (t : Int) (k : Nat) : Int := min (Y k) 4611686018427387904 + cW f l r (t - xS X (k + 1))
include hc hY in
theorem oneV_ok {t : Int} (ht : Word t) (k : Nat) (hx : xS X (k + 1) ≤ t) : 0 ≤ oneV f l r X Y t k ∧ oneV f l r X Y t k < 170141183460469231731687303715884105728 := by
  obtain ⟨l0, o0, o1, r0, rf, f1⟩ := hc.over
  have hxn := xS_nn X (k + 1)
  have hd : 0 ≤ t - xS X (k + 1) := by omega
  have := cW_nn (F := f) (L := l) (R := r) (by omega) r0 (by omega) hd
  have h2 := cW_two (F := f) (L := l) (R := r) (by omega) hd rf
  have h3 : f * (t - xS X (k + 1)) ≤ 1048576 * 18446744073709551616 := by
    refine Int.le_trans (Int.mul_le_mul_of_nonneg_right f1 hd) (Int.mul_le_mul_of_nonneg_left ?_ (by omega))
    have := ht.2; omega
  have := hY k
  unfold oneV
  omega
include hc hY in
theorem rc_one (B n k : Nat) (t : Int) (w : World) (ht : Word t) (hx : xS X n ≤ t) (hk : k < n) (h : Rc w B f l r X Y n) :
    Calls Try.prog 60 #[.pointer (some ⟨B, 0, none⟩), .int .i64 k, eU t] w fun e w' => e = .returned (.agg #[eU (hiW (oneV f l r X Y t k)), eU (loW (oneV f l r X Y t k))]) ∧ Below w.heap.size w w' := by
  obtain ⟨vX, vY, h⟩ := h
  have hxk : xS X (k + 1) ≤ t := Int.le_trans (xS_le X (by omega)) hx
  obtain ⟨v0, v1⟩ := oneV_ok hc hY ht k hxk
  obtain ⟨l0, o0, o1, r0, rf, f1⟩ := hc.over
  have hxn := xS_nn X (k + 1)
  have hd : Word (t - xS X (k + 1)) := ⟨by omega, by have := ht.2; omega⟩
  have hYk := hY k
  have hyw : Word (min (Y k) 4611686018427387904) := ⟨by omega, by omega⟩
  have hcn := cW_nn (F := f) (L := l) (R := r) (by omega) r0 (by omega) hd.1
  refine c_one B B f l r _ _ vX vY w k t (t - xS X (k + 1)) (xS X (k + 1)) (min (Y k) 4611686018427387904) _ _ _ _ (by rw [xsL_len]; exact hk) (by rw [ysL_len]; exact hk) (xsL_at X hk) (ysL_at Y hk) (u64_same _ ⟨hd.1, hd.2⟩) (fun w => kWide_any f l r _ w hc.1 hc.2.1 hc.2.2.1 hd) (fun w => ?_) h
  have hP := rPlus_any (hiW (cW f l r (t - xS X (k + 1)))) (loW (cW f l r (t - xS X (k + 1)))) 0 (min (Y k) 4611686018427387904) w (hiW_word ⟨hcn, by unfold oneV at v1; omega⟩) (loW_word _) ⟨by omega, by omega⟩ hyw
  obtain ⟨p1, p2, p3⟩ := @pOk (hiW (cW f l r (t - xS X (k + 1)))) (loW (cW f l r (t - xS X (k + 1)))) 0 (min (Y k) 4611686018427387904) (hiW (oneV f l r X Y t k)) (loW (oneV f l r X Y t k)) (by rw [V_hl, V_hl]; unfold oneV V; omega) (loW_word _) (hiW_word ⟨v0, by omega⟩)
  rw [p1, p2, p3] at hP
  exact hP
include hc hY in
theorem rc_at (B n : Nat) (t : Int) (w : World) (ht : Word t) (hn : 0 < n) (hn2 : n ≤ 1000) (h : Rc w B f l r X Y n) :
    Calls Try.prog 31 #[.pointer (some ⟨B, 0, none⟩), eU t] w fun e w' => e = .returned (eU (rA (hS f 0 X Y n) f (hS r ((f - r) * l) X Y n) r (xS X n) t)) ∧ Below w.heap.size w w' := by
  obtain ⟨l0, o0, o1, r0, rf, f1⟩ := hc.over
  have hx0 := xS_nn X n
  have hx1 := xS_never X n
  have hm : Word (max t (xS X n)) := by have := ht.1; have := ht.2; unfold Word; omega
  obtain ⟨m, hmm⟩ : ∃ m, max t (xS X n) = m := ⟨_, rfl⟩
  have hxm : xS X n ≤ m := by omega
  rw [hmm] at hm
  have hb : ∀ k, k < n → 0 ≤ oneV f l r X Y m k ∧ oneV f l r X Y m k < 170141183460469231731687303715884105728 := fun k hk => oneV_ok hc hY hm k (Int.le_trans (xS_le X (by omega)) hxm)
  have e : rA (hS f 0 X Y n) f (hS r ((f - r) * l) X Y n) r (xS X n) t = stp (minV (oneV f l r X Y m) (n - 1)) := by
    unfold rA
    rw [hmm]
    have key : ∀ k, k < n → stp (oneV f l r X Y m k) = stp (Y k + cW f l r (xS X n + (m - xS X n) - xS X (k + 1))) := fun k hk => by
      have hxk := xS_le X (show k + 1 ≤ n by omega)
      unfold oneV
      rw [stp_cap (hY k) (cW_nn (by omega) r0 (by omega) (by omega)), show xS X n + (m - xS X n) - xS X (k + 1) = m - xS X (k + 1) by omega]
    obtain ⟨k, hk, ek⟩ := run_ex (F := f) (L := l) (R := r) (X := X) (Y := Y) (d := m - xS X n) (by omega) r0 rf hY (by omega) hn
    obtain ⟨j, hj, ej⟩ := minV_ex (oneV f l r X Y m) (n - 1)
    have h1 := run_le (F := f) (L := l) (R := r) (X := X) (Y := Y) (d := m - xS X n) (by omega) r0 rf hY (by omega) (show j < n by omega)
    have h2 := minV_le (oneV f l r X Y m) (show k ≤ n - 1 by omega)
    have h3 := stp_mono h2
    rw [key k hk, ← ek] at h3
    rw [← key j (by omega), ← ej] at h1
    omega
  rw [e]
  obtain ⟨j, hj, ej⟩ := minV_ex (oneV f l r X Y m) (n - 1)
  have hbj := hb j (by omega)
  rw [← ej] at hbj
  obtain ⟨a, cap, c3⟩ := h.len
  refine c_at B n t (xS X n) m _ a cap w hn c3 hmm (rc_last B n w hn2 h) (fun w' T => c_wide B n m (oneV f l r X Y m) (fun w => Rc w B f l r X Y n) (fun w w' h hb => h.below hb) (fun w h => h.len) (fun k w hk h => rc_one hc hY B n k m w hm hxm hk h) (fun k hk => ⟨(hb k hk).1, by have := (hb k hk).2; omega⟩) hn hn2 w' (h.below T)) (fun w => ?_)
  have := rStop_any (hiW (minV (oneV f l r X Y m) (n - 1))) (loW (minV (oneV f l r X Y m) (n - 1))) w (hiW_word ⟨hbj.1, by omega⟩) (loW_word _)
  rw [V_hl] at this
  exact this
include hc hY in
theorem rc_lines (B n : Nat) (w : World) (hn : 0 < n) (hn2 : n ≤ 1000) (h : Rc w B f l r X Y n) :
    Calls Try.prog 29 #[.pointer (some ⟨B, 0, none⟩)] w fun e w' => e = .returned (.tuple #[eU (hS f 0 X Y n), eU (hS r ((f - r) * l) X Y n)]) ∧ Below w.heap.size w w' := by
  obtain ⟨l0, o0, o1, r0, rf, f1⟩ := hc.over
  have hx0 := xS_nn X n
  have hx1 := xS_never X n
  have hdk : ∀ k, k < n → 0 ≤ xS X n - xS X (k + 1) ∧ xS X n - xS X (k + 1) ≤ 9223372036854775808 := fun k hk => by
    have h1 := xS_le X (show k + 1 ≤ n by omega)
    have h2 := xS_nn X (k + 1)
    omega
  have hy : ∀ k, 0 ≤ min (Y k) 4611686018427387904 ∧ min (Y k) 4611686018427387904 ≤ 4611686018427387904 := fun k => by have := hY k; omega
  have hfd : ∀ k, k < n → 0 ≤ f * (xS X n - xS X (k + 1)) ∧ f * (xS X n - xS X (k + 1)) ≤ 9671406556917033397649408 := fun k hk => by
    obtain ⟨h1, h2⟩ := hdk k hk
    refine ⟨Int.mul_nonneg (by omega) h1, Int.le_trans (Int.mul_le_mul_of_nonneg_right f1 h1) (Int.le_trans (Int.mul_le_mul_of_nonneg_left h2 (by omega)) (by decide))⟩
  have hrd : ∀ k, k < n → 0 ≤ r * (xS X n - xS X (k + 1)) ∧ r * (xS X n - xS X (k + 1)) ≤ 9671406556917033397649408 := fun k hk => by
    obtain ⟨h1, h2⟩ := hdk k hk
    refine ⟨Int.mul_nonneg r0 h1, Int.le_trans (Int.mul_le_mul_of_nonneg_right (show r ≤ 1048576 by omega) h1) (Int.le_trans (Int.mul_le_mul_of_nonneg_left h2 (by omega)) (by decide))⟩
  have hdw : ∀ k, k < n → Word (xS X n - xS X (k + 1)) := fun k hk => by have := hdk k hk; unfold Word; omega
  have hyw : ∀ k, Word (min (Y k) 4611686018427387904) := fun k => by have := hy k; unfold Word; omega
  obtain ⟨GA, hGA⟩ : ∃ G : Nat → Int, ∀ k, G k = min (Y k) 4611686018427387904 + f * (xS X n - xS X (k + 1)) := ⟨_, fun _ => rfl⟩
  obtain ⟨GQ, hGQ⟩ : ∃ G : Nat → Int, ∀ k, G k = min (Y k) 4611686018427387904 + r * (xS X n - xS X (k + 1)) := ⟨_, fun _ => rfl⟩
  obtain ⟨GB, hGB⟩ : ∃ G : Nat → Int, ∀ k, G k = GQ k + (f - r) * l := ⟨_, fun _ => rfl⟩
  have bA : ∀ k, k < n → 0 ≤ GA k ∧ GA k < 170141183460469231731687303715884105728 := fun k hk => by have := hfd k hk; have := hy k; rw [hGA]; omega
  have bQ : ∀ k, k < n → 0 ≤ GQ k ∧ GQ k < 85070591730234615865843651857942052864 := fun k hk => by have := hrd k hk; have := hy k; rw [hGQ]; omega
  have bB : ∀ k, k < n → 0 ≤ GB k ∧ GB k < 170141183460469231731687303715884105728 := fun k hk => by have := bQ k hk; rw [hGB]; omega
  have plus : ∀ (a b : Int) (w : World), 0 ≤ a → 0 ≤ b → a + b < 340282366920938463463374607431768211456 → Calls Try.prog 47 #[.agg #[eU (hiW a), eU (loW a)], .agg #[eU (hiW b), eU (loW b)]] w fun e w' => e = .returned (.tuple #[.agg #[eU (hiW (a + b)), eU (loW (a + b))], eI 0]) ∧ Below w.heap.size w w' := fun a b w ha hb hab => by
    have hP := rPlus_any (hiW a) (loW a) (hiW b) (loW b) w (hiW_word ⟨ha, by omega⟩) (loW_word _) (hiW_word ⟨hb, by omega⟩) (loW_word _)
    obtain ⟨p1, p2, p3⟩ := @pOk (hiW a) (loW a) (hiW b) (loW b) (hiW (a + b)) (loW (a + b)) (by rw [V_hl, V_hl, V_hl]) (loW_word _) (hiW_word ⟨by omega, hab⟩)
    rw [p1, p2, p3] at hP
    exact hP
  have small : ∀ y : Int, Word y → hiW y = 0 ∧ loW y = y := fun y h => by unfold Word at h; unfold hiW loW; omega
  have mul : ∀ (a b : Int) (w : World), Word a → Word b → Calls Try.prog 46 #[eU a, eU b] w fun e w' => e = .returned (.agg #[eU (hiW (a * b)), eU (loW (a * b))]) ∧ Below w.heap.size w w' := fun a b w ha hb => rMul_any a b w ha hb
  have eA : stp (minI GA n) = hS f 0 X Y n := by
    obtain ⟨j, hj, ej⟩ := minI_ex' GA hn (fun k hk => (bA k hk).2)
    obtain ⟨k, hk, ek⟩ := hS_ex (s := f) (o := 0) (X := X) (Y := Y) (by omega) (by omega) hY n hn
    have key : ∀ k, k < n → stp (GA k) = stp (Y k + 0 + f * (xS X n - xS X (k + 1))) := fun k hk => by
      rw [hGA, stp_cap (hY k) (hfd k hk).1, Int.add_zero]
    have h1 := hS_le (s := f) (o := 0) (X := X) (Y := Y) (by omega) (by omega) hY n j hj
    have h2 := stp_mono (minI_le GA hk)
    rw [key k hk, ← ek] at h2
    rw [← key j hj, ← ej] at h1
    omega
  have eB : stp (minI GB n) = hS r ((f - r) * l) X Y n := by
    obtain ⟨j, hj, ej⟩ := minI_ex' GB hn (fun k hk => (bB k hk).2)
    obtain ⟨k, hk, ek⟩ := hS_ex (s := r) (o := (f - r) * l) (X := X) (Y := Y) r0 (by omega) hY n hn
    have key : ∀ k, k < n → stp (GB k) = stp (Y k + (f - r) * l + r * (xS X n - xS X (k + 1))) := fun k hk => by
      have := hrd k hk
      rw [hGB, hGQ, Int.add_assoc, stp_cap (hY k) (by omega)]
      congr 1
      omega
    have h1 := hS_le (s := r) (o := (f - r) * l) (X := X) (Y := Y) r0 (by omega) hY n j hj
    have h2 := stp_mono (minI_le GB hk)
    rw [key k hk, ← ek] at h2
    rw [← key j hj, ← ej] at h1
    omega
  have mA : 0 ≤ minI GA n ∧ minI GA n < 340282366920938463463374607431768211456 := by
    obtain ⟨j, hj, ej⟩ := minI_ex' GA hn (fun k hk => (bA k hk).2)
    have := bA j hj
    omega
  have mB : 0 ≤ minI GB n ∧ minI GB n < 340282366920938463463374607431768211456 := by
    obtain ⟨j, hj, ej⟩ := minI_ex' GB hn (fun k hk => (bB k hk).2)
    have := bB j hj
    omega
  have hRc := h
  have hlt := h.lt
  obtain ⟨vX, vY, h⟩ := h
  obtain ⟨gX, cX, rfl, hcX, _, hgX⟩ := wOwn_some h.rx (by rw [xsL_len]; omega)
  obtain ⟨gY, cY, rfl, hcY, _, hgY⟩ := wOwn_some h.ry (by rw [ysL_len]; omega)
  have hC := fun w' (T : Below w.heap.size w w') => (h.below T).cells
  have hX := fun (k : Nat) (hk : k < n) => wOwn_cell h.rx (j := k) (by rw [xsL_len]; exact hk)
  have hYc := fun (k : Nat) (hk : k < n) => wOwn_cell h.ry (j := k) (by rw [ysL_len]; exact hk)
  rw [xsL_len] at hC hcX
  rw [ysL_len] at hC hcY
  refine c_lines B n gX cX gY cY f l r (xS X n) (f - r) (hiW ((f - r) * l)) (loW ((f - r) * l)) (hS f 0 X Y n) (hS r ((f - r) * l) X Y n) (fun k => xS X (k + 1)) (fun k => min (Y k) 4611686018427387904) (fun k => xS X n - xS X (k + 1))
    (fun k => hiW (f * (xS X n - xS X (k + 1)))) (fun k => loW (f * (xS X n - xS X (k + 1)))) (fun k => hiW (r * (xS X n - xS X (k + 1)))) (fun k => loW (r * (xS X n - xS X (k + 1)))) (fun k => hiW (GQ k)) (fun k => loW (GQ k)) GA GB w hn hn2 hcX hcY (u64_same _ ⟨by omega, by omega⟩)
    hC (fun k w' hk T => ⟨((T.cell (p := ⟨gX, k, none⟩) hgX).trans (hX k hk)).trans (by rw [xsL_at X hk]), ((T.cell (p := ⟨gY, k, none⟩) hgY).trans (hYc k hk)).trans (by rw [ysL_at Y hk])⟩)
    (fun w' T => rc_last B n w' hn2 (hRc.below T)) (fun k hk => u64_same _ ⟨(hdw k hk).1, (hdw k hk).2⟩)
    (fun w => mul _ _ w ⟨by omega, by omega⟩ hc.2.1) (fun k w hk => mul _ _ w hc.1 (hdw k hk)) (fun k w hk => mul _ _ w hc.2.2.1 (hdw k hk))
    (fun k w hk => ?_) (fun k w hk => ?_) (fun k w hk => ?_) (fun w => ?_) (fun w => ?_)
  · have := plus (min (Y k) 4611686018427387904) (f * (xS X n - xS X (k + 1))) w (hy k).1 (hfd k hk).1 (by have := (hy k).2; have := (hfd k hk).2; omega)
    rw [(small _ (hyw k)).1, (small _ (hyw k)).2, ← hGA] at this
    exact this
  · have := plus (min (Y k) 4611686018427387904) (r * (xS X n - xS X (k + 1))) w (hy k).1 (hrd k hk).1 (by have := (hy k).2; have := (hrd k hk).2; omega)
    rw [(small _ (hyw k)).1, (small _ (hyw k)).2, ← hGQ] at this
    exact this
  · have := plus (GQ k) ((f - r) * l) w (bQ k hk).1 (by omega) (by have := bQ k hk; omega)
    rw [← hGB] at this
    exact this
  · have := rStop_any (hiW (minI GA n)) (loW (minI GA n)) w (hiW_word mA) (loW_word _)
    rw [V_hl, eA] at this
    exact this
  · have := rStop_any (hiW (minI GB n)) (loW (minI GB n)) w (hiW_word mB) (loW_word _)
    rw [V_hl, eB] at this
    exact this
include hc hY in
theorem rc_reach (B n : Nat) (y v : Int) (w : World) (hn : 0 < n) (hn2 : n ≤ 1000) (hv : IsRR (hS f 0 X Y n) f (hS r ((f - r) * l) X Y n) r (xS X n) y v) (h : Rc w B f l r X Y n) :
    Calls Try.prog 32 #[.pointer (some ⟨B, 0, none⟩), eU y] w fun e w' => e = .returned (eU v) ∧ Below w.heap.size w w' := by
  obtain ⟨l0, o0, o1, r0, rf, f1⟩ := hc.over
  have hx0 := xS_nn X n
  have hx1 := xS_never X n
  obtain ⟨a, cap, c3⟩ := h.len
  have hA := fun t w' (ht : Word t) (T : Below w.heap.size w w') => rc_at hc hY B n t w' ht hn hn2 (h.below T)
  have uq := fun v' h' => IsRR.unique (p := hS f 0 X Y n) (F := f) (q := hS r ((f - r) * l) X Y n) (R := r) (x := xS X n) (y := y) (r := v') (r' := v) (by omega) r0 h' hv
  generalize hS f 0 X Y n = p at hA uq hv
  generalize hS r ((f - r) * l) X Y n = q at hA uq hv
  generalize hx : xS X n = x at hA uq hv hx0 hx1
  rcases Int.lt_or_le (rA p f q r x 9223372036854775807) y with hl | hl
  · have e : 9223372036854775808 = v := uq _ (.inl ⟨rfl, by
      rcases Int.lt_or_le x 9223372036854775808 with h1 | h1
      · right
        unfold rA at hl
        rwa [show max 9223372036854775807 x - x = 9223372036854775807 - x by omega] at hl
      · left; omega⟩)
    rw [← e]
    exact c_reach_far B n y _ a cap w hn c3 hl (hA _ w ⟨by omega, by omega⟩ (Below.refl _ _))
  · refine (c_reach B n x y 0 (rA p f q r x) a cap w hn c3 hx0 hx1 hl (fun t w' ht T => hA t w' ⟨by omega, by omega⟩ T) (fun w' T => by rw [← hx]; exact rc_last B n w' hn2 (h.below T))).mono ?_
    rintro e w' ⟨⟨z, rfl, z1, z2, z3⟩, T⟩
    refine ⟨?_, T⟩
    rw [uq z ?_]
    rcases z3 with ⟨z3, z4⟩ | ⟨z3, z4, z5⟩
    · exact .inl ⟨z3, .inl z4⟩
    · right
      unfold rA at z4 z5
      refine ⟨z1, z3, by rwa [show max z x - x = z - x by omega] at z4, ?_⟩
      rcases z5 with z5 | z5
      · exact .inl z5
      · rcases Int.lt_or_le x z with q1 | q1
        · right
          rwa [show max (z - 1) x - x = z - 1 - x by omega] at z5
        · left; omega
end
end Go.Proofs.Ytdhfblcheoahaaa
