/- The latest tick at which two neighbours have so much. -/
import Derived.Test.YtejolaifdjcghaaGreatSgL
namespace Go.Proofs.YtejolaifdjcghaaGreat
open Go.RowKit Go.Shelf W
set_option linter.unusedVariables false
set_option maxRecDepth 100000
namespace W
/-- From which tick on, told from x on, all of a list have y. -/
def IsAll (F L R y x : Int) (A : List (Int × Int)) (m : Int) : Prop := x ≤ m ∧ m ≤ 9223372036854775808 ∧ ∀ t, x ≤ t → t < 9223372036854775808 → ((∀ k ∈ A, y ≤ hv F L R k t) ↔ m ≤ t)
theorem IsAll.nil {F L R y x : Int} (hx : x ≤ 9223372036854775808) : IsAll F L R y x [] x := ⟨Int.le_refl _, hx, fun t h1 h2 => ⟨fun _ => h1, fun _ k hk => by cases hk⟩⟩
theorem IsAll.snoc {F L R y x m v : Int} {A : List (Int × Int)} {k : Int × Int} (h : IsAll F L R y x A m) (hk : k.1 ≤ x) (hv' : IsFrom F L R k y v) : IsAll F L R y x (A ++ [k]) (max m v) := by
  obtain ⟨h1, h2, h3⟩ := h
  obtain ⟨g1, g2, g3⟩ := hv'
  refine ⟨by omega, by omega, fun t t1 t2 => ?_⟩
  have a := h3 t t1 t2
  have b := g3 t (by omega) t2
  constructor
  · intro h
    have := a.1 (fun k hk => h k (List.mem_append_left _ hk))
    have := b.1 (h k (by simp))
    omega
  · intro h q hq
    rcases List.mem_append.1 hq with hq | hq
    · exact a.2 (by omega) q hq
    · simp at hq; subst hq; exact b.2 (by omega)
theorem IsAll.unique {F L R y x m m' : Int} {A : List (Int × Int)} (h : IsAll F L R y x A m) (h' : IsAll F L R y x A m') : m = m' := by
  obtain ⟨h1, h2, h3⟩ := h
  obtain ⟨g1, g2, g3⟩ := h'
  have one : ∀ a b : Int, x ≤ a → b ≤ 9223372036854775808 → (∀ t, x ≤ t → t < 9223372036854775808 → (a ≤ t ↔ b ≤ t)) → b ≤ a := fun a b ha hb h => by
    rcases Int.lt_or_le a 9223372036854775808 with h4 | h4
    · exact (h a ha h4).1 (Int.le_refl _)
    · omega
  have e : ∀ t, x ≤ t → t < 9223372036854775808 → (m ≤ t ↔ m' ≤ t) := fun t t1 t2 => (h3 t t1 t2).symm.trans (g3 t t1 t2)
  have := one m m' h1 g2 e
  have := one m' m g1 h2 (fun t t1 t2 => (e t t1 t2).symm)
  omega
end W
theorem latest_far (B : Nat) (f l r F L R x k y : Int) (v : Value) (md : Bool) (w : World) (hy : (4611686018427387904 : Int) < y) :
    Calls Tryz.prog 109 #[.pointer (some ⟨B, 0, none⟩), .agg #[eU F, eU L, eU R], eU y] w fun e w' => e = .returned (eU 9223372036854775808) ∧ Below w.heap.size w w' := by
  go_enter Tryz.func109, Tryz.ntmps109
  go_wp2
  go_ret
  exact ⟨rfl, up2 _ _ _⟩
set_option maxHeartbeats 4000000 in
theorem latest_of (B g o cap : Nat) (K N : List (Int × Int)) (f l r F L R x k y : Int) (md : Bool) (w : World) (hS : SgB w B f l r (.slice (some ⟨g, o, none⟩) K.length cap) x k md) (hy : ¬ (4611686018427387904 : Int) < y) (hx : x ≤ 9223372036854775808)
    (g2 o2 c2 : Nat) (hg2 : g2 < w.heap.size) (hN : N.length ≤ 1000) (hNc : N.length ≤ c2) (hNx : ∀ k ∈ N, k.1 ≤ x)
    (hA : ∀ w' C D, Below w.heap.size w w' → Box w' C #[eU F, eU L, eU R] 24 → Box w' D #[eU y] 22 →
      Calls Tryz.prog 112 #[.pointer (some ⟨B, 0, none⟩), .func (.func 115) #[] #[.pointer (some ⟨C, 0, none⟩), .pointer (some ⟨D, 0, none⟩)]] w' fun e w'' => e = .returned (.slice (some ⟨g2, o2, none⟩) N.length c2) ∧ Below w'.heap.size w' w'')
    (hR : ∀ w', Below w.heap.size w w' → ∀ (j : Nat) (hj : j < N.length), w'.cell? ⟨g2, o2 + j * 2, none⟩ = some (.int .u64 N[j].1) ∧ w'.cell? ⟨g2, o2 + j * 2 + 1, none⟩ = some (.int .u64 N[j].2))
    (hV : ∀ (j : Nat) (hj : j < N.length) w', Calls Tryz.prog 116 #[.agg #[eU N[j].1, eU N[j].2], .agg #[eU F, eU L, eU R], eU y] w' fun e w'' => (∃ v, e = .returned (eU v) ∧ IsFrom F L R N[j] y v) ∧ Below w'.heap.size w' w'') :
    Calls Tryz.prog 109 #[.pointer (some ⟨B, 0, none⟩), .agg #[eU F, eU L, eU R], eU y] w fun e w' => (∃ m, e = .returned (eU m) ∧ IsAll F L R y x N m) ∧ Below w.heap.size w w' := by
  have X1 := (Box.new w 24 #[eU F, eU L, eU R]).alloc (.cells #[eU y] 22)
  have X2 := Box.new (w.alloc (.cells #[eU F, eU L, eU R] 24)) 22 #[eU y]
  have T1 := up2 w (.cells #[eU F, eU L, eU R] 24) (.cells #[eU y] 22)
  simp only [World.size_alloc] at X2
  have b0 : ((w.alloc (.cells #[eU F, eU L, eU R] 24)).alloc (.cells #[eU y] 22)).cell? ⟨w.heap.size + 1, 0, none⟩ = some (.int .u64 y) := X2.cell 0
  have c7 := (hS.below T1).cells.2.2.2.2.2.2.2.1
  have hAw := hA _ _ _ T1 X1 X2
  have hRh := Lib.hid hR
  have hVh := Lib.hid hV
  have hxh := Lib.hid (IsAll.nil (F := F) (L := L) (R := R) (y := y) hx)
  have hNh := Lib.hid hNx
  clear hR hV hA hS hx hNx
  go_enter Tryz.func109, Tryz.ntmps109
  go_wp2_with (go_at_call 112; (with_reducible refine hAw.mono ?_); rintro e w1 ⟨rfl, hb⟩; replace T1 := up T1 hb T1.size; replace X1 := X1.below hb; replace X2 := X2.below hb; clear hb hAw b0 c7)
  go_loopw [8, 22] (fun s8 s22 wr => ∃ (k : Nat) (m : Int), s8 = eU m ∧ IsAll F L R y x (N.take k) m ∧ s22 = .int .i64 k ∧ k ≤ N.length ∧ Box wr w.heap.size #[eU F, eU L, eU R] 24 ∧ Box wr (w.heap.size + 1) #[eU y] 22 ∧ Below w.heap.size w wr) (fun _ s22 _ => N.length - (intOf s22).toNat)
  case atStart => exact ⟨0, x, rfl, hxh.out, rfl, by omega, X1, X2, T1⟩
  case round =>
    clear X1 X2 T1
    obtain ⟨k, m, rfl, hm, rfl, hk, X1, X2, T1⟩ := hrel
    have hmh := Lib.hid hm
    clear hm
    by_cases hlt : k < N.length
    · have i1 : (k : Int) < (N.length : Int) := by omega
      have i2 : (0 : Int) ≤ (k : Int) := by omega
      have i3 : (N.length : Int) ≤ (c2 : Int) := by omega
      obtain ⟨a, ha⟩ : ∃ a, N[k] = a := ⟨_, rfl⟩
      obtain ⟨z0, z1⟩ := hRh.out wr T1 k hlt
      have hVk := hVh.out k hlt
      have hka := hNh.out N[k] (List.getElem_mem hlt)
      rw [ha] at z0 z1 hVk hka
      have e1 : ∀ v, IsFrom F L R a y v → IsAll F L R y x (N.take (k + 1)) (max m v) := fun v hv => by
        rw [List.take_succ_eq_append_getElem hlt, ha]
        exact hmh.out.snoc hka hv
      have e1h := Lib.hid e1
      clear e1 ha hka
      replace T1 := T1.alloc T1.size (.cells #[.int .u64 a.1, .int .u64 a.2] 136)
      replace X1 := X1.alloc (.cells #[.int .u64 a.1, .int .u64 a.2] 136)
      replace X2 := X2.alloc (.cells #[.int .u64 a.1, .int .u64 a.2] 136)
      obtain ⟨y0, y1, y2⟩ := X1.three
      have d0 : (wr.alloc (.cells #[.int .u64 a.1, .int .u64 a.2] 136)).cell? ⟨w.heap.size + 1, 0, none⟩ = some (.int .u64 y) := X2.cell 0
      go_wp2_with (go_at_call 116; (with_reducible refine (hVk _).mono ?_); rintro e w2 ⟨⟨v, rfl, hv⟩, hb⟩; replace hv := Lib.hid (e1h.out v hv); replace T1 := up T1 hb T1.size; replace X1 := X1.below hb; replace X2 := X2.below hb; clear hb; obtain ⟨mx, hmx⟩ : ∃ mx, max m v = mx := ⟨_, rfl⟩)
      go_roundw
      case rel => exact ⟨k + 1, mx, rfl, by rw [← hmx]; exact hv.out, by go_num, by omega, X1, X2, T1⟩
      case measure => simp [intOf]; omega
    · obtain rfl : k = N.length := by omega
      have hm := hmh.out
      rw [List.take_length] at hm
      replace hm := Lib.hid hm
      have i1 : ¬ (N.length : Int) < (N.length : Int) := by omega
      go_wp2
      go_ret
      exact ⟨⟨m, rfl, hm.out⟩, T1⟩
end Go.Proofs.YtejolaifdjcghaaGreat
