/- A slice of packets that came in: its cells, four a packet; what packet.All answers of it. No condition. -/
import Derived.Test.YtdmgalcfgignpaaDoorPkO
import Derived.Deep.Slices
import Derived.Deep.Fields
import Derived.ChangeSame
import Derived.OpenShut
namespace Go.Proofs.YtdmgalcfgignpaaDoor
open Go.ChangeShapes Go.WideShapes Go.Deep Go.RowKit W
set_option linter.unusedVariables false
theorem pk_u64 {x : Int} (h : (Lit.int .u64 x).wf = true) : 0 ≤ x ∧ x < 18446744073709551616 := by
  simp [Lit.wf, IntKind.min, IntKind.max, IntKind.bits, IntKind.signed] at h
  omega
theorem pk_i64 {x : Int} (h : (Lit.int .i64 x).wf = true) : -9223372036854775808 ≤ x ∧ x < 9223372036854775808 := by
  simp [Lit.wf, IntKind.min, IntKind.max, IntKind.bits, IntKind.signed] at h
  omega
/-- So many packets lie in a row. -/
def PkRow (w : World) (b o n : Nat) (xs : Nat → Pk) : Prop :=
  b < w.heap.size ∧ ∀ i, i < n → w.cell? ⟨b, o + i * 4, none⟩ = some (.int .u64 (xs i).id) ∧ w.cell? ⟨b, o + i * 4 + 1, none⟩ = some (.int .i64 (xs i).cls) ∧ w.cell? ⟨b, o + i * 4 + 2, none⟩ = some (.int .i64 (xs i).len) ∧ w.cell? ⟨b, o + i * 4 + 3, none⟩ = some (.int .u64 (xs i).tick)
theorem PkRow.below {W w : World} {b o n : Nat} {xs : Nat → Pk} (h : PkRow W b o n xs) (hb : Below W.heap.size W w) : PkRow w b o n xs :=
  ⟨Nat.lt_of_lt_of_le h.1 hb.size, fun i hi => by
    obtain ⟨a, b', c, d⟩ := h.2 i hi
    exact ⟨(hb.cell (p := ⟨b, _, none⟩) h.1).trans a, (hb.cell (p := ⟨b, _, none⟩) h.1).trans b', (hb.cell (p := ⟨b, _, none⟩) h.1).trans c, (hb.cell (p := ⟨b, _, none⟩) h.1).trans d⟩⟩
/-- A slice of packets: nil, empty, or a row in memory. -/
def IsPks (w : World) (a : Option Addr) (n c : Nat) (xs : Nat → Pk) : Prop :=
  n ≤ c ∧ (n = 0 ∨ ∃ b o, a = some ⟨b, o, none⟩ ∧ PkRow w b o n xs)
theorem IsPks.below {W w : World} {a : Option Addr} {n c : Nat} {xs : Nat → Pk} (h : IsPks W a n c xs) (hb : Below W.heap.size W w) : IsPks w a n c xs := by
  obtain ⟨h2, h3⟩ := h
  refine ⟨h2, ?_⟩
  rcases h3 with h3 | ⟨b, o, e, h3⟩
  · exact .inl h3
  · exact .inr ⟨b, o, e, h3.below hb⟩
section
variable {H : Type} {enc : TypeId × Value → H} {P : Program} {w : World} {base : Nat} {spare : Nat → Bool} {held : Bool}
theorem open_pk1 {e : TypeId} {f0 f1 f2 f3 : Field} {n : Nat} {a : Addr} {cs : List Value} {x : DataW H × List MemPlace} (he : P.underlying e = some (.struct #[f0, f1, f2, f3])) (u0 : P.underlying f0.type = some (.int .u64)) (u1 : P.underlying f1.type = some (.int .i64)) (u2 : P.underlying f2.type = some (.int .i64)) (u3 : P.underlying f3.type = some (.int .u64))
    (o0 : f0.offset = 0 ∧ P.cellsOf f0.type = 1) (o1 : f1.offset = 1 ∧ P.cellsOf f1.type = 1) (o2 : f2.offset = 2 ∧ P.cellsOf f2.type = 1) (o3 : f3.offset = 3 ∧ P.cellsOf f3.type = 1)
    (hc : w.cells? base a 4 = some cs) (h : DataW.trod enc P w base spare held n e cs = some x) :
    ∃ v : Pk, v.ok ∧ w.cell? (a.add 0) = some (.int .u64 v.id) ∧ w.cell? (a.add 1) = some (.int .i64 v.cls) ∧ w.cell? (a.add 2) = some (.int .i64 v.len) ∧ w.cell? (a.add 3) = some (.int .u64 v.tick) := by
  obtain ⟨_, hl, hat⟩ := World.cells?_some hc
  obtain ⟨ys, m, _, _, _, hys, hf⟩ := DataW.trod_struct he h
  match cs, hl with
  | [c0, c1, c2, c3], _ =>
    match ys, hys with
    | [y0, y1, y2, y3], _ =>
      have g0 := hf 0 f0 rfl
      have g1 := hf 1 f1 rfl
      have g2 := hf 2 f2 rfl
      have g3 := hf 3 f3 rfl
      rw [o0.1, o0.2] at g0
      rw [o1.1, o1.2] at g1
      rw [o2.1, o2.2] at g2
      rw [o3.1, o3.2] at g3
      obtain ⟨n0, e0, _, w0⟩ := DataW.trod_int u0 (x := y0) (by simpa using g0)
      obtain ⟨n1, e1, _, w1⟩ := DataW.trod_int u1 (x := y1) (by simpa using g1)
      obtain ⟨n2, e2, _, w2⟩ := DataW.trod_int u2 (x := y2) (by simpa using g2)
      obtain ⟨n3, e3, _, w3⟩ := DataW.trod_int u3 (x := y3) (by simpa using g3)
      simp at e0 e1 e2 e3
      subst e0 e1 e2 e3
      exact ⟨⟨n0, n1, n2, n3⟩, ⟨pk_u64 w0, pk_i64 w1, pk_i64 w2, pk_u64 w3⟩, hat 0 (by omega), hat 1 (by omega), hat 2 (by omega), hat 3 (by omega)⟩
/-- The slice: packets. -/
theorem open_pks {t e : TypeId} {f0 f1 f2 f3 : Field} {fuel : Nat} {cs : List Value} {x : DataW H × List MemPlace} (ht : P.underlying t = some (.slice e)) (he : P.underlying e = some (.struct #[f0, f1, f2, f3])) (u0 : P.underlying f0.type = some (.int .u64)) (u1 : P.underlying f1.type = some (.int .i64)) (u2 : P.underlying f2.type = some (.int .i64)) (u3 : P.underlying f3.type = some (.int .u64))
    (hone : oneCellFields P #[f0, f1, f2, f3] = true) (hC : P.cellsOf e = 4) (h : DataW.trod enc P w base spare held fuel t cs = some x) :
    ∃ (a : Option Addr) (n c : Nat) (xs : Nat → Pk), cs = [.slice a n c] ∧ IsPks w a n c xs ∧ (∀ i, (xs i).ok) ∧ c ≤ maxLen ∧ (a = none → n = 0 ∧ c = 0) := by
  have z : Pk.zero.ok := Pk.zero_ok
  rcases open_slice ht h with ⟨h0, _⟩ | ⟨a, len, cap, m, n, D, Pl, hcs, hb, hl, hm, hmm, hx, hi⟩
  · exact ⟨none, 0, 0, fun _ => Pk.zero, h0, ⟨Nat.le_refl _, .inl rfl⟩, fun _ => z, by decide, fun _ => ⟨rfl, rfl⟩⟩
  · have hlm : len ≤ m := by rw [hmm]; split <;> omega
    have key : ∀ i, i < len → ∃ v : Pk, v.ok ∧ w.cell? (a.add (i * 4)) = some (.int .u64 v.id) ∧ w.cell? (a.add (i * 4 + 1)) = some (.int .i64 v.cls) ∧ w.cell? (a.add (i * 4 + 2)) = some (.int .i64 v.len) ∧ w.cell? (a.add (i * 4 + 3)) = some (.int .u64 v.tick) := by
      intro i hil
      obtain ⟨cs', hc, ht'⟩ := hi i (by omega)
      rw [hC] at hc
      obtain ⟨v, hv, g0, g1, g2, g3⟩ := open_pk1 he u0 u1 u2 u3 (hone_of hone 0 f0 rfl) (hone_of hone 1 f1 rfl) (hone_of hone 2 f2 rfl) (hone_of hone 3 f3 rfl) hc ht'
      rw [add_add] at g0 g1 g2 g3
      exact ⟨v, hv, g0, g1, g2, g3⟩
    obtain ⟨F, hF⟩ : ∃ F : Nat → Pk, ∀ i, (F i).ok ∧ (i < len → w.cell? (a.add (i * 4)) = some (.int .u64 (F i).id) ∧ w.cell? (a.add (i * 4 + 1)) = some (.int .i64 (F i).cls) ∧ w.cell? (a.add (i * 4 + 2)) = some (.int .i64 (F i).len) ∧ w.cell? (a.add (i * 4 + 3)) = some (.int .u64 (F i).tick)) := by
      refine ⟨fun i => if q : i < len then Classical.choose (key i q) else Pk.zero, fun i => ?_⟩
      by_cases hil : i < len
      · simp only [hil, dif_pos]
        have h := Classical.choose_spec (key i hil)
        exact ⟨h.1, fun _ => h.2⟩
      · simp only [hil, dif_neg, not_false_eq_true]
        exact ⟨z, fun h => absurd h (by simp)⟩
    refine ⟨some a, len, cap, F, hcs, ⟨hl, ?_⟩, fun i => (hF i).1, hm, fun q => by cases q⟩
    by_cases hz : len = 0
    · exact .inl hz
    · have c0 := ((hF 0).2 (by omega)).1
      obtain ⟨b, off, spot⟩ := a
      have hspot : spot = none := by simpa [Addr.add] using World.cell?_spot c0
      subst hspot
      have hadd : ∀ j, (⟨b, off, none⟩ : Addr).add j = ⟨b, off + j, none⟩ := fun j => by unfold Addr.add; split <;> simp_all
      rw [hadd] at c0
      refine .inr ⟨b, off, rfl, World.block_lt_of_cell? w _ c0, fun i hil => ?_⟩
      obtain ⟨g0, g1, g2, g3⟩ := (hF i).2 hil
      rw [hadd] at g0 g1 g2 g3
      exact ⟨g0, g1, g2, g3⟩
end
/-- The grains of the first so many, together, stopped. -/
def allN (xs : Nat → Pk) : Nat → Int
  | 0 => 0
  | k + 1 => min (allN xs k + grN (xs k).len) 4611686018427387904
theorem allN_lo (xs : Nat → Pk) : ∀ k, 0 ≤ allN xs k
  | 0 => Int.le_refl _
  | k + 1 => by
    have := allN_lo xs k
    have := grN_lo (xs k).len
    unfold allN; omega
theorem allN_hi (xs : Nat → Pk) : ∀ k, allN xs k ≤ 4611686018427387904
  | 0 => (by decide : (0 : Int) ≤ 4611686018427387904)
  | k + 1 => by unfold allN; omega
set_option maxHeartbeats 4000000 in
set_option maxRecDepth 100000 in
theorem All_any (a : Option Addr) (n c : Nat) (xs : Nat → Pk) (w : World) (hI : IsPks w a n c xs) (hok : ∀ i, (xs i).ok) (hc : c ≤ maxLen) :
    Calls Tryd.prog 19 #[.slice a n c] w fun e w' => e = .returned (.int .u64 (allN xs n)) ∧ Below w.heap.size w w' := by
  have hnn : n ≤ 9223372036854775807 := by have := hI.1; unfold maxLen at hc; omega
  clear hc
  have hIh := Lib.hid hI
  have hG := Lib.hid (fun (k : Nat) (w : World) => Grains_any (xs k).id (xs k).cls (xs k).len (xs k).tick w (hok k).2.2.1)
  clear hI hok
  go_enter Tryd.func19, Tryd.ntmps19
  go_wp2
  go_loopw [3, 8] (fun v i wr => ∃ k : Nat, i = .int .i64 k ∧ k ≤ n ∧ v = .int .u64 (allN xs k) ∧ Below w.heap.size w wr) (fun _ i _ => n - (Lib.intOf i).toNat)
  case atStart => exact ⟨0, rfl, by omega, rfl, Below.refl _ _⟩
  case round =>
    obtain ⟨k, rfl, hk, rfl, T⟩ := hrel
    by_cases hlt : k < n
    · have i1 : (k : Int) < (n : Int) := by omega
      have i2 : (0 : Int) ≤ (k : Int) := by omega
      obtain ⟨h2, h3⟩ := hIh.out
      rcases h3 with h3 | ⟨b, o, rfl, h3⟩
      · omega
      · obtain ⟨x0, x1, x2, x3⟩ := (h3.below T).2 k hlt
        have hcs : (n : Int) ≤ (c : Int) := by omega
        have hw1 : wrap64 ((k : Int) + 1) = (k : Int) + 1 := by unfold wrap64; omega
        clear h3
        obtain ⟨S, hS⟩ : ∃ S, allN xs k = S := ⟨_, rfl⟩
        obtain ⟨G, hGk⟩ : ∃ G, grN (xs k).len = G := ⟨_, rfl⟩
        have hGc := hG.out k
        rw [hGk] at hGc
        obtain ⟨m, hm⟩ : ∃ m, min (S + G) 4611686018427387904 = m := ⟨_, rfl⟩
        have hn : allN xs (k + 1) = m := by rw [allN, hS, hGk, hm]
        have s0 := allN_lo xs k
        have s1 := allN_hi xs k
        have g0 := grN_lo (xs k).len
        have g1 := grN_hi (xs k).len
        rw [hS] at s0 s1
        rw [hGk] at g0 g1
        have hw : IntKind.u64.wrap (S + G) = S + G := by rw [IntKind.wrap_u64]; omega
        rw [hS]
        replace hn := Lib.hid hn
        replace hm' := Lib.hid hm
        clear hS hGk
        go_upto_region 5 with fail
        replace T := T.alloc T.size (.cells #[.int .u64 (xs k).id, .int .i64 (xs k).cls, .int .i64 (xs k).len, .int .u64 (xs k).tick] 24)
        clear x0 x1 x2 x3
        go_wp2_with (go_at_call 14; (with_reducible refine (hGc _).mono ?_); rintro e w2 ⟨rfl, hb⟩; replace T := ups T hb T.size; clear hb)
        exact ⟨⟨k + 1, by rw [Int.natCast_add]; rfl, by omega, by rw [hn.out], T⟩, by simp [Lib.intOf]; omega⟩
    · obtain rfl : k = n := by omega
      have i1 : ¬ (k : Int) < (k : Int) := by omega
      go_wp2
      go_ret
      exact ⟨rfl, T⟩
end Go.Proofs.YtdmgalcfgignpaaDoor
