/- Things: rows of them, what is written and read of each; the law's write, written. No condition. -/
import Derived.Test.YtpjhhmmfcoknpaaOcC
namespace Go.Proofs.Ytpjhhmmfcoknpaa
open Go.ChangeShapes Go.WideShapes Go.Deep Go.RowKit
set_option linter.unusedVariables false
/-- A thing. -/
structure Th where
  k : Nat
  n : Nat
def Th.ok (t : Th) : Prop := t.k < 256 ∧ t.n < 18446744073709551616
def i64 (n : Nat) : Int := if n < 9223372036854775808 then (n : Int) else (n : Int) - 18446744073709551616
theorem i64_lt {n : Nat} (h : n < 18446744073709551616) : -9223372036854775808 ≤ i64 n ∧ i64 n < 9223372036854775808 := by
  unfold i64; split <;> omega
theorem i64_wrap {n : Nat} (h : n < 18446744073709551616) : IntKind.i64.wrap (n : Int) = i64 n := by
  rw [IntKind.wrap_i64]; unfold i64; split <;> omega
abbrev thV (t : Th) : Value := .agg #[.int .u8 (t.k : Int), .int .u64 (t.n : Int)]
/-- A thing's bytes. -/
def wrB (t : Th) : List UInt8 :=
  if t.k % 4 = 0 then [UInt8.ofNat t.n] else if t.k % 4 = 1 then numL t.n else if t.k % 4 = 2 then numL (zg (i64 t.n)) else [if t.n % 2 == 1 then 1 else 0]
theorem wrB_le {t : Th} (h : t.ok) : (wrB t).length ≤ 10 := by
  unfold wrB
  split
  · simp
  · split
    · exact numL_le10 h.2
    · split
      · exact numL_le10 (zg_lt (i64_lt h.2))
      · simp
theorem wrB_pos (t : Th) : 1 ≤ (wrB t).length := by
  unfold wrB
  split
  · simp
  · split
    · exact numL_pos _
    · split
      · exact numL_pos _
      · simp
/-- The bytes of so many things; and of so many from one on. -/
def allB (xs : Nat → Th) : Nat → List UInt8
  | 0 => []
  | k + 1 => allB xs k ++ wrB (xs k)
def fromB (xs : Nat → Th) (k : Nat) : Nat → List UInt8
  | 0 => []
  | m + 1 => wrB (xs k) ++ fromB xs (k + 1) m
theorem all_from (xs : Nat → Th) : ∀ (m k : Nat), allB xs k ++ fromB xs k m = allB xs (k + m)
  | 0, k => by simp [fromB]
  | m + 1, k => by
    rw [fromB, ← List.append_assoc, ← allB, all_from xs m (k + 1)]
    congr 1
    omega
theorem allB_le {xs : Nat → Th} (h : ∀ i, (xs i).ok) : ∀ k, (allB xs k).length ≤ 10 * k
  | 0 => by simp [allB]
  | k + 1 => by
    have := allB_le h k
    have := wrB_le (h k)
    simp only [allB, List.length_append]
    omega
/-- So many things lie in a row. -/
def ThRow (w : World) (b o n : Nat) (xs : Nat → Th) : Prop :=
  b < w.heap.size ∧ ∀ i, i < n → w.cell? ⟨b, o + i * 2, none⟩ = some (.int .u8 ((xs i).k : Int)) ∧ w.cell? ⟨b, o + i * 2 + 1, none⟩ = some (.int .u64 ((xs i).n : Int))
theorem ThRow.below {W w : World} {B b o n : Nat} {xs : Nat → Th} (h : ThRow W b o n xs) (hb : Below B W w) (hB : b < B) : ThRow w b o n xs :=
  ⟨Nat.lt_of_lt_of_le h.1 hb.size, fun i hi => by
    obtain ⟨a, b'⟩ := h.2 i hi
    exact ⟨(hb.cell (p := ⟨b, _, none⟩) hB).trans a, (hb.cell (p := ⟨b, _, none⟩) hB).trans b'⟩⟩
/-- A slice of things: nil, empty, or a row in memory. -/
def IsThs (w : World) (a : Option Addr) (n c : Nat) (xs : Nat → Th) : Prop :=
  n ≤ c ∧ (n = 0 ∨ ∃ b o, a = some ⟨b, o, none⟩ ∧ ThRow w b o n xs)
theorem IsThs.below {W w : World} {a : Option Addr} {n c : Nat} {xs : Nat → Th} (h : IsThs W a n c xs) (hb : Below W.heap.size W w) : IsThs w a n c xs := by
  obtain ⟨h2, h3⟩ := h
  refine ⟨h2, ?_⟩
  rcases h3 with h3 | ⟨b, o, e, h3⟩
  · exact .inl h3
  · exact .inr ⟨b, o, e, h3.below hb h3.1⟩
section
variable {H : Type} {enc : TypeId × Value → H} {P : Program} {w : World} {base : Nat} {spare : Nat → Bool} {held : Bool}
theorem th_u8 {x : Int} (h : (Lit.int .u8 x).wf = true) : 0 ≤ x ∧ x < 256 := by
  simp [Lit.wf, IntKind.min, IntKind.max, IntKind.bits, IntKind.signed] at h
  omega
theorem th_u64 {x : Int} (h : (Lit.int .u64 x).wf = true) : 0 ≤ x ∧ x < 18446744073709551616 := by
  simp [Lit.wf, IntKind.min, IntKind.max, IntKind.bits, IntKind.signed] at h
  omega
theorem th_i64 {x : Int} (h : (Lit.int .i64 x).wf = true) : -9223372036854775808 ≤ x ∧ x < 9223372036854775808 := by
  simp [Lit.wf, IntKind.min, IntKind.max, IntKind.bits, IntKind.signed] at h
  omega
theorem open_th1 {e : TypeId} {k0 k1 : Field} {n : Nat} {a : Addr} {cs : List Value} {x : DataW H × List MemPlace} (he : P.underlying e = some (.struct #[k0, k1]))
    (u0 : P.underlying k0.type = some (.int .u8)) (u1 : P.underlying k1.type = some (.int .u64))
    (q0 : k0.offset = 0 ∧ P.cellsOf k0.type = 1) (q1 : k1.offset = 1 ∧ P.cellsOf k1.type = 1)
    (hc : w.cells? base a 2 = some cs) (h : DataW.trod enc P w base spare held n e cs = some x) :
    ∃ v : Th, v.ok ∧ w.cell? (a.add 0) = some (.int .u8 (v.k : Int)) ∧ w.cell? (a.add 1) = some (.int .u64 (v.n : Int)) := by
  obtain ⟨_, hl, hat⟩ := World.cells?_some hc
  obtain ⟨zs, m0, _, _, _, hzs, hz⟩ := DataW.trod_struct he h
  match cs, hl with
  | [c0, c1], _ =>
    match zs, hzs with
    | [z0, z1], _ =>
      have g0 := hz 0 k0 rfl
      have g1 := hz 1 k1 rfl
      rw [q0.1, q0.2] at g0
      rw [q1.1, q1.2] at g1
      obtain ⟨n0, e0, _, w0⟩ := DataW.trod_int u0 (x := z0) (by simpa using g0)
      obtain ⟨n1, e1, _, w1⟩ := DataW.trod_int u1 (x := z1) (by simpa using g1)
      simp at e0 e1
      subst e0 e1
      have b0 := th_u8 w0
      have b1 := th_u64 w1
      refine ⟨⟨n0.toNat, n1.toNat⟩, ⟨by show n0.toNat < 256; omega, by show n1.toNat < 18446744073709551616; omega⟩, ?_, ?_⟩
      · show _ = some (Value.int .u8 ((n0.toNat : Nat) : Int))
        rw [Int.toNat_of_nonneg b0.1]
        exact hat 0 (by omega)
      · show _ = some (Value.int .u64 ((n1.toNat : Nat) : Int))
        rw [Int.toNat_of_nonneg b1.1]
        exact hat 1 (by omega)
/-- The slice: things. -/
theorem open_things {t e : TypeId} {k0 k1 : Field} {fuel : Nat} {cs : List Value} {x : DataW H × List MemPlace} (ht : P.underlying t = some (.slice e)) (he : P.underlying e = some (.struct #[k0, k1]))
    (u0 : P.underlying k0.type = some (.int .u8)) (u1 : P.underlying k1.type = some (.int .u64))
    (q0 : k0.offset = 0 ∧ P.cellsOf k0.type = 1) (q1 : k1.offset = 1 ∧ P.cellsOf k1.type = 1)
    (hC : P.cellsOf e = 2) (h : DataW.trod enc P w base spare held fuel t cs = some x) :
    ∃ (a : Option Addr) (n c : Nat) (xs : Nat → Th), cs = [.slice a n c] ∧ IsThs w a n c xs ∧ (∀ i, (xs i).ok) ∧ c ≤ maxLen ∧ (a = none → n = 0 ∧ c = 0) := by
  have z : (Th.mk 0 0).ok := ⟨(by decide : 0 < 256), (by decide : 0 < 18446744073709551616)⟩
  rcases open_slice ht h with ⟨h0, _⟩ | ⟨a, len, cap, m, n, D, Pl, hcs, hb', hl, hm, hmm, hx, hi⟩
  · exact ⟨none, 0, 0, fun _ => ⟨0, 0⟩, h0, ⟨Nat.le_refl _, .inl rfl⟩, fun _ => z, by decide, fun _ => ⟨rfl, rfl⟩⟩
  · have hlm : len ≤ m := by rw [hmm]; split <;> omega
    have key : ∀ i, i < len → ∃ v : Th, v.ok ∧ w.cell? (a.add (i * 2)) = some (.int .u8 (v.k : Int)) ∧ w.cell? (a.add (i * 2 + 1)) = some (.int .u64 (v.n : Int)) := by
      intro i hil
      obtain ⟨cs', hc, ht'⟩ := hi i (by omega)
      rw [hC] at hc
      obtain ⟨v, hv, g0, g1⟩ := open_th1 he u0 u1 q0 q1 hc ht'
      rw [add_add] at g0 g1
      exact ⟨v, hv, g0, g1⟩
    obtain ⟨F, hF⟩ : ∃ F : Nat → Th, ∀ i, (F i).ok ∧ (i < len → w.cell? (a.add (i * 2)) = some (.int .u8 ((F i).k : Int)) ∧ w.cell? (a.add (i * 2 + 1)) = some (.int .u64 ((F i).n : Int))) := by
      refine ⟨fun i => if q : i < len then Classical.choose (key i q) else ⟨0, 0⟩, fun i => ?_⟩
      by_cases hil : i < len
      · simp only [hil, dif_pos]
        have h := Classical.choose_spec (key i hil)
        exact ⟨h.1, fun _ => h.2⟩
      · simp only [hil, dif_neg, not_false_eq_true]
        exact ⟨z, fun h => absurd h (by simp)⟩
    refine ⟨some a, len, cap, F, hcs, ⟨hl, ?_⟩, fun i => (hF i).1, hm, fun q => by cases q⟩
    by_cases hz : len = 0
    · exact .inl hz
    · have c0 := ((hF 0).2 (by omega)).1
      obtain ⟨b, off, spot⟩ := a
      have hspot : spot = none := by simpa [Addr.add] using World.cell?_spot c0
      subst hspot
      have hadd : ∀ j, (⟨b, off, none⟩ : Addr).add j = ⟨b, off + j, none⟩ := fun j => by unfold Addr.add; split <;> simp_all
      rw [hadd] at c0
      refine .inr ⟨b, off, rfl, World.block_lt_of_cell? w _ c0, fun i hil => ?_⟩
      obtain ⟨g0, g1⟩ := (hF i).2 hil
      rw [hadd] at g0 g1
      exact ⟨g0, g1⟩
end
/-- One thing of a row: its cells. -/
theorem IsThs.at {w : World} {a : Option Addr} {n c i : Nat} {xs : Nat → Th} (h : IsThs w a n c xs) (hi : i < n) : ∃ b o, a = some ⟨b, o, none⟩ ∧ b < w.heap.size ∧ w.cell? ⟨b, o + i * 2, none⟩ = some (.int .u8 ((xs i).k : Int)) ∧ w.cell? ⟨b, o + i * 2 + 1, none⟩ = some (.int .u64 ((xs i).n : Int)) := by
  obtain ⟨_, h | ⟨b, o, e, h1, h2⟩⟩ := h
  · omega
  · exact ⟨b, o, e, h1, h2 i hi⟩
theorem odd_int (n : Nat) : (n % 2 == 1) = ((n : Int) % 2 == 1) := by
  rcases Nat.mod_two_eq_zero_or_one n with h | h
  · have : (n : Int) % 2 = 0 := by omega
    rw [h, this]; rfl
  · have : (n : Int) % 2 = 1 := by omega
    rw [h, this]; rfl
/-! ### The law's write -/
set_option maxHeartbeats 4000000 in
set_option maxRecDepth 100000 in
theorem write_any {w : World} {B : Nat} {L : List UInt8} (h : Pen w B L) (t : Th) (ht : t.ok) (hL : L.length < 4611686018427380000) :
    Calls Try.prog 9 #[thV t, ptr B] w fun e w' => e = .returned unitV ∧ Pen w' B (L ++ wrB t) ∧ But B w w' := by
  have hPen : Pen (w.alloc (.cells #[.int .u8 (t.k : Int), .int .u64 (t.n : Int)] 31)) B L := Box.alloc h _
  have c0 : (w.alloc (.cells #[.int .u8 (t.k : Int), .int .u64 (t.n : Int)] 31)).cell? ⟨w.heap.size, 0, none⟩ = some (.int .u8 (t.k : Int)) := (Box.new w 31 _).cell 0
  have c1 : (w.alloc (.cells #[.int .u8 (t.k : Int), .int .u64 (t.n : Int)] 31)).cell? ⟨w.heap.size, 1, none⟩ = some (.int .u64 (t.n : Int)) := (Box.new w 31 _).cell 1
  have T : But B w (w.alloc (.cells #[.int .u8 (t.k : Int), .int .u64 (t.n : Int)] 31)) := But.of (up1 w _)
  unfold wrB
  rcases (by omega : t.k % 4 = 0 ∨ t.k % 4 = 1 ∨ t.k % 4 = 2 ∨ t.k % 4 = 3) with hk | hk | hk | hk
  · rw [if_pos hk]
    have hK := Byte_any hPen (UInt8.ofNat t.n) (by omega)
    rw [UInt8.toNat_ofNat', show ((t.n % 2 ^ 8 : Nat) : Int) = (t.n : Int) % 256 by omega] at hK
    have hki : (t.k : Int) % 4 = 0 := by omega
    clear hPen h
    go_enter Try.func9, Try.ntmps9
    go_wp2_with (go_at_call 33; (with_reducible refine hK.mono ?_); rintro e w1 ⟨rfl, hP1, hB1⟩)
    exact ⟨rfl, .tuple #[], by simp [results, Try.results9, go_sem], rfl, hP1, T.trans hB1⟩
  · rw [if_neg (by omega), if_pos hk]
    have hK := Num_any hPen t.n ht.2 hL
    have hki : (t.k : Int) % 4 = 1 := by omega
    clear hPen h
    go_enter Try.func9, Try.ntmps9
    go_wp2_with (go_at_call 14; (with_reducible refine hK.mono ?_); rintro e w1 ⟨rfl, hP1, hB1⟩)
    exact ⟨rfl, .tuple #[], by simp [results, Try.results9, go_sem], rfl, hP1, T.trans hB1⟩
  · rw [if_neg (by omega), if_neg (by omega), if_pos hk]
    have hK := Int_any hPen (i64 t.n) (i64_lt ht.2) hL
    have hki : (t.k : Int) % 4 = 2 := by omega
    have hw := i64_wrap ht.2
    clear hPen h
    go_enter Try.func9, Try.ntmps9
    go_wp2_with (go_at_call 34; (with_reducible refine hK.mono ?_); rintro e w1 ⟨rfl, hP1, hB1⟩)
    exact ⟨rfl, .tuple #[], by simp [results, Try.results9, go_sem], rfl, hP1, T.trans hB1⟩
  · rw [if_neg (by omega), if_neg (by omega), if_neg (by omega)]
    have hK := Flag_any hPen (t.n % 2 == 1) hL
    rw [odd_int] at hK ⊢
    obtain ⟨M, hM⟩ : ∃ M, L ++ [if ((t.n : Int) % 2 == 1) = true then (1 : UInt8) else 0] = M := ⟨_, rfl⟩
    rw [hM] at hK ⊢
    clear hM
    have hki : (t.k : Int) % 4 = 3 := by omega
    clear hPen h
    go_enter Try.func9, Try.ntmps9
    go_wp2_with (go_at_call 35; (with_reducible refine hK.mono ?_); rintro e w1 ⟨rfl, hP1, hB1⟩)
    exact ⟨rfl, .tuple #[], by simp [results, Try.results9, go_sem], rfl, hP1, T.trans hB1⟩
theorem zero28 (w : World) : (zeroValue 28).run Try.prog w = .ok (.agg (penC [])) w := (zero_of_info pen_zero).1 w
/-- What written tells. -/
def writV (L : List UInt8) : Value := if L.length ≤ 4096 then .tuple #[.string (bs L), .bool true] else .tuple #[.string (bs []), .bool false]
theorem writV_ok {L : List UInt8} (h : L.length ≤ 4096) : writV L = .tuple #[.string (bs L), .bool true] := by unfold writV; rw [if_pos h]
theorem writV_no {L : List UInt8} (h : ¬ L.length ≤ 4096) : writV L = .tuple #[.string (bs []), .bool false] := by unfold writV; rw [if_neg h]
theorem Pen.new (w : World) : Pen (w.alloc (.cells (penC []) 28)) w.heap.size [] := Box.new w 28 _
set_option maxHeartbeats 4000000 in
set_option maxRecDepth 100000 in
theorem written_any {w : World} {a : Option Addr} {n c : Nat} {xs : Nat → Th} (hI : IsThs w a n c xs) (hok : ∀ i, (xs i).ok) (hn : n < 400000000000000000) :
    Calls Try.prog 31 #[.slice a n c] w fun e w' => e = .returned (writV (allB xs n)) ∧ Below w.heap.size w w' := by
  have hz := zero28 w
  have hPen := Pen.new w
  have T := up1 w (.cells (penC []) 28)
  generalize penC [] = p0 at *
  have j3 : (n : Int) ≤ (c : Int) := by have := hI.1; omega
  go_enter Try.func31, Try.ntmps31
  go_wp2
  go_loopw [5] (fun s5 wr => ∃ k : Nat, s5 = .int .i64 k ∧ k ≤ n ∧ Pen wr w.heap.size (allB xs k) ∧ Below w.heap.size w wr) (fun s5 _ => n - (intOf s5).toNat)
  case atStart => exact ⟨0, rfl, by omega, hPen, T⟩
  case round =>
    clear hPen T hz
    obtain ⟨k, rfl, hk, hP, T⟩ := hrel
    have hle := allB_le hok k
    have hlt0 := hP.lt
    by_cases hlt : k < n
    · obtain ⟨b, o, rfl, hb, c0, c1⟩ := (hI.below T).at hlt
      have hK := write_any hP (xs k) (hok k) (by omega)
      have j0 : (k : Int) < (n : Int) := by omega
      go_wp2_with (go_at_call 9; (with_reducible refine hK.mono ?_); rintro e w1 ⟨rfl, hP1, hB1⟩)
      go_roundw
      case rel => exact ⟨k + 1, by simp, by omega, hP1, hB1.up T (Nat.le_refl _)⟩
      case measure => simp only [intOf]; omega
    · obtain rfl : k = n := by omega
      have hK := Done_any hP (by omega)
      have j0 : ¬ (k : Int) < (k : Int) := by omega
      unfold doneV at hK
      by_cases hl : (allB xs k).length ≤ 4096
      · rw [if_pos hl] at hK
        go_wp2_with (go_at_call 13; (with_reducible refine hK.mono ?_); rintro e w1 ⟨rfl, T1⟩)
        go_ret2
        exact ⟨congrArg Ending.returned (writV_ok hl).symm, T.trans (T1.mono T.size)⟩
      · rw [if_neg hl] at hK
        go_wp2_with (go_at_call 13; (with_reducible refine hK.mono ?_); rintro e w1 ⟨rfl, T1⟩)
        go_ret2
        exact ⟨congrArg Ending.returned (writV_no hl).symm, T.trans (T1.mono T.size)⟩
end Go.Proofs.Ytpjhhmmfcoknpaa
