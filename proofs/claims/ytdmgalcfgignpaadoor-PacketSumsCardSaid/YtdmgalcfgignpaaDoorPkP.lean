/- What packet.Parse answers: the packet whose text it is, or none. Condition: the library's table of powers of ten holds them. -/
import Derived.Test.YtdmgalcfgignpaaDoorPkU
import Derived.Deep.CutRange
namespace Go.Proofs.YtdmgalcfgignpaaDoor
open Go.RowKit W
set_option linter.unusedVariables false

theorem rd_words : ∀ (l : List UInt8) (k : Nat) (n n' : Nat → Int), rd l k n = some n' → (∀ j, Word (n j)) → ∀ j, Word (n' j)
  | [], _, n, n', h, hn => by rw [rd] at h; cases h; exact hn
  | c :: r, k, n, n', h, hn => by
    by_cases hd : 48 ≤ c.toNat ∧ c.toNat ≤ 57
    · rw [rd_digit _ _ _ hd] at h
      refine rd_words r k _ n' h (fun j => ?_)
      unfold uq; split
      · exact more_word _ _
      · exact hn j
    · by_cases hb : c.toNat = 32 ∧ k < 3
      · rw [rd_blank _ _ _ hb.1 hb.2] at h
        exact rd_words r (k + 1) n n' h hn
      · rw [rd_none _ _ _ hd hb] at h
        cases h
theorem read_some (s : ByteArray) (n : Nat → Int) (h : rd s.data.toList 0 (fun _ => 0) = some n) (w : World) :
    Calls Tryd.prog 26 #[.string s] w fun e w' => e = .returned (.tuple #[.agg #[.int .u64 (n 0), .int .u64 (n 1), .int .u64 (n 2), .int .u64 (n 3)], .bool true]) ∧ Below w.heap.size w w' := by
  refine (read_any s w).mono fun e w' ⟨hR, hb⟩ => ⟨?_, hb⟩
  rcases hR with ⟨n', hn', _, he⟩ | ⟨hn', _⟩
  · rw [h] at hn'; cases hn'; exact he
  · rw [h] at hn'; cases hn'
theorem read_none (s : ByteArray) (h : rd s.data.toList 0 (fun _ => 0) = none) (w : World) :
    Calls Tryd.prog 26 #[.string s] w fun e w' => e = .returned (.tuple #[.agg #[.int .u64 0, .int .u64 0, .int .u64 0, .int .u64 0], .bool false]) ∧ Below w.heap.size w w' := by
  refine (read_any s w).mono fun e w' ⟨hR, hb⟩ => ⟨?_, hb⟩
  rcases hR with ⟨n', hn', _, he⟩ | ⟨_, he⟩
  · rw [h] at hn'; cases hn'
  · exact he

theorem Box.four {W : World} {B : Nat} {a b c d : Value} {t : TypeId} (h : Box W B #[a, b, c, d] t) :
    W.cell? ⟨B, 0, none⟩ = some a ∧ W.cell? ⟨B, 1, none⟩ = some b ∧ W.cell? ⟨B, 2, none⟩ = some c ∧ W.cell? ⟨B, 3, none⟩ = some d ∧ W.frozen? ⟨B, 0, none⟩ = false ∧ W.frozen? ⟨B, 1, none⟩ = false ∧ W.frozen? ⟨B, 2, none⟩ = false ∧ W.frozen? ⟨B, 3, none⟩ = false :=
  ⟨h.cell 0, h.cell 1, h.cell 2, h.cell 3, h.thaw 0, h.thaw 1, h.thaw 2, h.thaw 3⟩
set_option maxHeartbeats 4000000 in
set_option maxRecDepth 100000 in
theorem Parse_none (s : ByteArray) (w : World)
    (hR : ∀ w, Calls Tryd.prog 26 #[.string s] w fun e w' => e = .returned (.tuple #[.agg #[.int .u64 0, .int .u64 0, .int .u64 0, .int .u64 0], .bool false]) ∧ Below w.heap.size w w') :
    Calls Tryd.prog 10 #[.string s] w fun e w' => e = .returned (.tuple #[.agg #[.int .u64 0, .int .i64 0, .int .i64 0, .int .u64 0], .int .i64 2]) ∧ Below w.heap.size w w' := by
  have BX := Box.new w 24 #[.int .u64 0, .int .i64 0, .int .i64 0, .int .u64 0]
  have T := up1 w (.cells #[.int .u64 0, .int .i64 0, .int .i64 0, .int .u64 0] 24)
  go_enter Tryd.func10, Tryd.ntmps10
  go_upto_region 2 with (go_at_call 26; (with_reducible refine (hR _).mono ?_); rintro e w1 ⟨rfl, hb1⟩; replace BX := BX.below hb1; replace T := ups T hb1 T.size; clear hb1)
  replace BX := BX.alloc (.cells #[.int .u64 0, .int .u64 0, .int .u64 0, .int .u64 0] 61)
  replace T := T.alloc T.size (.cells #[.int .u64 0, .int .u64 0, .int .u64 0, .int .u64 0] 61)
  generalize w1.alloc (.cells #[.int .u64 0, .int .u64 0, .int .u64 0, .int .u64 0] 61) = W2 at BX T ⊢
  obtain ⟨c0, c1, c2, c3, f0, f1, f2, f3⟩ := BX.four
  go_wp2
  exact bodyPost_ret (v := .tuple #[.agg #[.int .u64 0, .int .i64 0, .int .i64 0, .int .u64 0], .int .i64 2]) (by simp [results, Tryd.results10, go_sem, c0, c1, c2, c3]) rfl ⟨rfl, (((T.setCell (Nat.le_refl _) _).setCell (Nat.le_refl _) _).setCell (Nat.le_refl _) _).setCell (Nat.le_refl _) _⟩
set_option maxHeartbeats 4000000 in
set_option maxRecDepth 100000 in
theorem Parse_own (s : ByteArray) (a b c d C L : Int) (w : World) (ht : Tab w)  (hC : IntKind.i64.wrap b = C) (hL : IntKind.i64.wrap c = L)
    (hR : ∀ w, Calls Tryd.prog 26 #[.string s] w fun e w' => e = .returned (.tuple #[.agg #[.int .u64 a, .int .u64 b, .int .u64 c, .int .u64 d], .bool true]) ∧ Below w.heap.size w w')
    (hX : ∀ w, Tab w → Calls Tryd.prog 8 #[.agg #[.int .u64 a, .int .i64 C, .int .i64 L, .int .u64 d]] w fun e w' => e = .returned (.tuple #[.string s, .int .i64 0]) ∧ Below w.heap.size w w') :
    Calls Tryd.prog 10 #[.string s] w fun e w' => e = .returned (.tuple #[.agg #[.int .u64 a, .int .i64 C, .int .i64 L, .int .u64 d], .int .i64 0]) ∧ Below w.heap.size w w' := by
  have BX := Box.new w 24 #[.int .u64 0, .int .i64 0, .int .i64 0, .int .u64 0]
  have T := up1 w (.cells #[.int .u64 0, .int .i64 0, .int .i64 0, .int .u64 0] 24)
  go_enter Tryd.func10, Tryd.ntmps10
  go_upto_region 2 with (go_at_call 26; (with_reducible refine (hR _).mono ?_); rintro e w1 ⟨rfl, hb1⟩; replace BX := BX.below hb1; replace T := ups T hb1 T.size; clear hb1)
  have BN := Box.new w1 61 #[.int .u64 a, .int .u64 b, .int .u64 c, .int .u64 d]
  replace BX := BX.alloc (.cells #[.int .u64 a, .int .u64 b, .int .u64 c, .int .u64 d] 61)
  replace T := T.alloc T.size (.cells #[.int .u64 a, .int .u64 b, .int .u64 c, .int .u64 d] 61)
  generalize w1.alloc (.cells #[.int .u64 a, .int .u64 b, .int .u64 c, .int .u64 d] 61) = W2 at BX BN T ⊢
  obtain ⟨n0, n1, n2, n3, _, _, _, _⟩ := BN.four
  clear BN
  go_upto_region 5 with (fail)
  have BP := Box.new W2 24 #[.int .u64 a, .int .i64 C, .int .i64 L, .int .u64 d]
  replace BX := BX.alloc (.cells #[.int .u64 a, .int .i64 C, .int .i64 L, .int .u64 d] 24)
  replace T := T.alloc T.size (.cells #[.int .u64 a, .int .i64 C, .int .i64 L, .int .u64 d] 24)
  clear n0 n1 n2 n3 hR
  generalize W2.alloc (.cells #[.int .u64 a, .int .i64 C, .int .i64 L, .int .u64 d] 24) = W3 at BX BP T ⊢
  obtain ⟨p0, p1, p2, p3, _, _, _, _⟩ := BP.four
  go_upto_region 6 with (go_at_call 8; (with_reducible refine (hX _ (ht.below T)).mono ?_); rintro e w4 ⟨rfl, hb4⟩; replace BX := BX.below hb4; replace BP := BP.below hb4; replace T := ups T hb4 T.size; clear hb4)
  clear p0 p1 p2 p3 hX
  obtain ⟨c0, c1, c2, c3, f0, f1, f2, f3⟩ := BX.four
  obtain ⟨p0, p1, p2, p3, _, _, _, _⟩ := BP.four
  clear hC hL ht
  go_wp2
  exact bodyPost_ret (v := .tuple #[.agg #[.int .u64 a, .int .i64 C, .int .i64 L, .int .u64 d], .int .i64 0]) (by simp [results, Tryd.results10, go_sem, c0, c1, c2, c3]) rfl ⟨rfl, (((T.setCell (Nat.le_refl _) _).setCell (Nat.le_refl _) _).setCell (Nat.le_refl _) _).setCell (Nat.le_refl _) _⟩
set_option maxHeartbeats 4000000 in
set_option maxRecDepth 100000 in
theorem Parse_bad (s u : ByteArray) (a b c d C L : Int) (w : World) (ht : Tab w)  (hC : IntKind.i64.wrap b = C) (hL : IntKind.i64.wrap c = L)
    (hR : ∀ w, Calls Tryd.prog 26 #[.string s] w fun e w' => e = .returned (.tuple #[.agg #[.int .u64 a, .int .u64 b, .int .u64 c, .int .u64 d], .bool true]) ∧ Below w.heap.size w w')
    (hX : ∀ w, Tab w → Calls Tryd.prog 8 #[.agg #[.int .u64 a, .int .i64 C, .int .i64 L, .int .u64 d]] w fun e w' => e = .returned (.tuple #[.string u, .int .i64 2]) ∧ Below w.heap.size w w') :
    Calls Tryd.prog 10 #[.string s] w fun e w' => e = .returned (.tuple #[.agg #[.int .u64 0, .int .i64 0, .int .i64 0, .int .u64 0], .int .i64 2]) ∧ Below w.heap.size w w' := by
  have BX := Box.new w 24 #[.int .u64 0, .int .i64 0, .int .i64 0, .int .u64 0]
  have T := up1 w (.cells #[.int .u64 0, .int .i64 0, .int .i64 0, .int .u64 0] 24)
  go_enter Tryd.func10, Tryd.ntmps10
  go_upto_region 2 with (go_at_call 26; (with_reducible refine (hR _).mono ?_); rintro e w1 ⟨rfl, hb1⟩; replace BX := BX.below hb1; replace T := ups T hb1 T.size; clear hb1)
  have BN := Box.new w1 61 #[.int .u64 a, .int .u64 b, .int .u64 c, .int .u64 d]
  replace BX := BX.alloc (.cells #[.int .u64 a, .int .u64 b, .int .u64 c, .int .u64 d] 61)
  replace T := T.alloc T.size (.cells #[.int .u64 a, .int .u64 b, .int .u64 c, .int .u64 d] 61)
  generalize w1.alloc (.cells #[.int .u64 a, .int .u64 b, .int .u64 c, .int .u64 d] 61) = W2 at BX BN T ⊢
  obtain ⟨n0, n1, n2, n3, _, _, _, _⟩ := BN.four
  clear BN
  go_upto_region 5 with (fail)
  have BP := Box.new W2 24 #[.int .u64 a, .int .i64 C, .int .i64 L, .int .u64 d]
  replace BX := BX.alloc (.cells #[.int .u64 a, .int .i64 C, .int .i64 L, .int .u64 d] 24)
  replace T := T.alloc T.size (.cells #[.int .u64 a, .int .i64 C, .int .i64 L, .int .u64 d] 24)
  clear n0 n1 n2 n3 hR
  generalize W2.alloc (.cells #[.int .u64 a, .int .i64 C, .int .i64 L, .int .u64 d] 24) = W3 at BX BP T ⊢
  obtain ⟨p0, p1, p2, p3, _, _, _, _⟩ := BP.four
  go_upto_region 6 with (go_at_call 8; (with_reducible refine (hX _ (ht.below T)).mono ?_); rintro e w4 ⟨rfl, hb4⟩; replace BX := BX.below hb4; replace BP := BP.below hb4; replace T := ups T hb4 T.size; clear hb4)
  clear p0 p1 p2 p3 hX
  obtain ⟨c0, c1, c2, c3, f0, f1, f2, f3⟩ := BX.four
  obtain ⟨p0, p1, p2, p3, _, _, _, _⟩ := BP.four
  clear hC hL ht
  go_wp2
  exact bodyPost_ret (v := .tuple #[.agg #[.int .u64 0, .int .i64 0, .int .i64 0, .int .u64 0], .int .i64 2]) (by simp [results, Tryd.results10, go_sem, c0, c1, c2, c3]) rfl ⟨rfl, (((T.setCell (Nat.le_refl _) _).setCell (Nat.le_refl _) _).setCell (Nat.le_refl _) _).setCell (Nat.le_refl _) _⟩
set_option maxHeartbeats 4000000 in
set_option maxRecDepth 100000 in
theorem Parse_other (s u : ByteArray) (a b c d C L : Int) (w : World) (ht : Tab w) (hu : (u.toList == s.toList) = false) (hC : IntKind.i64.wrap b = C) (hL : IntKind.i64.wrap c = L)
    (hR : ∀ w, Calls Tryd.prog 26 #[.string s] w fun e w' => e = .returned (.tuple #[.agg #[.int .u64 a, .int .u64 b, .int .u64 c, .int .u64 d], .bool true]) ∧ Below w.heap.size w w')
    (hX : ∀ w, Tab w → Calls Tryd.prog 8 #[.agg #[.int .u64 a, .int .i64 C, .int .i64 L, .int .u64 d]] w fun e w' => e = .returned (.tuple #[.string u, .int .i64 0]) ∧ Below w.heap.size w w') :
    Calls Tryd.prog 10 #[.string s] w fun e w' => e = .returned (.tuple #[.agg #[.int .u64 0, .int .i64 0, .int .i64 0, .int .u64 0], .int .i64 2]) ∧ Below w.heap.size w w' := by
  have BX := Box.new w 24 #[.int .u64 0, .int .i64 0, .int .i64 0, .int .u64 0]
  have T := up1 w (.cells #[.int .u64 0, .int .i64 0, .int .i64 0, .int .u64 0] 24)
  go_enter Tryd.func10, Tryd.ntmps10
  go_upto_region 2 with (go_at_call 26; (with_reducible refine (hR _).mono ?_); rintro e w1 ⟨rfl, hb1⟩; replace BX := BX.below hb1; replace T := ups T hb1 T.size; clear hb1)
  have BN := Box.new w1 61 #[.int .u64 a, .int .u64 b, .int .u64 c, .int .u64 d]
  replace BX := BX.alloc (.cells #[.int .u64 a, .int .u64 b, .int .u64 c, .int .u64 d] 61)
  replace T := T.alloc T.size (.cells #[.int .u64 a, .int .u64 b, .int .u64 c, .int .u64 d] 61)
  generalize w1.alloc (.cells #[.int .u64 a, .int .u64 b, .int .u64 c, .int .u64 d] 61) = W2 at BX BN T ⊢
  obtain ⟨n0, n1, n2, n3, _, _, _, _⟩ := BN.four
  clear BN
  go_upto_region 5 with (fail)
  have BP := Box.new W2 24 #[.int .u64 a, .int .i64 C, .int .i64 L, .int .u64 d]
  replace BX := BX.alloc (.cells #[.int .u64 a, .int .i64 C, .int .i64 L, .int .u64 d] 24)
  replace T := T.alloc T.size (.cells #[.int .u64 a, .int .i64 C, .int .i64 L, .int .u64 d] 24)
  clear n0 n1 n2 n3 hR
  generalize W2.alloc (.cells #[.int .u64 a, .int .i64 C, .int .i64 L, .int .u64 d] 24) = W3 at BX BP T ⊢
  obtain ⟨p0, p1, p2, p3, _, _, _, _⟩ := BP.four
  go_upto_region 6 with (go_at_call 8; (with_reducible refine (hX _ (ht.below T)).mono ?_); rintro e w4 ⟨rfl, hb4⟩; replace BX := BX.below hb4; replace BP := BP.below hb4; replace T := ups T hb4 T.size; clear hb4)
  clear p0 p1 p2 p3 hX
  obtain ⟨c0, c1, c2, c3, f0, f1, f2, f3⟩ := BX.four
  obtain ⟨p0, p1, p2, p3, _, _, _, _⟩ := BP.four
  clear hC hL ht
  go_wp2
  exact bodyPost_ret (v := .tuple #[.agg #[.int .u64 0, .int .i64 0, .int .i64 0, .int .u64 0], .int .i64 2]) (by simp [results, Tryd.results10, go_sem, c0, c1, c2, c3]) rfl ⟨rfl, (((T.setCell (Nat.le_refl _) _).setCell (Nat.le_refl _) _).setCell (Nat.le_refl _) _).setCell (Nat.le_refl _) _⟩
theorem str_ne {u s : ByteArray} (h : u ≠ s) : (u.toList == s.toList) = false := by
  rw [beq_eq_false_iff_ne, ByteArray.toList_eq, ByteArray.toList_eq]
  intro e
  apply h
  cases u; cases s
  simp at e
  rw [e]
/-- A packet's numbers as a value. -/
abbrev pkV (p : Pk) : Value := .agg #[.int .u64 p.id, .int .i64 p.cls, .int .i64 p.len, .int .u64 p.tick]
theorem Parse_any (s : ByteArray) (w : World) (ht : Tab w) : ∃ (r : Pk) (e : Int), IsP s.data.toList r e ∧
    Calls Tryd.prog 10 #[.string s] w fun x w' => x = .returned (.tuple #[pkV r, .int .i64 e]) ∧ Below w.heap.size w w' := by
  cases hr : rd s.data.toList 0 (fun _ => 0) with
  | none => exact ⟨Pk.zero, 2, IsP.of_none hr, Parse_none s w (fun w => read_none s hr w)⟩
  | some n =>
    have hW := rd_words _ _ _ _ hr (fun j => ⟨Int.le_refl (0 : Int), (by decide : (0 : Int) < 18446744073709551616)⟩)
    obtain ⟨C, hC⟩ : ∃ C, IntKind.i64.wrap (n 1) = C := ⟨_, rfl⟩
    obtain ⟨L, hL⟩ : ∃ L, IntKind.i64.wrap (n 2) = L := ⟨_, rfl⟩
    have w1 := hW 1
    have w2 := hW 2
    unfold Word at w1 w2
    have C1 : C = n 1 ∧ n 1 < 9223372036854775808 ∨ C < 0 ∧ -9223372036854775808 ≤ C ∧ ¬ n 1 < 9223372036854775808 := by rw [IntKind.wrap_i64] at hC; omega
    have L1 : L = n 2 ∧ n 2 < 9223372036854775808 ∨ L < 0 ∧ -9223372036854775808 ≤ L ∧ ¬ n 2 < 9223372036854775808 := by rw [IntKind.wrap_i64] at hL; omega
    have hok : (⟨n 0, C, L, n 3⟩ : Pk).ok := ⟨hW 0, ⟨show -9223372036854775808 ≤ C by omega, show C < 9223372036854775808 by omega⟩, ⟨show -9223372036854775808 ≤ L by omega, show L < 9223372036854775808 by omega⟩, hW 3⟩
    obtain ⟨k1, k2⟩ := IsP.of_read (s := s.data.toList) hr (p := ⟨n 0, C, L, n 3⟩) rfl (fun h => show C = n 1 by have : 0 ≤ C := h; omega) (fun h => show L = n 2 by have : 0 ≤ L := h; omega) rfl (fun h => show C = n 1 by omega) (fun h => show L = n 2 by omega) hok
    by_cases g : (⟨n 0, C, L, n 3⟩ : Pk).good
    · have hX := fun w ht => Text_good ⟨n 0, C, L, n 3⟩ hok g w ht
      by_cases e : txt ⟨n 0, C, L, n 3⟩ = s.data.toList
      · refine ⟨⟨n 0, C, L, n 3⟩, 0, k1 g e, Parse_own s (n 0) (n 1) (n 2) (n 3) C L w ht hC hL (fun w => read_some s n hr w) (fun w ht => ?_)⟩
        have h := hX w ht
        rw [e] at h
        exact h
      · refine ⟨Pk.zero, 2, k2 (fun h => e h.2), Parse_other s _ (n 0) (n 1) (n 2) (n 3) C L w ht (str_ne (fun h => e ?_)) hC hL (fun w => read_some s n hr w) hX⟩
        rw [← h]
    · exact ⟨Pk.zero, 2, k2 (fun h => g h.1), Parse_bad s _ (n 0) (n 1) (n 2) (n 3) C L w ht hC hL (fun w => read_some s n hr w) (fun w ht => Text_bad ⟨n 0, C, L, n 3⟩ hok g w ht)⟩
end Go.Proofs.YtdmgalcfgignpaaDoor
