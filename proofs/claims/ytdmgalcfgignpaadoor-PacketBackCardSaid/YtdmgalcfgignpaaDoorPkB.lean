/- PacketBack: its walk. Condition: the library's table of powers of ten holds them. -/
import Derived.Test.YtdmgalcfgignpaaDoorPkO
namespace Go.Proofs.YtdmgalcfgignpaaDoor
open Go.RowKit W
set_option linter.unusedVariables false
set_option maxHeartbeats 4000000 in
set_option maxRecDepth 100000 in
theorem PacketBack_good_ok (p r : Pk) (s u : ByteArray) (w : World) (ht : Tab w) (hs : (s.size : Int) ≤ 200) (gc : 0 ≤ p.cls) (gl : 0 ≤ p.len)
    (hA : ∀ w, Tab w → Calls Tryd.prog 12 #[] w fun e w' => e = .returned (.bool true) ∧ Below w.heap.size w w')
    (hX : ∀ w, Tab w → Calls Tryd.prog 8 #[.agg #[.int .u64 p.id, .int .i64 p.cls, .int .i64 p.len, .int .u64 p.tick]] w fun e w' => e = .returned (.tuple #[.string u, .int .i64 0]) ∧ Below w.heap.size w w')
    (hP : ∀ w, Tab w → Calls Tryd.prog 10 #[.string u] w fun e w' => e = .returned (.tuple #[.agg #[.int .u64 p.id, .int .i64 p.cls, .int .i64 p.len, .int .u64 p.tick], .int .i64 0]) ∧ Below w.heap.size w w')
    (hQ : ∀ w, Tab w → Calls Tryd.prog 10 #[.string s] w fun e w' => e = .returned (.tuple #[.agg #[.int .u64 r.id, .int .i64 r.cls, .int .i64 r.len, .int .u64 r.tick], .int .i64 0]) ∧ Below w.heap.size w w')
    (hY : ∀ w, Tab w → Calls Tryd.prog 8 #[.agg #[.int .u64 r.id, .int .i64 r.cls, .int .i64 r.len, .int .u64 r.tick]] w fun e w' => e = .returned (.tuple #[.string s, .int .i64 0]) ∧ Below w.heap.size w w')
    : Calls Tryd.prog 5 #[.agg #[.int .u64 p.id, .int .i64 p.cls, .int .i64 p.len, .int .u64 p.tick], .string s] w fun e w' => e = .returned (.bool true) ∧ Below w.heap.size w w' := by
  have B1 : PBox (w.alloc (.cells #[.int .u64 p.id, .int .i64 p.cls, .int .i64 p.len, .int .u64 p.tick] 24)) w.heap.size p := Box.new w 24 #[.int .u64 p.id, .int .i64 p.cls, .int .i64 p.len, .int .u64 p.tick]
  have T := up1 w (.cells #[.int .u64 p.id, .int .i64 p.cls, .int .i64 p.len, .int .u64 p.tick] 24)
  go_enter Tryd.func5, Tryd.ntmps5
  go_upto_region 1 with (fail)
  generalize w.alloc (.cells #[.int .u64 p.id, .int .i64 p.cls, .int .i64 p.len, .int .u64 p.tick] 24) = W0 at B1 T ⊢
  go_upto_region 5 with (go_at_call 12; (with_reducible refine (hA _ (ht.below T)).mono ?_); rintro e w1 ⟨rfl, hb⟩; replace B1 := Box.below B1 hb; replace T := ups T hb T.size; clear hb)
  obtain ⟨a0, a1, a2, a3⟩ := PBox.cells B1
  go_upto_region 6 with (go_at_call 8; (with_reducible refine (hX _ (ht.below T)).mono ?_); rintro e w2 ⟨rfl, hb⟩; replace B1 := Box.below B1 hb; replace T := ups T hb T.size; clear hb)
  clear a0 a1 a2 a3
  obtain ⟨a0, a1, a2, a3⟩ := PBox.cells B1
  go_upto_region 10 with (go_at_call 10; (with_reducible refine (hP _ (ht.below T)).mono ?_); rintro e w3 ⟨rfl, hb⟩; replace B1 := Box.below B1 hb; replace T := ups T hb T.size; clear hb)
  have B7 : PBox (w3.alloc (.cells #[.int .u64 p.id, .int .i64 p.cls, .int .i64 p.len, .int .u64 p.tick] 24)) w3.heap.size p := Box.new w3 24 #[.int .u64 p.id, .int .i64 p.cls, .int .i64 p.len, .int .u64 p.tick]
  replace B1 := Box.alloc B1 (.cells #[.int .u64 p.id, .int .i64 p.cls, .int .i64 p.len, .int .u64 p.tick] 24)
  replace T := T.alloc T.size (.cells #[.int .u64 p.id, .int .i64 p.cls, .int .i64 p.len, .int .u64 p.tick] 24)
  clear a0 a1 a2 a3
  generalize w3.alloc (.cells #[.int .u64 p.id, .int .i64 p.cls, .int .i64 p.len, .int .u64 p.tick] 24) = W4 at B1 B7 T ⊢
  obtain ⟨a0, a1, a2, a3⟩ := PBox.cells B1
  obtain ⟨b0, b1, b2, b3⟩ := PBox.cells B7
  go_upto_region 15 with (go_at_call 10; (with_reducible refine (hQ _ (ht.below T)).mono ?_); rintro e w5 ⟨rfl, hb⟩; replace T := ups T hb T.size; clear hb)
  have B9 : Box (w5.alloc (.cells #[.int .u64 r.id, .int .i64 r.cls, .int .i64 r.len, .int .u64 r.tick] 24)) w5.heap.size #[.int .u64 r.id, .int .i64 r.cls, .int .i64 r.len, .int .u64 r.tick] 24 := Box.new w5 24 #[.int .u64 r.id, .int .i64 r.cls, .int .i64 r.len, .int .u64 r.tick]
  replace T := T.alloc T.size (.cells #[.int .u64 r.id, .int .i64 r.cls, .int .i64 r.len, .int .u64 r.tick] 24)
  clear a0 a1 a2 a3 B1 b0 b1 b2 b3 B7
  generalize w5.alloc (.cells #[.int .u64 r.id, .int .i64 r.cls, .int .i64 r.len, .int .u64 r.tick] 24) = W6 at B9 T ⊢
  obtain ⟨c0, c1, c2, c3, _, _, _, _⟩ := Box.four B9
  go_wp2_with (go_at_call 8; (with_reducible refine (hY _ (ht.below T)).mono ?_); rintro e w7 ⟨rfl, hb⟩; replace T := ups T hb T.size; clear hb)
  go_ret
  exact ⟨rfl, T⟩
set_option maxHeartbeats 4000000 in
set_option maxRecDepth 100000 in
theorem PacketBack_good_none (p r : Pk) (s u : ByteArray) (w : World) (ht : Tab w) (hs : (s.size : Int) ≤ 200) (gc : 0 ≤ p.cls) (gl : 0 ≤ p.len)
    (hA : ∀ w, Tab w → Calls Tryd.prog 12 #[] w fun e w' => e = .returned (.bool true) ∧ Below w.heap.size w w')
    (hX : ∀ w, Tab w → Calls Tryd.prog 8 #[.agg #[.int .u64 p.id, .int .i64 p.cls, .int .i64 p.len, .int .u64 p.tick]] w fun e w' => e = .returned (.tuple #[.string u, .int .i64 0]) ∧ Below w.heap.size w w')
    (hP : ∀ w, Tab w → Calls Tryd.prog 10 #[.string u] w fun e w' => e = .returned (.tuple #[.agg #[.int .u64 p.id, .int .i64 p.cls, .int .i64 p.len, .int .u64 p.tick], .int .i64 0]) ∧ Below w.heap.size w w')
    (hQ : ∀ w, Tab w → Calls Tryd.prog 10 #[.string s] w fun e w' => e = .returned (.tuple #[.agg #[.int .u64 0, .int .i64 0, .int .i64 0, .int .u64 0], .int .i64 2]) ∧ Below w.heap.size w w')
    : Calls Tryd.prog 5 #[.agg #[.int .u64 p.id, .int .i64 p.cls, .int .i64 p.len, .int .u64 p.tick], .string s] w fun e w' => e = .returned (.bool true) ∧ Below w.heap.size w w' := by
  have B1 : PBox (w.alloc (.cells #[.int .u64 p.id, .int .i64 p.cls, .int .i64 p.len, .int .u64 p.tick] 24)) w.heap.size p := Box.new w 24 #[.int .u64 p.id, .int .i64 p.cls, .int .i64 p.len, .int .u64 p.tick]
  have T := up1 w (.cells #[.int .u64 p.id, .int .i64 p.cls, .int .i64 p.len, .int .u64 p.tick] 24)
  go_enter Tryd.func5, Tryd.ntmps5
  go_upto_region 1 with (fail)
  generalize w.alloc (.cells #[.int .u64 p.id, .int .i64 p.cls, .int .i64 p.len, .int .u64 p.tick] 24) = W0 at B1 T ⊢
  go_upto_region 5 with (go_at_call 12; (with_reducible refine (hA _ (ht.below T)).mono ?_); rintro e w1 ⟨rfl, hb⟩; replace B1 := Box.below B1 hb; replace T := ups T hb T.size; clear hb)
  obtain ⟨a0, a1, a2, a3⟩ := PBox.cells B1
  go_upto_region 6 with (go_at_call 8; (with_reducible refine (hX _ (ht.below T)).mono ?_); rintro e w2 ⟨rfl, hb⟩; replace B1 := Box.below B1 hb; replace T := ups T hb T.size; clear hb)
  clear a0 a1 a2 a3
  obtain ⟨a0, a1, a2, a3⟩ := PBox.cells B1
  go_upto_region 10 with (go_at_call 10; (with_reducible refine (hP _ (ht.below T)).mono ?_); rintro e w3 ⟨rfl, hb⟩; replace B1 := Box.below B1 hb; replace T := ups T hb T.size; clear hb)
  have B7 : PBox (w3.alloc (.cells #[.int .u64 p.id, .int .i64 p.cls, .int .i64 p.len, .int .u64 p.tick] 24)) w3.heap.size p := Box.new w3 24 #[.int .u64 p.id, .int .i64 p.cls, .int .i64 p.len, .int .u64 p.tick]
  replace B1 := Box.alloc B1 (.cells #[.int .u64 p.id, .int .i64 p.cls, .int .i64 p.len, .int .u64 p.tick] 24)
  replace T := T.alloc T.size (.cells #[.int .u64 p.id, .int .i64 p.cls, .int .i64 p.len, .int .u64 p.tick] 24)
  clear a0 a1 a2 a3
  generalize w3.alloc (.cells #[.int .u64 p.id, .int .i64 p.cls, .int .i64 p.len, .int .u64 p.tick] 24) = W4 at B1 B7 T ⊢
  obtain ⟨a0, a1, a2, a3⟩ := PBox.cells B1
  obtain ⟨b0, b1, b2, b3⟩ := PBox.cells B7
  go_upto_region 15 with (go_at_call 10; (with_reducible refine (hQ _ (ht.below T)).mono ?_); rintro e w5 ⟨rfl, hb⟩; replace T := ups T hb T.size; clear hb)
  have B9 : Box (w5.alloc (.cells #[.int .u64 0, .int .i64 0, .int .i64 0, .int .u64 0] 24)) w5.heap.size #[.int .u64 0, .int .i64 0, .int .i64 0, .int .u64 0] 24 := Box.new w5 24 #[.int .u64 0, .int .i64 0, .int .i64 0, .int .u64 0]
  replace T := T.alloc T.size (.cells #[.int .u64 0, .int .i64 0, .int .i64 0, .int .u64 0] 24)
  clear a0 a1 a2 a3 B1 b0 b1 b2 b3 B7
  generalize w5.alloc (.cells #[.int .u64 0, .int .i64 0, .int .i64 0, .int .u64 0] 24) = W6 at B9 T ⊢
  obtain ⟨c0, c1, c2, c3, _, _, _, _⟩ := Box.four B9
  go_wp2
  go_ret
  exact ⟨rfl, T⟩
set_option maxHeartbeats 4000000 in
set_option maxRecDepth 100000 in
theorem PacketBack_bad1_ok (p r : Pk) (s u : ByteArray) (w : World) (ht : Tab w) (hs : (s.size : Int) ≤ 200) (gc : p.cls < 0)
    (hA : ∀ w, Tab w → Calls Tryd.prog 12 #[] w fun e w' => e = .returned (.bool true) ∧ Below w.heap.size w w')
    (hX : ∀ w, Tab w → Calls Tryd.prog 8 #[.agg #[.int .u64 p.id, .int .i64 p.cls, .int .i64 p.len, .int .u64 p.tick]] w fun e w' => e = .returned (.tuple #[.string ⟨#[]⟩, .int .i64 2]) ∧ Below w.heap.size w w')
    (hQ : ∀ w, Tab w → Calls Tryd.prog 10 #[.string s] w fun e w' => e = .returned (.tuple #[.agg #[.int .u64 r.id, .int .i64 r.cls, .int .i64 r.len, .int .u64 r.tick], .int .i64 0]) ∧ Below w.heap.size w w')
    (hY : ∀ w, Tab w → Calls Tryd.prog 8 #[.agg #[.int .u64 r.id, .int .i64 r.cls, .int .i64 r.len, .int .u64 r.tick]] w fun e w' => e = .returned (.tuple #[.string s, .int .i64 0]) ∧ Below w.heap.size w w')
    : Calls Tryd.prog 5 #[.agg #[.int .u64 p.id, .int .i64 p.cls, .int .i64 p.len, .int .u64 p.tick], .string s] w fun e w' => e = .returned (.bool true) ∧ Below w.heap.size w w' := by
  have B1 : PBox (w.alloc (.cells #[.int .u64 p.id, .int .i64 p.cls, .int .i64 p.len, .int .u64 p.tick] 24)) w.heap.size p := Box.new w 24 #[.int .u64 p.id, .int .i64 p.cls, .int .i64 p.len, .int .u64 p.tick]
  have T := up1 w (.cells #[.int .u64 p.id, .int .i64 p.cls, .int .i64 p.len, .int .u64 p.tick] 24)
  go_enter Tryd.func5, Tryd.ntmps5
  go_upto_region 1 with (fail)
  generalize w.alloc (.cells #[.int .u64 p.id, .int .i64 p.cls, .int .i64 p.len, .int .u64 p.tick] 24) = W0 at B1 T ⊢
  go_upto_region 5 with (go_at_call 12; (with_reducible refine (hA _ (ht.below T)).mono ?_); rintro e w1 ⟨rfl, hb⟩; replace B1 := Box.below B1 hb; replace T := ups T hb T.size; clear hb)
  obtain ⟨a0, a1, a2, a3⟩ := PBox.cells B1
  go_upto_region 6 with (go_at_call 8; (with_reducible refine (hX _ (ht.below T)).mono ?_); rintro e w2 ⟨rfl, hb⟩; replace B1 := Box.below B1 hb; replace T := ups T hb T.size; clear hb)
  clear a0 a1 a2 a3
  obtain ⟨a0, a1, a2, a3⟩ := PBox.cells B1
  go_upto_region 15 with (go_at_call 10; (with_reducible refine (hQ _ (ht.below T)).mono ?_); rintro e w5 ⟨rfl, hb⟩; replace T := ups T hb T.size; clear hb)
  have B9 : Box (w5.alloc (.cells #[.int .u64 r.id, .int .i64 r.cls, .int .i64 r.len, .int .u64 r.tick] 24)) w5.heap.size #[.int .u64 r.id, .int .i64 r.cls, .int .i64 r.len, .int .u64 r.tick] 24 := Box.new w5 24 #[.int .u64 r.id, .int .i64 r.cls, .int .i64 r.len, .int .u64 r.tick]
  replace T := T.alloc T.size (.cells #[.int .u64 r.id, .int .i64 r.cls, .int .i64 r.len, .int .u64 r.tick] 24)
  clear a0 a1 a2 a3 B1
  generalize w5.alloc (.cells #[.int .u64 r.id, .int .i64 r.cls, .int .i64 r.len, .int .u64 r.tick] 24) = W6 at B9 T ⊢
  obtain ⟨c0, c1, c2, c3, _, _, _, _⟩ := Box.four B9
  go_wp2_with (go_at_call 8; (with_reducible refine (hY _ (ht.below T)).mono ?_); rintro e w7 ⟨rfl, hb⟩; replace T := ups T hb T.size; clear hb)
  go_ret
  exact ⟨rfl, T⟩
set_option maxHeartbeats 4000000 in
set_option maxRecDepth 100000 in
theorem PacketBack_bad1_none (p r : Pk) (s u : ByteArray) (w : World) (ht : Tab w) (hs : (s.size : Int) ≤ 200) (gc : p.cls < 0)
    (hA : ∀ w, Tab w → Calls Tryd.prog 12 #[] w fun e w' => e = .returned (.bool true) ∧ Below w.heap.size w w')
    (hX : ∀ w, Tab w → Calls Tryd.prog 8 #[.agg #[.int .u64 p.id, .int .i64 p.cls, .int .i64 p.len, .int .u64 p.tick]] w fun e w' => e = .returned (.tuple #[.string ⟨#[]⟩, .int .i64 2]) ∧ Below w.heap.size w w')
    (hQ : ∀ w, Tab w → Calls Tryd.prog 10 #[.string s] w fun e w' => e = .returned (.tuple #[.agg #[.int .u64 0, .int .i64 0, .int .i64 0, .int .u64 0], .int .i64 2]) ∧ Below w.heap.size w w')
    : Calls Tryd.prog 5 #[.agg #[.int .u64 p.id, .int .i64 p.cls, .int .i64 p.len, .int .u64 p.tick], .string s] w fun e w' => e = .returned (.bool true) ∧ Below w.heap.size w w' := by
  have B1 : PBox (w.alloc (.cells #[.int .u64 p.id, .int .i64 p.cls, .int .i64 p.len, .int .u64 p.tick] 24)) w.heap.size p := Box.new w 24 #[.int .u64 p.id, .int .i64 p.cls, .int .i64 p.len, .int .u64 p.tick]
  have T := up1 w (.cells #[.int .u64 p.id, .int .i64 p.cls, .int .i64 p.len, .int .u64 p.tick] 24)
  go_enter Tryd.func5, Tryd.ntmps5
  go_upto_region 1 with (fail)
  generalize w.alloc (.cells #[.int .u64 p.id, .int .i64 p.cls, .int .i64 p.len, .int .u64 p.tick] 24) = W0 at B1 T ⊢
  go_upto_region 5 with (go_at_call 12; (with_reducible refine (hA _ (ht.below T)).mono ?_); rintro e w1 ⟨rfl, hb⟩; replace B1 := Box.below B1 hb; replace T := ups T hb T.size; clear hb)
  obtain ⟨a0, a1, a2, a3⟩ := PBox.cells B1
  go_upto_region 6 with (go_at_call 8; (with_reducible refine (hX _ (ht.below T)).mono ?_); rintro e w2 ⟨rfl, hb⟩; replace B1 := Box.below B1 hb; replace T := ups T hb T.size; clear hb)
  clear a0 a1 a2 a3
  obtain ⟨a0, a1, a2, a3⟩ := PBox.cells B1
  go_upto_region 15 with (go_at_call 10; (with_reducible refine (hQ _ (ht.below T)).mono ?_); rintro e w5 ⟨rfl, hb⟩; replace T := ups T hb T.size; clear hb)
  have B9 : Box (w5.alloc (.cells #[.int .u64 0, .int .i64 0, .int .i64 0, .int .u64 0] 24)) w5.heap.size #[.int .u64 0, .int .i64 0, .int .i64 0, .int .u64 0] 24 := Box.new w5 24 #[.int .u64 0, .int .i64 0, .int .i64 0, .int .u64 0]
  replace T := T.alloc T.size (.cells #[.int .u64 0, .int .i64 0, .int .i64 0, .int .u64 0] 24)
  clear a0 a1 a2 a3 B1
  generalize w5.alloc (.cells #[.int .u64 0, .int .i64 0, .int .i64 0, .int .u64 0] 24) = W6 at B9 T ⊢
  obtain ⟨c0, c1, c2, c3, _, _, _, _⟩ := Box.four B9
  go_wp2
  go_ret
  exact ⟨rfl, T⟩
set_option maxHeartbeats 4000000 in
set_option maxRecDepth 100000 in
theorem PacketBack_bad2_ok (p r : Pk) (s u : ByteArray) (w : World) (ht : Tab w) (hs : (s.size : Int) ≤ 200) (gc : 0 ≤ p.cls) (gl : p.len < 0)
    (hA : ∀ w, Tab w → Calls Tryd.prog 12 #[] w fun e w' => e = .returned (.bool true) ∧ Below w.heap.size w w')
    (hX : ∀ w, Tab w → Calls Tryd.prog 8 #[.agg #[.int .u64 p.id, .int .i64 p.cls, .int .i64 p.len, .int .u64 p.tick]] w fun e w' => e = .returned (.tuple #[.string ⟨#[]⟩, .int .i64 2]) ∧ Below w.heap.size w w')
    (hQ : ∀ w, Tab w → Calls Tryd.prog 10 #[.string s] w fun e w' => e = .returned (.tuple #[.agg #[.int .u64 r.id, .int .i64 r.cls, .int .i64 r.len, .int .u64 r.tick], .int .i64 0]) ∧ Below w.heap.size w w')
    (hY : ∀ w, Tab w → Calls Tryd.prog 8 #[.agg #[.int .u64 r.id, .int .i64 r.cls, .int .i64 r.len, .int .u64 r.tick]] w fun e w' => e = .returned (.tuple #[.string s, .int .i64 0]) ∧ Below w.heap.size w w')
    : Calls Tryd.prog 5 #[.agg #[.int .u64 p.id, .int .i64 p.cls, .int .i64 p.len, .int .u64 p.tick], .string s] w fun e w' => e = .returned (.bool true) ∧ Below w.heap.size w w' := by
  have B1 : PBox (w.alloc (.cells #[.int .u64 p.id, .int .i64 p.cls, .int .i64 p.len, .int .u64 p.tick] 24)) w.heap.size p := Box.new w 24 #[.int .u64 p.id, .int .i64 p.cls, .int .i64 p.len, .int .u64 p.tick]
  have T := up1 w (.cells #[.int .u64 p.id, .int .i64 p.cls, .int .i64 p.len, .int .u64 p.tick] 24)
  go_enter Tryd.func5, Tryd.ntmps5
  go_upto_region 1 with (fail)
  generalize w.alloc (.cells #[.int .u64 p.id, .int .i64 p.cls, .int .i64 p.len, .int .u64 p.tick] 24) = W0 at B1 T ⊢
  go_upto_region 5 with (go_at_call 12; (with_reducible refine (hA _ (ht.below T)).mono ?_); rintro e w1 ⟨rfl, hb⟩; replace B1 := Box.below B1 hb; replace T := ups T hb T.size; clear hb)
  obtain ⟨a0, a1, a2, a3⟩ := PBox.cells B1
  go_upto_region 6 with (go_at_call 8; (with_reducible refine (hX _ (ht.below T)).mono ?_); rintro e w2 ⟨rfl, hb⟩; replace B1 := Box.below B1 hb; replace T := ups T hb T.size; clear hb)
  clear a0 a1 a2 a3
  obtain ⟨a0, a1, a2, a3⟩ := PBox.cells B1
  go_upto_region 15 with (go_at_call 10; (with_reducible refine (hQ _ (ht.below T)).mono ?_); rintro e w5 ⟨rfl, hb⟩; replace T := ups T hb T.size; clear hb)
  have B9 : Box (w5.alloc (.cells #[.int .u64 r.id, .int .i64 r.cls, .int .i64 r.len, .int .u64 r.tick] 24)) w5.heap.size #[.int .u64 r.id, .int .i64 r.cls, .int .i64 r.len, .int .u64 r.tick] 24 := Box.new w5 24 #[.int .u64 r.id, .int .i64 r.cls, .int .i64 r.len, .int .u64 r.tick]
  replace T := T.alloc T.size (.cells #[.int .u64 r.id, .int .i64 r.cls, .int .i64 r.len, .int .u64 r.tick] 24)
  clear a0 a1 a2 a3 B1
  generalize w5.alloc (.cells #[.int .u64 r.id, .int .i64 r.cls, .int .i64 r.len, .int .u64 r.tick] 24) = W6 at B9 T ⊢
  obtain ⟨c0, c1, c2, c3, _, _, _, _⟩ := Box.four B9
  go_wp2_with (go_at_call 8; (with_reducible refine (hY _ (ht.below T)).mono ?_); rintro e w7 ⟨rfl, hb⟩; replace T := ups T hb T.size; clear hb)
  go_ret
  exact ⟨rfl, T⟩
set_option maxHeartbeats 4000000 in
set_option maxRecDepth 100000 in
theorem PacketBack_bad2_none (p r : Pk) (s u : ByteArray) (w : World) (ht : Tab w) (hs : (s.size : Int) ≤ 200) (gc : 0 ≤ p.cls) (gl : p.len < 0)
    (hA : ∀ w, Tab w → Calls Tryd.prog 12 #[] w fun e w' => e = .returned (.bool true) ∧ Below w.heap.size w w')
    (hX : ∀ w, Tab w → Calls Tryd.prog 8 #[.agg #[.int .u64 p.id, .int .i64 p.cls, .int .i64 p.len, .int .u64 p.tick]] w fun e w' => e = .returned (.tuple #[.string ⟨#[]⟩, .int .i64 2]) ∧ Below w.heap.size w w')
    (hQ : ∀ w, Tab w → Calls Tryd.prog 10 #[.string s] w fun e w' => e = .returned (.tuple #[.agg #[.int .u64 0, .int .i64 0, .int .i64 0, .int .u64 0], .int .i64 2]) ∧ Below w.heap.size w w')
    : Calls Tryd.prog 5 #[.agg #[.int .u64 p.id, .int .i64 p.cls, .int .i64 p.len, .int .u64 p.tick], .string s] w fun e w' => e = .returned (.bool true) ∧ Below w.heap.size w w' := by
  have B1 : PBox (w.alloc (.cells #[.int .u64 p.id, .int .i64 p.cls, .int .i64 p.len, .int .u64 p.tick] 24)) w.heap.size p := Box.new w 24 #[.int .u64 p.id, .int .i64 p.cls, .int .i64 p.len, .int .u64 p.tick]
  have T := up1 w (.cells #[.int .u64 p.id, .int .i64 p.cls, .int .i64 p.len, .int .u64 p.tick] 24)
  go_enter Tryd.func5, Tryd.ntmps5
  go_upto_region 1 with (fail)
  generalize w.alloc (.cells #[.int .u64 p.id, .int .i64 p.cls, .int .i64 p.len, .int .u64 p.tick] 24) = W0 at B1 T ⊢
  go_upto_region 5 with (go_at_call 12; (with_reducible refine (hA _ (ht.below T)).mono ?_); rintro e w1 ⟨rfl, hb⟩; replace B1 := Box.below B1 hb; replace T := ups T hb T.size; clear hb)
  obtain ⟨a0, a1, a2, a3⟩ := PBox.cells B1
  go_upto_region 6 with (go_at_call 8; (with_reducible refine (hX _ (ht.below T)).mono ?_); rintro e w2 ⟨rfl, hb⟩; replace B1 := Box.below B1 hb; replace T := ups T hb T.size; clear hb)
  clear a0 a1 a2 a3
  obtain ⟨a0, a1, a2, a3⟩ := PBox.cells B1
  go_upto_region 15 with (go_at_call 10; (with_reducible refine (hQ _ (ht.below T)).mono ?_); rintro e w5 ⟨rfl, hb⟩; replace T := ups T hb T.size; clear hb)
  have B9 : Box (w5.alloc (.cells #[.int .u64 0, .int .i64 0, .int .i64 0, .int .u64 0] 24)) w5.heap.size #[.int .u64 0, .int .i64 0, .int .i64 0, .int .u64 0] 24 := Box.new w5 24 #[.int .u64 0, .int .i64 0, .int .i64 0, .int .u64 0]
  replace T := T.alloc T.size (.cells #[.int .u64 0, .int .i64 0, .int .i64 0, .int .u64 0] 24)
  clear a0 a1 a2 a3 B1
  generalize w5.alloc (.cells #[.int .u64 0, .int .i64 0, .int .i64 0, .int .u64 0] 24) = W6 at B9 T ⊢
  obtain ⟨c0, c1, c2, c3, _, _, _, _⟩ := Box.four B9
  go_wp2
  go_ret
  exact ⟨rfl, T⟩
theorem PacketBack_long (p : Pk) (s : ByteArray) (w : World) (ht : Tab w) (hs : (200 : Int) < s.size)
    (hA : ∀ w, Tab w → Calls Tryd.prog 12 #[] w fun e w' => e = .returned (.bool true) ∧ Below w.heap.size w w') :
    Calls Tryd.prog 5 #[.agg #[.int .u64 p.id, .int .i64 p.cls, .int .i64 p.len, .int .u64 p.tick], .string s] w fun e w' => e = .returned (.bool true) ∧ Below w.heap.size w w' := by
  have T := up1 w (.cells #[.int .u64 p.id, .int .i64 p.cls, .int .i64 p.len, .int .u64 p.tick] 24)
  go_enter Tryd.func5, Tryd.ntmps5
  go_wp2_with (go_at_call 12; (with_reducible refine (hA _ (ht.below T)).mono ?_); rintro e w1 ⟨rfl, hb⟩; replace T := ups T hb T.size; clear hb)
  go_ret
  exact ⟨rfl, T⟩
theorem Parse_own_text (p : Pk) (hp : p.ok) (g : p.good) (w : World) (h : Tab w) :
    Calls Tryd.prog 10 #[.string ⟨(txt p).toArray⟩] w fun x w' => x = .returned (.tuple #[.agg #[.int .u64 p.id, .int .i64 p.cls, .int .i64 p.len, .int .u64 p.tick], .int .i64 0]) ∧ Below w.heap.size w w' := by
  obtain ⟨r, e, hIs, k⟩ := Parse_any ⟨(txt p).toArray⟩ w h
  obtain ⟨rfl, rfl⟩ := (show IsP (txt p) r e from hIs).of_txt hp g
  exact k
theorem PacketBack_walk (p : Pk) (s : ByteArray) (w : World) (ht : Tab w) (hp : p.ok) :
    Calls Tryd.prog 5 #[.agg #[.int .u64 p.id, .int .i64 p.cls, .int .i64 p.len, .int .u64 p.tick], .string s] w fun e w' => e = .returned (.bool true) ∧ Below w.heap.size w w' := by
  have hA := fun w h => awake_any w h
  by_cases hs : (200 : Int) < s.size
  · exact PacketBack_long p s w ht hs hA
  have hs' : (s.size : Int) ≤ 200 := by omega
  have hI := fun w h => Parse_any s w h
  obtain ⟨r, e, hIs, _⟩ := hI w ht
  have hQ : ∀ w, Tab w → Calls Tryd.prog 10 #[.string s] w fun x w' => x = .returned (.tuple #[pkV r, .int .i64 e]) ∧ Below w.heap.size w w' := fun w' h => by
    obtain ⟨r', e', hIs', h'⟩ := hI w' h
    obtain ⟨rfl, rfl⟩ := hIs'.unique hIs
    exact h'
  rcases hIs with ⟨rok, rgood, rtxt, rfl⟩ | ⟨_, rfl, rfl⟩
  · have hY : ∀ w, Tab w → Calls Tryd.prog 8 #[pkV r] w fun x w' => x = .returned (.tuple #[.string s, .int .i64 0]) ∧ Below w.heap.size w w' := fun w h => by
      have k := Text_good r rok rgood w h
      rw [← rtxt] at k
      exact k
    by_cases g : p.good
    · exact PacketBack_good_ok p r s _ w ht hs' g.1 g.2 hA (fun w h => Text_good p hp g w h) (fun w h => Parse_own_text p hp g w h) hQ hY
    · by_cases gc : p.cls < 0
      · exact PacketBack_bad1_ok p r s s w ht hs' gc hA (fun w h => Text_bad p hp g w h) hQ hY
      · exact PacketBack_bad2_ok p r s s w ht hs' (by omega) (by have : ¬ (0 ≤ p.cls ∧ 0 ≤ p.len) := g; omega) hA (fun w h => Text_bad p hp g w h) hQ hY
  · by_cases g : p.good
    · exact PacketBack_good_none p p s _ w ht hs' g.1 g.2 hA (fun w h => Text_good p hp g w h) (fun w h => Parse_own_text p hp g w h) hQ
    · by_cases gc : p.cls < 0
      · exact PacketBack_bad1_none p p s s w ht hs' gc hA (fun w h => Text_bad p hp g w h) hQ
      · exact PacketBack_bad2_none p p s s w ht hs' (by omega) (by have : ¬ (0 ≤ p.cls ∧ 0 ≤ p.len) := g; omega) hA (fun w h => Text_bad p hp g w h) hQ
end Go.Proofs.YtdmgalcfgignpaaDoor
