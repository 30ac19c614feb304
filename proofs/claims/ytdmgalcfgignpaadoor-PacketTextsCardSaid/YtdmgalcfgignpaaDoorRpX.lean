/- PacketTexts: its walk. Condition: the library's table of powers of ten holds them. -/
import Derived.Test.YtdmgalcfgignpaaDoorRpP
namespace Go.Proofs.YtdmgalcfgignpaaDoor
open Go.RowKit W
set_option linter.unusedVariables false
set_option maxHeartbeats 4000000 in
set_option maxRecDepth 100000 in
theorem PacketTexts_core (p r : Pk) (s u : ByteArray) (z x : Int) (w : World) (ht : Tab w) (hs : (s.size : Int) ≤ 200)
    (hT : ∀ w, Tab w → Calls Tryd.prog 8 #[.agg #[.int .u64 p.id, .int .i64 p.cls, .int .i64 p.len, .int .u64 p.tick]] w fun e w' => e = .returned (.tuple #[.string u, .int .i64 z]) ∧ Below w.heap.size w w')
    (hU : ∀ w, Calls Tryd.prog 9 #[.agg #[.int .u64 p.id, .int .i64 p.cls, .int .i64 p.len, .int .u64 p.tick]] w fun e w' => e = .returned (.tuple #[.string u, .int .i64 z]) ∧ Below w.heap.size w w')
    (hP : ∀ w, Tab w → Calls Tryd.prog 10 #[.string s] w fun e w' => e = .returned (.tuple #[.agg #[.int .u64 r.id, .int .i64 r.cls, .int .i64 r.len, .int .u64 r.tick], .int .i64 x]) ∧ Below w.heap.size w w')
    (hQ : ∀ w, Calls Tryd.prog 11 #[.string s] w fun e w' => e = .returned (.tuple #[.agg #[.int .u64 r.id, .int .i64 r.cls, .int .i64 r.len, .int .u64 r.tick], .int .i64 x]) ∧ Below w.heap.size w w') :
    Calls Tryd.prog 3 #[.agg #[.int .u64 p.id, .int .i64 p.cls, .int .i64 p.len, .int .u64 p.tick], .string s] w fun e w' => e = .returned (.bool true) ∧ Below w.heap.size w w' := by
  have B1 : PBox (w.alloc (.cells #[.int .u64 p.id, .int .i64 p.cls, .int .i64 p.len, .int .u64 p.tick] 24)) w.heap.size p := Box.new w 24 #[.int .u64 p.id, .int .i64 p.cls, .int .i64 p.len, .int .u64 p.tick]
  have T := up1 w (.cells #[.int .u64 p.id, .int .i64 p.cls, .int .i64 p.len, .int .u64 p.tick] 24)
  go_enter Tryd.func3, Tryd.ntmps3
  go_upto_region 1 with (fail)
  generalize w.alloc (.cells #[.int .u64 p.id, .int .i64 p.cls, .int .i64 p.len, .int .u64 p.tick] 24) = W0 at B1 T ⊢
  obtain ⟨a0, a1, a2, a3⟩ := PBox.cells B1
  go_upto_region 4 with (go_at_call 8; (with_reducible refine (hT _ (ht.below T)).mono ?_); rintro e w1 ⟨rfl, hb⟩; replace B1 := Box.below B1 hb; replace T := ups T hb T.size; clear hb)
  clear a0 a1 a2 a3
  obtain ⟨a0, a1, a2, a3⟩ := PBox.cells B1
  go_upto_region 5 with (go_at_call 9; (with_reducible refine (hU _).mono ?_); rintro e w2 ⟨rfl, hb⟩; replace T := ups T hb T.size; clear hb)
  clear a0 a1 a2 a3 B1
  go_upto_region 6 with (go_at_call 10; (with_reducible refine (hP _ (ht.below T)).mono ?_); rintro e w3 ⟨rfl, hb⟩; replace T := ups T hb T.size; clear hb)
  have B9 : PBox (w3.alloc (.cells #[.int .u64 r.id, .int .i64 r.cls, .int .i64 r.len, .int .u64 r.tick] 24)) w3.heap.size r := Box.new w3 24 #[.int .u64 r.id, .int .i64 r.cls, .int .i64 r.len, .int .u64 r.tick]
  replace T := T.alloc T.size (.cells #[.int .u64 r.id, .int .i64 r.cls, .int .i64 r.len, .int .u64 r.tick] 24)
  generalize w3.alloc (.cells #[.int .u64 r.id, .int .i64 r.cls, .int .i64 r.len, .int .u64 r.tick] 24) = W4 at B9 T ⊢
  go_upto_region 7 with (go_at_call 11; (with_reducible refine (hQ _).mono ?_); rintro e w5 ⟨rfl, hb⟩; replace B9 := Box.below B9 hb; replace T := ups T hb T.size; clear hb)
  have B11 : PBox (w5.alloc (.cells #[.int .u64 r.id, .int .i64 r.cls, .int .i64 r.len, .int .u64 r.tick] 24)) w5.heap.size r := Box.new w5 24 #[.int .u64 r.id, .int .i64 r.cls, .int .i64 r.len, .int .u64 r.tick]
  replace B9 := Box.alloc B9 (.cells #[.int .u64 r.id, .int .i64 r.cls, .int .i64 r.len, .int .u64 r.tick] 24)
  replace T := T.alloc T.size (.cells #[.int .u64 r.id, .int .i64 r.cls, .int .i64 r.len, .int .u64 r.tick] 24)
  generalize w5.alloc (.cells #[.int .u64 r.id, .int .i64 r.cls, .int .i64 r.len, .int .u64 r.tick] 24) = W6 at B9 B11 T ⊢
  obtain ⟨a0, a1, a2, a3⟩ := PBox.cells B9
  obtain ⟨b0, b1, b2, b3⟩ := PBox.cells B11
  go_wp2
  go_ret
  exact ⟨by simp, T⟩
theorem PacketTexts_long (p : Pk) (s : ByteArray) (w : World) (hs : (200 : Int) < s.size) :
    Calls Tryd.prog 3 #[.agg #[.int .u64 p.id, .int .i64 p.cls, .int .i64 p.len, .int .u64 p.tick], .string s] w fun e w' => e = .returned (.bool true) ∧ Below w.heap.size w w' := by
  go_enter Tryd.func3, Tryd.ntmps3
  go_wp2
  go_ret
  exact ⟨rfl, up1 _ _⟩
theorem PacketTexts_walk (p : Pk) (s : ByteArray) (w : World) (ht : Tab w) (hp : p.ok) :
    Calls Tryd.prog 3 #[.agg #[.int .u64 p.id, .int .i64 p.cls, .int .i64 p.len, .int .u64 p.tick], .string s] w fun e w' => e = .returned (.bool true) ∧ Below w.heap.size w w' := by
  by_cases hs : (200 : Int) < s.size
  · exact PacketTexts_long p s w hs
  obtain ⟨r, x, hI, hQ⟩ := RParse_any s (by omega)
  have hP : ∀ w, Tab w → Calls Tryd.prog 10 #[.string s] w fun e w' => e = .returned (.tuple #[pkV r, .int .i64 x]) ∧ Below w.heap.size w w' := fun w' h => by
    obtain ⟨r', e', hI', h'⟩ := Parse_any s w' h
    obtain ⟨rfl, rfl⟩ := hI'.unique hI
    exact h'
  by_cases g : p.good
  · exact PacketTexts_core p r s _ 0 x w ht (by omega) (fun w h => Text_good p hp g w h) (fun w => RText_good p hp g w) hP hQ
  · exact PacketTexts_core p r s _ 2 x w ht (by omega) (fun w h => Text_bad p hp g w h) (fun w => RText_bad p g w) hP hQ
end Go.Proofs.YtdmgalcfgignpaaDoor
