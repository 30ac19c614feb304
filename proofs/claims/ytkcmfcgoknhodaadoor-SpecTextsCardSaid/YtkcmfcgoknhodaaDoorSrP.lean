/- What the document's own Parse tells of a text of eight words. Condition: at most 1000 bytes. -/
import Derived.Test.YtkcmfcgoknhodaaDoorSrF
import Derived.Test.YtkcmfcgoknhodaaDoorSrGa
import Derived.Test.YtkcmfcgoknhodaaDoorSrGb
import Derived.Test.YtkcmfcgoknhodaaDoorSrHa
import Derived.Test.YtkcmfcgoknhodaaDoorSrHb
namespace Go.Proofs.YtkcmfcgoknhodaaDoor
open Go.RowKit Go.Lib W
set_option linter.unusedVariables false
theorem rParse_leaf (s : ByteArray) (l0 l1 l2 l3 l4 l5 l6 l7 : List UInt8) (x1 x2 x6 x7 e3 e4 e5 : Int) (y1 y2 y6 y7 b0 : Bool) (x y z : Cw) (R : Sp) (ee : Int) (w : World) (hs : s.size ≤ 1000)
    (hcut : cutd 32 s.data.toList = [l0, l1, l2, l3, l4, l5, l6, l7]) (n1 : 0 ≤ x1) (n2 : 0 ≤ x2) (n6 : 0 ≤ x6) (n7 : 0 ≤ x7)
    (ha0 : (l0 == [108, 101, 97, 102]) = true) (hb0 : (l0 == [105, 110, 110, 101, 114]) = b0)
    (h1 : ∀ w, Calls Tryd.prog 18 #[str l1] w fun e w' => e = .returned (.tuple #[.int .u64 x1, .bool y1]) ∧ Below w.heap.size w w')
    (h2 : ∀ w, Calls Tryd.prog 18 #[str l2] w fun e w' => e = .returned (.tuple #[.int .u64 x2, .bool y2]) ∧ Below w.heap.size w w')
    (h6 : ∀ w, Calls Tryd.prog 18 #[str l6] w fun e w' => e = .returned (.tuple #[.int .u64 x6, .bool y6]) ∧ Below w.heap.size w w')
    (h7 : ∀ w, Calls Tryd.prog 18 #[str l7] w fun e w' => e = .returned (.tuple #[.int .u64 x7, .bool y7]) ∧ Below w.heap.size w w')
    (h3 : ∀ w, Calls Tryd.prog 9 #[str l3] w fun e w' => e = .returned (.tuple #[.agg #[.int .u64 x.f, .int .u64 x.l, .int .u64 x.r], .int .i64 e3]) ∧ Below w.heap.size w w')
    (h4 : ∀ w, Calls Tryd.prog 9 #[str l4] w fun e w' => e = .returned (.tuple #[.agg #[.int .u64 y.f, .int .u64 y.l, .int .u64 y.r], .int .i64 e4]) ∧ Below w.heap.size w w')
    (h5 : ∀ w, Calls Tryd.prog 9 #[str l5] w fun e w' => e = .returned (.tuple #[.agg #[.int .u64 z.f, .int .u64 z.l, .int .u64 z.r], .int .i64 e5]) ∧ Below w.heap.size w w')
    (hno : ¬ ((true = true ∨ b0 = true) ∧ (y1 = true ∧ x1 ≤ 9223372036854775807) ∧ (y2 = true ∧ x2 ≤ 9223372036854775807) ∧ (y6 = true ∧ x6 ≤ 9223372036854775807) ∧ (y7 = true ∧ x7 ≤ 9223372036854775807) ∧ e3 = 0 ∧ e4 = 0 ∧ e5 = 0) → R = Sp.zero ∧ ee = 2)
    (hyes : ((true = true ∨ b0 = true) ∧ (y1 = true ∧ x1 ≤ 9223372036854775807) ∧ (y2 = true ∧ x2 ≤ 9223372036854775807) ∧ (y6 = true ∧ x6 ≤ 9223372036854775807) ∧ (y7 = true ∧ x7 ≤ 9223372036854775807) ∧ e3 = 0 ∧ e4 = 0 ∧ e5 = 0) → R = ⟨x1, x2, true, x, y, z, x6, x7⟩ ∧ ee = 0) :
    Calls Tryd.prog 7 #[.string s] w fun e w' => e = .returned (.tuple #[spW R, .int .i64 ee]) ∧ Below w.heap.size w w' := by
  by_cases hb : y1 = true ∧ x1 ≤ 9223372036854775807 ∧ y2 = true ∧ x2 ≤ 9223372036854775807
  · exact rParse_leaf34 s l0 l1 l2 l3 l4 l5 l6 l7 x1 x2 x6 x7 e3 e4 e5 y1 y2 y6 y7 b0 x y z R ee w hs hcut n1 n2 n6 n7 ha0 hb0 h1 h2 h6 h7 h3 h4 h5 hb.1 hb.2.1 hb.2.2.1 hb.2.2.2 hno hyes
  · exact rParse_leaf12 s l0 l1 l2 l3 l4 l5 l6 l7 x1 x2 x6 x7 e3 e4 e5 y1 y2 y6 y7 b0 x y z R ee w hs hcut n1 n2 n6 n7 ha0 hb0 h1 h2 h6 h7 h3 h4 h5 hb hno hyes
theorem rParse_inner (s : ByteArray) (l0 l1 l2 l3 l4 l5 l6 l7 : List UInt8) (x1 x2 x6 x7 e3 e4 e5 : Int) (y1 y2 y6 y7 : Bool) (x y z : Cw) (R : Sp) (ee : Int) (w : World) (hs : s.size ≤ 1000)
    (hcut : cutd 32 s.data.toList = [l0, l1, l2, l3, l4, l5, l6, l7]) (n1 : 0 ≤ x1) (n2 : 0 ≤ x2) (n6 : 0 ≤ x6) (n7 : 0 ≤ x7)
    (ha0 : (l0 == [108, 101, 97, 102]) = false) (hb0 : (l0 == [105, 110, 110, 101, 114]) = true)
    (h1 : ∀ w, Calls Tryd.prog 18 #[str l1] w fun e w' => e = .returned (.tuple #[.int .u64 x1, .bool y1]) ∧ Below w.heap.size w w')
    (h2 : ∀ w, Calls Tryd.prog 18 #[str l2] w fun e w' => e = .returned (.tuple #[.int .u64 x2, .bool y2]) ∧ Below w.heap.size w w')
    (h6 : ∀ w, Calls Tryd.prog 18 #[str l6] w fun e w' => e = .returned (.tuple #[.int .u64 x6, .bool y6]) ∧ Below w.heap.size w w')
    (h7 : ∀ w, Calls Tryd.prog 18 #[str l7] w fun e w' => e = .returned (.tuple #[.int .u64 x7, .bool y7]) ∧ Below w.heap.size w w')
    (h3 : ∀ w, Calls Tryd.prog 9 #[str l3] w fun e w' => e = .returned (.tuple #[.agg #[.int .u64 x.f, .int .u64 x.l, .int .u64 x.r], .int .i64 e3]) ∧ Below w.heap.size w w')
    (h4 : ∀ w, Calls Tryd.prog 9 #[str l4] w fun e w' => e = .returned (.tuple #[.agg #[.int .u64 y.f, .int .u64 y.l, .int .u64 y.r], .int .i64 e4]) ∧ Below w.heap.size w w')
    (h5 : ∀ w, Calls Tryd.prog 9 #[str l5] w fun e w' => e = .returned (.tuple #[.agg #[.int .u64 z.f, .int .u64 z.l, .int .u64 z.r], .int .i64 e5]) ∧ Below w.heap.size w w')
    (hno : ¬ ((false = true ∨ true = true) ∧ (y1 = true ∧ x1 ≤ 9223372036854775807) ∧ (y2 = true ∧ x2 ≤ 9223372036854775807) ∧ (y6 = true ∧ x6 ≤ 9223372036854775807) ∧ (y7 = true ∧ x7 ≤ 9223372036854775807) ∧ e3 = 0 ∧ e4 = 0 ∧ e5 = 0) → R = Sp.zero ∧ ee = 2)
    (hyes : ((false = true ∨ true = true) ∧ (y1 = true ∧ x1 ≤ 9223372036854775807) ∧ (y2 = true ∧ x2 ≤ 9223372036854775807) ∧ (y6 = true ∧ x6 ≤ 9223372036854775807) ∧ (y7 = true ∧ x7 ≤ 9223372036854775807) ∧ e3 = 0 ∧ e4 = 0 ∧ e5 = 0) → R = ⟨x1, x2, false, x, y, z, x6, x7⟩ ∧ ee = 0) :
    Calls Tryd.prog 7 #[.string s] w fun e w' => e = .returned (.tuple #[spW R, .int .i64 ee]) ∧ Below w.heap.size w w' := by
  by_cases hb : y1 = true ∧ x1 ≤ 9223372036854775807 ∧ y2 = true ∧ x2 ≤ 9223372036854775807
  · exact rParse_inner34 s l0 l1 l2 l3 l4 l5 l6 l7 x1 x2 x6 x7 e3 e4 e5 y1 y2 y6 y7 x y z R ee w hs hcut n1 n2 n6 n7 ha0 hb0 h1 h2 h6 h7 h3 h4 h5 hb.1 hb.2.1 hb.2.2.1 hb.2.2.2 hno hyes
  · exact rParse_inner12 s l0 l1 l2 l3 l4 l5 l6 l7 x1 x2 x6 x7 e3 e4 e5 y1 y2 y6 y7 x y z R ee w hs hcut n1 n2 n6 n7 ha0 hb0 h1 h2 h6 h7 h3 h4 h5 hb hno hyes
theorem rParse_at (s : ByteArray) (l0 l1 l2 l3 l4 l5 l6 l7 : List UInt8) (x1 x2 x6 x7 e3 e4 e5 : Int) (y1 y2 y6 y7 a0 b0 : Bool) (x y z : Cw) (R : Sp) (ee : Int) (w : World) (hs : s.size ≤ 1000)
    (hcut : cutd 32 s.data.toList = [l0, l1, l2, l3, l4, l5, l6, l7]) (n1 : 0 ≤ x1) (n2 : 0 ≤ x2) (n6 : 0 ≤ x6) (n7 : 0 ≤ x7)
    (ha0 : (l0 == [108, 101, 97, 102]) = a0) (hb0 : (l0 == [105, 110, 110, 101, 114]) = b0)
    (h1 : ∀ w, Calls Tryd.prog 18 #[str l1] w fun e w' => e = .returned (.tuple #[.int .u64 x1, .bool y1]) ∧ Below w.heap.size w w')
    (h2 : ∀ w, Calls Tryd.prog 18 #[str l2] w fun e w' => e = .returned (.tuple #[.int .u64 x2, .bool y2]) ∧ Below w.heap.size w w')
    (h6 : ∀ w, Calls Tryd.prog 18 #[str l6] w fun e w' => e = .returned (.tuple #[.int .u64 x6, .bool y6]) ∧ Below w.heap.size w w')
    (h7 : ∀ w, Calls Tryd.prog 18 #[str l7] w fun e w' => e = .returned (.tuple #[.int .u64 x7, .bool y7]) ∧ Below w.heap.size w w')
    (h3 : ∀ w, Calls Tryd.prog 9 #[str l3] w fun e w' => e = .returned (.tuple #[.agg #[.int .u64 x.f, .int .u64 x.l, .int .u64 x.r], .int .i64 e3]) ∧ Below w.heap.size w w')
    (h4 : ∀ w, Calls Tryd.prog 9 #[str l4] w fun e w' => e = .returned (.tuple #[.agg #[.int .u64 y.f, .int .u64 y.l, .int .u64 y.r], .int .i64 e4]) ∧ Below w.heap.size w w')
    (h5 : ∀ w, Calls Tryd.prog 9 #[str l5] w fun e w' => e = .returned (.tuple #[.agg #[.int .u64 z.f, .int .u64 z.l, .int .u64 z.r], .int .i64 e5]) ∧ Below w.heap.size w w')
    (hno : ¬ ((a0 = true ∨ b0 = true) ∧ (y1 = true ∧ x1 ≤ 9223372036854775807) ∧ (y2 = true ∧ x2 ≤ 9223372036854775807) ∧ (y6 = true ∧ x6 ≤ 9223372036854775807) ∧ (y7 = true ∧ x7 ≤ 9223372036854775807) ∧ e3 = 0 ∧ e4 = 0 ∧ e5 = 0) → R = Sp.zero ∧ ee = 2)
    (hyes : ((a0 = true ∨ b0 = true) ∧ (y1 = true ∧ x1 ≤ 9223372036854775807) ∧ (y2 = true ∧ x2 ≤ 9223372036854775807) ∧ (y6 = true ∧ x6 ≤ 9223372036854775807) ∧ (y7 = true ∧ x7 ≤ 9223372036854775807) ∧ e3 = 0 ∧ e4 = 0 ∧ e5 = 0) → R = ⟨x1, x2, a0, x, y, z, x6, x7⟩ ∧ ee = 0) :
    Calls Tryd.prog 7 #[.string s] w fun e w' => e = .returned (.tuple #[spW R, .int .i64 ee]) ∧ Below w.heap.size w w' := by
  cases a0
  · cases b0
    · exact rParse_bad s l0 l1 l2 l3 l4 l5 l6 l7 x1 x2 x6 x7 e3 e4 e5 y1 y2 y6 y7 x y z R ee w hs hcut n1 n2 n6 n7 ha0 hb0 h1 h2 h6 h7 h3 h4 h5 hno hyes
    · exact rParse_inner s l0 l1 l2 l3 l4 l5 l6 l7 x1 x2 x6 x7 e3 e4 e5 y1 y2 y6 y7 x y z R ee w hs hcut n1 n2 n6 n7 ha0 hb0 h1 h2 h6 h7 h3 h4 h5 hno hyes
  · exact rParse_leaf s l0 l1 l2 l3 l4 l5 l6 l7 x1 x2 x6 x7 e3 e4 e5 y1 y2 y6 y7 b0 x y z R ee w hs hcut n1 n2 n6 n7 ha0 hb0 h1 h2 h6 h7 h3 h4 h5 hno hyes
end Go.Proofs.YtkcmfcgoknhodaaDoor
