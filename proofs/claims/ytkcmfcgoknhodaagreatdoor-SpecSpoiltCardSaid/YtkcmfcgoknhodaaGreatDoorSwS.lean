/- SpecSpoilt's five copies, in whatever order they are made. No condition. -/
import Derived.Test.YtkcmfcgoknhodaaGreatDoorSwA
import Derived.Test.YtkcmfcgoknhodaaGreatDoorSwL
namespace Go.Proofs.YtkcmfcgoknhodaaGreatDoor
open Go.RowKit Go.Lib W
set_option linter.unusedVariables false
def ops5 : Array Oper :=
  #[{ dst := some 19, op := Op.load 26 (Operand.tmp 2), type := 26, pos := "outright.go:102", after := #[],
                  guard := none },
                { dst := some 20, op := Op.load 26 (Operand.tmp 2), type := 26, pos := "outright.go:102",
                  after := #[{ on := 10, ground := Ground.gcOnly Departure.lateStores }], guard := none },
                { dst := some 21, op := Op.load 26 (Operand.tmp 2), type := 26, pos := "outright.go:102",
                  after := #[{ on := 11, ground := Ground.gcOnly Departure.lateStores }], guard := none },
                { dst := some 22, op := Op.load 26 (Operand.tmp 2), type := 26, pos := "outright.go:102",
                  after := #[{ on := 12, ground := Ground.gcOnly Departure.lateStores }], guard := none },
                { dst := some 23, op := Op.load 26 (Operand.tmp 2), type := 26, pos := "outright.go:102",
                  after := #[{ on := 13, ground := Ground.gcOnly Departure.lateStores }], guard := none },
                { dst := some 5, op := Op.alloc 26, type := 0, pos := "outright.go:102", after := #[], guard := none },
                { dst := some 6, op := Op.alloc 26, type := 0, pos := "outright.go:102", after := #[], guard := none },
                { dst := some 7, op := Op.alloc 26, type := 0, pos := "outright.go:102", after := #[], guard := none },
                { dst := some 8, op := Op.alloc 26, type := 0, pos := "outright.go:102", after := #[], guard := none },
                { dst := some 9, op := Op.alloc 26, type := 0, pos := "outright.go:102", after := #[], guard := none },
                { dst := none, op := Op.store 26 (Operand.tmp 5) (Operand.tmp 19), type := 0, pos := "outright.go:102",
                  after :=
                    #[{ on := 5, ground := Ground.data }, { on := 0, ground := Ground.data },
                      { on := 0, ground := Ground.phase }, { on := 1, ground := Ground.textOnly Departure.lateStores },
                      { on := 2, ground := Ground.textOnly Departure.lateStores },
                      { on := 3, ground := Ground.textOnly Departure.lateStores },
                      { on := 4, ground := Ground.textOnly Departure.lateStores }, { on := 5, ground := Ground.phase },
                      { on := 6, ground := Ground.phase }, { on := 7, ground := Ground.phase },
                      { on := 8, ground := Ground.phase }, { on := 9, ground := Ground.phase }],
                  guard := none },
                { dst := none, op := Op.store 26 (Operand.tmp 6) (Operand.tmp 20), type := 0, pos := "outright.go:102",
                  after :=
                    #[{ on := 6, ground := Ground.data }, { on := 1, ground := Ground.data },
                      { on := 10, ground := Ground.chain }, { on := 0, ground := Ground.phase },
                      { on := 1, ground := Ground.phase }, { on := 2, ground := Ground.textOnly Departure.lateStores },
                      { on := 3, ground := Ground.textOnly Departure.lateStores },
                      { on := 4, ground := Ground.textOnly Departure.lateStores }, { on := 5, ground := Ground.phase },
                      { on := 6, ground := Ground.phase }, { on := 7, ground := Ground.phase },
                      { on := 8, ground := Ground.phase }, { on := 9, ground := Ground.phase },
                      { on := 10, ground := Ground.phase }],
                  guard := none },
                { dst := none, op := Op.store 26 (Operand.tmp 7) (Operand.tmp 21), type := 0, pos := "outright.go:102",
                  after :=
                    #[{ on := 7, ground := Ground.data }, { on := 2, ground := Ground.data },
                      { on := 11, ground := Ground.chain }, { on := 0, ground := Ground.phase },
                      { on := 1, ground := Ground.phase }, { on := 2, ground := Ground.phase },
                      { on := 3, ground := Ground.textOnly Departure.lateStores },
                      { on := 4, ground := Ground.textOnly Departure.lateStores }, { on := 5, ground := Ground.phase },
                      { on := 6, ground := Ground.phase }, { on := 7, ground := Ground.phase },
                      { on := 8, ground := Ground.phase }, { on := 9, ground := Ground.phase },
                      { on := 10, ground := Ground.phase }, { on := 11, ground := Ground.phase }],
                  guard := none },
                { dst := none, op := Op.store 26 (Operand.tmp 8) (Operand.tmp 22), type := 0, pos := "outright.go:102",
                  after :=
                    #[{ on := 8, ground := Ground.data }, { on := 3, ground := Ground.data },
                      { on := 12, ground := Ground.chain }, { on := 0, ground := Ground.phase },
                      { on := 1, ground := Ground.phase }, { on := 2, ground := Ground.phase },
                      { on := 3, ground := Ground.phase }, { on := 4, ground := Ground.textOnly Departure.lateStores },
                      { on := 5, ground := Ground.phase }, { on := 6, ground := Ground.phase },
                      { on := 7, ground := Ground.phase }, { on := 8, ground := Ground.phase },
                      { on := 9, ground := Ground.phase }, { on := 10, ground := Ground.phase },
                      { on := 11, ground := Ground.phase }, { on := 12, ground := Ground.phase }],
                  guard := none },
                { dst := none, op := Op.store 26 (Operand.tmp 9) (Operand.tmp 23), type := 0, pos := "outright.go:102",
                  after :=
                    #[{ on := 9, ground := Ground.data }, { on := 4, ground := Ground.data },
                      { on := 13, ground := Ground.chain }, { on := 0, ground := Ground.phase },
                      { on := 1, ground := Ground.phase }, { on := 2, ground := Ground.phase },
                      { on := 3, ground := Ground.phase }, { on := 4, ground := Ground.phase },
                      { on := 5, ground := Ground.phase }, { on := 6, ground := Ground.phase },
                      { on := 7, ground := Ground.phase }, { on := 8, ground := Ground.phase },
                      { on := 9, ground := Ground.phase }, { on := 10, ground := Ground.phase },
                      { on := 11, ground := Ground.phase }, { on := 12, ground := Ground.phase },
                      { on := 13, ground := Ground.phase }],
                  guard := none }]
abbrev zrA : Array Value := #[.int .i64 0, .int .i64 0, .bool false, .int .u64 0, .int .u64 0, .int .u64 0, .int .u64 0, .int .u64 0, .int .u64 0, .int .u64 0, .int .u64 0, .int .u64 0, .int .i64 0, .int .i64 0]
set_option maxHeartbeats 8000000 in
set_option maxRecDepth 100000 in
theorem Copy_31 {x0 x1 x4 x10 x11 x12 x13 x14 x15 x16 x17 x18 x24 x25 x26 x27 x28 x29 x30 x31 x32 x33 x34 x35 x36 x37 x38 x39 x40 x41 x42 x43 x44 x45 x46 x47 x48 x49 x50 x51 x52 x53 x54 x55 x56 x57 x58 : Value} (p : Sp) (C : Array Value) (w0 V : World) (bp dc : Nat) (b5 b6 b7 b8 b9 : Nat) {Q : Exit → Act → World → Prop} (hQ : ∀ (b5 b6 b7 b8 b9 : Nat) (W : World), Bl W bp (spA p) 26 → Bl W dc C 24 → Below w0.heap.size w0 W → Bl W b5 (spA p) 26 → Bl W b6 (spA p) 26 → Bl W b7 (spA p) 26 → Bl W b8 (spA p) 26 → Bl W b9 (spA p) 26 → (bp ≠ b5 ∧ dc ≠ b5 ∧ w0.heap.size ≤ b5) → (bp ≠ b6 ∧ dc ≠ b6 ∧ w0.heap.size ≤ b6) → (bp ≠ b7 ∧ dc ≠ b7 ∧ w0.heap.size ≤ b7) → (bp ≠ b8 ∧ dc ≠ b8 ∧ w0.heap.size ≤ b8) → (bp ≠ b9 ∧ dc ≠ b9 ∧ w0.heap.size ≤ b9) → (b5 ≠ b6 ∧ b5 ≠ b7 ∧ b5 ≠ b8 ∧ b5 ≠ b9 ∧ b6 ≠ b7 ∧ b6 ≠ b8 ∧ b6 ≠ b9 ∧ b7 ≠ b8 ∧ b7 ≠ b9 ∧ b8 ≠ b9) → Q .normal { tmps := #[x0, x1, .pointer (some ⟨bp, 0, none⟩), .pointer (some ⟨dc, 0, none⟩), x4, .pointer (some ⟨b5, 0, none⟩), .pointer (some ⟨b6, 0, none⟩), .pointer (some ⟨b7, 0, none⟩), .pointer (some ⟨b8, 0, none⟩), .pointer (some ⟨b9, 0, none⟩), x10, x11, x12, x13, x14, x15, x16, x17, x18, spW p, spW p, spW p, spW p, spW p, x24, x25, x26, x27, x28, x29, x30, x31, x32, x33, x34, x35, x36, x37, x38, x39, x40, x41, x42, x43, x44, x45, x46, x47, x48, x49, x50, x51, x52, x53, x54, x55, x56, x57, x58], defers := [] } W)
    (B : Bl V bp (spA p) 26) (D : Bl V dc C 24) (T : Below w0.heap.size w0 V) (A5 : Bl V b5 zrA 26) (n5 : bp ≠ b5 ∧ dc ≠ b5 ∧ w0.heap.size ≤ b5) (A6 : Bl V b6 zrA 26) (n6 : bp ≠ b6 ∧ dc ≠ b6 ∧ w0.heap.size ≤ b6) (A7 : Bl V b7 zrA 26) (n7 : bp ≠ b7 ∧ dc ≠ b7 ∧ w0.heap.size ≤ b7) (A8 : Bl V b8 zrA 26) (n8 : bp ≠ b8 ∧ dc ≠ b8 ∧ w0.heap.size ≤ b8) (A9 : Bl V b9 zrA 26) (n9 : bp ≠ b9 ∧ dc ≠ b9 ∧ w0.heap.size ≤ b9) (q56 : b5 ≠ b6) (q57 : b5 ≠ b7) (q58 : b5 ≠ b8) (q59 : b5 ≠ b9) (q67 : b6 ≠ b7) (q68 : b6 ≠ b8) (q69 : b6 ≠ b9) (q78 : b7 ≠ b8) (q79 : b7 ≠ b9) (q89 : b8 ≠ b9) :
    wpAnyH Tryz.prog .any ops5 Q (fun w' => Bl w' bp (spA p) 26) 5 #[true, true, true, true, true, true, true, true, true, true, false, false, false, false, false] { tmps := #[x0, x1, .pointer (some ⟨bp, 0, none⟩), .pointer (some ⟨dc, 0, none⟩), x4, .pointer (some ⟨b5, 0, none⟩), .pointer (some ⟨b6, 0, none⟩), .pointer (some ⟨b7, 0, none⟩), .pointer (some ⟨b8, 0, none⟩), .pointer (some ⟨b9, 0, none⟩), x10, x11, x12, x13, x14, x15, x16, x17, x18, spW p, spW p, spW p, spW p, spW p, x24, x25, x26, x27, x28, x29, x30, x31, x32, x33, x34, x35, x36, x37, x38, x39, x40, x41, x42, x43, x44, x45, x46, x47, x48, x49, x50, x51, x52, x53, x54, x55, x56, x57, x58], defers := [] } V := by
  refine wpAnyH_ready (rs := [10]) (by kernel_rfl) (by simp) ?_
  refine AllReadyH.cons (by simp only [ops5, List.getElem?_toArray, List.getElem?_cons_zero, List.getElem?_cons_succ]; rfl) (fun K hK => ?_) AllReadyH.nil
  obtain ⟨c0, c1, c2, c3, c4, c5, c6, c7, c8, c9, c10, c11, c12, c13⟩ := id A5.at14
  obtain ⟨t0, t1, t2, t3, t4, t5, t6, t7, t8, t9, t10, t11, t12, t13⟩ := id A5.thaw14
  go_simp
  refine nameW (P := fun W' => Bl W' bp (spA p) 26 ∧ Bl W' dc C 24 ∧ Below w0.heap.size w0 W' ∧ Bl W' b5 (spA p) 26 ∧ Bl W' b6 zrA 26 ∧ Bl W' b7 zrA 26 ∧ Bl W' b8 zrA 26 ∧ Bl W' b9 zrA 26) ⟨Bl.ne14 B n5.1 _ _ _ _ _ _ _ _ _ _ _ _ _ _, Bl.ne14 D n5.2.1 _ _ _ _ _ _ _ _ _ _ _ _ _ _, below14 T n5.2.2 _ _ _ _ _ _ _ _ _ _ _ _ _ _, Bl.set14 A5 _ _ _ _ _ _ _ _ _ _ _ _ _ _, Bl.ne14 A6 (q56.symm) _ _ _ _ _ _ _ _ _ _ _ _ _ _, Bl.ne14 A7 (q57.symm) _ _ _ _ _ _ _ _ _ _ _ _ _ _, Bl.ne14 A8 (q58.symm) _ _ _ _ _ _ _ _ _ _ _ _ _ _, Bl.ne14 A9 (q59.symm) _ _ _ _ _ _ _ _ _ _ _ _ _ _⟩ (fun U5 hV => ?_)
  clear B D T A5 A6 A7 A8 A9 c0 t0 c1 t1 c2 t2 c3 t3 c4 t4 c5 t5 c6 t6 c7 t7 c8 t8 c9 t9 c10 t10 c11 t11 c12 t12 c13 t13
  obtain ⟨B, D, T, A5, A6, A7, A8, A9⟩ := hV
  refine hK.out _ _ B (fun hHeld => ?_)
  clear hK K
  try simp only [List.setIfInBounds_toArray, List.set_cons_zero, List.set_cons_succ]
  refine wpAnyH_ready (rs := [11]) (by kernel_rfl) (by simp) ?_
  refine AllReadyH.cons (by simp only [ops5, List.getElem?_toArray, List.getElem?_cons_zero, List.getElem?_cons_succ]; rfl) (fun K hK => ?_) AllReadyH.nil
  obtain ⟨c0, c1, c2, c3, c4, c5, c6, c7, c8, c9, c10, c11, c12, c13⟩ := id A6.at14
  obtain ⟨t0, t1, t2, t3, t4, t5, t6, t7, t8, t9, t10, t11, t12, t13⟩ := id A6.thaw14
  go_simp
  refine nameW (P := fun W' => Bl W' bp (spA p) 26 ∧ Bl W' dc C 24 ∧ Below w0.heap.size w0 W' ∧ Bl W' b5 (spA p) 26 ∧ Bl W' b6 (spA p) 26 ∧ Bl W' b7 zrA 26 ∧ Bl W' b8 zrA 26 ∧ Bl W' b9 zrA 26) ⟨Bl.ne14 B n6.1 _ _ _ _ _ _ _ _ _ _ _ _ _ _, Bl.ne14 D n6.2.1 _ _ _ _ _ _ _ _ _ _ _ _ _ _, below14 T n6.2.2 _ _ _ _ _ _ _ _ _ _ _ _ _ _, Bl.ne14 A5 (q56) _ _ _ _ _ _ _ _ _ _ _ _ _ _, Bl.set14 A6 _ _ _ _ _ _ _ _ _ _ _ _ _ _, Bl.ne14 A7 (q67.symm) _ _ _ _ _ _ _ _ _ _ _ _ _ _, Bl.ne14 A8 (q68.symm) _ _ _ _ _ _ _ _ _ _ _ _ _ _, Bl.ne14 A9 (q69.symm) _ _ _ _ _ _ _ _ _ _ _ _ _ _⟩ (fun U6 hV => ?_)
  clear B D T A5 A6 A7 A8 A9 c0 t0 c1 t1 c2 t2 c3 t3 c4 t4 c5 t5 c6 t6 c7 t7 c8 t8 c9 t9 c10 t10 c11 t11 c12 t12 c13 t13
  obtain ⟨B, D, T, A5, A6, A7, A8, A9⟩ := hV
  refine hK.out _ _ B (fun hHeld => ?_)
  clear hK K
  try simp only [List.setIfInBounds_toArray, List.set_cons_zero, List.set_cons_succ]
  refine wpAnyH_ready (rs := [12]) (by kernel_rfl) (by simp) ?_
  refine AllReadyH.cons (by simp only [ops5, List.getElem?_toArray, List.getElem?_cons_zero, List.getElem?_cons_succ]; rfl) (fun K hK => ?_) AllReadyH.nil
  obtain ⟨c0, c1, c2, c3, c4, c5, c6, c7, c8, c9, c10, c11, c12, c13⟩ := id A7.at14
  obtain ⟨t0, t1, t2, t3, t4, t5, t6, t7, t8, t9, t10, t11, t12, t13⟩ := id A7.thaw14
  go_simp
  refine nameW (P := fun W' => Bl W' bp (spA p) 26 ∧ Bl W' dc C 24 ∧ Below w0.heap.size w0 W' ∧ Bl W' b5 (spA p) 26 ∧ Bl W' b6 (spA p) 26 ∧ Bl W' b7 (spA p) 26 ∧ Bl W' b8 zrA 26 ∧ Bl W' b9 zrA 26) ⟨Bl.ne14 B n7.1 _ _ _ _ _ _ _ _ _ _ _ _ _ _, Bl.ne14 D n7.2.1 _ _ _ _ _ _ _ _ _ _ _ _ _ _, below14 T n7.2.2 _ _ _ _ _ _ _ _ _ _ _ _ _ _, Bl.ne14 A5 (q57) _ _ _ _ _ _ _ _ _ _ _ _ _ _, Bl.ne14 A6 (q67) _ _ _ _ _ _ _ _ _ _ _ _ _ _, Bl.set14 A7 _ _ _ _ _ _ _ _ _ _ _ _ _ _, Bl.ne14 A8 (q78.symm) _ _ _ _ _ _ _ _ _ _ _ _ _ _, Bl.ne14 A9 (q79.symm) _ _ _ _ _ _ _ _ _ _ _ _ _ _⟩ (fun U7 hV => ?_)
  clear B D T A5 A6 A7 A8 A9 c0 t0 c1 t1 c2 t2 c3 t3 c4 t4 c5 t5 c6 t6 c7 t7 c8 t8 c9 t9 c10 t10 c11 t11 c12 t12 c13 t13
  obtain ⟨B, D, T, A5, A6, A7, A8, A9⟩ := hV
  refine hK.out _ _ B (fun hHeld => ?_)
  clear hK K
  try simp only [List.setIfInBounds_toArray, List.set_cons_zero, List.set_cons_succ]
  refine wpAnyH_ready (rs := [13]) (by kernel_rfl) (by simp) ?_
  refine AllReadyH.cons (by simp only [ops5, List.getElem?_toArray, List.getElem?_cons_zero, List.getElem?_cons_succ]; rfl) (fun K hK => ?_) AllReadyH.nil
  obtain ⟨c0, c1, c2, c3, c4, c5, c6, c7, c8, c9, c10, c11, c12, c13⟩ := id A8.at14
  obtain ⟨t0, t1, t2, t3, t4, t5, t6, t7, t8, t9, t10, t11, t12, t13⟩ := id A8.thaw14
  go_simp
  refine nameW (P := fun W' => Bl W' bp (spA p) 26 ∧ Bl W' dc C 24 ∧ Below w0.heap.size w0 W' ∧ Bl W' b5 (spA p) 26 ∧ Bl W' b6 (spA p) 26 ∧ Bl W' b7 (spA p) 26 ∧ Bl W' b8 (spA p) 26 ∧ Bl W' b9 zrA 26) ⟨Bl.ne14 B n8.1 _ _ _ _ _ _ _ _ _ _ _ _ _ _, Bl.ne14 D n8.2.1 _ _ _ _ _ _ _ _ _ _ _ _ _ _, below14 T n8.2.2 _ _ _ _ _ _ _ _ _ _ _ _ _ _, Bl.ne14 A5 (q58) _ _ _ _ _ _ _ _ _ _ _ _ _ _, Bl.ne14 A6 (q68) _ _ _ _ _ _ _ _ _ _ _ _ _ _, Bl.ne14 A7 (q78) _ _ _ _ _ _ _ _ _ _ _ _ _ _, Bl.set14 A8 _ _ _ _ _ _ _ _ _ _ _ _ _ _, Bl.ne14 A9 (q89.symm) _ _ _ _ _ _ _ _ _ _ _ _ _ _⟩ (fun U8 hV => ?_)
  clear B D T A5 A6 A7 A8 A9 c0 t0 c1 t1 c2 t2 c3 t3 c4 t4 c5 t5 c6 t6 c7 t7 c8 t8 c9 t9 c10 t10 c11 t11 c12 t12 c13 t13
  obtain ⟨B, D, T, A5, A6, A7, A8, A9⟩ := hV
  refine hK.out _ _ B (fun hHeld => ?_)
  clear hK K
  try simp only [List.setIfInBounds_toArray, List.set_cons_zero, List.set_cons_succ]
  refine wpAnyH_ready (rs := [14]) (by kernel_rfl) (by simp) ?_
  refine AllReadyH.cons (by simp only [ops5, List.getElem?_toArray, List.getElem?_cons_zero, List.getElem?_cons_succ]; rfl) (fun K hK => ?_) AllReadyH.nil
  obtain ⟨c0, c1, c2, c3, c4, c5, c6, c7, c8, c9, c10, c11, c12, c13⟩ := id A9.at14
  obtain ⟨t0, t1, t2, t3, t4, t5, t6, t7, t8, t9, t10, t11, t12, t13⟩ := id A9.thaw14
  go_simp
  refine nameW (P := fun W' => Bl W' bp (spA p) 26 ∧ Bl W' dc C 24 ∧ Below w0.heap.size w0 W' ∧ Bl W' b5 (spA p) 26 ∧ Bl W' b6 (spA p) 26 ∧ Bl W' b7 (spA p) 26 ∧ Bl W' b8 (spA p) 26 ∧ Bl W' b9 (spA p) 26) ⟨Bl.ne14 B n9.1 _ _ _ _ _ _ _ _ _ _ _ _ _ _, Bl.ne14 D n9.2.1 _ _ _ _ _ _ _ _ _ _ _ _ _ _, below14 T n9.2.2 _ _ _ _ _ _ _ _ _ _ _ _ _ _, Bl.ne14 A5 (q59) _ _ _ _ _ _ _ _ _ _ _ _ _ _, Bl.ne14 A6 (q69) _ _ _ _ _ _ _ _ _ _ _ _ _ _, Bl.ne14 A7 (q79) _ _ _ _ _ _ _ _ _ _ _ _ _ _, Bl.ne14 A8 (q89) _ _ _ _ _ _ _ _ _ _ _ _ _ _, Bl.set14 A9 _ _ _ _ _ _ _ _ _ _ _ _ _ _⟩ (fun U9 hV => ?_)
  clear B D T A5 A6 A7 A8 A9 c0 t0 c1 t1 c2 t2 c3 t3 c4 t4 c5 t5 c6 t6 c7 t7 c8 t8 c9 t9 c10 t10 c11 t11 c12 t12 c13 t13
  obtain ⟨B, D, T, A5, A6, A7, A8, A9⟩ := hV
  refine hK.out _ _ B (fun hHeld => ?_)
  clear hK K
  try simp only [List.setIfInBounds_toArray, List.set_cons_zero, List.set_cons_succ]
  refine wpAnyH_done (by kernel_rfl) ?_ _
  exact hQ b5 b6 b7 b8 b9 _ B D T A5 A6 A7 A8 A9 n5 n6 n7 n8 n9 ⟨q56, q57, q58, q59, q67, q68, q69, q78, q79, q89⟩
set_option maxHeartbeats 8000000 in
set_option maxRecDepth 100000 in
theorem Copy_15 {x0 x1 x4 x10 x11 x12 x13 x14 x15 x16 x17 x18 x24 x25 x26 x27 x28 x29 x30 x31 x32 x33 x34 x35 x36 x37 x38 x39 x40 x41 x42 x43 x44 x45 x46 x47 x48 x49 x50 x51 x52 x53 x54 x55 x56 x57 x58 : Value} {v9 : Value} (p : Sp) (C : Array Value) (w0 V : World) (bp dc : Nat) (b5 b6 b7 b8 : Nat) {Q : Exit → Act → World → Prop} (hQ : ∀ (b5 b6 b7 b8 b9 : Nat) (W : World), Bl W bp (spA p) 26 → Bl W dc C 24 → Below w0.heap.size w0 W → Bl W b5 (spA p) 26 → Bl W b6 (spA p) 26 → Bl W b7 (spA p) 26 → Bl W b8 (spA p) 26 → Bl W b9 (spA p) 26 → (bp ≠ b5 ∧ dc ≠ b5 ∧ w0.heap.size ≤ b5) → (bp ≠ b6 ∧ dc ≠ b6 ∧ w0.heap.size ≤ b6) → (bp ≠ b7 ∧ dc ≠ b7 ∧ w0.heap.size ≤ b7) → (bp ≠ b8 ∧ dc ≠ b8 ∧ w0.heap.size ≤ b8) → (bp ≠ b9 ∧ dc ≠ b9 ∧ w0.heap.size ≤ b9) → (b5 ≠ b6 ∧ b5 ≠ b7 ∧ b5 ≠ b8 ∧ b5 ≠ b9 ∧ b6 ≠ b7 ∧ b6 ≠ b8 ∧ b6 ≠ b9 ∧ b7 ≠ b8 ∧ b7 ≠ b9 ∧ b8 ≠ b9) → Q .normal { tmps := #[x0, x1, .pointer (some ⟨bp, 0, none⟩), .pointer (some ⟨dc, 0, none⟩), x4, .pointer (some ⟨b5, 0, none⟩), .pointer (some ⟨b6, 0, none⟩), .pointer (some ⟨b7, 0, none⟩), .pointer (some ⟨b8, 0, none⟩), .pointer (some ⟨b9, 0, none⟩), x10, x11, x12, x13, x14, x15, x16, x17, x18, spW p, spW p, spW p, spW p, spW p, x24, x25, x26, x27, x28, x29, x30, x31, x32, x33, x34, x35, x36, x37, x38, x39, x40, x41, x42, x43, x44, x45, x46, x47, x48, x49, x50, x51, x52, x53, x54, x55, x56, x57, x58], defers := [] } W)
    (B : Bl V bp (spA p) 26) (D : Bl V dc C 24) (T : Below w0.heap.size w0 V) (A5 : Bl V b5 zrA 26) (n5 : bp ≠ b5 ∧ dc ≠ b5 ∧ w0.heap.size ≤ b5) (A6 : Bl V b6 zrA 26) (n6 : bp ≠ b6 ∧ dc ≠ b6 ∧ w0.heap.size ≤ b6) (A7 : Bl V b7 zrA 26) (n7 : bp ≠ b7 ∧ dc ≠ b7 ∧ w0.heap.size ≤ b7) (A8 : Bl V b8 zrA 26) (n8 : bp ≠ b8 ∧ dc ≠ b8 ∧ w0.heap.size ≤ b8) (q56 : b5 ≠ b6) (q57 : b5 ≠ b7) (q58 : b5 ≠ b8) (q67 : b6 ≠ b7) (q68 : b6 ≠ b8) (q78 : b7 ≠ b8) :
    wpAnyH Tryz.prog .any ops5 Q (fun w' => Bl w' bp (spA p) 26) 6 #[true, true, true, true, true, true, true, true, true, false, false, false, false, false, false] { tmps := #[x0, x1, .pointer (some ⟨bp, 0, none⟩), .pointer (some ⟨dc, 0, none⟩), x4, .pointer (some ⟨b5, 0, none⟩), .pointer (some ⟨b6, 0, none⟩), .pointer (some ⟨b7, 0, none⟩), .pointer (some ⟨b8, 0, none⟩), v9, x10, x11, x12, x13, x14, x15, x16, x17, x18, spW p, spW p, spW p, spW p, spW p, x24, x25, x26, x27, x28, x29, x30, x31, x32, x33, x34, x35, x36, x37, x38, x39, x40, x41, x42, x43, x44, x45, x46, x47, x48, x49, x50, x51, x52, x53, x54, x55, x56, x57, x58], defers := [] } V := by
  refine wpAnyH_ready (rs := [9]) (by kernel_rfl) (by simp) ?_
  refine AllReadyH.cons (by simp only [ops5, List.getElem?_toArray, List.getElem?_cons_zero, List.getElem?_cons_succ]; rfl) (fun K hK => ?_) AllReadyH.nil
  go_simp
  refine hK.out _ _ (B.alloc _) (fun hHeld => ?_)
  clear hK K
  try simp only [List.setIfInBounds_toArray, List.set_cons_zero, List.set_cons_succ]
  exact Copy_31 p C w0 _ bp dc b5 b6 b7 b8 V.heap.size hQ (B.alloc _) (D.alloc _) (T.alloc T.size _) (A5.alloc _) n5 (A6.alloc _) n6 (A7.alloc _) n7 (A8.alloc _) n8 (Bl.new _ _ _) ⟨Nat.ne_of_lt B.lt, Nat.ne_of_lt D.lt, T.size⟩ q56 q57 q58 (Nat.ne_of_lt A5.lt) q67 q68 (Nat.ne_of_lt A6.lt) q78 (Nat.ne_of_lt A7.lt) (Nat.ne_of_lt A8.lt)
set_option maxHeartbeats 8000000 in
set_option maxRecDepth 100000 in
theorem Copy_23 {x0 x1 x4 x10 x11 x12 x13 x14 x15 x16 x17 x18 x24 x25 x26 x27 x28 x29 x30 x31 x32 x33 x34 x35 x36 x37 x38 x39 x40 x41 x42 x43 x44 x45 x46 x47 x48 x49 x50 x51 x52 x53 x54 x55 x56 x57 x58 : Value} {v8 : Value} (p : Sp) (C : Array Value) (w0 V : World) (bp dc : Nat) (b5 b6 b7 b9 : Nat) {Q : Exit → Act → World → Prop} (hQ : ∀ (b5 b6 b7 b8 b9 : Nat) (W : World), Bl W bp (spA p) 26 → Bl W dc C 24 → Below w0.heap.size w0 W → Bl W b5 (spA p) 26 → Bl W b6 (spA p) 26 → Bl W b7 (spA p) 26 → Bl W b8 (spA p) 26 → Bl W b9 (spA p) 26 → (bp ≠ b5 ∧ dc ≠ b5 ∧ w0.heap.size ≤ b5) → (bp ≠ b6 ∧ dc ≠ b6 ∧ w0.heap.size ≤ b6) → (bp ≠ b7 ∧ dc ≠ b7 ∧ w0.heap.size ≤ b7) → (bp ≠ b8 ∧ dc ≠ b8 ∧ w0.heap.size ≤ b8) → (bp ≠ b9 ∧ dc ≠ b9 ∧ w0.heap.size ≤ b9) → (b5 ≠ b6 ∧ b5 ≠ b7 ∧ b5 ≠ b8 ∧ b5 ≠ b9 ∧ b6 ≠ b7 ∧ b6 ≠ b8 ∧ b6 ≠ b9 ∧ b7 ≠ b8 ∧ b7 ≠ b9 ∧ b8 ≠ b9) → Q .normal { tmps := #[x0, x1, .pointer (some ⟨bp, 0, none⟩), .pointer (some ⟨dc, 0, none⟩), x4, .pointer (some ⟨b5, 0, none⟩), .pointer (some ⟨b6, 0, none⟩), .pointer (some ⟨b7, 0, none⟩), .pointer (some ⟨b8, 0, none⟩), .pointer (some ⟨b9, 0, none⟩), x10, x11, x12, x13, x14, x15, x16, x17, x18, spW p, spW p, spW p, spW p, spW p, x24, x25, x26, x27, x28, x29, x30, x31, x32, x33, x34, x35, x36, x37, x38, x39, x40, x41, x42, x43, x44, x45, x46, x47, x48, x49, x50, x51, x52, x53, x54, x55, x56, x57, x58], defers := [] } W)
    (B : Bl V bp (spA p) 26) (D : Bl V dc C 24) (T : Below w0.heap.size w0 V) (A5 : Bl V b5 zrA 26) (n5 : bp ≠ b5 ∧ dc ≠ b5 ∧ w0.heap.size ≤ b5) (A6 : Bl V b6 zrA 26) (n6 : bp ≠ b6 ∧ dc ≠ b6 ∧ w0.heap.size ≤ b6) (A7 : Bl V b7 zrA 26) (n7 : bp ≠ b7 ∧ dc ≠ b7 ∧ w0.heap.size ≤ b7) (A9 : Bl V b9 zrA 26) (n9 : bp ≠ b9 ∧ dc ≠ b9 ∧ w0.heap.size ≤ b9) (q56 : b5 ≠ b6) (q57 : b5 ≠ b7) (q59 : b5 ≠ b9) (q67 : b6 ≠ b7) (q69 : b6 ≠ b9) (q79 : b7 ≠ b9) :
    wpAnyH Tryz.prog .any ops5 Q (fun w' => Bl w' bp (spA p) 26) 6 #[true, true, true, true, true, true, true, true, false, true, false, false, false, false, false] { tmps := #[x0, x1, .pointer (some ⟨bp, 0, none⟩), .pointer (some ⟨dc, 0, none⟩), x4, .pointer (some ⟨b5, 0, none⟩), .pointer (some ⟨b6, 0, none⟩), .pointer (some ⟨b7, 0, none⟩), v8, .pointer (some ⟨b9, 0, none⟩), x10, x11, x12, x13, x14, x15, x16, x17, x18, spW p, spW p, spW p, spW p, spW p, x24, x25, x26, x27, x28, x29, x30, x31, x32, x33, x34, x35, x36, x37, x38, x39, x40, x41, x42, x43, x44, x45, x46, x47, x48, x49, x50, x51, x52, x53, x54, x55, x56, x57, x58], defers := [] } V := by
  refine wpAnyH_ready (rs := [8]) (by kernel_rfl) (by simp) ?_
  refine AllReadyH.cons (by simp only [ops5, List.getElem?_toArray, List.getElem?_cons_zero, List.getElem?_cons_succ]; rfl) (fun K hK => ?_) AllReadyH.nil
  go_simp
  refine hK.out _ _ (B.alloc _) (fun hHeld => ?_)
  clear hK K
  try simp only [List.setIfInBounds_toArray, List.set_cons_zero, List.set_cons_succ]
  exact Copy_31 p C w0 _ bp dc b5 b6 b7 V.heap.size b9 hQ (B.alloc _) (D.alloc _) (T.alloc T.size _) (A5.alloc _) n5 (A6.alloc _) n6 (A7.alloc _) n7 (Bl.new _ _ _) ⟨Nat.ne_of_lt B.lt, Nat.ne_of_lt D.lt, T.size⟩ (A9.alloc _) n9 q56 q57 (Nat.ne_of_lt A5.lt) q59 q67 (Nat.ne_of_lt A6.lt) q69 (Nat.ne_of_lt A7.lt) q79 (Nat.ne_of_gt A9.lt)
set_option maxHeartbeats 8000000 in
set_option maxRecDepth 100000 in
theorem Copy_27 {x0 x1 x4 x10 x11 x12 x13 x14 x15 x16 x17 x18 x24 x25 x26 x27 x28 x29 x30 x31 x32 x33 x34 x35 x36 x37 x38 x39 x40 x41 x42 x43 x44 x45 x46 x47 x48 x49 x50 x51 x52 x53 x54 x55 x56 x57 x58 : Value} {v7 : Value} (p : Sp) (C : Array Value) (w0 V : World) (bp dc : Nat) (b5 b6 b8 b9 : Nat) {Q : Exit → Act → World → Prop} (hQ : ∀ (b5 b6 b7 b8 b9 : Nat) (W : World), Bl W bp (spA p) 26 → Bl W dc C 24 → Below w0.heap.size w0 W → Bl W b5 (spA p) 26 → Bl W b6 (spA p) 26 → Bl W b7 (spA p) 26 → Bl W b8 (spA p) 26 → Bl W b9 (spA p) 26 → (bp ≠ b5 ∧ dc ≠ b5 ∧ w0.heap.size ≤ b5) → (bp ≠ b6 ∧ dc ≠ b6 ∧ w0.heap.size ≤ b6) → (bp ≠ b7 ∧ dc ≠ b7 ∧ w0.heap.size ≤ b7) → (bp ≠ b8 ∧ dc ≠ b8 ∧ w0.heap.size ≤ b8) → (bp ≠ b9 ∧ dc ≠ b9 ∧ w0.heap.size ≤ b9) → (b5 ≠ b6 ∧ b5 ≠ b7 ∧ b5 ≠ b8 ∧ b5 ≠ b9 ∧ b6 ≠ b7 ∧ b6 ≠ b8 ∧ b6 ≠ b9 ∧ b7 ≠ b8 ∧ b7 ≠ b9 ∧ b8 ≠ b9) → Q .normal { tmps := #[x0, x1, .pointer (some ⟨bp, 0, none⟩), .pointer (some ⟨dc, 0, none⟩), x4, .pointer (some ⟨b5, 0, none⟩), .pointer (some ⟨b6, 0, none⟩), .pointer (some ⟨b7, 0, none⟩), .pointer (some ⟨b8, 0, none⟩), .pointer (some ⟨b9, 0, none⟩), x10, x11, x12, x13, x14, x15, x16, x17, x18, spW p, spW p, spW p, spW p, spW p, x24, x25, x26, x27, x28, x29, x30, x31, x32, x33, x34, x35, x36, x37, x38, x39, x40, x41, x42, x43, x44, x45, x46, x47, x48, x49, x50, x51, x52, x53, x54, x55, x56, x57, x58], defers := [] } W)
    (B : Bl V bp (spA p) 26) (D : Bl V dc C 24) (T : Below w0.heap.size w0 V) (A5 : Bl V b5 zrA 26) (n5 : bp ≠ b5 ∧ dc ≠ b5 ∧ w0.heap.size ≤ b5) (A6 : Bl V b6 zrA 26) (n6 : bp ≠ b6 ∧ dc ≠ b6 ∧ w0.heap.size ≤ b6) (A8 : Bl V b8 zrA 26) (n8 : bp ≠ b8 ∧ dc ≠ b8 ∧ w0.heap.size ≤ b8) (A9 : Bl V b9 zrA 26) (n9 : bp ≠ b9 ∧ dc ≠ b9 ∧ w0.heap.size ≤ b9) (q56 : b5 ≠ b6) (q58 : b5 ≠ b8) (q59 : b5 ≠ b9) (q68 : b6 ≠ b8) (q69 : b6 ≠ b9) (q89 : b8 ≠ b9) :
    wpAnyH Tryz.prog .any ops5 Q (fun w' => Bl w' bp (spA p) 26) 6 #[true, true, true, true, true, true, true, false, true, true, false, false, false, false, false] { tmps := #[x0, x1, .pointer (some ⟨bp, 0, none⟩), .pointer (some ⟨dc, 0, none⟩), x4, .pointer (some ⟨b5, 0, none⟩), .pointer (some ⟨b6, 0, none⟩), v7, .pointer (some ⟨b8, 0, none⟩), .pointer (some ⟨b9, 0, none⟩), x10, x11, x12, x13, x14, x15, x16, x17, x18, spW p, spW p, spW p, spW p, spW p, x24, x25, x26, x27, x28, x29, x30, x31, x32, x33, x34, x35, x36, x37, x38, x39, x40, x41, x42, x43, x44, x45, x46, x47, x48, x49, x50, x51, x52, x53, x54, x55, x56, x57, x58], defers := [] } V := by
  refine wpAnyH_ready (rs := [7]) (by kernel_rfl) (by simp) ?_
  refine AllReadyH.cons (by simp only [ops5, List.getElem?_toArray, List.getElem?_cons_zero, List.getElem?_cons_succ]; rfl) (fun K hK => ?_) AllReadyH.nil
  go_simp
  refine hK.out _ _ (B.alloc _) (fun hHeld => ?_)
  clear hK K
  try simp only [List.setIfInBounds_toArray, List.set_cons_zero, List.set_cons_succ]
  exact Copy_31 p C w0 _ bp dc b5 b6 V.heap.size b8 b9 hQ (B.alloc _) (D.alloc _) (T.alloc T.size _) (A5.alloc _) n5 (A6.alloc _) n6 (Bl.new _ _ _) ⟨Nat.ne_of_lt B.lt, Nat.ne_of_lt D.lt, T.size⟩ (A8.alloc _) n8 (A9.alloc _) n9 q56 (Nat.ne_of_lt A5.lt) q58 q59 (Nat.ne_of_lt A6.lt) q68 q69 (Nat.ne_of_gt A8.lt) (Nat.ne_of_gt A9.lt) q89
set_option maxHeartbeats 8000000 in
set_option maxRecDepth 100000 in
theorem Copy_29 {x0 x1 x4 x10 x11 x12 x13 x14 x15 x16 x17 x18 x24 x25 x26 x27 x28 x29 x30 x31 x32 x33 x34 x35 x36 x37 x38 x39 x40 x41 x42 x43 x44 x45 x46 x47 x48 x49 x50 x51 x52 x53 x54 x55 x56 x57 x58 : Value} {v6 : Value} (p : Sp) (C : Array Value) (w0 V : World) (bp dc : Nat) (b5 b7 b8 b9 : Nat) {Q : Exit → Act → World → Prop} (hQ : ∀ (b5 b6 b7 b8 b9 : Nat) (W : World), Bl W bp (spA p) 26 → Bl W dc C 24 → Below w0.heap.size w0 W → Bl W b5 (spA p) 26 → Bl W b6 (spA p) 26 → Bl W b7 (spA p) 26 → Bl W b8 (spA p) 26 → Bl W b9 (spA p) 26 → (bp ≠ b5 ∧ dc ≠ b5 ∧ w0.heap.size ≤ b5) → (bp ≠ b6 ∧ dc ≠ b6 ∧ w0.heap.size ≤ b6) → (bp ≠ b7 ∧ dc ≠ b7 ∧ w0.heap.size ≤ b7) → (bp ≠ b8 ∧ dc ≠ b8 ∧ w0.heap.size ≤ b8) → (bp ≠ b9 ∧ dc ≠ b9 ∧ w0.heap.size ≤ b9) → (b5 ≠ b6 ∧ b5 ≠ b7 ∧ b5 ≠ b8 ∧ b5 ≠ b9 ∧ b6 ≠ b7 ∧ b6 ≠ b8 ∧ b6 ≠ b9 ∧ b7 ≠ b8 ∧ b7 ≠ b9 ∧ b8 ≠ b9) → Q .normal { tmps := #[x0, x1, .pointer (some ⟨bp, 0, none⟩), .pointer (some ⟨dc, 0, none⟩), x4, .pointer (some ⟨b5, 0, none⟩), .pointer (some ⟨b6, 0, none⟩), .pointer (some ⟨b7, 0, none⟩), .pointer (some ⟨b8, 0, none⟩), .pointer (some ⟨b9, 0, none⟩), x10, x11, x12, x13, x14, x15, x16, x17, x18, spW p, spW p, spW p, spW p, spW p, x24, x25, x26, x27, x28, x29, x30, x31, x32, x33, x34, x35, x36, x37, x38, x39, x40, x41, x42, x43, x44, x45, x46, x47, x48, x49, x50, x51, x52, x53, x54, x55, x56, x57, x58], defers := [] } W)
    (B : Bl V bp (spA p) 26) (D : Bl V dc C 24) (T : Below w0.heap.size w0 V) (A5 : Bl V b5 zrA 26) (n5 : bp ≠ b5 ∧ dc ≠ b5 ∧ w0.heap.size ≤ b5) (A7 : Bl V b7 zrA 26) (n7 : bp ≠ b7 ∧ dc ≠ b7 ∧ w0.heap.size ≤ b7) (A8 : Bl V b8 zrA 26) (n8 : bp ≠ b8 ∧ dc ≠ b8 ∧ w0.heap.size ≤ b8) (A9 : Bl V b9 zrA 26) (n9 : bp ≠ b9 ∧ dc ≠ b9 ∧ w0.heap.size ≤ b9) (q57 : b5 ≠ b7) (q58 : b5 ≠ b8) (q59 : b5 ≠ b9) (q78 : b7 ≠ b8) (q79 : b7 ≠ b9) (q89 : b8 ≠ b9) :
    wpAnyH Tryz.prog .any ops5 Q (fun w' => Bl w' bp (spA p) 26) 6 #[true, true, true, true, true, true, false, true, true, true, false, false, false, false, false] { tmps := #[x0, x1, .pointer (some ⟨bp, 0, none⟩), .pointer (some ⟨dc, 0, none⟩), x4, .pointer (some ⟨b5, 0, none⟩), v6, .pointer (some ⟨b7, 0, none⟩), .pointer (some ⟨b8, 0, none⟩), .pointer (some ⟨b9, 0, none⟩), x10, x11, x12, x13, x14, x15, x16, x17, x18, spW p, spW p, spW p, spW p, spW p, x24, x25, x26, x27, x28, x29, x30, x31, x32, x33, x34, x35, x36, x37, x38, x39, x40, x41, x42, x43, x44, x45, x46, x47, x48, x49, x50, x51, x52, x53, x54, x55, x56, x57, x58], defers := [] } V := by
  refine wpAnyH_ready (rs := [6]) (by kernel_rfl) (by simp) ?_
  refine AllReadyH.cons (by simp only [ops5, List.getElem?_toArray, List.getElem?_cons_zero, List.getElem?_cons_succ]; rfl) (fun K hK => ?_) AllReadyH.nil
  go_simp
  refine hK.out _ _ (B.alloc _) (fun hHeld => ?_)
  clear hK K
  try simp only [List.setIfInBounds_toArray, List.set_cons_zero, List.set_cons_succ]
  exact Copy_31 p C w0 _ bp dc b5 V.heap.size b7 b8 b9 hQ (B.alloc _) (D.alloc _) (T.alloc T.size _) (A5.alloc _) n5 (Bl.new _ _ _) ⟨Nat.ne_of_lt B.lt, Nat.ne_of_lt D.lt, T.size⟩ (A7.alloc _) n7 (A8.alloc _) n8 (A9.alloc _) n9 (Nat.ne_of_lt A5.lt) q57 q58 q59 (Nat.ne_of_gt A7.lt) (Nat.ne_of_gt A8.lt) (Nat.ne_of_gt A9.lt) q78 q79 q89
set_option maxHeartbeats 8000000 in
set_option maxRecDepth 100000 in
theorem Copy_30 {x0 x1 x4 x10 x11 x12 x13 x14 x15 x16 x17 x18 x24 x25 x26 x27 x28 x29 x30 x31 x32 x33 x34 x35 x36 x37 x38 x39 x40 x41 x42 x43 x44 x45 x46 x47 x48 x49 x50 x51 x52 x53 x54 x55 x56 x57 x58 : Value} {v5 : Value} (p : Sp) (C : Array Value) (w0 V : World) (bp dc : Nat) (b6 b7 b8 b9 : Nat) {Q : Exit → Act → World → Prop} (hQ : ∀ (b5 b6 b7 b8 b9 : Nat) (W : World), Bl W bp (spA p) 26 → Bl W dc C 24 → Below w0.heap.size w0 W → Bl W b5 (spA p) 26 → Bl W b6 (spA p) 26 → Bl W b7 (spA p) 26 → Bl W b8 (spA p) 26 → Bl W b9 (spA p) 26 → (bp ≠ b5 ∧ dc ≠ b5 ∧ w0.heap.size ≤ b5) → (bp ≠ b6 ∧ dc ≠ b6 ∧ w0.heap.size ≤ b6) → (bp ≠ b7 ∧ dc ≠ b7 ∧ w0.heap.size ≤ b7) → (bp ≠ b8 ∧ dc ≠ b8 ∧ w0.heap.size ≤ b8) → (bp ≠ b9 ∧ dc ≠ b9 ∧ w0.heap.size ≤ b9) → (b5 ≠ b6 ∧ b5 ≠ b7 ∧ b5 ≠ b8 ∧ b5 ≠ b9 ∧ b6 ≠ b7 ∧ b6 ≠ b8 ∧ b6 ≠ b9 ∧ b7 ≠ b8 ∧ b7 ≠ b9 ∧ b8 ≠ b9) → Q .normal { tmps := #[x0, x1, .pointer (some ⟨bp, 0, none⟩), .pointer (some ⟨dc, 0, none⟩), x4, .pointer (some ⟨b5, 0, none⟩), .pointer (some ⟨b6, 0, none⟩), .pointer (some ⟨b7, 0, none⟩), .pointer (some ⟨b8, 0, none⟩), .pointer (some ⟨b9, 0, none⟩), x10, x11, x12, x13, x14, x15, x16, x17, x18, spW p, spW p, spW p, spW p, spW p, x24, x25, x26, x27, x28, x29, x30, x31, x32, x33, x34, x35, x36, x37, x38, x39, x40, x41, x42, x43, x44, x45, x46, x47, x48, x49, x50, x51, x52, x53, x54, x55, x56, x57, x58], defers := [] } W)
    (B : Bl V bp (spA p) 26) (D : Bl V dc C 24) (T : Below w0.heap.size w0 V) (A6 : Bl V b6 zrA 26) (n6 : bp ≠ b6 ∧ dc ≠ b6 ∧ w0.heap.size ≤ b6) (A7 : Bl V b7 zrA 26) (n7 : bp ≠ b7 ∧ dc ≠ b7 ∧ w0.heap.size ≤ b7) (A8 : Bl V b8 zrA 26) (n8 : bp ≠ b8 ∧ dc ≠ b8 ∧ w0.heap.size ≤ b8) (A9 : Bl V b9 zrA 26) (n9 : bp ≠ b9 ∧ dc ≠ b9 ∧ w0.heap.size ≤ b9) (q67 : b6 ≠ b7) (q68 : b6 ≠ b8) (q69 : b6 ≠ b9) (q78 : b7 ≠ b8) (q79 : b7 ≠ b9) (q89 : b8 ≠ b9) :
    wpAnyH Tryz.prog .any ops5 Q (fun w' => Bl w' bp (spA p) 26) 6 #[true, true, true, true, true, false, true, true, true, true, false, false, false, false, false] { tmps := #[x0, x1, .pointer (some ⟨bp, 0, none⟩), .pointer (some ⟨dc, 0, none⟩), x4, v5, .pointer (some ⟨b6, 0, none⟩), .pointer (some ⟨b7, 0, none⟩), .pointer (some ⟨b8, 0, none⟩), .pointer (some ⟨b9, 0, none⟩), x10, x11, x12, x13, x14, x15, x16, x17, x18, spW p, spW p, spW p, spW p, spW p, x24, x25, x26, x27, x28, x29, x30, x31, x32, x33, x34, x35, x36, x37, x38, x39, x40, x41, x42, x43, x44, x45, x46, x47, x48, x49, x50, x51, x52, x53, x54, x55, x56, x57, x58], defers := [] } V := by
  refine wpAnyH_ready (rs := [5]) (by kernel_rfl) (by simp) ?_
  refine AllReadyH.cons (by simp only [ops5, List.getElem?_toArray, List.getElem?_cons_zero, List.getElem?_cons_succ]; rfl) (fun K hK => ?_) AllReadyH.nil
  go_simp
  refine hK.out _ _ (B.alloc _) (fun hHeld => ?_)
  clear hK K
  try simp only [List.setIfInBounds_toArray, List.set_cons_zero, List.set_cons_succ]
  exact Copy_31 p C w0 _ bp dc V.heap.size b6 b7 b8 b9 hQ (B.alloc _) (D.alloc _) (T.alloc T.size _) (Bl.new _ _ _) ⟨Nat.ne_of_lt B.lt, Nat.ne_of_lt D.lt, T.size⟩ (A6.alloc _) n6 (A7.alloc _) n7 (A8.alloc _) n8 (A9.alloc _) n9 (Nat.ne_of_gt A6.lt) (Nat.ne_of_gt A7.lt) (Nat.ne_of_gt A8.lt) (Nat.ne_of_gt A9.lt) q67 q68 q69 q78 q79 q89
set_option maxHeartbeats 8000000 in
set_option maxRecDepth 100000 in
theorem Copy_7 {x0 x1 x4 x10 x11 x12 x13 x14 x15 x16 x17 x18 x24 x25 x26 x27 x28 x29 x30 x31 x32 x33 x34 x35 x36 x37 x38 x39 x40 x41 x42 x43 x44 x45 x46 x47 x48 x49 x50 x51 x52 x53 x54 x55 x56 x57 x58 : Value} {v8 v9 : Value} (p : Sp) (C : Array Value) (w0 V : World) (bp dc : Nat) (b5 b6 b7 : Nat) {Q : Exit → Act → World → Prop} (hQ : ∀ (b5 b6 b7 b8 b9 : Nat) (W : World), Bl W bp (spA p) 26 → Bl W dc C 24 → Below w0.heap.size w0 W → Bl W b5 (spA p) 26 → Bl W b6 (spA p) 26 → Bl W b7 (spA p) 26 → Bl W b8 (spA p) 26 → Bl W b9 (spA p) 26 → (bp ≠ b5 ∧ dc ≠ b5 ∧ w0.heap.size ≤ b5) → (bp ≠ b6 ∧ dc ≠ b6 ∧ w0.heap.size ≤ b6) → (bp ≠ b7 ∧ dc ≠ b7 ∧ w0.heap.size ≤ b7) → (bp ≠ b8 ∧ dc ≠ b8 ∧ w0.heap.size ≤ b8) → (bp ≠ b9 ∧ dc ≠ b9 ∧ w0.heap.size ≤ b9) → (b5 ≠ b6 ∧ b5 ≠ b7 ∧ b5 ≠ b8 ∧ b5 ≠ b9 ∧ b6 ≠ b7 ∧ b6 ≠ b8 ∧ b6 ≠ b9 ∧ b7 ≠ b8 ∧ b7 ≠ b9 ∧ b8 ≠ b9) → Q .normal { tmps := #[x0, x1, .pointer (some ⟨bp, 0, none⟩), .pointer (some ⟨dc, 0, none⟩), x4, .pointer (some ⟨b5, 0, none⟩), .pointer (some ⟨b6, 0, none⟩), .pointer (some ⟨b7, 0, none⟩), .pointer (some ⟨b8, 0, none⟩), .pointer (some ⟨b9, 0, none⟩), x10, x11, x12, x13, x14, x15, x16, x17, x18, spW p, spW p, spW p, spW p, spW p, x24, x25, x26, x27, x28, x29, x30, x31, x32, x33, x34, x35, x36, x37, x38, x39, x40, x41, x42, x43, x44, x45, x46, x47, x48, x49, x50, x51, x52, x53, x54, x55, x56, x57, x58], defers := [] } W)
    (B : Bl V bp (spA p) 26) (D : Bl V dc C 24) (T : Below w0.heap.size w0 V) (A5 : Bl V b5 zrA 26) (n5 : bp ≠ b5 ∧ dc ≠ b5 ∧ w0.heap.size ≤ b5) (A6 : Bl V b6 zrA 26) (n6 : bp ≠ b6 ∧ dc ≠ b6 ∧ w0.heap.size ≤ b6) (A7 : Bl V b7 zrA 26) (n7 : bp ≠ b7 ∧ dc ≠ b7 ∧ w0.heap.size ≤ b7) (q56 : b5 ≠ b6) (q57 : b5 ≠ b7) (q67 : b6 ≠ b7) :
    wpAnyH Tryz.prog .any ops5 Q (fun w' => Bl w' bp (spA p) 26) 7 #[true, true, true, true, true, true, true, true, false, false, false, false, false, false, false] { tmps := #[x0, x1, .pointer (some ⟨bp, 0, none⟩), .pointer (some ⟨dc, 0, none⟩), x4, .pointer (some ⟨b5, 0, none⟩), .pointer (some ⟨b6, 0, none⟩), .pointer (some ⟨b7, 0, none⟩), v8, v9, x10, x11, x12, x13, x14, x15, x16, x17, x18, spW p, spW p, spW p, spW p, spW p, x24, x25, x26, x27, x28, x29, x30, x31, x32, x33, x34, x35, x36, x37, x38, x39, x40, x41, x42, x43, x44, x45, x46, x47, x48, x49, x50, x51, x52, x53, x54, x55, x56, x57, x58], defers := [] } V := by
  refine wpAnyH_ready (rs := [8, 9]) (by kernel_rfl) (by simp) ?_
  refine AllReadyH.cons (by simp only [ops5, List.getElem?_toArray, List.getElem?_cons_zero, List.getElem?_cons_succ]; rfl) (fun K hK => ?_) ?_
  · go_simp
    refine hK.out _ _ (B.alloc _) (fun hHeld => ?_)
    clear hK K
    try simp only [List.setIfInBounds_toArray, List.set_cons_zero, List.set_cons_succ]
    exact Copy_15 p C w0 _ bp dc b5 b6 b7 V.heap.size hQ (B.alloc _) (D.alloc _) (T.alloc T.size _) (A5.alloc _) n5 (A6.alloc _) n6 (A7.alloc _) n7 (Bl.new _ _ _) ⟨Nat.ne_of_lt B.lt, Nat.ne_of_lt D.lt, T.size⟩ q56 q57 (Nat.ne_of_lt A5.lt) q67 (Nat.ne_of_lt A6.lt) (Nat.ne_of_lt A7.lt)
  refine AllReadyH.cons (by simp only [ops5, List.getElem?_toArray, List.getElem?_cons_zero, List.getElem?_cons_succ]; rfl) (fun K hK => ?_) AllReadyH.nil
  go_simp
  refine hK.out _ _ (B.alloc _) (fun hHeld => ?_)
  clear hK K
  try simp only [List.setIfInBounds_toArray, List.set_cons_zero, List.set_cons_succ]
  exact Copy_23 p C w0 _ bp dc b5 b6 b7 V.heap.size hQ (B.alloc _) (D.alloc _) (T.alloc T.size _) (A5.alloc _) n5 (A6.alloc _) n6 (A7.alloc _) n7 (Bl.new _ _ _) ⟨Nat.ne_of_lt B.lt, Nat.ne_of_lt D.lt, T.size⟩ q56 q57 (Nat.ne_of_lt A5.lt) q67 (Nat.ne_of_lt A6.lt) (Nat.ne_of_lt A7.lt)
set_option maxHeartbeats 8000000 in
set_option maxRecDepth 100000 in
theorem Copy_11 {x0 x1 x4 x10 x11 x12 x13 x14 x15 x16 x17 x18 x24 x25 x26 x27 x28 x29 x30 x31 x32 x33 x34 x35 x36 x37 x38 x39 x40 x41 x42 x43 x44 x45 x46 x47 x48 x49 x50 x51 x52 x53 x54 x55 x56 x57 x58 : Value} {v7 v9 : Value} (p : Sp) (C : Array Value) (w0 V : World) (bp dc : Nat) (b5 b6 b8 : Nat) {Q : Exit → Act → World → Prop} (hQ : ∀ (b5 b6 b7 b8 b9 : Nat) (W : World), Bl W bp (spA p) 26 → Bl W dc C 24 → Below w0.heap.size w0 W → Bl W b5 (spA p) 26 → Bl W b6 (spA p) 26 → Bl W b7 (spA p) 26 → Bl W b8 (spA p) 26 → Bl W b9 (spA p) 26 → (bp ≠ b5 ∧ dc ≠ b5 ∧ w0.heap.size ≤ b5) → (bp ≠ b6 ∧ dc ≠ b6 ∧ w0.heap.size ≤ b6) → (bp ≠ b7 ∧ dc ≠ b7 ∧ w0.heap.size ≤ b7) → (bp ≠ b8 ∧ dc ≠ b8 ∧ w0.heap.size ≤ b8) → (bp ≠ b9 ∧ dc ≠ b9 ∧ w0.heap.size ≤ b9) → (b5 ≠ b6 ∧ b5 ≠ b7 ∧ b5 ≠ b8 ∧ b5 ≠ b9 ∧ b6 ≠ b7 ∧ b6 ≠ b8 ∧ b6 ≠ b9 ∧ b7 ≠ b8 ∧ b7 ≠ b9 ∧ b8 ≠ b9) → Q .normal { tmps := #[x0, x1, .pointer (some ⟨bp, 0, none⟩), .pointer (some ⟨dc, 0, none⟩), x4, .pointer (some ⟨b5, 0, none⟩), .pointer (some ⟨b6, 0, none⟩), .pointer (some ⟨b7, 0, none⟩), .pointer (some ⟨b8, 0, none⟩), .pointer (some ⟨b9, 0, none⟩), x10, x11, x12, x13, x14, x15, x16, x17, x18, spW p, spW p, spW p, spW p, spW p, x24, x25, x26, x27, x28, x29, x30, x31, x32, x33, x34, x35, x36, x37, x38, x39, x40, x41, x42, x43, x44, x45, x46, x47, x48, x49, x50, x51, x52, x53, x54, x55, x56, x57, x58], defers := [] } W)
    (B : Bl V bp (spA p) 26) (D : Bl V dc C 24) (T : Below w0.heap.size w0 V) (A5 : Bl V b5 zrA 26) (n5 : bp ≠ b5 ∧ dc ≠ b5 ∧ w0.heap.size ≤ b5) (A6 : Bl V b6 zrA 26) (n6 : bp ≠ b6 ∧ dc ≠ b6 ∧ w0.heap.size ≤ b6) (A8 : Bl V b8 zrA 26) (n8 : bp ≠ b8 ∧ dc ≠ b8 ∧ w0.heap.size ≤ b8) (q56 : b5 ≠ b6) (q58 : b5 ≠ b8) (q68 : b6 ≠ b8) :
    wpAnyH Tryz.prog .any ops5 Q (fun w' => Bl w' bp (spA p) 26) 7 #[true, true, true, true, true, true, true, false, true, false, false, false, false, false, false] { tmps := #[x0, x1, .pointer (some ⟨bp, 0, none⟩), .pointer (some ⟨dc, 0, none⟩), x4, .pointer (some ⟨b5, 0, none⟩), .pointer (some ⟨b6, 0, none⟩), v7, .pointer (some ⟨b8, 0, none⟩), v9, x10, x11, x12, x13, x14, x15, x16, x17, x18, spW p, spW p, spW p, spW p, spW p, x24, x25, x26, x27, x28, x29, x30, x31, x32, x33, x34, x35, x36, x37, x38, x39, x40, x41, x42, x43, x44, x45, x46, x47, x48, x49, x50, x51, x52, x53, x54, x55, x56, x57, x58], defers := [] } V := by
  refine wpAnyH_ready (rs := [7, 9]) (by kernel_rfl) (by simp) ?_
  refine AllReadyH.cons (by simp only [ops5, List.getElem?_toArray, List.getElem?_cons_zero, List.getElem?_cons_succ]; rfl) (fun K hK => ?_) ?_
  · go_simp
    refine hK.out _ _ (B.alloc _) (fun hHeld => ?_)
    clear hK K
    try simp only [List.setIfInBounds_toArray, List.set_cons_zero, List.set_cons_succ]
    exact Copy_15 p C w0 _ bp dc b5 b6 V.heap.size b8 hQ (B.alloc _) (D.alloc _) (T.alloc T.size _) (A5.alloc _) n5 (A6.alloc _) n6 (Bl.new _ _ _) ⟨Nat.ne_of_lt B.lt, Nat.ne_of_lt D.lt, T.size⟩ (A8.alloc _) n8 q56 (Nat.ne_of_lt A5.lt) q58 (Nat.ne_of_lt A6.lt) q68 (Nat.ne_of_gt A8.lt)
  refine AllReadyH.cons (by simp only [ops5, List.getElem?_toArray, List.getElem?_cons_zero, List.getElem?_cons_succ]; rfl) (fun K hK => ?_) AllReadyH.nil
  go_simp
  refine hK.out _ _ (B.alloc _) (fun hHeld => ?_)
  clear hK K
  try simp only [List.setIfInBounds_toArray, List.set_cons_zero, List.set_cons_succ]
  exact Copy_27 p C w0 _ bp dc b5 b6 b8 V.heap.size hQ (B.alloc _) (D.alloc _) (T.alloc T.size _) (A5.alloc _) n5 (A6.alloc _) n6 (A8.alloc _) n8 (Bl.new _ _ _) ⟨Nat.ne_of_lt B.lt, Nat.ne_of_lt D.lt, T.size⟩ q56 q58 (Nat.ne_of_lt A5.lt) q68 (Nat.ne_of_lt A6.lt) (Nat.ne_of_lt A8.lt)
set_option maxHeartbeats 8000000 in
set_option maxRecDepth 100000 in
theorem Copy_13 {x0 x1 x4 x10 x11 x12 x13 x14 x15 x16 x17 x18 x24 x25 x26 x27 x28 x29 x30 x31 x32 x33 x34 x35 x36 x37 x38 x39 x40 x41 x42 x43 x44 x45 x46 x47 x48 x49 x50 x51 x52 x53 x54 x55 x56 x57 x58 : Value} {v6 v9 : Value} (p : Sp) (C : Array Value) (w0 V : World) (bp dc : Nat) (b5 b7 b8 : Nat) {Q : Exit → Act → World → Prop} (hQ : ∀ (b5 b6 b7 b8 b9 : Nat) (W : World), Bl W bp (spA p) 26 → Bl W dc C 24 → Below w0.heap.size w0 W → Bl W b5 (spA p) 26 → Bl W b6 (spA p) 26 → Bl W b7 (spA p) 26 → Bl W b8 (spA p) 26 → Bl W b9 (spA p) 26 → (bp ≠ b5 ∧ dc ≠ b5 ∧ w0.heap.size ≤ b5) → (bp ≠ b6 ∧ dc ≠ b6 ∧ w0.heap.size ≤ b6) → (bp ≠ b7 ∧ dc ≠ b7 ∧ w0.heap.size ≤ b7) → (bp ≠ b8 ∧ dc ≠ b8 ∧ w0.heap.size ≤ b8) → (bp ≠ b9 ∧ dc ≠ b9 ∧ w0.heap.size ≤ b9) → (b5 ≠ b6 ∧ b5 ≠ b7 ∧ b5 ≠ b8 ∧ b5 ≠ b9 ∧ b6 ≠ b7 ∧ b6 ≠ b8 ∧ b6 ≠ b9 ∧ b7 ≠ b8 ∧ b7 ≠ b9 ∧ b8 ≠ b9) → Q .normal { tmps := #[x0, x1, .pointer (some ⟨bp, 0, none⟩), .pointer (some ⟨dc, 0, none⟩), x4, .pointer (some ⟨b5, 0, none⟩), .pointer (some ⟨b6, 0, none⟩), .pointer (some ⟨b7, 0, none⟩), .pointer (some ⟨b8, 0, none⟩), .pointer (some ⟨b9, 0, none⟩), x10, x11, x12, x13, x14, x15, x16, x17, x18, spW p, spW p, spW p, spW p, spW p, x24, x25, x26, x27, x28, x29, x30, x31, x32, x33, x34, x35, x36, x37, x38, x39, x40, x41, x42, x43, x44, x45, x46, x47, x48, x49, x50, x51, x52, x53, x54, x55, x56, x57, x58], defers := [] } W)
    (B : Bl V bp (spA p) 26) (D : Bl V dc C 24) (T : Below w0.heap.size w0 V) (A5 : Bl V b5 zrA 26) (n5 : bp ≠ b5 ∧ dc ≠ b5 ∧ w0.heap.size ≤ b5) (A7 : Bl V b7 zrA 26) (n7 : bp ≠ b7 ∧ dc ≠ b7 ∧ w0.heap.size ≤ b7) (A8 : Bl V b8 zrA 26) (n8 : bp ≠ b8 ∧ dc ≠ b8 ∧ w0.heap.size ≤ b8) (q57 : b5 ≠ b7) (q58 : b5 ≠ b8) (q78 : b7 ≠ b8) :
    wpAnyH Tryz.prog .any ops5 Q (fun w' => Bl w' bp (spA p) 26) 7 #[true, true, true, true, true, true, false, true, true, false, false, false, false, false, false] { tmps := #[x0, x1, .pointer (some ⟨bp, 0, none⟩), .pointer (some ⟨dc, 0, none⟩), x4, .pointer (some ⟨b5, 0, none⟩), v6, .pointer (some ⟨b7, 0, none⟩), .pointer (some ⟨b8, 0, none⟩), v9, x10, x11, x12, x13, x14, x15, x16, x17, x18, spW p, spW p, spW p, spW p, spW p, x24, x25, x26, x27, x28, x29, x30, x31, x32, x33, x34, x35, x36, x37, x38, x39, x40, x41, x42, x43, x44, x45, x46, x47, x48, x49, x50, x51, x52, x53, x54, x55, x56, x57, x58], defers := [] } V := by
  refine wpAnyH_ready (rs := [6, 9]) (by kernel_rfl) (by simp) ?_
  refine AllReadyH.cons (by simp only [ops5, List.getElem?_toArray, List.getElem?_cons_zero, List.getElem?_cons_succ]; rfl) (fun K hK => ?_) ?_
  · go_simp
    refine hK.out _ _ (B.alloc _) (fun hHeld => ?_)
    clear hK K
    try simp only [List.setIfInBounds_toArray, List.set_cons_zero, List.set_cons_succ]
    exact Copy_15 p C w0 _ bp dc b5 V.heap.size b7 b8 hQ (B.alloc _) (D.alloc _) (T.alloc T.size _) (A5.alloc _) n5 (Bl.new _ _ _) ⟨Nat.ne_of_lt B.lt, Nat.ne_of_lt D.lt, T.size⟩ (A7.alloc _) n7 (A8.alloc _) n8 (Nat.ne_of_lt A5.lt) q57 q58 (Nat.ne_of_gt A7.lt) (Nat.ne_of_gt A8.lt) q78
  refine AllReadyH.cons (by simp only [ops5, List.getElem?_toArray, List.getElem?_cons_zero, List.getElem?_cons_succ]; rfl) (fun K hK => ?_) AllReadyH.nil
  go_simp
  refine hK.out _ _ (B.alloc _) (fun hHeld => ?_)
  clear hK K
  try simp only [List.setIfInBounds_toArray, List.set_cons_zero, List.set_cons_succ]
  exact Copy_29 p C w0 _ bp dc b5 b7 b8 V.heap.size hQ (B.alloc _) (D.alloc _) (T.alloc T.size _) (A5.alloc _) n5 (A7.alloc _) n7 (A8.alloc _) n8 (Bl.new _ _ _) ⟨Nat.ne_of_lt B.lt, Nat.ne_of_lt D.lt, T.size⟩ q57 q58 (Nat.ne_of_lt A5.lt) q78 (Nat.ne_of_lt A7.lt) (Nat.ne_of_lt A8.lt)
set_option maxHeartbeats 8000000 in
set_option maxRecDepth 100000 in
theorem Copy_14 {x0 x1 x4 x10 x11 x12 x13 x14 x15 x16 x17 x18 x24 x25 x26 x27 x28 x29 x30 x31 x32 x33 x34 x35 x36 x37 x38 x39 x40 x41 x42 x43 x44 x45 x46 x47 x48 x49 x50 x51 x52 x53 x54 x55 x56 x57 x58 : Value} {v5 v9 : Value} (p : Sp) (C : Array Value) (w0 V : World) (bp dc : Nat) (b6 b7 b8 : Nat) {Q : Exit → Act → World → Prop} (hQ : ∀ (b5 b6 b7 b8 b9 : Nat) (W : World), Bl W bp (spA p) 26 → Bl W dc C 24 → Below w0.heap.size w0 W → Bl W b5 (spA p) 26 → Bl W b6 (spA p) 26 → Bl W b7 (spA p) 26 → Bl W b8 (spA p) 26 → Bl W b9 (spA p) 26 → (bp ≠ b5 ∧ dc ≠ b5 ∧ w0.heap.size ≤ b5) → (bp ≠ b6 ∧ dc ≠ b6 ∧ w0.heap.size ≤ b6) → (bp ≠ b7 ∧ dc ≠ b7 ∧ w0.heap.size ≤ b7) → (bp ≠ b8 ∧ dc ≠ b8 ∧ w0.heap.size ≤ b8) → (bp ≠ b9 ∧ dc ≠ b9 ∧ w0.heap.size ≤ b9) → (b5 ≠ b6 ∧ b5 ≠ b7 ∧ b5 ≠ b8 ∧ b5 ≠ b9 ∧ b6 ≠ b7 ∧ b6 ≠ b8 ∧ b6 ≠ b9 ∧ b7 ≠ b8 ∧ b7 ≠ b9 ∧ b8 ≠ b9) → Q .normal { tmps := #[x0, x1, .pointer (some ⟨bp, 0, none⟩), .pointer (some ⟨dc, 0, none⟩), x4, .pointer (some ⟨b5, 0, none⟩), .pointer (some ⟨b6, 0, none⟩), .pointer (some ⟨b7, 0, none⟩), .pointer (some ⟨b8, 0, none⟩), .pointer (some ⟨b9, 0, none⟩), x10, x11, x12, x13, x14, x15, x16, x17, x18, spW p, spW p, spW p, spW p, spW p, x24, x25, x26, x27, x28, x29, x30, x31, x32, x33, x34, x35, x36, x37, x38, x39, x40, x41, x42, x43, x44, x45, x46, x47, x48, x49, x50, x51, x52, x53, x54, x55, x56, x57, x58], defers := [] } W)
    (B : Bl V bp (spA p) 26) (D : Bl V dc C 24) (T : Below w0.heap.size w0 V) (A6 : Bl V b6 zrA 26) (n6 : bp ≠ b6 ∧ dc ≠ b6 ∧ w0.heap.size ≤ b6) (A7 : Bl V b7 zrA 26) (n7 : bp ≠ b7 ∧ dc ≠ b7 ∧ w0.heap.size ≤ b7) (A8 : Bl V b8 zrA 26) (n8 : bp ≠ b8 ∧ dc ≠ b8 ∧ w0.heap.size ≤ b8) (q67 : b6 ≠ b7) (q68 : b6 ≠ b8) (q78 : b7 ≠ b8) :
    wpAnyH Tryz.prog .any ops5 Q (fun w' => Bl w' bp (spA p) 26) 7 #[true, true, true, true, true, false, true, true, true, false, false, false, false, false, false] { tmps := #[x0, x1, .pointer (some ⟨bp, 0, none⟩), .pointer (some ⟨dc, 0, none⟩), x4, v5, .pointer (some ⟨b6, 0, none⟩), .pointer (some ⟨b7, 0, none⟩), .pointer (some ⟨b8, 0, none⟩), v9, x10, x11, x12, x13, x14, x15, x16, x17, x18, spW p, spW p, spW p, spW p, spW p, x24, x25, x26, x27, x28, x29, x30, x31, x32, x33, x34, x35, x36, x37, x38, x39, x40, x41, x42, x43, x44, x45, x46, x47, x48, x49, x50, x51, x52, x53, x54, x55, x56, x57, x58], defers := [] } V := by
  refine wpAnyH_ready (rs := [5, 9]) (by kernel_rfl) (by simp) ?_
  refine AllReadyH.cons (by simp only [ops5, List.getElem?_toArray, List.getElem?_cons_zero, List.getElem?_cons_succ]; rfl) (fun K hK => ?_) ?_
  · go_simp
    refine hK.out _ _ (B.alloc _) (fun hHeld => ?_)
    clear hK K
    try simp only [List.setIfInBounds_toArray, List.set_cons_zero, List.set_cons_succ]
    exact Copy_15 p C w0 _ bp dc V.heap.size b6 b7 b8 hQ (B.alloc _) (D.alloc _) (T.alloc T.size _) (Bl.new _ _ _) ⟨Nat.ne_of_lt B.lt, Nat.ne_of_lt D.lt, T.size⟩ (A6.alloc _) n6 (A7.alloc _) n7 (A8.alloc _) n8 (Nat.ne_of_gt A6.lt) (Nat.ne_of_gt A7.lt) (Nat.ne_of_gt A8.lt) q67 q68 q78
  refine AllReadyH.cons (by simp only [ops5, List.getElem?_toArray, List.getElem?_cons_zero, List.getElem?_cons_succ]; rfl) (fun K hK => ?_) AllReadyH.nil
  go_simp
  refine hK.out _ _ (B.alloc _) (fun hHeld => ?_)
  clear hK K
  try simp only [List.setIfInBounds_toArray, List.set_cons_zero, List.set_cons_succ]
  exact Copy_30 p C w0 _ bp dc b6 b7 b8 V.heap.size hQ (B.alloc _) (D.alloc _) (T.alloc T.size _) (A6.alloc _) n6 (A7.alloc _) n7 (A8.alloc _) n8 (Bl.new _ _ _) ⟨Nat.ne_of_lt B.lt, Nat.ne_of_lt D.lt, T.size⟩ q67 q68 (Nat.ne_of_lt A6.lt) q78 (Nat.ne_of_lt A7.lt) (Nat.ne_of_lt A8.lt)
set_option maxHeartbeats 8000000 in
set_option maxRecDepth 100000 in
theorem Copy_19 {x0 x1 x4 x10 x11 x12 x13 x14 x15 x16 x17 x18 x24 x25 x26 x27 x28 x29 x30 x31 x32 x33 x34 x35 x36 x37 x38 x39 x40 x41 x42 x43 x44 x45 x46 x47 x48 x49 x50 x51 x52 x53 x54 x55 x56 x57 x58 : Value} {v7 v8 : Value} (p : Sp) (C : Array Value) (w0 V : World) (bp dc : Nat) (b5 b6 b9 : Nat) {Q : Exit → Act → World → Prop} (hQ : ∀ (b5 b6 b7 b8 b9 : Nat) (W : World), Bl W bp (spA p) 26 → Bl W dc C 24 → Below w0.heap.size w0 W → Bl W b5 (spA p) 26 → Bl W b6 (spA p) 26 → Bl W b7 (spA p) 26 → Bl W b8 (spA p) 26 → Bl W b9 (spA p) 26 → (bp ≠ b5 ∧ dc ≠ b5 ∧ w0.heap.size ≤ b5) → (bp ≠ b6 ∧ dc ≠ b6 ∧ w0.heap.size ≤ b6) → (bp ≠ b7 ∧ dc ≠ b7 ∧ w0.heap.size ≤ b7) → (bp ≠ b8 ∧ dc ≠ b8 ∧ w0.heap.size ≤ b8) → (bp ≠ b9 ∧ dc ≠ b9 ∧ w0.heap.size ≤ b9) → (b5 ≠ b6 ∧ b5 ≠ b7 ∧ b5 ≠ b8 ∧ b5 ≠ b9 ∧ b6 ≠ b7 ∧ b6 ≠ b8 ∧ b6 ≠ b9 ∧ b7 ≠ b8 ∧ b7 ≠ b9 ∧ b8 ≠ b9) → Q .normal { tmps := #[x0, x1, .pointer (some ⟨bp, 0, none⟩), .pointer (some ⟨dc, 0, none⟩), x4, .pointer (some ⟨b5, 0, none⟩), .pointer (some ⟨b6, 0, none⟩), .pointer (some ⟨b7, 0, none⟩), .pointer (some ⟨b8, 0, none⟩), .pointer (some ⟨b9, 0, none⟩), x10, x11, x12, x13, x14, x15, x16, x17, x18, spW p, spW p, spW p, spW p, spW p, x24, x25, x26, x27, x28, x29, x30, x31, x32, x33, x34, x35, x36, x37, x38, x39, x40, x41, x42, x43, x44, x45, x46, x47, x48, x49, x50, x51, x52, x53, x54, x55, x56, x57, x58], defers := [] } W)
    (B : Bl V bp (spA p) 26) (D : Bl V dc C 24) (T : Below w0.heap.size w0 V) (A5 : Bl V b5 zrA 26) (n5 : bp ≠ b5 ∧ dc ≠ b5 ∧ w0.heap.size ≤ b5) (A6 : Bl V b6 zrA 26) (n6 : bp ≠ b6 ∧ dc ≠ b6 ∧ w0.heap.size ≤ b6) (A9 : Bl V b9 zrA 26) (n9 : bp ≠ b9 ∧ dc ≠ b9 ∧ w0.heap.size ≤ b9) (q56 : b5 ≠ b6) (q59 : b5 ≠ b9) (q69 : b6 ≠ b9) :
    wpAnyH Tryz.prog .any ops5 Q (fun w' => Bl w' bp (spA p) 26) 7 #[true, true, true, true, true, true, true, false, false, true, false, false, false, false, false] { tmps := #[x0, x1, .pointer (some ⟨bp, 0, none⟩), .pointer (some ⟨dc, 0, none⟩), x4, .pointer (some ⟨b5, 0, none⟩), .pointer (some ⟨b6, 0, none⟩), v7, v8, .pointer (some ⟨b9, 0, none⟩), x10, x11, x12, x13, x14, x15, x16, x17, x18, spW p, spW p, spW p, spW p, spW p, x24, x25, x26, x27, x28, x29, x30, x31, x32, x33, x34, x35, x36, x37, x38, x39, x40, x41, x42, x43, x44, x45, x46, x47, x48, x49, x50, x51, x52, x53, x54, x55, x56, x57, x58], defers := [] } V := by
  refine wpAnyH_ready (rs := [7, 8]) (by kernel_rfl) (by simp) ?_
  refine AllReadyH.cons (by simp only [ops5, List.getElem?_toArray, List.getElem?_cons_zero, List.getElem?_cons_succ]; rfl) (fun K hK => ?_) ?_
  · go_simp
    refine hK.out _ _ (B.alloc _) (fun hHeld => ?_)
    clear hK K
    try simp only [List.setIfInBounds_toArray, List.set_cons_zero, List.set_cons_succ]
    exact Copy_23 p C w0 _ bp dc b5 b6 V.heap.size b9 hQ (B.alloc _) (D.alloc _) (T.alloc T.size _) (A5.alloc _) n5 (A6.alloc _) n6 (Bl.new _ _ _) ⟨Nat.ne_of_lt B.lt, Nat.ne_of_lt D.lt, T.size⟩ (A9.alloc _) n9 q56 (Nat.ne_of_lt A5.lt) q59 (Nat.ne_of_lt A6.lt) q69 (Nat.ne_of_gt A9.lt)
  refine AllReadyH.cons (by simp only [ops5, List.getElem?_toArray, List.getElem?_cons_zero, List.getElem?_cons_succ]; rfl) (fun K hK => ?_) AllReadyH.nil
  go_simp
  refine hK.out _ _ (B.alloc _) (fun hHeld => ?_)
  clear hK K
  try simp only [List.setIfInBounds_toArray, List.set_cons_zero, List.set_cons_succ]
  exact Copy_27 p C w0 _ bp dc b5 b6 V.heap.size b9 hQ (B.alloc _) (D.alloc _) (T.alloc T.size _) (A5.alloc _) n5 (A6.alloc _) n6 (Bl.new _ _ _) ⟨Nat.ne_of_lt B.lt, Nat.ne_of_lt D.lt, T.size⟩ (A9.alloc _) n9 q56 (Nat.ne_of_lt A5.lt) q59 (Nat.ne_of_lt A6.lt) q69 (Nat.ne_of_gt A9.lt)
set_option maxHeartbeats 8000000 in
set_option maxRecDepth 100000 in
theorem Copy_21 {x0 x1 x4 x10 x11 x12 x13 x14 x15 x16 x17 x18 x24 x25 x26 x27 x28 x29 x30 x31 x32 x33 x34 x35 x36 x37 x38 x39 x40 x41 x42 x43 x44 x45 x46 x47 x48 x49 x50 x51 x52 x53 x54 x55 x56 x57 x58 : Value} {v6 v8 : Value} (p : Sp) (C : Array Value) (w0 V : World) (bp dc : Nat) (b5 b7 b9 : Nat) {Q : Exit → Act → World → Prop} (hQ : ∀ (b5 b6 b7 b8 b9 : Nat) (W : World), Bl W bp (spA p) 26 → Bl W dc C 24 → Below w0.heap.size w0 W → Bl W b5 (spA p) 26 → Bl W b6 (spA p) 26 → Bl W b7 (spA p) 26 → Bl W b8 (spA p) 26 → Bl W b9 (spA p) 26 → (bp ≠ b5 ∧ dc ≠ b5 ∧ w0.heap.size ≤ b5) → (bp ≠ b6 ∧ dc ≠ b6 ∧ w0.heap.size ≤ b6) → (bp ≠ b7 ∧ dc ≠ b7 ∧ w0.heap.size ≤ b7) → (bp ≠ b8 ∧ dc ≠ b8 ∧ w0.heap.size ≤ b8) → (bp ≠ b9 ∧ dc ≠ b9 ∧ w0.heap.size ≤ b9) → (b5 ≠ b6 ∧ b5 ≠ b7 ∧ b5 ≠ b8 ∧ b5 ≠ b9 ∧ b6 ≠ b7 ∧ b6 ≠ b8 ∧ b6 ≠ b9 ∧ b7 ≠ b8 ∧ b7 ≠ b9 ∧ b8 ≠ b9) → Q .normal { tmps := #[x0, x1, .pointer (some ⟨bp, 0, none⟩), .pointer (some ⟨dc, 0, none⟩), x4, .pointer (some ⟨b5, 0, none⟩), .pointer (some ⟨b6, 0, none⟩), .pointer (some ⟨b7, 0, none⟩), .pointer (some ⟨b8, 0, none⟩), .pointer (some ⟨b9, 0, none⟩), x10, x11, x12, x13, x14, x15, x16, x17, x18, spW p, spW p, spW p, spW p, spW p, x24, x25, x26, x27, x28, x29, x30, x31, x32, x33, x34, x35, x36, x37, x38, x39, x40, x41, x42, x43, x44, x45, x46, x47, x48, x49, x50, x51, x52, x53, x54, x55, x56, x57, x58], defers := [] } W)
    (B : Bl V bp (spA p) 26) (D : Bl V dc C 24) (T : Below w0.heap.size w0 V) (A5 : Bl V b5 zrA 26) (n5 : bp ≠ b5 ∧ dc ≠ b5 ∧ w0.heap.size ≤ b5) (A7 : Bl V b7 zrA 26) (n7 : bp ≠ b7 ∧ dc ≠ b7 ∧ w0.heap.size ≤ b7) (A9 : Bl V b9 zrA 26) (n9 : bp ≠ b9 ∧ dc ≠ b9 ∧ w0.heap.size ≤ b9) (q57 : b5 ≠ b7) (q59 : b5 ≠ b9) (q79 : b7 ≠ b9) :
    wpAnyH Tryz.prog .any ops5 Q (fun w' => Bl w' bp (spA p) 26) 7 #[true, true, true, true, true, true, false, true, false, true, false, false, false, false, false] { tmps := #[x0, x1, .pointer (some ⟨bp, 0, none⟩), .pointer (some ⟨dc, 0, none⟩), x4, .pointer (some ⟨b5, 0, none⟩), v6, .pointer (some ⟨b7, 0, none⟩), v8, .pointer (some ⟨b9, 0, none⟩), x10, x11, x12, x13, x14, x15, x16, x17, x18, spW p, spW p, spW p, spW p, spW p, x24, x25, x26, x27, x28, x29, x30, x31, x32, x33, x34, x35, x36, x37, x38, x39, x40, x41, x42, x43, x44, x45, x46, x47, x48, x49, x50, x51, x52, x53, x54, x55, x56, x57, x58], defers := [] } V := by
  refine wpAnyH_ready (rs := [6, 8]) (by kernel_rfl) (by simp) ?_
  refine AllReadyH.cons (by simp only [ops5, List.getElem?_toArray, List.getElem?_cons_zero, List.getElem?_cons_succ]; rfl) (fun K hK => ?_) ?_
  · go_simp
    refine hK.out _ _ (B.alloc _) (fun hHeld => ?_)
    clear hK K
    try simp only [List.setIfInBounds_toArray, List.set_cons_zero, List.set_cons_succ]
    exact Copy_23 p C w0 _ bp dc b5 V.heap.size b7 b9 hQ (B.alloc _) (D.alloc _) (T.alloc T.size _) (A5.alloc _) n5 (Bl.new _ _ _) ⟨Nat.ne_of_lt B.lt, Nat.ne_of_lt D.lt, T.size⟩ (A7.alloc _) n7 (A9.alloc _) n9 (Nat.ne_of_lt A5.lt) q57 q59 (Nat.ne_of_gt A7.lt) (Nat.ne_of_gt A9.lt) q79
  refine AllReadyH.cons (by simp only [ops5, List.getElem?_toArray, List.getElem?_cons_zero, List.getElem?_cons_succ]; rfl) (fun K hK => ?_) AllReadyH.nil
  go_simp
  refine hK.out _ _ (B.alloc _) (fun hHeld => ?_)
  clear hK K
  try simp only [List.setIfInBounds_toArray, List.set_cons_zero, List.set_cons_succ]
  exact Copy_29 p C w0 _ bp dc b5 b7 V.heap.size b9 hQ (B.alloc _) (D.alloc _) (T.alloc T.size _) (A5.alloc _) n5 (A7.alloc _) n7 (Bl.new _ _ _) ⟨Nat.ne_of_lt B.lt, Nat.ne_of_lt D.lt, T.size⟩ (A9.alloc _) n9 q57 (Nat.ne_of_lt A5.lt) q59 (Nat.ne_of_lt A7.lt) q79 (Nat.ne_of_gt A9.lt)
set_option maxHeartbeats 8000000 in
set_option maxRecDepth 100000 in
theorem Copy_22 {x0 x1 x4 x10 x11 x12 x13 x14 x15 x16 x17 x18 x24 x25 x26 x27 x28 x29 x30 x31 x32 x33 x34 x35 x36 x37 x38 x39 x40 x41 x42 x43 x44 x45 x46 x47 x48 x49 x50 x51 x52 x53 x54 x55 x56 x57 x58 : Value} {v5 v8 : Value} (p : Sp) (C : Array Value) (w0 V : World) (bp dc : Nat) (b6 b7 b9 : Nat) {Q : Exit → Act → World → Prop} (hQ : ∀ (b5 b6 b7 b8 b9 : Nat) (W : World), Bl W bp (spA p) 26 → Bl W dc C 24 → Below w0.heap.size w0 W → Bl W b5 (spA p) 26 → Bl W b6 (spA p) 26 → Bl W b7 (spA p) 26 → Bl W b8 (spA p) 26 → Bl W b9 (spA p) 26 → (bp ≠ b5 ∧ dc ≠ b5 ∧ w0.heap.size ≤ b5) → (bp ≠ b6 ∧ dc ≠ b6 ∧ w0.heap.size ≤ b6) → (bp ≠ b7 ∧ dc ≠ b7 ∧ w0.heap.size ≤ b7) → (bp ≠ b8 ∧ dc ≠ b8 ∧ w0.heap.size ≤ b8) → (bp ≠ b9 ∧ dc ≠ b9 ∧ w0.heap.size ≤ b9) → (b5 ≠ b6 ∧ b5 ≠ b7 ∧ b5 ≠ b8 ∧ b5 ≠ b9 ∧ b6 ≠ b7 ∧ b6 ≠ b8 ∧ b6 ≠ b9 ∧ b7 ≠ b8 ∧ b7 ≠ b9 ∧ b8 ≠ b9) → Q .normal { tmps := #[x0, x1, .pointer (some ⟨bp, 0, none⟩), .pointer (some ⟨dc, 0, none⟩), x4, .pointer (some ⟨b5, 0, none⟩), .pointer (some ⟨b6, 0, none⟩), .pointer (some ⟨b7, 0, none⟩), .pointer (some ⟨b8, 0, none⟩), .pointer (some ⟨b9, 0, none⟩), x10, x11, x12, x13, x14, x15, x16, x17, x18, spW p, spW p, spW p, spW p, spW p, x24, x25, x26, x27, x28, x29, x30, x31, x32, x33, x34, x35, x36, x37, x38, x39, x40, x41, x42, x43, x44, x45, x46, x47, x48, x49, x50, x51, x52, x53, x54, x55, x56, x57, x58], defers := [] } W)
    (B : Bl V bp (spA p) 26) (D : Bl V dc C 24) (T : Below w0.heap.size w0 V) (A6 : Bl V b6 zrA 26) (n6 : bp ≠ b6 ∧ dc ≠ b6 ∧ w0.heap.size ≤ b6) (A7 : Bl V b7 zrA 26) (n7 : bp ≠ b7 ∧ dc ≠ b7 ∧ w0.heap.size ≤ b7) (A9 : Bl V b9 zrA 26) (n9 : bp ≠ b9 ∧ dc ≠ b9 ∧ w0.heap.size ≤ b9) (q67 : b6 ≠ b7) (q69 : b6 ≠ b9) (q79 : b7 ≠ b9) :
    wpAnyH Tryz.prog .any ops5 Q (fun w' => Bl w' bp (spA p) 26) 7 #[true, true, true, true, true, false, true, true, false, true, false, false, false, false, false] { tmps := #[x0, x1, .pointer (some ⟨bp, 0, none⟩), .pointer (some ⟨dc, 0, none⟩), x4, v5, .pointer (some ⟨b6, 0, none⟩), .pointer (some ⟨b7, 0, none⟩), v8, .pointer (some ⟨b9, 0, none⟩), x10, x11, x12, x13, x14, x15, x16, x17, x18, spW p, spW p, spW p, spW p, spW p, x24, x25, x26, x27, x28, x29, x30, x31, x32, x33, x34, x35, x36, x37, x38, x39, x40, x41, x42, x43, x44, x45, x46, x47, x48, x49, x50, x51, x52, x53, x54, x55, x56, x57, x58], defers := [] } V := by
  refine wpAnyH_ready (rs := [5, 8]) (by kernel_rfl) (by simp) ?_
  refine AllReadyH.cons (by simp only [ops5, List.getElem?_toArray, List.getElem?_cons_zero, List.getElem?_cons_succ]; rfl) (fun K hK => ?_) ?_
  · go_simp
    refine hK.out _ _ (B.alloc _) (fun hHeld => ?_)
    clear hK K
    try simp only [List.setIfInBounds_toArray, List.set_cons_zero, List.set_cons_succ]
    exact Copy_23 p C w0 _ bp dc V.heap.size b6 b7 b9 hQ (B.alloc _) (D.alloc _) (T.alloc T.size _) (Bl.new _ _ _) ⟨Nat.ne_of_lt B.lt, Nat.ne_of_lt D.lt, T.size⟩ (A6.alloc _) n6 (A7.alloc _) n7 (A9.alloc _) n9 (Nat.ne_of_gt A6.lt) (Nat.ne_of_gt A7.lt) (Nat.ne_of_gt A9.lt) q67 q69 q79
  refine AllReadyH.cons (by simp only [ops5, List.getElem?_toArray, List.getElem?_cons_zero, List.getElem?_cons_succ]; rfl) (fun K hK => ?_) AllReadyH.nil
  go_simp
  refine hK.out _ _ (B.alloc _) (fun hHeld => ?_)
  clear hK K
  try simp only [List.setIfInBounds_toArray, List.set_cons_zero, List.set_cons_succ]
  exact Copy_30 p C w0 _ bp dc b6 b7 V.heap.size b9 hQ (B.alloc _) (D.alloc _) (T.alloc T.size _) (A6.alloc _) n6 (A7.alloc _) n7 (Bl.new _ _ _) ⟨Nat.ne_of_lt B.lt, Nat.ne_of_lt D.lt, T.size⟩ (A9.alloc _) n9 q67 (Nat.ne_of_lt A6.lt) q69 (Nat.ne_of_lt A7.lt) q79 (Nat.ne_of_gt A9.lt)
set_option maxHeartbeats 8000000 in
set_option maxRecDepth 100000 in
theorem Copy_25 {x0 x1 x4 x10 x11 x12 x13 x14 x15 x16 x17 x18 x24 x25 x26 x27 x28 x29 x30 x31 x32 x33 x34 x35 x36 x37 x38 x39 x40 x41 x42 x43 x44 x45 x46 x47 x48 x49 x50 x51 x52 x53 x54 x55 x56 x57 x58 : Value} {v6 v7 : Value} (p : Sp) (C : Array Value) (w0 V : World) (bp dc : Nat) (b5 b8 b9 : Nat) {Q : Exit → Act → World → Prop} (hQ : ∀ (b5 b6 b7 b8 b9 : Nat) (W : World), Bl W bp (spA p) 26 → Bl W dc C 24 → Below w0.heap.size w0 W → Bl W b5 (spA p) 26 → Bl W b6 (spA p) 26 → Bl W b7 (spA p) 26 → Bl W b8 (spA p) 26 → Bl W b9 (spA p) 26 → (bp ≠ b5 ∧ dc ≠ b5 ∧ w0.heap.size ≤ b5) → (bp ≠ b6 ∧ dc ≠ b6 ∧ w0.heap.size ≤ b6) → (bp ≠ b7 ∧ dc ≠ b7 ∧ w0.heap.size ≤ b7) → (bp ≠ b8 ∧ dc ≠ b8 ∧ w0.heap.size ≤ b8) → (bp ≠ b9 ∧ dc ≠ b9 ∧ w0.heap.size ≤ b9) → (b5 ≠ b6 ∧ b5 ≠ b7 ∧ b5 ≠ b8 ∧ b5 ≠ b9 ∧ b6 ≠ b7 ∧ b6 ≠ b8 ∧ b6 ≠ b9 ∧ b7 ≠ b8 ∧ b7 ≠ b9 ∧ b8 ≠ b9) → Q .normal { tmps := #[x0, x1, .pointer (some ⟨bp, 0, none⟩), .pointer (some ⟨dc, 0, none⟩), x4, .pointer (some ⟨b5, 0, none⟩), .pointer (some ⟨b6, 0, none⟩), .pointer (some ⟨b7, 0, none⟩), .pointer (some ⟨b8, 0, none⟩), .pointer (some ⟨b9, 0, none⟩), x10, x11, x12, x13, x14, x15, x16, x17, x18, spW p, spW p, spW p, spW p, spW p, x24, x25, x26, x27, x28, x29, x30, x31, x32, x33, x34, x35, x36, x37, x38, x39, x40, x41, x42, x43, x44, x45, x46, x47, x48, x49, x50, x51, x52, x53, x54, x55, x56, x57, x58], defers := [] } W)
    (B : Bl V bp (spA p) 26) (D : Bl V dc C 24) (T : Below w0.heap.size w0 V) (A5 : Bl V b5 zrA 26) (n5 : bp ≠ b5 ∧ dc ≠ b5 ∧ w0.heap.size ≤ b5) (A8 : Bl V b8 zrA 26) (n8 : bp ≠ b8 ∧ dc ≠ b8 ∧ w0.heap.size ≤ b8) (A9 : Bl V b9 zrA 26) (n9 : bp ≠ b9 ∧ dc ≠ b9 ∧ w0.heap.size ≤ b9) (q58 : b5 ≠ b8) (q59 : b5 ≠ b9) (q89 : b8 ≠ b9) :
    wpAnyH Tryz.prog .any ops5 Q (fun w' => Bl w' bp (spA p) 26) 7 #[true, true, true, true, true, true, false, false, true, true, false, false, false, false, false] { tmps := #[x0, x1, .pointer (some ⟨bp, 0, none⟩), .pointer (some ⟨dc, 0, none⟩), x4, .pointer (some ⟨b5, 0, none⟩), v6, v7, .pointer (some ⟨b8, 0, none⟩), .pointer (some ⟨b9, 0, none⟩), x10, x11, x12, x13, x14, x15, x16, x17, x18, spW p, spW p, spW p, spW p, spW p, x24, x25, x26, x27, x28, x29, x30, x31, x32, x33, x34, x35, x36, x37, x38, x39, x40, x41, x42, x43, x44, x45, x46, x47, x48, x49, x50, x51, x52, x53, x54, x55, x56, x57, x58], defers := [] } V := by
  refine wpAnyH_ready (rs := [6, 7]) (by kernel_rfl) (by simp) ?_
  refine AllReadyH.cons (by simp only [ops5, List.getElem?_toArray, List.getElem?_cons_zero, List.getElem?_cons_succ]; rfl) (fun K hK => ?_) ?_
  · go_simp
    refine hK.out _ _ (B.alloc _) (fun hHeld => ?_)
    clear hK K
    try simp only [List.setIfInBounds_toArray, List.set_cons_zero, List.set_cons_succ]
    exact Copy_27 p C w0 _ bp dc b5 V.heap.size b8 b9 hQ (B.alloc _) (D.alloc _) (T.alloc T.size _) (A5.alloc _) n5 (Bl.new _ _ _) ⟨Nat.ne_of_lt B.lt, Nat.ne_of_lt D.lt, T.size⟩ (A8.alloc _) n8 (A9.alloc _) n9 (Nat.ne_of_lt A5.lt) q58 q59 (Nat.ne_of_gt A8.lt) (Nat.ne_of_gt A9.lt) q89
  refine AllReadyH.cons (by simp only [ops5, List.getElem?_toArray, List.getElem?_cons_zero, List.getElem?_cons_succ]; rfl) (fun K hK => ?_) AllReadyH.nil
  go_simp
  refine hK.out _ _ (B.alloc _) (fun hHeld => ?_)
  clear hK K
  try simp only [List.setIfInBounds_toArray, List.set_cons_zero, List.set_cons_succ]
  exact Copy_29 p C w0 _ bp dc b5 V.heap.size b8 b9 hQ (B.alloc _) (D.alloc _) (T.alloc T.size _) (A5.alloc _) n5 (Bl.new _ _ _) ⟨Nat.ne_of_lt B.lt, Nat.ne_of_lt D.lt, T.size⟩ (A8.alloc _) n8 (A9.alloc _) n9 (Nat.ne_of_lt A5.lt) q58 q59 (Nat.ne_of_gt A8.lt) (Nat.ne_of_gt A9.lt) q89
set_option maxHeartbeats 8000000 in
set_option maxRecDepth 100000 in
theorem Copy_26 {x0 x1 x4 x10 x11 x12 x13 x14 x15 x16 x17 x18 x24 x25 x26 x27 x28 x29 x30 x31 x32 x33 x34 x35 x36 x37 x38 x39 x40 x41 x42 x43 x44 x45 x46 x47 x48 x49 x50 x51 x52 x53 x54 x55 x56 x57 x58 : Value} {v5 v7 : Value} (p : Sp) (C : Array Value) (w0 V : World) (bp dc : Nat) (b6 b8 b9 : Nat) {Q : Exit → Act → World → Prop} (hQ : ∀ (b5 b6 b7 b8 b9 : Nat) (W : World), Bl W bp (spA p) 26 → Bl W dc C 24 → Below w0.heap.size w0 W → Bl W b5 (spA p) 26 → Bl W b6 (spA p) 26 → Bl W b7 (spA p) 26 → Bl W b8 (spA p) 26 → Bl W b9 (spA p) 26 → (bp ≠ b5 ∧ dc ≠ b5 ∧ w0.heap.size ≤ b5) → (bp ≠ b6 ∧ dc ≠ b6 ∧ w0.heap.size ≤ b6) → (bp ≠ b7 ∧ dc ≠ b7 ∧ w0.heap.size ≤ b7) → (bp ≠ b8 ∧ dc ≠ b8 ∧ w0.heap.size ≤ b8) → (bp ≠ b9 ∧ dc ≠ b9 ∧ w0.heap.size ≤ b9) → (b5 ≠ b6 ∧ b5 ≠ b7 ∧ b5 ≠ b8 ∧ b5 ≠ b9 ∧ b6 ≠ b7 ∧ b6 ≠ b8 ∧ b6 ≠ b9 ∧ b7 ≠ b8 ∧ b7 ≠ b9 ∧ b8 ≠ b9) → Q .normal { tmps := #[x0, x1, .pointer (some ⟨bp, 0, none⟩), .pointer (some ⟨dc, 0, none⟩), x4, .pointer (some ⟨b5, 0, none⟩), .pointer (some ⟨b6, 0, none⟩), .pointer (some ⟨b7, 0, none⟩), .pointer (some ⟨b8, 0, none⟩), .pointer (some ⟨b9, 0, none⟩), x10, x11, x12, x13, x14, x15, x16, x17, x18, spW p, spW p, spW p, spW p, spW p, x24, x25, x26, x27, x28, x29, x30, x31, x32, x33, x34, x35, x36, x37, x38, x39, x40, x41, x42, x43, x44, x45, x46, x47, x48, x49, x50, x51, x52, x53, x54, x55, x56, x57, x58], defers := [] } W)
    (B : Bl V bp (spA p) 26) (D : Bl V dc C 24) (T : Below w0.heap.size w0 V) (A6 : Bl V b6 zrA 26) (n6 : bp ≠ b6 ∧ dc ≠ b6 ∧ w0.heap.size ≤ b6) (A8 : Bl V b8 zrA 26) (n8 : bp ≠ b8 ∧ dc ≠ b8 ∧ w0.heap.size ≤ b8) (A9 : Bl V b9 zrA 26) (n9 : bp ≠ b9 ∧ dc ≠ b9 ∧ w0.heap.size ≤ b9) (q68 : b6 ≠ b8) (q69 : b6 ≠ b9) (q89 : b8 ≠ b9) :
    wpAnyH Tryz.prog .any ops5 Q (fun w' => Bl w' bp (spA p) 26) 7 #[true, true, true, true, true, false, true, false, true, true, false, false, false, false, false] { tmps := #[x0, x1, .pointer (some ⟨bp, 0, none⟩), .pointer (some ⟨dc, 0, none⟩), x4, v5, .pointer (some ⟨b6, 0, none⟩), v7, .pointer (some ⟨b8, 0, none⟩), .pointer (some ⟨b9, 0, none⟩), x10, x11, x12, x13, x14, x15, x16, x17, x18, spW p, spW p, spW p, spW p, spW p, x24, x25, x26, x27, x28, x29, x30, x31, x32, x33, x34, x35, x36, x37, x38, x39, x40, x41, x42, x43, x44, x45, x46, x47, x48, x49, x50, x51, x52, x53, x54, x55, x56, x57, x58], defers := [] } V := by
  refine wpAnyH_ready (rs := [5, 7]) (by kernel_rfl) (by simp) ?_
  refine AllReadyH.cons (by simp only [ops5, List.getElem?_toArray, List.getElem?_cons_zero, List.getElem?_cons_succ]; rfl) (fun K hK => ?_) ?_
  · go_simp
    refine hK.out _ _ (B.alloc _) (fun hHeld => ?_)
    clear hK K
    try simp only [List.setIfInBounds_toArray, List.set_cons_zero, List.set_cons_succ]
    exact Copy_27 p C w0 _ bp dc V.heap.size b6 b8 b9 hQ (B.alloc _) (D.alloc _) (T.alloc T.size _) (Bl.new _ _ _) ⟨Nat.ne_of_lt B.lt, Nat.ne_of_lt D.lt, T.size⟩ (A6.alloc _) n6 (A8.alloc _) n8 (A9.alloc _) n9 (Nat.ne_of_gt A6.lt) (Nat.ne_of_gt A8.lt) (Nat.ne_of_gt A9.lt) q68 q69 q89
  refine AllReadyH.cons (by simp only [ops5, List.getElem?_toArray, List.getElem?_cons_zero, List.getElem?_cons_succ]; rfl) (fun K hK => ?_) AllReadyH.nil
  go_simp
  refine hK.out _ _ (B.alloc _) (fun hHeld => ?_)
  clear hK K
  try simp only [List.setIfInBounds_toArray, List.set_cons_zero, List.set_cons_succ]
  exact Copy_30 p C w0 _ bp dc b6 V.heap.size b8 b9 hQ (B.alloc _) (D.alloc _) (T.alloc T.size _) (A6.alloc _) n6 (Bl.new _ _ _) ⟨Nat.ne_of_lt B.lt, Nat.ne_of_lt D.lt, T.size⟩ (A8.alloc _) n8 (A9.alloc _) n9 (Nat.ne_of_lt A6.lt) q68 q69 (Nat.ne_of_gt A8.lt) (Nat.ne_of_gt A9.lt) q89
set_option maxHeartbeats 8000000 in
set_option maxRecDepth 100000 in
theorem Copy_28 {x0 x1 x4 x10 x11 x12 x13 x14 x15 x16 x17 x18 x24 x25 x26 x27 x28 x29 x30 x31 x32 x33 x34 x35 x36 x37 x38 x39 x40 x41 x42 x43 x44 x45 x46 x47 x48 x49 x50 x51 x52 x53 x54 x55 x56 x57 x58 : Value} {v5 v6 : Value} (p : Sp) (C : Array Value) (w0 V : World) (bp dc : Nat) (b7 b8 b9 : Nat) {Q : Exit → Act → World → Prop} (hQ : ∀ (b5 b6 b7 b8 b9 : Nat) (W : World), Bl W bp (spA p) 26 → Bl W dc C 24 → Below w0.heap.size w0 W → Bl W b5 (spA p) 26 → Bl W b6 (spA p) 26 → Bl W b7 (spA p) 26 → Bl W b8 (spA p) 26 → Bl W b9 (spA p) 26 → (bp ≠ b5 ∧ dc ≠ b5 ∧ w0.heap.size ≤ b5) → (bp ≠ b6 ∧ dc ≠ b6 ∧ w0.heap.size ≤ b6) → (bp ≠ b7 ∧ dc ≠ b7 ∧ w0.heap.size ≤ b7) → (bp ≠ b8 ∧ dc ≠ b8 ∧ w0.heap.size ≤ b8) → (bp ≠ b9 ∧ dc ≠ b9 ∧ w0.heap.size ≤ b9) → (b5 ≠ b6 ∧ b5 ≠ b7 ∧ b5 ≠ b8 ∧ b5 ≠ b9 ∧ b6 ≠ b7 ∧ b6 ≠ b8 ∧ b6 ≠ b9 ∧ b7 ≠ b8 ∧ b7 ≠ b9 ∧ b8 ≠ b9) → Q .normal { tmps := #[x0, x1, .pointer (some ⟨bp, 0, none⟩), .pointer (some ⟨dc, 0, none⟩), x4, .pointer (some ⟨b5, 0, none⟩), .pointer (some ⟨b6, 0, none⟩), .pointer (some ⟨b7, 0, none⟩), .pointer (some ⟨b8, 0, none⟩), .pointer (some ⟨b9, 0, none⟩), x10, x11, x12, x13, x14, x15, x16, x17, x18, spW p, spW p, spW p, spW p, spW p, x24, x25, x26, x27, x28, x29, x30, x31, x32, x33, x34, x35, x36, x37, x38, x39, x40, x41, x42, x43, x44, x45, x46, x47, x48, x49, x50, x51, x52, x53, x54, x55, x56, x57, x58], defers := [] } W)
    (B : Bl V bp (spA p) 26) (D : Bl V dc C 24) (T : Below w0.heap.size w0 V) (A7 : Bl V b7 zrA 26) (n7 : bp ≠ b7 ∧ dc ≠ b7 ∧ w0.heap.size ≤ b7) (A8 : Bl V b8 zrA 26) (n8 : bp ≠ b8 ∧ dc ≠ b8 ∧ w0.heap.size ≤ b8) (A9 : Bl V b9 zrA 26) (n9 : bp ≠ b9 ∧ dc ≠ b9 ∧ w0.heap.size ≤ b9) (q78 : b7 ≠ b8) (q79 : b7 ≠ b9) (q89 : b8 ≠ b9) :
    wpAnyH Tryz.prog .any ops5 Q (fun w' => Bl w' bp (spA p) 26) 7 #[true, true, true, true, true, false, false, true, true, true, false, false, false, false, false] { tmps := #[x0, x1, .pointer (some ⟨bp, 0, none⟩), .pointer (some ⟨dc, 0, none⟩), x4, v5, v6, .pointer (some ⟨b7, 0, none⟩), .pointer (some ⟨b8, 0, none⟩), .pointer (some ⟨b9, 0, none⟩), x10, x11, x12, x13, x14, x15, x16, x17, x18, spW p, spW p, spW p, spW p, spW p, x24, x25, x26, x27, x28, x29, x30, x31, x32, x33, x34, x35, x36, x37, x38, x39, x40, x41, x42, x43, x44, x45, x46, x47, x48, x49, x50, x51, x52, x53, x54, x55, x56, x57, x58], defers := [] } V := by
  refine wpAnyH_ready (rs := [5, 6]) (by kernel_rfl) (by simp) ?_
  refine AllReadyH.cons (by simp only [ops5, List.getElem?_toArray, List.getElem?_cons_zero, List.getElem?_cons_succ]; rfl) (fun K hK => ?_) ?_
  · go_simp
    refine hK.out _ _ (B.alloc _) (fun hHeld => ?_)
    clear hK K
    try simp only [List.setIfInBounds_toArray, List.set_cons_zero, List.set_cons_succ]
    exact Copy_29 p C w0 _ bp dc V.heap.size b7 b8 b9 hQ (B.alloc _) (D.alloc _) (T.alloc T.size _) (Bl.new _ _ _) ⟨Nat.ne_of_lt B.lt, Nat.ne_of_lt D.lt, T.size⟩ (A7.alloc _) n7 (A8.alloc _) n8 (A9.alloc _) n9 (Nat.ne_of_gt A7.lt) (Nat.ne_of_gt A8.lt) (Nat.ne_of_gt A9.lt) q78 q79 q89
  refine AllReadyH.cons (by simp only [ops5, List.getElem?_toArray, List.getElem?_cons_zero, List.getElem?_cons_succ]; rfl) (fun K hK => ?_) AllReadyH.nil
  go_simp
  refine hK.out _ _ (B.alloc _) (fun hHeld => ?_)
  clear hK K
  try simp only [List.setIfInBounds_toArray, List.set_cons_zero, List.set_cons_succ]
  exact Copy_30 p C w0 _ bp dc V.heap.size b7 b8 b9 hQ (B.alloc _) (D.alloc _) (T.alloc T.size _) (Bl.new _ _ _) ⟨Nat.ne_of_lt B.lt, Nat.ne_of_lt D.lt, T.size⟩ (A7.alloc _) n7 (A8.alloc _) n8 (A9.alloc _) n9 (Nat.ne_of_gt A7.lt) (Nat.ne_of_gt A8.lt) (Nat.ne_of_gt A9.lt) q78 q79 q89
set_option maxHeartbeats 8000000 in
set_option maxRecDepth 100000 in
theorem Copy_3 {x0 x1 x4 x10 x11 x12 x13 x14 x15 x16 x17 x18 x24 x25 x26 x27 x28 x29 x30 x31 x32 x33 x34 x35 x36 x37 x38 x39 x40 x41 x42 x43 x44 x45 x46 x47 x48 x49 x50 x51 x52 x53 x54 x55 x56 x57 x58 : Value} {v7 v8 v9 : Value} (p : Sp) (C : Array Value) (w0 V : World) (bp dc : Nat) (b5 b6 : Nat) {Q : Exit → Act → World → Prop} (hQ : ∀ (b5 b6 b7 b8 b9 : Nat) (W : World), Bl W bp (spA p) 26 → Bl W dc C 24 → Below w0.heap.size w0 W → Bl W b5 (spA p) 26 → Bl W b6 (spA p) 26 → Bl W b7 (spA p) 26 → Bl W b8 (spA p) 26 → Bl W b9 (spA p) 26 → (bp ≠ b5 ∧ dc ≠ b5 ∧ w0.heap.size ≤ b5) → (bp ≠ b6 ∧ dc ≠ b6 ∧ w0.heap.size ≤ b6) → (bp ≠ b7 ∧ dc ≠ b7 ∧ w0.heap.size ≤ b7) → (bp ≠ b8 ∧ dc ≠ b8 ∧ w0.heap.size ≤ b8) → (bp ≠ b9 ∧ dc ≠ b9 ∧ w0.heap.size ≤ b9) → (b5 ≠ b6 ∧ b5 ≠ b7 ∧ b5 ≠ b8 ∧ b5 ≠ b9 ∧ b6 ≠ b7 ∧ b6 ≠ b8 ∧ b6 ≠ b9 ∧ b7 ≠ b8 ∧ b7 ≠ b9 ∧ b8 ≠ b9) → Q .normal { tmps := #[x0, x1, .pointer (some ⟨bp, 0, none⟩), .pointer (some ⟨dc, 0, none⟩), x4, .pointer (some ⟨b5, 0, none⟩), .pointer (some ⟨b6, 0, none⟩), .pointer (some ⟨b7, 0, none⟩), .pointer (some ⟨b8, 0, none⟩), .pointer (some ⟨b9, 0, none⟩), x10, x11, x12, x13, x14, x15, x16, x17, x18, spW p, spW p, spW p, spW p, spW p, x24, x25, x26, x27, x28, x29, x30, x31, x32, x33, x34, x35, x36, x37, x38, x39, x40, x41, x42, x43, x44, x45, x46, x47, x48, x49, x50, x51, x52, x53, x54, x55, x56, x57, x58], defers := [] } W)
    (B : Bl V bp (spA p) 26) (D : Bl V dc C 24) (T : Below w0.heap.size w0 V) (A5 : Bl V b5 zrA 26) (n5 : bp ≠ b5 ∧ dc ≠ b5 ∧ w0.heap.size ≤ b5) (A6 : Bl V b6 zrA 26) (n6 : bp ≠ b6 ∧ dc ≠ b6 ∧ w0.heap.size ≤ b6) (q56 : b5 ≠ b6) :
    wpAnyH Tryz.prog .any ops5 Q (fun w' => Bl w' bp (spA p) 26) 8 #[true, true, true, true, true, true, true, false, false, false, false, false, false, false, false] { tmps := #[x0, x1, .pointer (some ⟨bp, 0, none⟩), .pointer (some ⟨dc, 0, none⟩), x4, .pointer (some ⟨b5, 0, none⟩), .pointer (some ⟨b6, 0, none⟩), v7, v8, v9, x10, x11, x12, x13, x14, x15, x16, x17, x18, spW p, spW p, spW p, spW p, spW p, x24, x25, x26, x27, x28, x29, x30, x31, x32, x33, x34, x35, x36, x37, x38, x39, x40, x41, x42, x43, x44, x45, x46, x47, x48, x49, x50, x51, x52, x53, x54, x55, x56, x57, x58], defers := [] } V := by
  refine wpAnyH_ready (rs := [7, 8, 9]) (by kernel_rfl) (by simp) ?_
  refine AllReadyH.cons (by simp only [ops5, List.getElem?_toArray, List.getElem?_cons_zero, List.getElem?_cons_succ]; rfl) (fun K hK => ?_) ?_
  · go_simp
    refine hK.out _ _ (B.alloc _) (fun hHeld => ?_)
    clear hK K
    try simp only [List.setIfInBounds_toArray, List.set_cons_zero, List.set_cons_succ]
    exact Copy_7 p C w0 _ bp dc b5 b6 V.heap.size hQ (B.alloc _) (D.alloc _) (T.alloc T.size _) (A5.alloc _) n5 (A6.alloc _) n6 (Bl.new _ _ _) ⟨Nat.ne_of_lt B.lt, Nat.ne_of_lt D.lt, T.size⟩ q56 (Nat.ne_of_lt A5.lt) (Nat.ne_of_lt A6.lt)
  refine AllReadyH.cons (by simp only [ops5, List.getElem?_toArray, List.getElem?_cons_zero, List.getElem?_cons_succ]; rfl) (fun K hK => ?_) ?_
  · go_simp
    refine hK.out _ _ (B.alloc _) (fun hHeld => ?_)
    clear hK K
    try simp only [List.setIfInBounds_toArray, List.set_cons_zero, List.set_cons_succ]
    exact Copy_11 p C w0 _ bp dc b5 b6 V.heap.size hQ (B.alloc _) (D.alloc _) (T.alloc T.size _) (A5.alloc _) n5 (A6.alloc _) n6 (Bl.new _ _ _) ⟨Nat.ne_of_lt B.lt, Nat.ne_of_lt D.lt, T.size⟩ q56 (Nat.ne_of_lt A5.lt) (Nat.ne_of_lt A6.lt)
  refine AllReadyH.cons (by simp only [ops5, List.getElem?_toArray, List.getElem?_cons_zero, List.getElem?_cons_succ]; rfl) (fun K hK => ?_) AllReadyH.nil
  go_simp
  refine hK.out _ _ (B.alloc _) (fun hHeld => ?_)
  clear hK K
  try simp only [List.setIfInBounds_toArray, List.set_cons_zero, List.set_cons_succ]
  exact Copy_19 p C w0 _ bp dc b5 b6 V.heap.size hQ (B.alloc _) (D.alloc _) (T.alloc T.size _) (A5.alloc _) n5 (A6.alloc _) n6 (Bl.new _ _ _) ⟨Nat.ne_of_lt B.lt, Nat.ne_of_lt D.lt, T.size⟩ q56 (Nat.ne_of_lt A5.lt) (Nat.ne_of_lt A6.lt)
set_option maxHeartbeats 8000000 in
set_option maxRecDepth 100000 in
theorem Copy_5 {x0 x1 x4 x10 x11 x12 x13 x14 x15 x16 x17 x18 x24 x25 x26 x27 x28 x29 x30 x31 x32 x33 x34 x35 x36 x37 x38 x39 x40 x41 x42 x43 x44 x45 x46 x47 x48 x49 x50 x51 x52 x53 x54 x55 x56 x57 x58 : Value} {v6 v8 v9 : Value} (p : Sp) (C : Array Value) (w0 V : World) (bp dc : Nat) (b5 b7 : Nat) {Q : Exit → Act → World → Prop} (hQ : ∀ (b5 b6 b7 b8 b9 : Nat) (W : World), Bl W bp (spA p) 26 → Bl W dc C 24 → Below w0.heap.size w0 W → Bl W b5 (spA p) 26 → Bl W b6 (spA p) 26 → Bl W b7 (spA p) 26 → Bl W b8 (spA p) 26 → Bl W b9 (spA p) 26 → (bp ≠ b5 ∧ dc ≠ b5 ∧ w0.heap.size ≤ b5) → (bp ≠ b6 ∧ dc ≠ b6 ∧ w0.heap.size ≤ b6) → (bp ≠ b7 ∧ dc ≠ b7 ∧ w0.heap.size ≤ b7) → (bp ≠ b8 ∧ dc ≠ b8 ∧ w0.heap.size ≤ b8) → (bp ≠ b9 ∧ dc ≠ b9 ∧ w0.heap.size ≤ b9) → (b5 ≠ b6 ∧ b5 ≠ b7 ∧ b5 ≠ b8 ∧ b5 ≠ b9 ∧ b6 ≠ b7 ∧ b6 ≠ b8 ∧ b6 ≠ b9 ∧ b7 ≠ b8 ∧ b7 ≠ b9 ∧ b8 ≠ b9) → Q .normal { tmps := #[x0, x1, .pointer (some ⟨bp, 0, none⟩), .pointer (some ⟨dc, 0, none⟩), x4, .pointer (some ⟨b5, 0, none⟩), .pointer (some ⟨b6, 0, none⟩), .pointer (some ⟨b7, 0, none⟩), .pointer (some ⟨b8, 0, none⟩), .pointer (some ⟨b9, 0, none⟩), x10, x11, x12, x13, x14, x15, x16, x17, x18, spW p, spW p, spW p, spW p, spW p, x24, x25, x26, x27, x28, x29, x30, x31, x32, x33, x34, x35, x36, x37, x38, x39, x40, x41, x42, x43, x44, x45, x46, x47, x48, x49, x50, x51, x52, x53, x54, x55, x56, x57, x58], defers := [] } W)
    (B : Bl V bp (spA p) 26) (D : Bl V dc C 24) (T : Below w0.heap.size w0 V) (A5 : Bl V b5 zrA 26) (n5 : bp ≠ b5 ∧ dc ≠ b5 ∧ w0.heap.size ≤ b5) (A7 : Bl V b7 zrA 26) (n7 : bp ≠ b7 ∧ dc ≠ b7 ∧ w0.heap.size ≤ b7) (q57 : b5 ≠ b7) :
    wpAnyH Tryz.prog .any ops5 Q (fun w' => Bl w' bp (spA p) 26) 8 #[true, true, true, true, true, true, false, true, false, false, false, false, false, false, false] { tmps := #[x0, x1, .pointer (some ⟨bp, 0, none⟩), .pointer (some ⟨dc, 0, none⟩), x4, .pointer (some ⟨b5, 0, none⟩), v6, .pointer (some ⟨b7, 0, none⟩), v8, v9, x10, x11, x12, x13, x14, x15, x16, x17, x18, spW p, spW p, spW p, spW p, spW p, x24, x25, x26, x27, x28, x29, x30, x31, x32, x33, x34, x35, x36, x37, x38, x39, x40, x41, x42, x43, x44, x45, x46, x47, x48, x49, x50, x51, x52, x53, x54, x55, x56, x57, x58], defers := [] } V := by
  refine wpAnyH_ready (rs := [6, 8, 9]) (by kernel_rfl) (by simp) ?_
  refine AllReadyH.cons (by simp only [ops5, List.getElem?_toArray, List.getElem?_cons_zero, List.getElem?_cons_succ]; rfl) (fun K hK => ?_) ?_
  · go_simp
    refine hK.out _ _ (B.alloc _) (fun hHeld => ?_)
    clear hK K
    try simp only [List.setIfInBounds_toArray, List.set_cons_zero, List.set_cons_succ]
    exact Copy_7 p C w0 _ bp dc b5 V.heap.size b7 hQ (B.alloc _) (D.alloc _) (T.alloc T.size _) (A5.alloc _) n5 (Bl.new _ _ _) ⟨Nat.ne_of_lt B.lt, Nat.ne_of_lt D.lt, T.size⟩ (A7.alloc _) n7 (Nat.ne_of_lt A5.lt) q57 (Nat.ne_of_gt A7.lt)
  refine AllReadyH.cons (by simp only [ops5, List.getElem?_toArray, List.getElem?_cons_zero, List.getElem?_cons_succ]; rfl) (fun K hK => ?_) ?_
  · go_simp
    refine hK.out _ _ (B.alloc _) (fun hHeld => ?_)
    clear hK K
    try simp only [List.setIfInBounds_toArray, List.set_cons_zero, List.set_cons_succ]
    exact Copy_13 p C w0 _ bp dc b5 b7 V.heap.size hQ (B.alloc _) (D.alloc _) (T.alloc T.size _) (A5.alloc _) n5 (A7.alloc _) n7 (Bl.new _ _ _) ⟨Nat.ne_of_lt B.lt, Nat.ne_of_lt D.lt, T.size⟩ q57 (Nat.ne_of_lt A5.lt) (Nat.ne_of_lt A7.lt)
  refine AllReadyH.cons (by simp only [ops5, List.getElem?_toArray, List.getElem?_cons_zero, List.getElem?_cons_succ]; rfl) (fun K hK => ?_) AllReadyH.nil
  go_simp
  refine hK.out _ _ (B.alloc _) (fun hHeld => ?_)
  clear hK K
  try simp only [List.setIfInBounds_toArray, List.set_cons_zero, List.set_cons_succ]
  exact Copy_21 p C w0 _ bp dc b5 b7 V.heap.size hQ (B.alloc _) (D.alloc _) (T.alloc T.size _) (A5.alloc _) n5 (A7.alloc _) n7 (Bl.new _ _ _) ⟨Nat.ne_of_lt B.lt, Nat.ne_of_lt D.lt, T.size⟩ q57 (Nat.ne_of_lt A5.lt) (Nat.ne_of_lt A7.lt)
set_option maxHeartbeats 8000000 in
set_option maxRecDepth 100000 in
theorem Copy_6 {x0 x1 x4 x10 x11 x12 x13 x14 x15 x16 x17 x18 x24 x25 x26 x27 x28 x29 x30 x31 x32 x33 x34 x35 x36 x37 x38 x39 x40 x41 x42 x43 x44 x45 x46 x47 x48 x49 x50 x51 x52 x53 x54 x55 x56 x57 x58 : Value} {v5 v8 v9 : Value} (p : Sp) (C : Array Value) (w0 V : World) (bp dc : Nat) (b6 b7 : Nat) {Q : Exit → Act → World → Prop} (hQ : ∀ (b5 b6 b7 b8 b9 : Nat) (W : World), Bl W bp (spA p) 26 → Bl W dc C 24 → Below w0.heap.size w0 W → Bl W b5 (spA p) 26 → Bl W b6 (spA p) 26 → Bl W b7 (spA p) 26 → Bl W b8 (spA p) 26 → Bl W b9 (spA p) 26 → (bp ≠ b5 ∧ dc ≠ b5 ∧ w0.heap.size ≤ b5) → (bp ≠ b6 ∧ dc ≠ b6 ∧ w0.heap.size ≤ b6) → (bp ≠ b7 ∧ dc ≠ b7 ∧ w0.heap.size ≤ b7) → (bp ≠ b8 ∧ dc ≠ b8 ∧ w0.heap.size ≤ b8) → (bp ≠ b9 ∧ dc ≠ b9 ∧ w0.heap.size ≤ b9) → (b5 ≠ b6 ∧ b5 ≠ b7 ∧ b5 ≠ b8 ∧ b5 ≠ b9 ∧ b6 ≠ b7 ∧ b6 ≠ b8 ∧ b6 ≠ b9 ∧ b7 ≠ b8 ∧ b7 ≠ b9 ∧ b8 ≠ b9) → Q .normal { tmps := #[x0, x1, .pointer (some ⟨bp, 0, none⟩), .pointer (some ⟨dc, 0, none⟩), x4, .pointer (some ⟨b5, 0, none⟩), .pointer (some ⟨b6, 0, none⟩), .pointer (some ⟨b7, 0, none⟩), .pointer (some ⟨b8, 0, none⟩), .pointer (some ⟨b9, 0, none⟩), x10, x11, x12, x13, x14, x15, x16, x17, x18, spW p, spW p, spW p, spW p, spW p, x24, x25, x26, x27, x28, x29, x30, x31, x32, x33, x34, x35, x36, x37, x38, x39, x40, x41, x42, x43, x44, x45, x46, x47, x48, x49, x50, x51, x52, x53, x54, x55, x56, x57, x58], defers := [] } W)
    (B : Bl V bp (spA p) 26) (D : Bl V dc C 24) (T : Below w0.heap.size w0 V) (A6 : Bl V b6 zrA 26) (n6 : bp ≠ b6 ∧ dc ≠ b6 ∧ w0.heap.size ≤ b6) (A7 : Bl V b7 zrA 26) (n7 : bp ≠ b7 ∧ dc ≠ b7 ∧ w0.heap.size ≤ b7) (q67 : b6 ≠ b7) :
    wpAnyH Tryz.prog .any ops5 Q (fun w' => Bl w' bp (spA p) 26) 8 #[true, true, true, true, true, false, true, true, false, false, false, false, false, false, false] { tmps := #[x0, x1, .pointer (some ⟨bp, 0, none⟩), .pointer (some ⟨dc, 0, none⟩), x4, v5, .pointer (some ⟨b6, 0, none⟩), .pointer (some ⟨b7, 0, none⟩), v8, v9, x10, x11, x12, x13, x14, x15, x16, x17, x18, spW p, spW p, spW p, spW p, spW p, x24, x25, x26, x27, x28, x29, x30, x31, x32, x33, x34, x35, x36, x37, x38, x39, x40, x41, x42, x43, x44, x45, x46, x47, x48, x49, x50, x51, x52, x53, x54, x55, x56, x57, x58], defers := [] } V := by
  refine wpAnyH_ready (rs := [5, 8, 9]) (by kernel_rfl) (by simp) ?_
  refine AllReadyH.cons (by simp only [ops5, List.getElem?_toArray, List.getElem?_cons_zero, List.getElem?_cons_succ]; rfl) (fun K hK => ?_) ?_
  · go_simp
    refine hK.out _ _ (B.alloc _) (fun hHeld => ?_)
    clear hK K
    try simp only [List.setIfInBounds_toArray, List.set_cons_zero, List.set_cons_succ]
    exact Copy_7 p C w0 _ bp dc V.heap.size b6 b7 hQ (B.alloc _) (D.alloc _) (T.alloc T.size _) (Bl.new _ _ _) ⟨Nat.ne_of_lt B.lt, Nat.ne_of_lt D.lt, T.size⟩ (A6.alloc _) n6 (A7.alloc _) n7 (Nat.ne_of_gt A6.lt) (Nat.ne_of_gt A7.lt) q67
  refine AllReadyH.cons (by simp only [ops5, List.getElem?_toArray, List.getElem?_cons_zero, List.getElem?_cons_succ]; rfl) (fun K hK => ?_) ?_
  · go_simp
    refine hK.out _ _ (B.alloc _) (fun hHeld => ?_)
    clear hK K
    try simp only [List.setIfInBounds_toArray, List.set_cons_zero, List.set_cons_succ]
    exact Copy_14 p C w0 _ bp dc b6 b7 V.heap.size hQ (B.alloc _) (D.alloc _) (T.alloc T.size _) (A6.alloc _) n6 (A7.alloc _) n7 (Bl.new _ _ _) ⟨Nat.ne_of_lt B.lt, Nat.ne_of_lt D.lt, T.size⟩ q67 (Nat.ne_of_lt A6.lt) (Nat.ne_of_lt A7.lt)
  refine AllReadyH.cons (by simp only [ops5, List.getElem?_toArray, List.getElem?_cons_zero, List.getElem?_cons_succ]; rfl) (fun K hK => ?_) AllReadyH.nil
  go_simp
  refine hK.out _ _ (B.alloc _) (fun hHeld => ?_)
  clear hK K
  try simp only [List.setIfInBounds_toArray, List.set_cons_zero, List.set_cons_succ]
  exact Copy_22 p C w0 _ bp dc b6 b7 V.heap.size hQ (B.alloc _) (D.alloc _) (T.alloc T.size _) (A6.alloc _) n6 (A7.alloc _) n7 (Bl.new _ _ _) ⟨Nat.ne_of_lt B.lt, Nat.ne_of_lt D.lt, T.size⟩ q67 (Nat.ne_of_lt A6.lt) (Nat.ne_of_lt A7.lt)
set_option maxHeartbeats 8000000 in
set_option maxRecDepth 100000 in
theorem Copy_9 {x0 x1 x4 x10 x11 x12 x13 x14 x15 x16 x17 x18 x24 x25 x26 x27 x28 x29 x30 x31 x32 x33 x34 x35 x36 x37 x38 x39 x40 x41 x42 x43 x44 x45 x46 x47 x48 x49 x50 x51 x52 x53 x54 x55 x56 x57 x58 : Value} {v6 v7 v9 : Value} (p : Sp) (C : Array Value) (w0 V : World) (bp dc : Nat) (b5 b8 : Nat) {Q : Exit → Act → World → Prop} (hQ : ∀ (b5 b6 b7 b8 b9 : Nat) (W : World), Bl W bp (spA p) 26 → Bl W dc C 24 → Below w0.heap.size w0 W → Bl W b5 (spA p) 26 → Bl W b6 (spA p) 26 → Bl W b7 (spA p) 26 → Bl W b8 (spA p) 26 → Bl W b9 (spA p) 26 → (bp ≠ b5 ∧ dc ≠ b5 ∧ w0.heap.size ≤ b5) → (bp ≠ b6 ∧ dc ≠ b6 ∧ w0.heap.size ≤ b6) → (bp ≠ b7 ∧ dc ≠ b7 ∧ w0.heap.size ≤ b7) → (bp ≠ b8 ∧ dc ≠ b8 ∧ w0.heap.size ≤ b8) → (bp ≠ b9 ∧ dc ≠ b9 ∧ w0.heap.size ≤ b9) → (b5 ≠ b6 ∧ b5 ≠ b7 ∧ b5 ≠ b8 ∧ b5 ≠ b9 ∧ b6 ≠ b7 ∧ b6 ≠ b8 ∧ b6 ≠ b9 ∧ b7 ≠ b8 ∧ b7 ≠ b9 ∧ b8 ≠ b9) → Q .normal { tmps := #[x0, x1, .pointer (some ⟨bp, 0, none⟩), .pointer (some ⟨dc, 0, none⟩), x4, .pointer (some ⟨b5, 0, none⟩), .pointer (some ⟨b6, 0, none⟩), .pointer (some ⟨b7, 0, none⟩), .pointer (some ⟨b8, 0, none⟩), .pointer (some ⟨b9, 0, none⟩), x10, x11, x12, x13, x14, x15, x16, x17, x18, spW p, spW p, spW p, spW p, spW p, x24, x25, x26, x27, x28, x29, x30, x31, x32, x33, x34, x35, x36, x37, x38, x39, x40, x41, x42, x43, x44, x45, x46, x47, x48, x49, x50, x51, x52, x53, x54, x55, x56, x57, x58], defers := [] } W)
    (B : Bl V bp (spA p) 26) (D : Bl V dc C 24) (T : Below w0.heap.size w0 V) (A5 : Bl V b5 zrA 26) (n5 : bp ≠ b5 ∧ dc ≠ b5 ∧ w0.heap.size ≤ b5) (A8 : Bl V b8 zrA 26) (n8 : bp ≠ b8 ∧ dc ≠ b8 ∧ w0.heap.size ≤ b8) (q58 : b5 ≠ b8) :
    wpAnyH Tryz.prog .any ops5 Q (fun w' => Bl w' bp (spA p) 26) 8 #[true, true, true, true, true, true, false, false, true, false, false, false, false, false, false] { tmps := #[x0, x1, .pointer (some ⟨bp, 0, none⟩), .pointer (some ⟨dc, 0, none⟩), x4, .pointer (some ⟨b5, 0, none⟩), v6, v7, .pointer (some ⟨b8, 0, none⟩), v9, x10, x11, x12, x13, x14, x15, x16, x17, x18, spW p, spW p, spW p, spW p, spW p, x24, x25, x26, x27, x28, x29, x30, x31, x32, x33, x34, x35, x36, x37, x38, x39, x40, x41, x42, x43, x44, x45, x46, x47, x48, x49, x50, x51, x52, x53, x54, x55, x56, x57, x58], defers := [] } V := by
  refine wpAnyH_ready (rs := [6, 7, 9]) (by kernel_rfl) (by simp) ?_
  refine AllReadyH.cons (by simp only [ops5, List.getElem?_toArray, List.getElem?_cons_zero, List.getElem?_cons_succ]; rfl) (fun K hK => ?_) ?_
  · go_simp
    refine hK.out _ _ (B.alloc _) (fun hHeld => ?_)
    clear hK K
    try simp only [List.setIfInBounds_toArray, List.set_cons_zero, List.set_cons_succ]
    exact Copy_11 p C w0 _ bp dc b5 V.heap.size b8 hQ (B.alloc _) (D.alloc _) (T.alloc T.size _) (A5.alloc _) n5 (Bl.new _ _ _) ⟨Nat.ne_of_lt B.lt, Nat.ne_of_lt D.lt, T.size⟩ (A8.alloc _) n8 (Nat.ne_of_lt A5.lt) q58 (Nat.ne_of_gt A8.lt)
  refine AllReadyH.cons (by simp only [ops5, List.getElem?_toArray, List.getElem?_cons_zero, List.getElem?_cons_succ]; rfl) (fun K hK => ?_) ?_
  · go_simp
    refine hK.out _ _ (B.alloc _) (fun hHeld => ?_)
    clear hK K
    try simp only [List.setIfInBounds_toArray, List.set_cons_zero, List.set_cons_succ]
    exact Copy_13 p C w0 _ bp dc b5 V.heap.size b8 hQ (B.alloc _) (D.alloc _) (T.alloc T.size _) (A5.alloc _) n5 (Bl.new _ _ _) ⟨Nat.ne_of_lt B.lt, Nat.ne_of_lt D.lt, T.size⟩ (A8.alloc _) n8 (Nat.ne_of_lt A5.lt) q58 (Nat.ne_of_gt A8.lt)
  refine AllReadyH.cons (by simp only [ops5, List.getElem?_toArray, List.getElem?_cons_zero, List.getElem?_cons_succ]; rfl) (fun K hK => ?_) AllReadyH.nil
  go_simp
  refine hK.out _ _ (B.alloc _) (fun hHeld => ?_)
  clear hK K
  try simp only [List.setIfInBounds_toArray, List.set_cons_zero, List.set_cons_succ]
  exact Copy_25 p C w0 _ bp dc b5 b8 V.heap.size hQ (B.alloc _) (D.alloc _) (T.alloc T.size _) (A5.alloc _) n5 (A8.alloc _) n8 (Bl.new _ _ _) ⟨Nat.ne_of_lt B.lt, Nat.ne_of_lt D.lt, T.size⟩ q58 (Nat.ne_of_lt A5.lt) (Nat.ne_of_lt A8.lt)
set_option maxHeartbeats 8000000 in
set_option maxRecDepth 100000 in
theorem Copy_10 {x0 x1 x4 x10 x11 x12 x13 x14 x15 x16 x17 x18 x24 x25 x26 x27 x28 x29 x30 x31 x32 x33 x34 x35 x36 x37 x38 x39 x40 x41 x42 x43 x44 x45 x46 x47 x48 x49 x50 x51 x52 x53 x54 x55 x56 x57 x58 : Value} {v5 v7 v9 : Value} (p : Sp) (C : Array Value) (w0 V : World) (bp dc : Nat) (b6 b8 : Nat) {Q : Exit → Act → World → Prop} (hQ : ∀ (b5 b6 b7 b8 b9 : Nat) (W : World), Bl W bp (spA p) 26 → Bl W dc C 24 → Below w0.heap.size w0 W → Bl W b5 (spA p) 26 → Bl W b6 (spA p) 26 → Bl W b7 (spA p) 26 → Bl W b8 (spA p) 26 → Bl W b9 (spA p) 26 → (bp ≠ b5 ∧ dc ≠ b5 ∧ w0.heap.size ≤ b5) → (bp ≠ b6 ∧ dc ≠ b6 ∧ w0.heap.size ≤ b6) → (bp ≠ b7 ∧ dc ≠ b7 ∧ w0.heap.size ≤ b7) → (bp ≠ b8 ∧ dc ≠ b8 ∧ w0.heap.size ≤ b8) → (bp ≠ b9 ∧ dc ≠ b9 ∧ w0.heap.size ≤ b9) → (b5 ≠ b6 ∧ b5 ≠ b7 ∧ b5 ≠ b8 ∧ b5 ≠ b9 ∧ b6 ≠ b7 ∧ b6 ≠ b8 ∧ b6 ≠ b9 ∧ b7 ≠ b8 ∧ b7 ≠ b9 ∧ b8 ≠ b9) → Q .normal { tmps := #[x0, x1, .pointer (some ⟨bp, 0, none⟩), .pointer (some ⟨dc, 0, none⟩), x4, .pointer (some ⟨b5, 0, none⟩), .pointer (some ⟨b6, 0, none⟩), .pointer (some ⟨b7, 0, none⟩), .pointer (some ⟨b8, 0, none⟩), .pointer (some ⟨b9, 0, none⟩), x10, x11, x12, x13, x14, x15, x16, x17, x18, spW p, spW p, spW p, spW p, spW p, x24, x25, x26, x27, x28, x29, x30, x31, x32, x33, x34, x35, x36, x37, x38, x39, x40, x41, x42, x43, x44, x45, x46, x47, x48, x49, x50, x51, x52, x53, x54, x55, x56, x57, x58], defers := [] } W)
    (B : Bl V bp (spA p) 26) (D : Bl V dc C 24) (T : Below w0.heap.size w0 V) (A6 : Bl V b6 zrA 26) (n6 : bp ≠ b6 ∧ dc ≠ b6 ∧ w0.heap.size ≤ b6) (A8 : Bl V b8 zrA 26) (n8 : bp ≠ b8 ∧ dc ≠ b8 ∧ w0.heap.size ≤ b8) (q68 : b6 ≠ b8) :
    wpAnyH Tryz.prog .any ops5 Q (fun w' => Bl w' bp (spA p) 26) 8 #[true, true, true, true, true, false, true, false, true, false, false, false, false, false, false] { tmps := #[x0, x1, .pointer (some ⟨bp, 0, none⟩), .pointer (some ⟨dc, 0, none⟩), x4, v5, .pointer (some ⟨b6, 0, none⟩), v7, .pointer (some ⟨b8, 0, none⟩), v9, x10, x11, x12, x13, x14, x15, x16, x17, x18, spW p, spW p, spW p, spW p, spW p, x24, x25, x26, x27, x28, x29, x30, x31, x32, x33, x34, x35, x36, x37, x38, x39, x40, x41, x42, x43, x44, x45, x46, x47, x48, x49, x50, x51, x52, x53, x54, x55, x56, x57, x58], defers := [] } V := by
  refine wpAnyH_ready (rs := [5, 7, 9]) (by kernel_rfl) (by simp) ?_
  refine AllReadyH.cons (by simp only [ops5, List.getElem?_toArray, List.getElem?_cons_zero, List.getElem?_cons_succ]; rfl) (fun K hK => ?_) ?_
  · go_simp
    refine hK.out _ _ (B.alloc _) (fun hHeld => ?_)
    clear hK K
    try simp only [List.setIfInBounds_toArray, List.set_cons_zero, List.set_cons_succ]
    exact Copy_11 p C w0 _ bp dc V.heap.size b6 b8 hQ (B.alloc _) (D.alloc _) (T.alloc T.size _) (Bl.new _ _ _) ⟨Nat.ne_of_lt B.lt, Nat.ne_of_lt D.lt, T.size⟩ (A6.alloc _) n6 (A8.alloc _) n8 (Nat.ne_of_gt A6.lt) (Nat.ne_of_gt A8.lt) q68
  refine AllReadyH.cons (by simp only [ops5, List.getElem?_toArray, List.getElem?_cons_zero, List.getElem?_cons_succ]; rfl) (fun K hK => ?_) ?_
  · go_simp
    refine hK.out _ _ (B.alloc _) (fun hHeld => ?_)
    clear hK K
    try simp only [List.setIfInBounds_toArray, List.set_cons_zero, List.set_cons_succ]
    exact Copy_14 p C w0 _ bp dc b6 V.heap.size b8 hQ (B.alloc _) (D.alloc _) (T.alloc T.size _) (A6.alloc _) n6 (Bl.new _ _ _) ⟨Nat.ne_of_lt B.lt, Nat.ne_of_lt D.lt, T.size⟩ (A8.alloc _) n8 (Nat.ne_of_lt A6.lt) q68 (Nat.ne_of_gt A8.lt)
  refine AllReadyH.cons (by simp only [ops5, List.getElem?_toArray, List.getElem?_cons_zero, List.getElem?_cons_succ]; rfl) (fun K hK => ?_) AllReadyH.nil
  go_simp
  refine hK.out _ _ (B.alloc _) (fun hHeld => ?_)
  clear hK K
  try simp only [List.setIfInBounds_toArray, List.set_cons_zero, List.set_cons_succ]
  exact Copy_26 p C w0 _ bp dc b6 b8 V.heap.size hQ (B.alloc _) (D.alloc _) (T.alloc T.size _) (A6.alloc _) n6 (A8.alloc _) n8 (Bl.new _ _ _) ⟨Nat.ne_of_lt B.lt, Nat.ne_of_lt D.lt, T.size⟩ q68 (Nat.ne_of_lt A6.lt) (Nat.ne_of_lt A8.lt)
set_option maxHeartbeats 8000000 in
set_option maxRecDepth 100000 in
theorem Copy_12 {x0 x1 x4 x10 x11 x12 x13 x14 x15 x16 x17 x18 x24 x25 x26 x27 x28 x29 x30 x31 x32 x33 x34 x35 x36 x37 x38 x39 x40 x41 x42 x43 x44 x45 x46 x47 x48 x49 x50 x51 x52 x53 x54 x55 x56 x57 x58 : Value} {v5 v6 v9 : Value} (p : Sp) (C : Array Value) (w0 V : World) (bp dc : Nat) (b7 b8 : Nat) {Q : Exit → Act → World → Prop} (hQ : ∀ (b5 b6 b7 b8 b9 : Nat) (W : World), Bl W bp (spA p) 26 → Bl W dc C 24 → Below w0.heap.size w0 W → Bl W b5 (spA p) 26 → Bl W b6 (spA p) 26 → Bl W b7 (spA p) 26 → Bl W b8 (spA p) 26 → Bl W b9 (spA p) 26 → (bp ≠ b5 ∧ dc ≠ b5 ∧ w0.heap.size ≤ b5) → (bp ≠ b6 ∧ dc ≠ b6 ∧ w0.heap.size ≤ b6) → (bp ≠ b7 ∧ dc ≠ b7 ∧ w0.heap.size ≤ b7) → (bp ≠ b8 ∧ dc ≠ b8 ∧ w0.heap.size ≤ b8) → (bp ≠ b9 ∧ dc ≠ b9 ∧ w0.heap.size ≤ b9) → (b5 ≠ b6 ∧ b5 ≠ b7 ∧ b5 ≠ b8 ∧ b5 ≠ b9 ∧ b6 ≠ b7 ∧ b6 ≠ b8 ∧ b6 ≠ b9 ∧ b7 ≠ b8 ∧ b7 ≠ b9 ∧ b8 ≠ b9) → Q .normal { tmps := #[x0, x1, .pointer (some ⟨bp, 0, none⟩), .pointer (some ⟨dc, 0, none⟩), x4, .pointer (some ⟨b5, 0, none⟩), .pointer (some ⟨b6, 0, none⟩), .pointer (some ⟨b7, 0, none⟩), .pointer (some ⟨b8, 0, none⟩), .pointer (some ⟨b9, 0, none⟩), x10, x11, x12, x13, x14, x15, x16, x17, x18, spW p, spW p, spW p, spW p, spW p, x24, x25, x26, x27, x28, x29, x30, x31, x32, x33, x34, x35, x36, x37, x38, x39, x40, x41, x42, x43, x44, x45, x46, x47, x48, x49, x50, x51, x52, x53, x54, x55, x56, x57, x58], defers := [] } W)
    (B : Bl V bp (spA p) 26) (D : Bl V dc C 24) (T : Below w0.heap.size w0 V) (A7 : Bl V b7 zrA 26) (n7 : bp ≠ b7 ∧ dc ≠ b7 ∧ w0.heap.size ≤ b7) (A8 : Bl V b8 zrA 26) (n8 : bp ≠ b8 ∧ dc ≠ b8 ∧ w0.heap.size ≤ b8) (q78 : b7 ≠ b8) :
    wpAnyH Tryz.prog .any ops5 Q (fun w' => Bl w' bp (spA p) 26) 8 #[true, true, true, true, true, false, false, true, true, false, false, false, false, false, false] { tmps := #[x0, x1, .pointer (some ⟨bp, 0, none⟩), .pointer (some ⟨dc, 0, none⟩), x4, v5, v6, .pointer (some ⟨b7, 0, none⟩), .pointer (some ⟨b8, 0, none⟩), v9, x10, x11, x12, x13, x14, x15, x16, x17, x18, spW p, spW p, spW p, spW p, spW p, x24, x25, x26, x27, x28, x29, x30, x31, x32, x33, x34, x35, x36, x37, x38, x39, x40, x41, x42, x43, x44, x45, x46, x47, x48, x49, x50, x51, x52, x53, x54, x55, x56, x57, x58], defers := [] } V := by
  refine wpAnyH_ready (rs := [5, 6, 9]) (by kernel_rfl) (by simp) ?_
  refine AllReadyH.cons (by simp only [ops5, List.getElem?_toArray, List.getElem?_cons_zero, List.getElem?_cons_succ]; rfl) (fun K hK => ?_) ?_
  · go_simp
    refine hK.out _ _ (B.alloc _) (fun hHeld => ?_)
    clear hK K
    try simp only [List.setIfInBounds_toArray, List.set_cons_zero, List.set_cons_succ]
    exact Copy_13 p C w0 _ bp dc V.heap.size b7 b8 hQ (B.alloc _) (D.alloc _) (T.alloc T.size _) (Bl.new _ _ _) ⟨Nat.ne_of_lt B.lt, Nat.ne_of_lt D.lt, T.size⟩ (A7.alloc _) n7 (A8.alloc _) n8 (Nat.ne_of_gt A7.lt) (Nat.ne_of_gt A8.lt) q78
  refine AllReadyH.cons (by simp only [ops5, List.getElem?_toArray, List.getElem?_cons_zero, List.getElem?_cons_succ]; rfl) (fun K hK => ?_) ?_
  · go_simp
    refine hK.out _ _ (B.alloc _) (fun hHeld => ?_)
    clear hK K
    try simp only [List.setIfInBounds_toArray, List.set_cons_zero, List.set_cons_succ]
    exact Copy_14 p C w0 _ bp dc V.heap.size b7 b8 hQ (B.alloc _) (D.alloc _) (T.alloc T.size _) (Bl.new _ _ _) ⟨Nat.ne_of_lt B.lt, Nat.ne_of_lt D.lt, T.size⟩ (A7.alloc _) n7 (A8.alloc _) n8 (Nat.ne_of_gt A7.lt) (Nat.ne_of_gt A8.lt) q78
  refine AllReadyH.cons (by simp only [ops5, List.getElem?_toArray, List.getElem?_cons_zero, List.getElem?_cons_succ]; rfl) (fun K hK => ?_) AllReadyH.nil
  go_simp
  refine hK.out _ _ (B.alloc _) (fun hHeld => ?_)
  clear hK K
  try simp only [List.setIfInBounds_toArray, List.set_cons_zero, List.set_cons_succ]
  exact Copy_28 p C w0 _ bp dc b7 b8 V.heap.size hQ (B.alloc _) (D.alloc _) (T.alloc T.size _) (A7.alloc _) n7 (A8.alloc _) n8 (Bl.new _ _ _) ⟨Nat.ne_of_lt B.lt, Nat.ne_of_lt D.lt, T.size⟩ q78 (Nat.ne_of_lt A7.lt) (Nat.ne_of_lt A8.lt)
set_option maxHeartbeats 8000000 in
set_option maxRecDepth 100000 in
theorem Copy_17 {x0 x1 x4 x10 x11 x12 x13 x14 x15 x16 x17 x18 x24 x25 x26 x27 x28 x29 x30 x31 x32 x33 x34 x35 x36 x37 x38 x39 x40 x41 x42 x43 x44 x45 x46 x47 x48 x49 x50 x51 x52 x53 x54 x55 x56 x57 x58 : Value} {v6 v7 v8 : Value} (p : Sp) (C : Array Value) (w0 V : World) (bp dc : Nat) (b5 b9 : Nat) {Q : Exit → Act → World → Prop} (hQ : ∀ (b5 b6 b7 b8 b9 : Nat) (W : World), Bl W bp (spA p) 26 → Bl W dc C 24 → Below w0.heap.size w0 W → Bl W b5 (spA p) 26 → Bl W b6 (spA p) 26 → Bl W b7 (spA p) 26 → Bl W b8 (spA p) 26 → Bl W b9 (spA p) 26 → (bp ≠ b5 ∧ dc ≠ b5 ∧ w0.heap.size ≤ b5) → (bp ≠ b6 ∧ dc ≠ b6 ∧ w0.heap.size ≤ b6) → (bp ≠ b7 ∧ dc ≠ b7 ∧ w0.heap.size ≤ b7) → (bp ≠ b8 ∧ dc ≠ b8 ∧ w0.heap.size ≤ b8) → (bp ≠ b9 ∧ dc ≠ b9 ∧ w0.heap.size ≤ b9) → (b5 ≠ b6 ∧ b5 ≠ b7 ∧ b5 ≠ b8 ∧ b5 ≠ b9 ∧ b6 ≠ b7 ∧ b6 ≠ b8 ∧ b6 ≠ b9 ∧ b7 ≠ b8 ∧ b7 ≠ b9 ∧ b8 ≠ b9) → Q .normal { tmps := #[x0, x1, .pointer (some ⟨bp, 0, none⟩), .pointer (some ⟨dc, 0, none⟩), x4, .pointer (some ⟨b5, 0, none⟩), .pointer (some ⟨b6, 0, none⟩), .pointer (some ⟨b7, 0, none⟩), .pointer (some ⟨b8, 0, none⟩), .pointer (some ⟨b9, 0, none⟩), x10, x11, x12, x13, x14, x15, x16, x17, x18, spW p, spW p, spW p, spW p, spW p, x24, x25, x26, x27, x28, x29, x30, x31, x32, x33, x34, x35, x36, x37, x38, x39, x40, x41, x42, x43, x44, x45, x46, x47, x48, x49, x50, x51, x52, x53, x54, x55, x56, x57, x58], defers := [] } W)
    (B : Bl V bp (spA p) 26) (D : Bl V dc C 24) (T : Below w0.heap.size w0 V) (A5 : Bl V b5 zrA 26) (n5 : bp ≠ b5 ∧ dc ≠ b5 ∧ w0.heap.size ≤ b5) (A9 : Bl V b9 zrA 26) (n9 : bp ≠ b9 ∧ dc ≠ b9 ∧ w0.heap.size ≤ b9) (q59 : b5 ≠ b9) :
    wpAnyH Tryz.prog .any ops5 Q (fun w' => Bl w' bp (spA p) 26) 8 #[true, true, true, true, true, true, false, false, false, true, false, false, false, false, false] { tmps := #[x0, x1, .pointer (some ⟨bp, 0, none⟩), .pointer (some ⟨dc, 0, none⟩), x4, .pointer (some ⟨b5, 0, none⟩), v6, v7, v8, .pointer (some ⟨b9, 0, none⟩), x10, x11, x12, x13, x14, x15, x16, x17, x18, spW p, spW p, spW p, spW p, spW p, x24, x25, x26, x27, x28, x29, x30, x31, x32, x33, x34, x35, x36, x37, x38, x39, x40, x41, x42, x43, x44, x45, x46, x47, x48, x49, x50, x51, x52, x53, x54, x55, x56, x57, x58], defers := [] } V := by
  refine wpAnyH_ready (rs := [6, 7, 8]) (by kernel_rfl) (by simp) ?_
  refine AllReadyH.cons (by simp only [ops5, List.getElem?_toArray, List.getElem?_cons_zero, List.getElem?_cons_succ]; rfl) (fun K hK => ?_) ?_
  · go_simp
    refine hK.out _ _ (B.alloc _) (fun hHeld => ?_)
    clear hK K
    try simp only [List.setIfInBounds_toArray, List.set_cons_zero, List.set_cons_succ]
    exact Copy_19 p C w0 _ bp dc b5 V.heap.size b9 hQ (B.alloc _) (D.alloc _) (T.alloc T.size _) (A5.alloc _) n5 (Bl.new _ _ _) ⟨Nat.ne_of_lt B.lt, Nat.ne_of_lt D.lt, T.size⟩ (A9.alloc _) n9 (Nat.ne_of_lt A5.lt) q59 (Nat.ne_of_gt A9.lt)
  refine AllReadyH.cons (by simp only [ops5, List.getElem?_toArray, List.getElem?_cons_zero, List.getElem?_cons_succ]; rfl) (fun K hK => ?_) ?_
  · go_simp
    refine hK.out _ _ (B.alloc _) (fun hHeld => ?_)
    clear hK K
    try simp only [List.setIfInBounds_toArray, List.set_cons_zero, List.set_cons_succ]
    exact Copy_21 p C w0 _ bp dc b5 V.heap.size b9 hQ (B.alloc _) (D.alloc _) (T.alloc T.size _) (A5.alloc _) n5 (Bl.new _ _ _) ⟨Nat.ne_of_lt B.lt, Nat.ne_of_lt D.lt, T.size⟩ (A9.alloc _) n9 (Nat.ne_of_lt A5.lt) q59 (Nat.ne_of_gt A9.lt)
  refine AllReadyH.cons (by simp only [ops5, List.getElem?_toArray, List.getElem?_cons_zero, List.getElem?_cons_succ]; rfl) (fun K hK => ?_) AllReadyH.nil
  go_simp
  refine hK.out _ _ (B.alloc _) (fun hHeld => ?_)
  clear hK K
  try simp only [List.setIfInBounds_toArray, List.set_cons_zero, List.set_cons_succ]
  exact Copy_25 p C w0 _ bp dc b5 V.heap.size b9 hQ (B.alloc _) (D.alloc _) (T.alloc T.size _) (A5.alloc _) n5 (Bl.new _ _ _) ⟨Nat.ne_of_lt B.lt, Nat.ne_of_lt D.lt, T.size⟩ (A9.alloc _) n9 (Nat.ne_of_lt A5.lt) q59 (Nat.ne_of_gt A9.lt)
set_option maxHeartbeats 8000000 in
set_option maxRecDepth 100000 in
theorem Copy_18 {x0 x1 x4 x10 x11 x12 x13 x14 x15 x16 x17 x18 x24 x25 x26 x27 x28 x29 x30 x31 x32 x33 x34 x35 x36 x37 x38 x39 x40 x41 x42 x43 x44 x45 x46 x47 x48 x49 x50 x51 x52 x53 x54 x55 x56 x57 x58 : Value} {v5 v7 v8 : Value} (p : Sp) (C : Array Value) (w0 V : World) (bp dc : Nat) (b6 b9 : Nat) {Q : Exit → Act → World → Prop} (hQ : ∀ (b5 b6 b7 b8 b9 : Nat) (W : World), Bl W bp (spA p) 26 → Bl W dc C 24 → Below w0.heap.size w0 W → Bl W b5 (spA p) 26 → Bl W b6 (spA p) 26 → Bl W b7 (spA p) 26 → Bl W b8 (spA p) 26 → Bl W b9 (spA p) 26 → (bp ≠ b5 ∧ dc ≠ b5 ∧ w0.heap.size ≤ b5) → (bp ≠ b6 ∧ dc ≠ b6 ∧ w0.heap.size ≤ b6) → (bp ≠ b7 ∧ dc ≠ b7 ∧ w0.heap.size ≤ b7) → (bp ≠ b8 ∧ dc ≠ b8 ∧ w0.heap.size ≤ b8) → (bp ≠ b9 ∧ dc ≠ b9 ∧ w0.heap.size ≤ b9) → (b5 ≠ b6 ∧ b5 ≠ b7 ∧ b5 ≠ b8 ∧ b5 ≠ b9 ∧ b6 ≠ b7 ∧ b6 ≠ b8 ∧ b6 ≠ b9 ∧ b7 ≠ b8 ∧ b7 ≠ b9 ∧ b8 ≠ b9) → Q .normal { tmps := #[x0, x1, .pointer (some ⟨bp, 0, none⟩), .pointer (some ⟨dc, 0, none⟩), x4, .pointer (some ⟨b5, 0, none⟩), .pointer (some ⟨b6, 0, none⟩), .pointer (some ⟨b7, 0, none⟩), .pointer (some ⟨b8, 0, none⟩), .pointer (some ⟨b9, 0, none⟩), x10, x11, x12, x13, x14, x15, x16, x17, x18, spW p, spW p, spW p, spW p, spW p, x24, x25, x26, x27, x28, x29, x30, x31, x32, x33, x34, x35, x36, x37, x38, x39, x40, x41, x42, x43, x44, x45, x46, x47, x48, x49, x50, x51, x52, x53, x54, x55, x56, x57, x58], defers := [] } W)
    (B : Bl V bp (spA p) 26) (D : Bl V dc C 24) (T : Below w0.heap.size w0 V) (A6 : Bl V b6 zrA 26) (n6 : bp ≠ b6 ∧ dc ≠ b6 ∧ w0.heap.size ≤ b6) (A9 : Bl V b9 zrA 26) (n9 : bp ≠ b9 ∧ dc ≠ b9 ∧ w0.heap.size ≤ b9) (q69 : b6 ≠ b9) :
    wpAnyH Tryz.prog .any ops5 Q (fun w' => Bl w' bp (spA p) 26) 8 #[true, true, true, true, true, false, true, false, false, true, false, false, false, false, false] { tmps := #[x0, x1, .pointer (some ⟨bp, 0, none⟩), .pointer (some ⟨dc, 0, none⟩), x4, v5, .pointer (some ⟨b6, 0, none⟩), v7, v8, .pointer (some ⟨b9, 0, none⟩), x10, x11, x12, x13, x14, x15, x16, x17, x18, spW p, spW p, spW p, spW p, spW p, x24, x25, x26, x27, x28, x29, x30, x31, x32, x33, x34, x35, x36, x37, x38, x39, x40, x41, x42, x43, x44, x45, x46, x47, x48, x49, x50, x51, x52, x53, x54, x55, x56, x57, x58], defers := [] } V := by
  refine wpAnyH_ready (rs := [5, 7, 8]) (by kernel_rfl) (by simp) ?_
  refine AllReadyH.cons (by simp only [ops5, List.getElem?_toArray, List.getElem?_cons_zero, List.getElem?_cons_succ]; rfl) (fun K hK => ?_) ?_
  · go_simp
    refine hK.out _ _ (B.alloc _) (fun hHeld => ?_)
    clear hK K
    try simp only [List.setIfInBounds_toArray, List.set_cons_zero, List.set_cons_succ]
    exact Copy_19 p C w0 _ bp dc V.heap.size b6 b9 hQ (B.alloc _) (D.alloc _) (T.alloc T.size _) (Bl.new _ _ _) ⟨Nat.ne_of_lt B.lt, Nat.ne_of_lt D.lt, T.size⟩ (A6.alloc _) n6 (A9.alloc _) n9 (Nat.ne_of_gt A6.lt) (Nat.ne_of_gt A9.lt) q69
  refine AllReadyH.cons (by simp only [ops5, List.getElem?_toArray, List.getElem?_cons_zero, List.getElem?_cons_succ]; rfl) (fun K hK => ?_) ?_
  · go_simp
    refine hK.out _ _ (B.alloc _) (fun hHeld => ?_)
    clear hK K
    try simp only [List.setIfInBounds_toArray, List.set_cons_zero, List.set_cons_succ]
    exact Copy_22 p C w0 _ bp dc b6 V.heap.size b9 hQ (B.alloc _) (D.alloc _) (T.alloc T.size _) (A6.alloc _) n6 (Bl.new _ _ _) ⟨Nat.ne_of_lt B.lt, Nat.ne_of_lt D.lt, T.size⟩ (A9.alloc _) n9 (Nat.ne_of_lt A6.lt) q69 (Nat.ne_of_gt A9.lt)
  refine AllReadyH.cons (by simp only [ops5, List.getElem?_toArray, List.getElem?_cons_zero, List.getElem?_cons_succ]; rfl) (fun K hK => ?_) AllReadyH.nil
  go_simp
  refine hK.out _ _ (B.alloc _) (fun hHeld => ?_)
  clear hK K
  try simp only [List.setIfInBounds_toArray, List.set_cons_zero, List.set_cons_succ]
  exact Copy_26 p C w0 _ bp dc b6 V.heap.size b9 hQ (B.alloc _) (D.alloc _) (T.alloc T.size _) (A6.alloc _) n6 (Bl.new _ _ _) ⟨Nat.ne_of_lt B.lt, Nat.ne_of_lt D.lt, T.size⟩ (A9.alloc _) n9 (Nat.ne_of_lt A6.lt) q69 (Nat.ne_of_gt A9.lt)
set_option maxHeartbeats 8000000 in
set_option maxRecDepth 100000 in
theorem Copy_20 {x0 x1 x4 x10 x11 x12 x13 x14 x15 x16 x17 x18 x24 x25 x26 x27 x28 x29 x30 x31 x32 x33 x34 x35 x36 x37 x38 x39 x40 x41 x42 x43 x44 x45 x46 x47 x48 x49 x50 x51 x52 x53 x54 x55 x56 x57 x58 : Value} {v5 v6 v8 : Value} (p : Sp) (C : Array Value) (w0 V : World) (bp dc : Nat) (b7 b9 : Nat) {Q : Exit → Act → World → Prop} (hQ : ∀ (b5 b6 b7 b8 b9 : Nat) (W : World), Bl W bp (spA p) 26 → Bl W dc C 24 → Below w0.heap.size w0 W → Bl W b5 (spA p) 26 → Bl W b6 (spA p) 26 → Bl W b7 (spA p) 26 → Bl W b8 (spA p) 26 → Bl W b9 (spA p) 26 → (bp ≠ b5 ∧ dc ≠ b5 ∧ w0.heap.size ≤ b5) → (bp ≠ b6 ∧ dc ≠ b6 ∧ w0.heap.size ≤ b6) → (bp ≠ b7 ∧ dc ≠ b7 ∧ w0.heap.size ≤ b7) → (bp ≠ b8 ∧ dc ≠ b8 ∧ w0.heap.size ≤ b8) → (bp ≠ b9 ∧ dc ≠ b9 ∧ w0.heap.size ≤ b9) → (b5 ≠ b6 ∧ b5 ≠ b7 ∧ b5 ≠ b8 ∧ b5 ≠ b9 ∧ b6 ≠ b7 ∧ b6 ≠ b8 ∧ b6 ≠ b9 ∧ b7 ≠ b8 ∧ b7 ≠ b9 ∧ b8 ≠ b9) → Q .normal { tmps := #[x0, x1, .pointer (some ⟨bp, 0, none⟩), .pointer (some ⟨dc, 0, none⟩), x4, .pointer (some ⟨b5, 0, none⟩), .pointer (some ⟨b6, 0, none⟩), .pointer (some ⟨b7, 0, none⟩), .pointer (some ⟨b8, 0, none⟩), .pointer (some ⟨b9, 0, none⟩), x10, x11, x12, x13, x14, x15, x16, x17, x18, spW p, spW p, spW p, spW p, spW p, x24, x25, x26, x27, x28, x29, x30, x31, x32, x33, x34, x35, x36, x37, x38, x39, x40, x41, x42, x43, x44, x45, x46, x47, x48, x49, x50, x51, x52, x53, x54, x55, x56, x57, x58], defers := [] } W)
    (B : Bl V bp (spA p) 26) (D : Bl V dc C 24) (T : Below w0.heap.size w0 V) (A7 : Bl V b7 zrA 26) (n7 : bp ≠ b7 ∧ dc ≠ b7 ∧ w0.heap.size ≤ b7) (A9 : Bl V b9 zrA 26) (n9 : bp ≠ b9 ∧ dc ≠ b9 ∧ w0.heap.size ≤ b9) (q79 : b7 ≠ b9) :
    wpAnyH Tryz.prog .any ops5 Q (fun w' => Bl w' bp (spA p) 26) 8 #[true, true, true, true, true, false, false, true, false, true, false, false, false, false, false] { tmps := #[x0, x1, .pointer (some ⟨bp, 0, none⟩), .pointer (some ⟨dc, 0, none⟩), x4, v5, v6, .pointer (some ⟨b7, 0, none⟩), v8, .pointer (some ⟨b9, 0, none⟩), x10, x11, x12, x13, x14, x15, x16, x17, x18, spW p, spW p, spW p, spW p, spW p, x24, x25, x26, x27, x28, x29, x30, x31, x32, x33, x34, x35, x36, x37, x38, x39, x40, x41, x42, x43, x44, x45, x46, x47, x48, x49, x50, x51, x52, x53, x54, x55, x56, x57, x58], defers := [] } V := by
  refine wpAnyH_ready (rs := [5, 6, 8]) (by kernel_rfl) (by simp) ?_
  refine AllReadyH.cons (by simp only [ops5, List.getElem?_toArray, List.getElem?_cons_zero, List.getElem?_cons_succ]; rfl) (fun K hK => ?_) ?_
  · go_simp
    refine hK.out _ _ (B.alloc _) (fun hHeld => ?_)
    clear hK K
    try simp only [List.setIfInBounds_toArray, List.set_cons_zero, List.set_cons_succ]
    exact Copy_21 p C w0 _ bp dc V.heap.size b7 b9 hQ (B.alloc _) (D.alloc _) (T.alloc T.size _) (Bl.new _ _ _) ⟨Nat.ne_of_lt B.lt, Nat.ne_of_lt D.lt, T.size⟩ (A7.alloc _) n7 (A9.alloc _) n9 (Nat.ne_of_gt A7.lt) (Nat.ne_of_gt A9.lt) q79
  refine AllReadyH.cons (by simp only [ops5, List.getElem?_toArray, List.getElem?_cons_zero, List.getElem?_cons_succ]; rfl) (fun K hK => ?_) ?_
  · go_simp
    refine hK.out _ _ (B.alloc _) (fun hHeld => ?_)
    clear hK K
    try simp only [List.setIfInBounds_toArray, List.set_cons_zero, List.set_cons_succ]
    exact Copy_22 p C w0 _ bp dc V.heap.size b7 b9 hQ (B.alloc _) (D.alloc _) (T.alloc T.size _) (Bl.new _ _ _) ⟨Nat.ne_of_lt B.lt, Nat.ne_of_lt D.lt, T.size⟩ (A7.alloc _) n7 (A9.alloc _) n9 (Nat.ne_of_gt A7.lt) (Nat.ne_of_gt A9.lt) q79
  refine AllReadyH.cons (by simp only [ops5, List.getElem?_toArray, List.getElem?_cons_zero, List.getElem?_cons_succ]; rfl) (fun K hK => ?_) AllReadyH.nil
  go_simp
  refine hK.out _ _ (B.alloc _) (fun hHeld => ?_)
  clear hK K
  try simp only [List.setIfInBounds_toArray, List.set_cons_zero, List.set_cons_succ]
  exact Copy_28 p C w0 _ bp dc b7 V.heap.size b9 hQ (B.alloc _) (D.alloc _) (T.alloc T.size _) (A7.alloc _) n7 (Bl.new _ _ _) ⟨Nat.ne_of_lt B.lt, Nat.ne_of_lt D.lt, T.size⟩ (A9.alloc _) n9 (Nat.ne_of_lt A7.lt) q79 (Nat.ne_of_gt A9.lt)
set_option maxHeartbeats 8000000 in
set_option maxRecDepth 100000 in
theorem Copy_24 {x0 x1 x4 x10 x11 x12 x13 x14 x15 x16 x17 x18 x24 x25 x26 x27 x28 x29 x30 x31 x32 x33 x34 x35 x36 x37 x38 x39 x40 x41 x42 x43 x44 x45 x46 x47 x48 x49 x50 x51 x52 x53 x54 x55 x56 x57 x58 : Value} {v5 v6 v7 : Value} (p : Sp) (C : Array Value) (w0 V : World) (bp dc : Nat) (b8 b9 : Nat) {Q : Exit → Act → World → Prop} (hQ : ∀ (b5 b6 b7 b8 b9 : Nat) (W : World), Bl W bp (spA p) 26 → Bl W dc C 24 → Below w0.heap.size w0 W → Bl W b5 (spA p) 26 → Bl W b6 (spA p) 26 → Bl W b7 (spA p) 26 → Bl W b8 (spA p) 26 → Bl W b9 (spA p) 26 → (bp ≠ b5 ∧ dc ≠ b5 ∧ w0.heap.size ≤ b5) → (bp ≠ b6 ∧ dc ≠ b6 ∧ w0.heap.size ≤ b6) → (bp ≠ b7 ∧ dc ≠ b7 ∧ w0.heap.size ≤ b7) → (bp ≠ b8 ∧ dc ≠ b8 ∧ w0.heap.size ≤ b8) → (bp ≠ b9 ∧ dc ≠ b9 ∧ w0.heap.size ≤ b9) → (b5 ≠ b6 ∧ b5 ≠ b7 ∧ b5 ≠ b8 ∧ b5 ≠ b9 ∧ b6 ≠ b7 ∧ b6 ≠ b8 ∧ b6 ≠ b9 ∧ b7 ≠ b8 ∧ b7 ≠ b9 ∧ b8 ≠ b9) → Q .normal { tmps := #[x0, x1, .pointer (some ⟨bp, 0, none⟩), .pointer (some ⟨dc, 0, none⟩), x4, .pointer (some ⟨b5, 0, none⟩), .pointer (some ⟨b6, 0, none⟩), .pointer (some ⟨b7, 0, none⟩), .pointer (some ⟨b8, 0, none⟩), .pointer (some ⟨b9, 0, none⟩), x10, x11, x12, x13, x14, x15, x16, x17, x18, spW p, spW p, spW p, spW p, spW p, x24, x25, x26, x27, x28, x29, x30, x31, x32, x33, x34, x35, x36, x37, x38, x39, x40, x41, x42, x43, x44, x45, x46, x47, x48, x49, x50, x51, x52, x53, x54, x55, x56, x57, x58], defers := [] } W)
    (B : Bl V bp (spA p) 26) (D : Bl V dc C 24) (T : Below w0.heap.size w0 V) (A8 : Bl V b8 zrA 26) (n8 : bp ≠ b8 ∧ dc ≠ b8 ∧ w0.heap.size ≤ b8) (A9 : Bl V b9 zrA 26) (n9 : bp ≠ b9 ∧ dc ≠ b9 ∧ w0.heap.size ≤ b9) (q89 : b8 ≠ b9) :
    wpAnyH Tryz.prog .any ops5 Q (fun w' => Bl w' bp (spA p) 26) 8 #[true, true, true, true, true, false, false, false, true, true, false, false, false, false, false] { tmps := #[x0, x1, .pointer (some ⟨bp, 0, none⟩), .pointer (some ⟨dc, 0, none⟩), x4, v5, v6, v7, .pointer (some ⟨b8, 0, none⟩), .pointer (some ⟨b9, 0, none⟩), x10, x11, x12, x13, x14, x15, x16, x17, x18, spW p, spW p, spW p, spW p, spW p, x24, x25, x26, x27, x28, x29, x30, x31, x32, x33, x34, x35, x36, x37, x38, x39, x40, x41, x42, x43, x44, x45, x46, x47, x48, x49, x50, x51, x52, x53, x54, x55, x56, x57, x58], defers := [] } V := by
  refine wpAnyH_ready (rs := [5, 6, 7]) (by kernel_rfl) (by simp) ?_
  refine AllReadyH.cons (by simp only [ops5, List.getElem?_toArray, List.getElem?_cons_zero, List.getElem?_cons_succ]; rfl) (fun K hK => ?_) ?_
  · go_simp
    refine hK.out _ _ (B.alloc _) (fun hHeld => ?_)
    clear hK K
    try simp only [List.setIfInBounds_toArray, List.set_cons_zero, List.set_cons_succ]
    exact Copy_25 p C w0 _ bp dc V.heap.size b8 b9 hQ (B.alloc _) (D.alloc _) (T.alloc T.size _) (Bl.new _ _ _) ⟨Nat.ne_of_lt B.lt, Nat.ne_of_lt D.lt, T.size⟩ (A8.alloc _) n8 (A9.alloc _) n9 (Nat.ne_of_gt A8.lt) (Nat.ne_of_gt A9.lt) q89
  refine AllReadyH.cons (by simp only [ops5, List.getElem?_toArray, List.getElem?_cons_zero, List.getElem?_cons_succ]; rfl) (fun K hK => ?_) ?_
  · go_simp
    refine hK.out _ _ (B.alloc _) (fun hHeld => ?_)
    clear hK K
    try simp only [List.setIfInBounds_toArray, List.set_cons_zero, List.set_cons_succ]
    exact Copy_26 p C w0 _ bp dc V.heap.size b8 b9 hQ (B.alloc _) (D.alloc _) (T.alloc T.size _) (Bl.new _ _ _) ⟨Nat.ne_of_lt B.lt, Nat.ne_of_lt D.lt, T.size⟩ (A8.alloc _) n8 (A9.alloc _) n9 (Nat.ne_of_gt A8.lt) (Nat.ne_of_gt A9.lt) q89
  refine AllReadyH.cons (by simp only [ops5, List.getElem?_toArray, List.getElem?_cons_zero, List.getElem?_cons_succ]; rfl) (fun K hK => ?_) AllReadyH.nil
  go_simp
  refine hK.out _ _ (B.alloc _) (fun hHeld => ?_)
  clear hK K
  try simp only [List.setIfInBounds_toArray, List.set_cons_zero, List.set_cons_succ]
  exact Copy_28 p C w0 _ bp dc V.heap.size b8 b9 hQ (B.alloc _) (D.alloc _) (T.alloc T.size _) (Bl.new _ _ _) ⟨Nat.ne_of_lt B.lt, Nat.ne_of_lt D.lt, T.size⟩ (A8.alloc _) n8 (A9.alloc _) n9 (Nat.ne_of_gt A8.lt) (Nat.ne_of_gt A9.lt) q89
set_option maxHeartbeats 8000000 in
set_option maxRecDepth 100000 in
theorem Copy_1 {x0 x1 x4 x10 x11 x12 x13 x14 x15 x16 x17 x18 x24 x25 x26 x27 x28 x29 x30 x31 x32 x33 x34 x35 x36 x37 x38 x39 x40 x41 x42 x43 x44 x45 x46 x47 x48 x49 x50 x51 x52 x53 x54 x55 x56 x57 x58 : Value} {v6 v7 v8 v9 : Value} (p : Sp) (C : Array Value) (w0 V : World) (bp dc : Nat) (b5 : Nat) {Q : Exit → Act → World → Prop} (hQ : ∀ (b5 b6 b7 b8 b9 : Nat) (W : World), Bl W bp (spA p) 26 → Bl W dc C 24 → Below w0.heap.size w0 W → Bl W b5 (spA p) 26 → Bl W b6 (spA p) 26 → Bl W b7 (spA p) 26 → Bl W b8 (spA p) 26 → Bl W b9 (spA p) 26 → (bp ≠ b5 ∧ dc ≠ b5 ∧ w0.heap.size ≤ b5) → (bp ≠ b6 ∧ dc ≠ b6 ∧ w0.heap.size ≤ b6) → (bp ≠ b7 ∧ dc ≠ b7 ∧ w0.heap.size ≤ b7) → (bp ≠ b8 ∧ dc ≠ b8 ∧ w0.heap.size ≤ b8) → (bp ≠ b9 ∧ dc ≠ b9 ∧ w0.heap.size ≤ b9) → (b5 ≠ b6 ∧ b5 ≠ b7 ∧ b5 ≠ b8 ∧ b5 ≠ b9 ∧ b6 ≠ b7 ∧ b6 ≠ b8 ∧ b6 ≠ b9 ∧ b7 ≠ b8 ∧ b7 ≠ b9 ∧ b8 ≠ b9) → Q .normal { tmps := #[x0, x1, .pointer (some ⟨bp, 0, none⟩), .pointer (some ⟨dc, 0, none⟩), x4, .pointer (some ⟨b5, 0, none⟩), .pointer (some ⟨b6, 0, none⟩), .pointer (some ⟨b7, 0, none⟩), .pointer (some ⟨b8, 0, none⟩), .pointer (some ⟨b9, 0, none⟩), x10, x11, x12, x13, x14, x15, x16, x17, x18, spW p, spW p, spW p, spW p, spW p, x24, x25, x26, x27, x28, x29, x30, x31, x32, x33, x34, x35, x36, x37, x38, x39, x40, x41, x42, x43, x44, x45, x46, x47, x48, x49, x50, x51, x52, x53, x54, x55, x56, x57, x58], defers := [] } W)
    (B : Bl V bp (spA p) 26) (D : Bl V dc C 24) (T : Below w0.heap.size w0 V) (A5 : Bl V b5 zrA 26) (n5 : bp ≠ b5 ∧ dc ≠ b5 ∧ w0.heap.size ≤ b5) :
    wpAnyH Tryz.prog .any ops5 Q (fun w' => Bl w' bp (spA p) 26) 9 #[true, true, true, true, true, true, false, false, false, false, false, false, false, false, false] { tmps := #[x0, x1, .pointer (some ⟨bp, 0, none⟩), .pointer (some ⟨dc, 0, none⟩), x4, .pointer (some ⟨b5, 0, none⟩), v6, v7, v8, v9, x10, x11, x12, x13, x14, x15, x16, x17, x18, spW p, spW p, spW p, spW p, spW p, x24, x25, x26, x27, x28, x29, x30, x31, x32, x33, x34, x35, x36, x37, x38, x39, x40, x41, x42, x43, x44, x45, x46, x47, x48, x49, x50, x51, x52, x53, x54, x55, x56, x57, x58], defers := [] } V := by
  refine wpAnyH_ready (rs := [6, 7, 8, 9]) (by kernel_rfl) (by simp) ?_
  refine AllReadyH.cons (by simp only [ops5, List.getElem?_toArray, List.getElem?_cons_zero, List.getElem?_cons_succ]; rfl) (fun K hK => ?_) ?_
  · go_simp
    refine hK.out _ _ (B.alloc _) (fun hHeld => ?_)
    clear hK K
    try simp only [List.setIfInBounds_toArray, List.set_cons_zero, List.set_cons_succ]
    exact Copy_3 p C w0 _ bp dc b5 V.heap.size hQ (B.alloc _) (D.alloc _) (T.alloc T.size _) (A5.alloc _) n5 (Bl.new _ _ _) ⟨Nat.ne_of_lt B.lt, Nat.ne_of_lt D.lt, T.size⟩ (Nat.ne_of_lt A5.lt)
  refine AllReadyH.cons (by simp only [ops5, List.getElem?_toArray, List.getElem?_cons_zero, List.getElem?_cons_succ]; rfl) (fun K hK => ?_) ?_
  · go_simp
    refine hK.out _ _ (B.alloc _) (fun hHeld => ?_)
    clear hK K
    try simp only [List.setIfInBounds_toArray, List.set_cons_zero, List.set_cons_succ]
    exact Copy_5 p C w0 _ bp dc b5 V.heap.size hQ (B.alloc _) (D.alloc _) (T.alloc T.size _) (A5.alloc _) n5 (Bl.new _ _ _) ⟨Nat.ne_of_lt B.lt, Nat.ne_of_lt D.lt, T.size⟩ (Nat.ne_of_lt A5.lt)
  refine AllReadyH.cons (by simp only [ops5, List.getElem?_toArray, List.getElem?_cons_zero, List.getElem?_cons_succ]; rfl) (fun K hK => ?_) ?_
  · go_simp
    refine hK.out _ _ (B.alloc _) (fun hHeld => ?_)
    clear hK K
    try simp only [List.setIfInBounds_toArray, List.set_cons_zero, List.set_cons_succ]
    exact Copy_9 p C w0 _ bp dc b5 V.heap.size hQ (B.alloc _) (D.alloc _) (T.alloc T.size _) (A5.alloc _) n5 (Bl.new _ _ _) ⟨Nat.ne_of_lt B.lt, Nat.ne_of_lt D.lt, T.size⟩ (Nat.ne_of_lt A5.lt)
  refine AllReadyH.cons (by simp only [ops5, List.getElem?_toArray, List.getElem?_cons_zero, List.getElem?_cons_succ]; rfl) (fun K hK => ?_) AllReadyH.nil
  go_simp
  refine hK.out _ _ (B.alloc _) (fun hHeld => ?_)
  clear hK K
  try simp only [List.setIfInBounds_toArray, List.set_cons_zero, List.set_cons_succ]
  exact Copy_17 p C w0 _ bp dc b5 V.heap.size hQ (B.alloc _) (D.alloc _) (T.alloc T.size _) (A5.alloc _) n5 (Bl.new _ _ _) ⟨Nat.ne_of_lt B.lt, Nat.ne_of_lt D.lt, T.size⟩ (Nat.ne_of_lt A5.lt)
set_option maxHeartbeats 8000000 in
set_option maxRecDepth 100000 in
theorem Copy_2 {x0 x1 x4 x10 x11 x12 x13 x14 x15 x16 x17 x18 x24 x25 x26 x27 x28 x29 x30 x31 x32 x33 x34 x35 x36 x37 x38 x39 x40 x41 x42 x43 x44 x45 x46 x47 x48 x49 x50 x51 x52 x53 x54 x55 x56 x57 x58 : Value} {v5 v7 v8 v9 : Value} (p : Sp) (C : Array Value) (w0 V : World) (bp dc : Nat) (b6 : Nat) {Q : Exit → Act → World → Prop} (hQ : ∀ (b5 b6 b7 b8 b9 : Nat) (W : World), Bl W bp (spA p) 26 → Bl W dc C 24 → Below w0.heap.size w0 W → Bl W b5 (spA p) 26 → Bl W b6 (spA p) 26 → Bl W b7 (spA p) 26 → Bl W b8 (spA p) 26 → Bl W b9 (spA p) 26 → (bp ≠ b5 ∧ dc ≠ b5 ∧ w0.heap.size ≤ b5) → (bp ≠ b6 ∧ dc ≠ b6 ∧ w0.heap.size ≤ b6) → (bp ≠ b7 ∧ dc ≠ b7 ∧ w0.heap.size ≤ b7) → (bp ≠ b8 ∧ dc ≠ b8 ∧ w0.heap.size ≤ b8) → (bp ≠ b9 ∧ dc ≠ b9 ∧ w0.heap.size ≤ b9) → (b5 ≠ b6 ∧ b5 ≠ b7 ∧ b5 ≠ b8 ∧ b5 ≠ b9 ∧ b6 ≠ b7 ∧ b6 ≠ b8 ∧ b6 ≠ b9 ∧ b7 ≠ b8 ∧ b7 ≠ b9 ∧ b8 ≠ b9) → Q .normal { tmps := #[x0, x1, .pointer (some ⟨bp, 0, none⟩), .pointer (some ⟨dc, 0, none⟩), x4, .pointer (some ⟨b5, 0, none⟩), .pointer (some ⟨b6, 0, none⟩), .pointer (some ⟨b7, 0, none⟩), .pointer (some ⟨b8, 0, none⟩), .pointer (some ⟨b9, 0, none⟩), x10, x11, x12, x13, x14, x15, x16, x17, x18, spW p, spW p, spW p, spW p, spW p, x24, x25, x26, x27, x28, x29, x30, x31, x32, x33, x34, x35, x36, x37, x38, x39, x40, x41, x42, x43, x44, x45, x46, x47, x48, x49, x50, x51, x52, x53, x54, x55, x56, x57, x58], defers := [] } W)
    (B : Bl V bp (spA p) 26) (D : Bl V dc C 24) (T : Below w0.heap.size w0 V) (A6 : Bl V b6 zrA 26) (n6 : bp ≠ b6 ∧ dc ≠ b6 ∧ w0.heap.size ≤ b6) :
    wpAnyH Tryz.prog .any ops5 Q (fun w' => Bl w' bp (spA p) 26) 9 #[true, true, true, true, true, false, true, false, false, false, false, false, false, false, false] { tmps := #[x0, x1, .pointer (some ⟨bp, 0, none⟩), .pointer (some ⟨dc, 0, none⟩), x4, v5, .pointer (some ⟨b6, 0, none⟩), v7, v8, v9, x10, x11, x12, x13, x14, x15, x16, x17, x18, spW p, spW p, spW p, spW p, spW p, x24, x25, x26, x27, x28, x29, x30, x31, x32, x33, x34, x35, x36, x37, x38, x39, x40, x41, x42, x43, x44, x45, x46, x47, x48, x49, x50, x51, x52, x53, x54, x55, x56, x57, x58], defers := [] } V := by
  refine wpAnyH_ready (rs := [5, 7, 8, 9]) (by kernel_rfl) (by simp) ?_
  refine AllReadyH.cons (by simp only [ops5, List.getElem?_toArray, List.getElem?_cons_zero, List.getElem?_cons_succ]; rfl) (fun K hK => ?_) ?_
  · go_simp
    refine hK.out _ _ (B.alloc _) (fun hHeld => ?_)
    clear hK K
    try simp only [List.setIfInBounds_toArray, List.set_cons_zero, List.set_cons_succ]
    exact Copy_3 p C w0 _ bp dc V.heap.size b6 hQ (B.alloc _) (D.alloc _) (T.alloc T.size _) (Bl.new _ _ _) ⟨Nat.ne_of_lt B.lt, Nat.ne_of_lt D.lt, T.size⟩ (A6.alloc _) n6 (Nat.ne_of_gt A6.lt)
  refine AllReadyH.cons (by simp only [ops5, List.getElem?_toArray, List.getElem?_cons_zero, List.getElem?_cons_succ]; rfl) (fun K hK => ?_) ?_
  · go_simp
    refine hK.out _ _ (B.alloc _) (fun hHeld => ?_)
    clear hK K
    try simp only [List.setIfInBounds_toArray, List.set_cons_zero, List.set_cons_succ]
    exact Copy_6 p C w0 _ bp dc b6 V.heap.size hQ (B.alloc _) (D.alloc _) (T.alloc T.size _) (A6.alloc _) n6 (Bl.new _ _ _) ⟨Nat.ne_of_lt B.lt, Nat.ne_of_lt D.lt, T.size⟩ (Nat.ne_of_lt A6.lt)
  refine AllReadyH.cons (by simp only [ops5, List.getElem?_toArray, List.getElem?_cons_zero, List.getElem?_cons_succ]; rfl) (fun K hK => ?_) ?_
  · go_simp
    refine hK.out _ _ (B.alloc _) (fun hHeld => ?_)
    clear hK K
    try simp only [List.setIfInBounds_toArray, List.set_cons_zero, List.set_cons_succ]
    exact Copy_10 p C w0 _ bp dc b6 V.heap.size hQ (B.alloc _) (D.alloc _) (T.alloc T.size _) (A6.alloc _) n6 (Bl.new _ _ _) ⟨Nat.ne_of_lt B.lt, Nat.ne_of_lt D.lt, T.size⟩ (Nat.ne_of_lt A6.lt)
  refine AllReadyH.cons (by simp only [ops5, List.getElem?_toArray, List.getElem?_cons_zero, List.getElem?_cons_succ]; rfl) (fun K hK => ?_) AllReadyH.nil
  go_simp
  refine hK.out _ _ (B.alloc _) (fun hHeld => ?_)
  clear hK K
  try simp only [List.setIfInBounds_toArray, List.set_cons_zero, List.set_cons_succ]
  exact Copy_18 p C w0 _ bp dc b6 V.heap.size hQ (B.alloc _) (D.alloc _) (T.alloc T.size _) (A6.alloc _) n6 (Bl.new _ _ _) ⟨Nat.ne_of_lt B.lt, Nat.ne_of_lt D.lt, T.size⟩ (Nat.ne_of_lt A6.lt)
set_option maxHeartbeats 8000000 in
set_option maxRecDepth 100000 in
theorem Copy_4 {x0 x1 x4 x10 x11 x12 x13 x14 x15 x16 x17 x18 x24 x25 x26 x27 x28 x29 x30 x31 x32 x33 x34 x35 x36 x37 x38 x39 x40 x41 x42 x43 x44 x45 x46 x47 x48 x49 x50 x51 x52 x53 x54 x55 x56 x57 x58 : Value} {v5 v6 v8 v9 : Value} (p : Sp) (C : Array Value) (w0 V : World) (bp dc : Nat) (b7 : Nat) {Q : Exit → Act → World → Prop} (hQ : ∀ (b5 b6 b7 b8 b9 : Nat) (W : World), Bl W bp (spA p) 26 → Bl W dc C 24 → Below w0.heap.size w0 W → Bl W b5 (spA p) 26 → Bl W b6 (spA p) 26 → Bl W b7 (spA p) 26 → Bl W b8 (spA p) 26 → Bl W b9 (spA p) 26 → (bp ≠ b5 ∧ dc ≠ b5 ∧ w0.heap.size ≤ b5) → (bp ≠ b6 ∧ dc ≠ b6 ∧ w0.heap.size ≤ b6) → (bp ≠ b7 ∧ dc ≠ b7 ∧ w0.heap.size ≤ b7) → (bp ≠ b8 ∧ dc ≠ b8 ∧ w0.heap.size ≤ b8) → (bp ≠ b9 ∧ dc ≠ b9 ∧ w0.heap.size ≤ b9) → (b5 ≠ b6 ∧ b5 ≠ b7 ∧ b5 ≠ b8 ∧ b5 ≠ b9 ∧ b6 ≠ b7 ∧ b6 ≠ b8 ∧ b6 ≠ b9 ∧ b7 ≠ b8 ∧ b7 ≠ b9 ∧ b8 ≠ b9) → Q .normal { tmps := #[x0, x1, .pointer (some ⟨bp, 0, none⟩), .pointer (some ⟨dc, 0, none⟩), x4, .pointer (some ⟨b5, 0, none⟩), .pointer (some ⟨b6, 0, none⟩), .pointer (some ⟨b7, 0, none⟩), .pointer (some ⟨b8, 0, none⟩), .pointer (some ⟨b9, 0, none⟩), x10, x11, x12, x13, x14, x15, x16, x17, x18, spW p, spW p, spW p, spW p, spW p, x24, x25, x26, x27, x28, x29, x30, x31, x32, x33, x34, x35, x36, x37, x38, x39, x40, x41, x42, x43, x44, x45, x46, x47, x48, x49, x50, x51, x52, x53, x54, x55, x56, x57, x58], defers := [] } W)
    (B : Bl V bp (spA p) 26) (D : Bl V dc C 24) (T : Below w0.heap.size w0 V) (A7 : Bl V b7 zrA 26) (n7 : bp ≠ b7 ∧ dc ≠ b7 ∧ w0.heap.size ≤ b7) :
    wpAnyH Tryz.prog .any ops5 Q (fun w' => Bl w' bp (spA p) 26) 9 #[true, true, true, true, true, false, false, true, false, false, false, false, false, false, false] { tmps := #[x0, x1, .pointer (some ⟨bp, 0, none⟩), .pointer (some ⟨dc, 0, none⟩), x4, v5, v6, .pointer (some ⟨b7, 0, none⟩), v8, v9, x10, x11, x12, x13, x14, x15, x16, x17, x18, spW p, spW p, spW p, spW p, spW p, x24, x25, x26, x27, x28, x29, x30, x31, x32, x33, x34, x35, x36, x37, x38, x39, x40, x41, x42, x43, x44, x45, x46, x47, x48, x49, x50, x51, x52, x53, x54, x55, x56, x57, x58], defers := [] } V := by
  refine wpAnyH_ready (rs := [5, 6, 8, 9]) (by kernel_rfl) (by simp) ?_
  refine AllReadyH.cons (by simp only [ops5, List.getElem?_toArray, List.getElem?_cons_zero, List.getElem?_cons_succ]; rfl) (fun K hK => ?_) ?_
  · go_simp
    refine hK.out _ _ (B.alloc _) (fun hHeld => ?_)
    clear hK K
    try simp only [List.setIfInBounds_toArray, List.set_cons_zero, List.set_cons_succ]
    exact Copy_5 p C w0 _ bp dc V.heap.size b7 hQ (B.alloc _) (D.alloc _) (T.alloc T.size _) (Bl.new _ _ _) ⟨Nat.ne_of_lt B.lt, Nat.ne_of_lt D.lt, T.size⟩ (A7.alloc _) n7 (Nat.ne_of_gt A7.lt)
  refine AllReadyH.cons (by simp only [ops5, List.getElem?_toArray, List.getElem?_cons_zero, List.getElem?_cons_succ]; rfl) (fun K hK => ?_) ?_
  · go_simp
    refine hK.out _ _ (B.alloc _) (fun hHeld => ?_)
    clear hK K
    try simp only [List.setIfInBounds_toArray, List.set_cons_zero, List.set_cons_succ]
    exact Copy_6 p C w0 _ bp dc V.heap.size b7 hQ (B.alloc _) (D.alloc _) (T.alloc T.size _) (Bl.new _ _ _) ⟨Nat.ne_of_lt B.lt, Nat.ne_of_lt D.lt, T.size⟩ (A7.alloc _) n7 (Nat.ne_of_gt A7.lt)
  refine AllReadyH.cons (by simp only [ops5, List.getElem?_toArray, List.getElem?_cons_zero, List.getElem?_cons_succ]; rfl) (fun K hK => ?_) ?_
  · go_simp
    refine hK.out _ _ (B.alloc _) (fun hHeld => ?_)
    clear hK K
    try simp only [List.setIfInBounds_toArray, List.set_cons_zero, List.set_cons_succ]
    exact Copy_12 p C w0 _ bp dc b7 V.heap.size hQ (B.alloc _) (D.alloc _) (T.alloc T.size _) (A7.alloc _) n7 (Bl.new _ _ _) ⟨Nat.ne_of_lt B.lt, Nat.ne_of_lt D.lt, T.size⟩ (Nat.ne_of_lt A7.lt)
  refine AllReadyH.cons (by simp only [ops5, List.getElem?_toArray, List.getElem?_cons_zero, List.getElem?_cons_succ]; rfl) (fun K hK => ?_) AllReadyH.nil
  go_simp
  refine hK.out _ _ (B.alloc _) (fun hHeld => ?_)
  clear hK K
  try simp only [List.setIfInBounds_toArray, List.set_cons_zero, List.set_cons_succ]
  exact Copy_20 p C w0 _ bp dc b7 V.heap.size hQ (B.alloc _) (D.alloc _) (T.alloc T.size _) (A7.alloc _) n7 (Bl.new _ _ _) ⟨Nat.ne_of_lt B.lt, Nat.ne_of_lt D.lt, T.size⟩ (Nat.ne_of_lt A7.lt)
set_option maxHeartbeats 8000000 in
set_option maxRecDepth 100000 in
theorem Copy_8 {x0 x1 x4 x10 x11 x12 x13 x14 x15 x16 x17 x18 x24 x25 x26 x27 x28 x29 x30 x31 x32 x33 x34 x35 x36 x37 x38 x39 x40 x41 x42 x43 x44 x45 x46 x47 x48 x49 x50 x51 x52 x53 x54 x55 x56 x57 x58 : Value} {v5 v6 v7 v9 : Value} (p : Sp) (C : Array Value) (w0 V : World) (bp dc : Nat) (b8 : Nat) {Q : Exit → Act → World → Prop} (hQ : ∀ (b5 b6 b7 b8 b9 : Nat) (W : World), Bl W bp (spA p) 26 → Bl W dc C 24 → Below w0.heap.size w0 W → Bl W b5 (spA p) 26 → Bl W b6 (spA p) 26 → Bl W b7 (spA p) 26 → Bl W b8 (spA p) 26 → Bl W b9 (spA p) 26 → (bp ≠ b5 ∧ dc ≠ b5 ∧ w0.heap.size ≤ b5) → (bp ≠ b6 ∧ dc ≠ b6 ∧ w0.heap.size ≤ b6) → (bp ≠ b7 ∧ dc ≠ b7 ∧ w0.heap.size ≤ b7) → (bp ≠ b8 ∧ dc ≠ b8 ∧ w0.heap.size ≤ b8) → (bp ≠ b9 ∧ dc ≠ b9 ∧ w0.heap.size ≤ b9) → (b5 ≠ b6 ∧ b5 ≠ b7 ∧ b5 ≠ b8 ∧ b5 ≠ b9 ∧ b6 ≠ b7 ∧ b6 ≠ b8 ∧ b6 ≠ b9 ∧ b7 ≠ b8 ∧ b7 ≠ b9 ∧ b8 ≠ b9) → Q .normal { tmps := #[x0, x1, .pointer (some ⟨bp, 0, none⟩), .pointer (some ⟨dc, 0, none⟩), x4, .pointer (some ⟨b5, 0, none⟩), .pointer (some ⟨b6, 0, none⟩), .pointer (some ⟨b7, 0, none⟩), .pointer (some ⟨b8, 0, none⟩), .pointer (some ⟨b9, 0, none⟩), x10, x11, x12, x13, x14, x15, x16, x17, x18, spW p, spW p, spW p, spW p, spW p, x24, x25, x26, x27, x28, x29, x30, x31, x32, x33, x34, x35, x36, x37, x38, x39, x40, x41, x42, x43, x44, x45, x46, x47, x48, x49, x50, x51, x52, x53, x54, x55, x56, x57, x58], defers := [] } W)
    (B : Bl V bp (spA p) 26) (D : Bl V dc C 24) (T : Below w0.heap.size w0 V) (A8 : Bl V b8 zrA 26) (n8 : bp ≠ b8 ∧ dc ≠ b8 ∧ w0.heap.size ≤ b8) :
    wpAnyH Tryz.prog .any ops5 Q (fun w' => Bl w' bp (spA p) 26) 9 #[true, true, true, true, true, false, false, false, true, false, false, false, false, false, false] { tmps := #[x0, x1, .pointer (some ⟨bp, 0, none⟩), .pointer (some ⟨dc, 0, none⟩), x4, v5, v6, v7, .pointer (some ⟨b8, 0, none⟩), v9, x10, x11, x12, x13, x14, x15, x16, x17, x18, spW p, spW p, spW p, spW p, spW p, x24, x25, x26, x27, x28, x29, x30, x31, x32, x33, x34, x35, x36, x37, x38, x39, x40, x41, x42, x43, x44, x45, x46, x47, x48, x49, x50, x51, x52, x53, x54, x55, x56, x57, x58], defers := [] } V := by
  refine wpAnyH_ready (rs := [5, 6, 7, 9]) (by kernel_rfl) (by simp) ?_
  refine AllReadyH.cons (by simp only [ops5, List.getElem?_toArray, List.getElem?_cons_zero, List.getElem?_cons_succ]; rfl) (fun K hK => ?_) ?_
  · go_simp
    refine hK.out _ _ (B.alloc _) (fun hHeld => ?_)
    clear hK K
    try simp only [List.setIfInBounds_toArray, List.set_cons_zero, List.set_cons_succ]
    exact Copy_9 p C w0 _ bp dc V.heap.size b8 hQ (B.alloc _) (D.alloc _) (T.alloc T.size _) (Bl.new _ _ _) ⟨Nat.ne_of_lt B.lt, Nat.ne_of_lt D.lt, T.size⟩ (A8.alloc _) n8 (Nat.ne_of_gt A8.lt)
  refine AllReadyH.cons (by simp only [ops5, List.getElem?_toArray, List.getElem?_cons_zero, List.getElem?_cons_succ]; rfl) (fun K hK => ?_) ?_
  · go_simp
    refine hK.out _ _ (B.alloc _) (fun hHeld => ?_)
    clear hK K
    try simp only [List.setIfInBounds_toArray, List.set_cons_zero, List.set_cons_succ]
    exact Copy_10 p C w0 _ bp dc V.heap.size b8 hQ (B.alloc _) (D.alloc _) (T.alloc T.size _) (Bl.new _ _ _) ⟨Nat.ne_of_lt B.lt, Nat.ne_of_lt D.lt, T.size⟩ (A8.alloc _) n8 (Nat.ne_of_gt A8.lt)
  refine AllReadyH.cons (by simp only [ops5, List.getElem?_toArray, List.getElem?_cons_zero, List.getElem?_cons_succ]; rfl) (fun K hK => ?_) ?_
  · go_simp
    refine hK.out _ _ (B.alloc _) (fun hHeld => ?_)
    clear hK K
    try simp only [List.setIfInBounds_toArray, List.set_cons_zero, List.set_cons_succ]
    exact Copy_12 p C w0 _ bp dc V.heap.size b8 hQ (B.alloc _) (D.alloc _) (T.alloc T.size _) (Bl.new _ _ _) ⟨Nat.ne_of_lt B.lt, Nat.ne_of_lt D.lt, T.size⟩ (A8.alloc _) n8 (Nat.ne_of_gt A8.lt)
  refine AllReadyH.cons (by simp only [ops5, List.getElem?_toArray, List.getElem?_cons_zero, List.getElem?_cons_succ]; rfl) (fun K hK => ?_) AllReadyH.nil
  go_simp
  refine hK.out _ _ (B.alloc _) (fun hHeld => ?_)
  clear hK K
  try simp only [List.setIfInBounds_toArray, List.set_cons_zero, List.set_cons_succ]
  exact Copy_24 p C w0 _ bp dc b8 V.heap.size hQ (B.alloc _) (D.alloc _) (T.alloc T.size _) (A8.alloc _) n8 (Bl.new _ _ _) ⟨Nat.ne_of_lt B.lt, Nat.ne_of_lt D.lt, T.size⟩ (Nat.ne_of_lt A8.lt)
set_option maxHeartbeats 8000000 in
set_option maxRecDepth 100000 in
theorem Copy_16 {x0 x1 x4 x10 x11 x12 x13 x14 x15 x16 x17 x18 x24 x25 x26 x27 x28 x29 x30 x31 x32 x33 x34 x35 x36 x37 x38 x39 x40 x41 x42 x43 x44 x45 x46 x47 x48 x49 x50 x51 x52 x53 x54 x55 x56 x57 x58 : Value} {v5 v6 v7 v8 : Value} (p : Sp) (C : Array Value) (w0 V : World) (bp dc : Nat) (b9 : Nat) {Q : Exit → Act → World → Prop} (hQ : ∀ (b5 b6 b7 b8 b9 : Nat) (W : World), Bl W bp (spA p) 26 → Bl W dc C 24 → Below w0.heap.size w0 W → Bl W b5 (spA p) 26 → Bl W b6 (spA p) 26 → Bl W b7 (spA p) 26 → Bl W b8 (spA p) 26 → Bl W b9 (spA p) 26 → (bp ≠ b5 ∧ dc ≠ b5 ∧ w0.heap.size ≤ b5) → (bp ≠ b6 ∧ dc ≠ b6 ∧ w0.heap.size ≤ b6) → (bp ≠ b7 ∧ dc ≠ b7 ∧ w0.heap.size ≤ b7) → (bp ≠ b8 ∧ dc ≠ b8 ∧ w0.heap.size ≤ b8) → (bp ≠ b9 ∧ dc ≠ b9 ∧ w0.heap.size ≤ b9) → (b5 ≠ b6 ∧ b5 ≠ b7 ∧ b5 ≠ b8 ∧ b5 ≠ b9 ∧ b6 ≠ b7 ∧ b6 ≠ b8 ∧ b6 ≠ b9 ∧ b7 ≠ b8 ∧ b7 ≠ b9 ∧ b8 ≠ b9) → Q .normal { tmps := #[x0, x1, .pointer (some ⟨bp, 0, none⟩), .pointer (some ⟨dc, 0, none⟩), x4, .pointer (some ⟨b5, 0, none⟩), .pointer (some ⟨b6, 0, none⟩), .pointer (some ⟨b7, 0, none⟩), .pointer (some ⟨b8, 0, none⟩), .pointer (some ⟨b9, 0, none⟩), x10, x11, x12, x13, x14, x15, x16, x17, x18, spW p, spW p, spW p, spW p, spW p, x24, x25, x26, x27, x28, x29, x30, x31, x32, x33, x34, x35, x36, x37, x38, x39, x40, x41, x42, x43, x44, x45, x46, x47, x48, x49, x50, x51, x52, x53, x54, x55, x56, x57, x58], defers := [] } W)
    (B : Bl V bp (spA p) 26) (D : Bl V dc C 24) (T : Below w0.heap.size w0 V) (A9 : Bl V b9 zrA 26) (n9 : bp ≠ b9 ∧ dc ≠ b9 ∧ w0.heap.size ≤ b9) :
    wpAnyH Tryz.prog .any ops5 Q (fun w' => Bl w' bp (spA p) 26) 9 #[true, true, true, true, true, false, false, false, false, true, false, false, false, false, false] { tmps := #[x0, x1, .pointer (some ⟨bp, 0, none⟩), .pointer (some ⟨dc, 0, none⟩), x4, v5, v6, v7, v8, .pointer (some ⟨b9, 0, none⟩), x10, x11, x12, x13, x14, x15, x16, x17, x18, spW p, spW p, spW p, spW p, spW p, x24, x25, x26, x27, x28, x29, x30, x31, x32, x33, x34, x35, x36, x37, x38, x39, x40, x41, x42, x43, x44, x45, x46, x47, x48, x49, x50, x51, x52, x53, x54, x55, x56, x57, x58], defers := [] } V := by
  refine wpAnyH_ready (rs := [5, 6, 7, 8]) (by kernel_rfl) (by simp) ?_
  refine AllReadyH.cons (by simp only [ops5, List.getElem?_toArray, List.getElem?_cons_zero, List.getElem?_cons_succ]; rfl) (fun K hK => ?_) ?_
  · go_simp
    refine hK.out _ _ (B.alloc _) (fun hHeld => ?_)
    clear hK K
    try simp only [List.setIfInBounds_toArray, List.set_cons_zero, List.set_cons_succ]
    exact Copy_17 p C w0 _ bp dc V.heap.size b9 hQ (B.alloc _) (D.alloc _) (T.alloc T.size _) (Bl.new _ _ _) ⟨Nat.ne_of_lt B.lt, Nat.ne_of_lt D.lt, T.size⟩ (A9.alloc _) n9 (Nat.ne_of_gt A9.lt)
  refine AllReadyH.cons (by simp only [ops5, List.getElem?_toArray, List.getElem?_cons_zero, List.getElem?_cons_succ]; rfl) (fun K hK => ?_) ?_
  · go_simp
    refine hK.out _ _ (B.alloc _) (fun hHeld => ?_)
    clear hK K
    try simp only [List.setIfInBounds_toArray, List.set_cons_zero, List.set_cons_succ]
    exact Copy_18 p C w0 _ bp dc V.heap.size b9 hQ (B.alloc _) (D.alloc _) (T.alloc T.size _) (Bl.new _ _ _) ⟨Nat.ne_of_lt B.lt, Nat.ne_of_lt D.lt, T.size⟩ (A9.alloc _) n9 (Nat.ne_of_gt A9.lt)
  refine AllReadyH.cons (by simp only [ops5, List.getElem?_toArray, List.getElem?_cons_zero, List.getElem?_cons_succ]; rfl) (fun K hK => ?_) ?_
  · go_simp
    refine hK.out _ _ (B.alloc _) (fun hHeld => ?_)
    clear hK K
    try simp only [List.setIfInBounds_toArray, List.set_cons_zero, List.set_cons_succ]
    exact Copy_20 p C w0 _ bp dc V.heap.size b9 hQ (B.alloc _) (D.alloc _) (T.alloc T.size _) (Bl.new _ _ _) ⟨Nat.ne_of_lt B.lt, Nat.ne_of_lt D.lt, T.size⟩ (A9.alloc _) n9 (Nat.ne_of_gt A9.lt)
  refine AllReadyH.cons (by simp only [ops5, List.getElem?_toArray, List.getElem?_cons_zero, List.getElem?_cons_succ]; rfl) (fun K hK => ?_) AllReadyH.nil
  go_simp
  refine hK.out _ _ (B.alloc _) (fun hHeld => ?_)
  clear hK K
  try simp only [List.setIfInBounds_toArray, List.set_cons_zero, List.set_cons_succ]
  exact Copy_24 p C w0 _ bp dc V.heap.size b9 hQ (B.alloc _) (D.alloc _) (T.alloc T.size _) (Bl.new _ _ _) ⟨Nat.ne_of_lt B.lt, Nat.ne_of_lt D.lt, T.size⟩ (A9.alloc _) n9 (Nat.ne_of_gt A9.lt)
set_option maxHeartbeats 8000000 in
set_option maxRecDepth 100000 in
theorem Copy_0 {x0 x1 x4 x10 x11 x12 x13 x14 x15 x16 x17 x18 x24 x25 x26 x27 x28 x29 x30 x31 x32 x33 x34 x35 x36 x37 x38 x39 x40 x41 x42 x43 x44 x45 x46 x47 x48 x49 x50 x51 x52 x53 x54 x55 x56 x57 x58 : Value} {v5 v6 v7 v8 v9 : Value} (p : Sp) (C : Array Value) (w0 V : World) (bp dc : Nat) {Q : Exit → Act → World → Prop} (hQ : ∀ (b5 b6 b7 b8 b9 : Nat) (W : World), Bl W bp (spA p) 26 → Bl W dc C 24 → Below w0.heap.size w0 W → Bl W b5 (spA p) 26 → Bl W b6 (spA p) 26 → Bl W b7 (spA p) 26 → Bl W b8 (spA p) 26 → Bl W b9 (spA p) 26 → (bp ≠ b5 ∧ dc ≠ b5 ∧ w0.heap.size ≤ b5) → (bp ≠ b6 ∧ dc ≠ b6 ∧ w0.heap.size ≤ b6) → (bp ≠ b7 ∧ dc ≠ b7 ∧ w0.heap.size ≤ b7) → (bp ≠ b8 ∧ dc ≠ b8 ∧ w0.heap.size ≤ b8) → (bp ≠ b9 ∧ dc ≠ b9 ∧ w0.heap.size ≤ b9) → (b5 ≠ b6 ∧ b5 ≠ b7 ∧ b5 ≠ b8 ∧ b5 ≠ b9 ∧ b6 ≠ b7 ∧ b6 ≠ b8 ∧ b6 ≠ b9 ∧ b7 ≠ b8 ∧ b7 ≠ b9 ∧ b8 ≠ b9) → Q .normal { tmps := #[x0, x1, .pointer (some ⟨bp, 0, none⟩), .pointer (some ⟨dc, 0, none⟩), x4, .pointer (some ⟨b5, 0, none⟩), .pointer (some ⟨b6, 0, none⟩), .pointer (some ⟨b7, 0, none⟩), .pointer (some ⟨b8, 0, none⟩), .pointer (some ⟨b9, 0, none⟩), x10, x11, x12, x13, x14, x15, x16, x17, x18, spW p, spW p, spW p, spW p, spW p, x24, x25, x26, x27, x28, x29, x30, x31, x32, x33, x34, x35, x36, x37, x38, x39, x40, x41, x42, x43, x44, x45, x46, x47, x48, x49, x50, x51, x52, x53, x54, x55, x56, x57, x58], defers := [] } W)
    (B : Bl V bp (spA p) 26) (D : Bl V dc C 24) (T : Below w0.heap.size w0 V) :
    wpAnyH Tryz.prog .any ops5 Q (fun w' => Bl w' bp (spA p) 26) 10 #[true, true, true, true, true, false, false, false, false, false, false, false, false, false, false] { tmps := #[x0, x1, .pointer (some ⟨bp, 0, none⟩), .pointer (some ⟨dc, 0, none⟩), x4, v5, v6, v7, v8, v9, x10, x11, x12, x13, x14, x15, x16, x17, x18, spW p, spW p, spW p, spW p, spW p, x24, x25, x26, x27, x28, x29, x30, x31, x32, x33, x34, x35, x36, x37, x38, x39, x40, x41, x42, x43, x44, x45, x46, x47, x48, x49, x50, x51, x52, x53, x54, x55, x56, x57, x58], defers := [] } V := by
  refine wpAnyH_ready (rs := [5, 6, 7, 8, 9]) (by kernel_rfl) (by simp) ?_
  refine AllReadyH.cons (by simp only [ops5, List.getElem?_toArray, List.getElem?_cons_zero, List.getElem?_cons_succ]; rfl) (fun K hK => ?_) ?_
  · go_simp
    refine hK.out _ _ (B.alloc _) (fun hHeld => ?_)
    clear hK K
    try simp only [List.setIfInBounds_toArray, List.set_cons_zero, List.set_cons_succ]
    exact Copy_1 p C w0 _ bp dc V.heap.size hQ (B.alloc _) (D.alloc _) (T.alloc T.size _) (Bl.new _ _ _) ⟨Nat.ne_of_lt B.lt, Nat.ne_of_lt D.lt, T.size⟩
  refine AllReadyH.cons (by simp only [ops5, List.getElem?_toArray, List.getElem?_cons_zero, List.getElem?_cons_succ]; rfl) (fun K hK => ?_) ?_
  · go_simp
    refine hK.out _ _ (B.alloc _) (fun hHeld => ?_)
    clear hK K
    try simp only [List.setIfInBounds_toArray, List.set_cons_zero, List.set_cons_succ]
    exact Copy_2 p C w0 _ bp dc V.heap.size hQ (B.alloc _) (D.alloc _) (T.alloc T.size _) (Bl.new _ _ _) ⟨Nat.ne_of_lt B.lt, Nat.ne_of_lt D.lt, T.size⟩
  refine AllReadyH.cons (by simp only [ops5, List.getElem?_toArray, List.getElem?_cons_zero, List.getElem?_cons_succ]; rfl) (fun K hK => ?_) ?_
  · go_simp
    refine hK.out _ _ (B.alloc _) (fun hHeld => ?_)
    clear hK K
    try simp only [List.setIfInBounds_toArray, List.set_cons_zero, List.set_cons_succ]
    exact Copy_4 p C w0 _ bp dc V.heap.size hQ (B.alloc _) (D.alloc _) (T.alloc T.size _) (Bl.new _ _ _) ⟨Nat.ne_of_lt B.lt, Nat.ne_of_lt D.lt, T.size⟩
  refine AllReadyH.cons (by simp only [ops5, List.getElem?_toArray, List.getElem?_cons_zero, List.getElem?_cons_succ]; rfl) (fun K hK => ?_) ?_
  · go_simp
    refine hK.out _ _ (B.alloc _) (fun hHeld => ?_)
    clear hK K
    try simp only [List.setIfInBounds_toArray, List.set_cons_zero, List.set_cons_succ]
    exact Copy_8 p C w0 _ bp dc V.heap.size hQ (B.alloc _) (D.alloc _) (T.alloc T.size _) (Bl.new _ _ _) ⟨Nat.ne_of_lt B.lt, Nat.ne_of_lt D.lt, T.size⟩
  refine AllReadyH.cons (by simp only [ops5, List.getElem?_toArray, List.getElem?_cons_zero, List.getElem?_cons_succ]; rfl) (fun K hK => ?_) AllReadyH.nil
  go_simp
  refine hK.out _ _ (B.alloc _) (fun hHeld => ?_)
  clear hK K
  try simp only [List.setIfInBounds_toArray, List.set_cons_zero, List.set_cons_succ]
  exact Copy_16 p C w0 _ bp dc V.heap.size hQ (B.alloc _) (D.alloc _) (T.alloc T.size _) (Bl.new _ _ _) ⟨Nat.ne_of_lt B.lt, Nat.ne_of_lt D.lt, T.size⟩
set_option maxHeartbeats 8000000 in
set_option maxRecDepth 100000 in
theorem copies5 {x0 x1 x4 x10 x11 x12 x13 x14 x15 x16 x17 x18 x24 x25 x26 x27 x28 x29 x30 x31 x32 x33 x34 x35 x36 x37 x38 x39 x40 x41 x42 x43 x44 x45 x46 x47 x48 x49 x50 x51 x52 x53 x54 x55 x56 x57 x58 : Value} {v5 v6 v7 v8 v9 y19 y20 y21 y22 y23 : Value} (p : Sp) (C : Array Value) (w0 V : World) (bp dc : Nat) {Q : Exit → Act → World → Prop} (hP : ∀ x (a : Act) k v w, Q (.panic x) (a.put (some k) v) w → Q (.panic x) a w) (hQ : ∀ (b5 b6 b7 b8 b9 : Nat) (W : World), Bl W bp (spA p) 26 → Bl W dc C 24 → Below w0.heap.size w0 W → Bl W b5 (spA p) 26 → Bl W b6 (spA p) 26 → Bl W b7 (spA p) 26 → Bl W b8 (spA p) 26 → Bl W b9 (spA p) 26 → (bp ≠ b5 ∧ dc ≠ b5 ∧ w0.heap.size ≤ b5) → (bp ≠ b6 ∧ dc ≠ b6 ∧ w0.heap.size ≤ b6) → (bp ≠ b7 ∧ dc ≠ b7 ∧ w0.heap.size ≤ b7) → (bp ≠ b8 ∧ dc ≠ b8 ∧ w0.heap.size ≤ b8) → (bp ≠ b9 ∧ dc ≠ b9 ∧ w0.heap.size ≤ b9) → (b5 ≠ b6 ∧ b5 ≠ b7 ∧ b5 ≠ b8 ∧ b5 ≠ b9 ∧ b6 ≠ b7 ∧ b6 ≠ b8 ∧ b6 ≠ b9 ∧ b7 ≠ b8 ∧ b7 ≠ b9 ∧ b8 ≠ b9) → Q .normal { tmps := #[x0, x1, .pointer (some ⟨bp, 0, none⟩), .pointer (some ⟨dc, 0, none⟩), x4, .pointer (some ⟨b5, 0, none⟩), .pointer (some ⟨b6, 0, none⟩), .pointer (some ⟨b7, 0, none⟩), .pointer (some ⟨b8, 0, none⟩), .pointer (some ⟨b9, 0, none⟩), x10, x11, x12, x13, x14, x15, x16, x17, x18, spW p, spW p, spW p, spW p, spW p, x24, x25, x26, x27, x28, x29, x30, x31, x32, x33, x34, x35, x36, x37, x38, x39, x40, x41, x42, x43, x44, x45, x46, x47, x48, x49, x50, x51, x52, x53, x54, x55, x56, x57, x58], defers := [] } W)
    (B : Bl V bp (spA p) 26) (D : Bl V dc C 24) (T : Below w0.heap.size w0 V) :
    Code.wp Tryz.prog (Code.region 5 ops5 true) Q { tmps := #[x0, x1, .pointer (some ⟨bp, 0, none⟩), .pointer (some ⟨dc, 0, none⟩), x4, v5, v6, v7, v8, v9, x10, x11, x12, x13, x14, x15, x16, x17, x18, y19, y20, y21, y22, y23, x24, x25, x26, x27, x28, x29, x30, x31, x32, x33, x34, x35, x36, x37, x38, x39, x40, x41, x42, x43, x44, x45, x46, x47, x48, x49, x50, x51, x52, x53, x54, x55, x56, x57, x58], defers := [] } V := by
  refine wp_region_held_drew (S := fun w' => Bl w' bp (spA p) 26) (by kernel_rfl) B.drew (fun hHeld => ?_)
  replace B := B.drew
  replace D := D.drew
  replace T := T.drew
  generalize V.drew = V0 at B D T hHeld ⊢
  refine wpAnyH_take (i := 0) (v := ?_) (by simp only [ops5, List.getElem?_toArray, List.getElem?_cons_zero]; rfl) (by kernel_rfl) (by kernel_rfl) (by kernel_rfl) (fun _ _ _ h => hP _ _ _ _ _ h) (Or.inl ⟨by rfl, ?_⟩) (by assumption) ?_
  rotate_left
  · (intro w hSw; obtain ⟨c0, c1, c2, c3, c4, c5, c6, c7, c8, c9, c10, c11, c12, c13⟩ := id hSw.at14; go_simp; (try with_reducible rfl))
  try simp only [Act.put, List.setIfInBounds_toArray, List.set_cons_zero, List.set_cons_succ]
  refine wpAnyH_take (i := 1) (v := ?_) (by simp only [ops5, List.getElem?_toArray, List.getElem?_cons_zero, List.getElem?_cons_succ]; rfl) (by kernel_rfl) (by kernel_rfl) (by kernel_rfl) (fun _ _ _ h => hP _ _ _ _ _ h) (Or.inl ⟨by rfl, ?_⟩) (by assumption) ?_
  rotate_left
  · (intro w hSw; obtain ⟨c0, c1, c2, c3, c4, c5, c6, c7, c8, c9, c10, c11, c12, c13⟩ := id hSw.at14; go_simp; (try with_reducible rfl))
  try simp only [Act.put, List.setIfInBounds_toArray, List.set_cons_zero, List.set_cons_succ]
  refine wpAnyH_take (i := 2) (v := ?_) (by simp only [ops5, List.getElem?_toArray, List.getElem?_cons_zero, List.getElem?_cons_succ]; rfl) (by kernel_rfl) (by kernel_rfl) (by kernel_rfl) (fun _ _ _ h => hP _ _ _ _ _ h) (Or.inl ⟨by rfl, ?_⟩) (by assumption) ?_
  rotate_left
  · (intro w hSw; obtain ⟨c0, c1, c2, c3, c4, c5, c6, c7, c8, c9, c10, c11, c12, c13⟩ := id hSw.at14; go_simp; (try with_reducible rfl))
  try simp only [Act.put, List.setIfInBounds_toArray, List.set_cons_zero, List.set_cons_succ]
  refine wpAnyH_take (i := 3) (v := ?_) (by simp only [ops5, List.getElem?_toArray, List.getElem?_cons_zero, List.getElem?_cons_succ]; rfl) (by kernel_rfl) (by kernel_rfl) (by kernel_rfl) (fun _ _ _ h => hP _ _ _ _ _ h) (Or.inl ⟨by rfl, ?_⟩) (by assumption) ?_
  rotate_left
  · (intro w hSw; obtain ⟨c0, c1, c2, c3, c4, c5, c6, c7, c8, c9, c10, c11, c12, c13⟩ := id hSw.at14; go_simp; (try with_reducible rfl))
  try simp only [Act.put, List.setIfInBounds_toArray, List.set_cons_zero, List.set_cons_succ]
  refine wpAnyH_take (i := 4) (v := ?_) (by simp only [ops5, List.getElem?_toArray, List.getElem?_cons_zero, List.getElem?_cons_succ]; rfl) (by kernel_rfl) (by kernel_rfl) (by kernel_rfl) (fun _ _ _ h => hP _ _ _ _ _ h) (Or.inl ⟨by rfl, ?_⟩) (by assumption) ?_
  rotate_left
  · (intro w hSw; obtain ⟨c0, c1, c2, c3, c4, c5, c6, c7, c8, c9, c10, c11, c12, c13⟩ := id hSw.at14; go_simp; (try with_reducible rfl))
  try simp only [Act.put, List.setIfInBounds_toArray, List.set_cons_zero, List.set_cons_succ]
  exact Copy_0 p C w0 _ bp dc hQ B D T
end Go.Proofs.YtkcmfcgoknhodaaGreatDoor
