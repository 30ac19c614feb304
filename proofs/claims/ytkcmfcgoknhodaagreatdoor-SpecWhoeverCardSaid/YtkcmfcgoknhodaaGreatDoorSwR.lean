/- SpecWhoever's last region: what is asked of a spec with another one's curves. Condition: what the calls answer. -/
import Derived.Test.YtkcmfcgoknhodaaGreatDoorSwP
namespace Go.Proofs.YtkcmfcgoknhodaaGreatDoor
open Go.RowKit Go.Lib W
set_option linter.unusedVariables false
set_option maxHeartbeats 16000000 in
set_option maxRecDepth 100000 in
theorem Whoever_last (p q : Sp) (k2 : Int) (w VZ : World) (bP dq bZ : Nat) {x0 x1 x2 x3 x6 x7 x8 x9 x10 x11 x13 x14 x15 x16 x17 x18 x19 x20 x21 x22 x23 x24 x25 x26 x27 x28 x29 x30 x31 x32 x33 x34 x35 x36 x37 x38 x39 x40 x41 x42 x43 x44 x45 x46 x47 x48 x49 x50 x51 x52 x53 x54 x55 x56 x57 x58 x59 x60 x61 x62 x63 x64 x65 x66 x67 x68 x69 x70 x71 x72 x73 x74 x75 x76 x77 x78 x79 x80 x81 x82 x83 x84 x85 x86 x87 x88 x89 x90 x91 x92 x93 x94 x95 x96 x97 x98 x99 x100 x101 x102 x103 x104 x105 x106 x107 x108 x109 x110 x111 x112 x113 x114 x115 x116 x117 x118 x119 x120 x121 x122 x123 x124 x125 x126 x127 x128 x129 x130 x131 x132 x133 x134 x135 x136 x137 x138 x139 : Value} {K : Act → World → Prop}
    (hK : ∀ (a : Act) (v : World), Code.wp Tryz.prog Code.ret (bodyPost Tryz.prog Tryz.f5 fun e w' => e = .returned (.bool true) ∧ Below w.heap.size w w') a v → K a v)
    (B : Bl VZ bP (spA p) TSp) (D : Bl VZ dq (spA q) TSp) (Z : Bl VZ bZ #[.int .i64 p.id, .int .i64 p.par, .bool p.leaf, .int .u64 q.re.f, .int .u64 q.re.l, .int .u64 q.re.r, .int .u64 q.sh.f, .int .u64 q.sh.l, .int .u64 q.sh.r, .int .u64 q.up.f, .int .u64 q.up.l, .int .u64 q.up.r, .int .i64 p.pk, .int .i64 p.bt] TSp) (T : Below w.heap.size w VZ)
    (hZ1 : ∀ w, Calls Tryz.prog 10 #[.agg #[.int .i64 p.id, .int .i64 p.par, .bool p.leaf, .int .u64 q.re.f, .int .u64 q.re.l, .int .u64 q.re.r, .int .u64 q.sh.f, .int .u64 q.sh.l, .int .u64 q.sh.r, .int .u64 q.up.f, .int .u64 q.up.l, .int .u64 q.up.r, .int .i64 p.pk, .int .i64 p.bt]] w fun e w' => e = .returned (.int .i64 0) ∧ Below w.heap.size w w')
    (hZ2 : ∀ w, Calls Tryz.prog 11 #[.agg #[.int .i64 p.id, .int .i64 p.par, .bool p.leaf, .int .u64 q.re.f, .int .u64 q.re.l, .int .u64 q.re.r, .int .u64 q.sh.f, .int .u64 q.sh.l, .int .u64 q.sh.r, .int .u64 q.up.f, .int .u64 q.up.l, .int .u64 q.up.r, .int .i64 p.pk, .int .i64 p.bt]] w fun e w' => e = .returned (.int .u8 k2) ∧ Below w.heap.size w w')
    (hR : ∀ w, Calls Tryz.prog 11 #[spW q] w fun e w' => e = .returned (.int .u8 k2) ∧ Below w.heap.size w w') :
    Code.wp Tryz.prog
    (Code.region 12
      #[{ dst := some 116, op := Op.load 26 (Operand.tmp 12), type := 26, pos := "outright.go:91", after := #[],
          guard := none },
        { dst := some 117,
          op := Op.call { callee := Callee.value (Operand.func 10), args := #[Operand.tmp 116], argTypes := #[26] },
          type := 28, pos := "outright.go:91", after := #[{ on := 0, ground := Ground.data }], guard := none },
        { dst := some 118, op := Op.binOp BinOp.eql 28 (Operand.tmp 117) (Operand.const (Value.int IntKind.i64 0)) 28,
          type := 4, pos := "outright.go:91", after := #[{ on := 1, ground := Ground.data }], guard := none },
        { dst := some 119, op := Op.move (Operand.tmp 118), type := 4, pos := "outright.go:91",
          after := #[{ on := 2, ground := Ground.data }, { on := 1, ground := Ground.chain }], guard := none },
        { dst := some 120, op := Op.load 26 (Operand.tmp 12), type := 26, pos := "outright.go:91",
          after := #[{ on := 3, ground := Ground.guard }], guard := some (3, true) },
        { dst := some 121,
          op := Op.call { callee := Callee.value (Operand.func 11), args := #[Operand.tmp 120], argTypes := #[26] },
          type := 5, pos := "outright.go:91",
          after :=
            #[{ on := 4, ground := Ground.data }, { on := 3, ground := Ground.chain },
              { on := 3, ground := Ground.guard }],
          guard := some (3, true) },
        { dst := some 122, op := Op.load 26 (Operand.tmp 5), type := 26, pos := "outright.go:91",
          after := #[{ on := 3, ground := Ground.guard }], guard := some (3, true) },
        { dst := some 123,
          op := Op.call { callee := Callee.value (Operand.func 11), args := #[Operand.tmp 122], argTypes := #[26] },
          type := 5, pos := "outright.go:91",
          after :=
            #[{ on := 6, ground := Ground.data }, { on := 5, ground := Ground.chain },
              { on := 3, ground := Ground.guard }],
          guard := some (3, true) },
        { dst := some 124, op := Op.binOp BinOp.eql 5 (Operand.tmp 121) (Operand.tmp 123) 5, type := 4,
          pos := "outright.go:91",
          after :=
            #[{ on := 5, ground := Ground.data }, { on := 7, ground := Ground.data },
              { on := 3, ground := Ground.guard }],
          guard := some (3, true) },
        { dst := some 125, op := Op.pick (Operand.tmp 119) (Operand.tmp 124) (Operand.const (Value.bool false)),
          type := 4, pos := "outright.go:91",
          after := #[{ on := 3, ground := Ground.data }, { on := 8, ground := Ground.data }], guard := none },
        { dst := some 126, op := Op.move (Operand.tmp 125), type := 4, pos := "outright.go:91",
          after := #[{ on := 9, ground := Ground.data }, { on := 7, ground := Ground.chain }], guard := none },
        { dst := some 127, op := Op.fieldAddr 26 (Operand.tmp 12) 0, type := 0, pos := "outright.go:91",
          after := #[{ on := 10, ground := Ground.guard }], guard := some (10, true) },
        { dst := some 128, op := Op.load 3 (Operand.tmp 127), type := 3, pos := "outright.go:91",
          after := #[{ on := 11, ground := Ground.data }, { on := 10, ground := Ground.guard }],
          guard := some (10, true) },
        { dst := some 129, op := Op.fieldAddr 26 (Operand.tmp 4) 0, type := 0, pos := "outright.go:91",
          after := #[{ on := 10, ground := Ground.guard }], guard := some (10, true) },
        { dst := some 130, op := Op.load 3 (Operand.tmp 129), type := 3, pos := "outright.go:91",
          after := #[{ on := 13, ground := Ground.data }, { on := 10, ground := Ground.guard }],
          guard := some (10, true) },
        { dst := some 131, op := Op.binOp BinOp.eql 3 (Operand.tmp 128) (Operand.tmp 130) 3, type := 4,
          pos := "outright.go:91",
          after :=
            #[{ on := 12, ground := Ground.data }, { on := 14, ground := Ground.data },
              { on := 10, ground := Ground.guard }],
          guard := some (10, true) },
        { dst := some 132, op := Op.pick (Operand.tmp 126) (Operand.tmp 131) (Operand.const (Value.bool false)),
          type := 4, pos := "outright.go:91",
          after := #[{ on := 10, ground := Ground.data }, { on := 15, ground := Ground.data }], guard := none },
        { dst := some 133, op := Op.move (Operand.tmp 132), type := 4, pos := "outright.go:91",
          after := #[{ on := 16, ground := Ground.data }, { on := 10, ground := Ground.chain }], guard := none },
        { dst := some 134, op := Op.fieldAddr 26 (Operand.tmp 12) 6, type := 0, pos := "outright.go:91",
          after := #[{ on := 17, ground := Ground.guard }], guard := some (17, true) },
        { dst := some 135, op := Op.load 3 (Operand.tmp 134), type := 3, pos := "outright.go:91",
          after := #[{ on := 18, ground := Ground.data }, { on := 17, ground := Ground.guard }],
          guard := some (17, true) },
        { dst := some 136, op := Op.fieldAddr 26 (Operand.tmp 4) 6, type := 0, pos := "outright.go:91",
          after := #[{ on := 17, ground := Ground.guard }], guard := some (17, true) },
        { dst := some 137, op := Op.load 3 (Operand.tmp 136), type := 3, pos := "outright.go:91",
          after := #[{ on := 20, ground := Ground.data }, { on := 17, ground := Ground.guard }],
          guard := some (17, true) },
        { dst := some 138, op := Op.binOp BinOp.eql 3 (Operand.tmp 135) (Operand.tmp 137) 3, type := 4,
          pos := "outright.go:91",
          after :=
            #[{ on := 19, ground := Ground.data }, { on := 21, ground := Ground.data },
              { on := 17, ground := Ground.guard }],
          guard := some (17, true) },
        { dst := some 139, op := Op.pick (Operand.tmp 133) (Operand.tmp 138) (Operand.const (Value.bool false)),
          type := 4, pos := "outright.go:91",
          after := #[{ on := 17, ground := Ground.data }, { on := 22, ground := Ground.data }], guard := none },
        { dst := some 8, op := Op.assign (Operand.tmp 139), type := 4, pos := "outright.go:91",
          after :=
            #[{ on := 23, ground := Ground.data }, { on := 17, ground := Ground.chain },
              { on := 0, ground := Ground.phase }, { on := 1, ground := Ground.phase },
              { on := 2, ground := Ground.phase }, { on := 3, ground := Ground.phase },
              { on := 4, ground := Ground.phase }, { on := 5, ground := Ground.phase },
              { on := 6, ground := Ground.phase }, { on := 7, ground := Ground.phase },
              { on := 8, ground := Ground.phase }, { on := 9, ground := Ground.phase },
              { on := 10, ground := Ground.phase }, { on := 11, ground := Ground.phase },
              { on := 12, ground := Ground.phase }, { on := 13, ground := Ground.phase },
              { on := 14, ground := Ground.phase }, { on := 15, ground := Ground.phase },
              { on := 16, ground := Ground.phase }, { on := 17, ground := Ground.phase },
              { on := 18, ground := Ground.phase }, { on := 19, ground := Ground.phase },
              { on := 20, ground := Ground.phase }, { on := 21, ground := Ground.phase },
              { on := 22, ground := Ground.phase }, { on := 23, ground := Ground.phase }],
          guard := none }]
      true)
    (Exit.then K (bodyPost Tryz.prog Tryz.f5 fun e w' => e = .returned (.bool true) ∧ Below w.heap.size w w'))
    { tmps := #[x0, x1, x2, x3, .pointer (some ⟨bP, 0, none⟩), .pointer (some ⟨dq, 0, none⟩), x6, x7, x8, x9, x10, x11, .pointer (some ⟨bZ, 0, none⟩), x13, x14, x15, x16, x17, x18, x19, x20, x21, x22, x23, x24, x25, x26, x27, x28, x29, x30, x31, x32, x33, x34, x35, x36, x37, x38, x39, x40, x41, x42, x43, x44, x45, x46, x47, x48, x49, x50, x51, x52, x53, x54, x55, x56, x57, x58, x59, x60, x61, x62, x63, x64, x65, x66, x67, x68, x69, x70, x71, x72, x73, x74, x75, x76, x77, x78, x79, x80, x81, x82, x83, x84, x85, x86, x87, x88, x89, x90, x91, x92, x93, x94, x95, x96, x97, x98, x99, x100, x101, x102, x103, x104, x105, x106, x107, x108, x109, x110, x111, x112, x113, x114, x115, x116, x117, x118, x119, x120, x121, x122, x123, x124, x125, x126, x127, x128, x129, x130, x131, x132, x133, x134, x135, x136, x137, x138, x139], defers := [] } VZ := by
  refine wp_region_held_drew (S := fun w' => Bl w' bP (spA p) TSp ∧ Bl w' dq (spA q) TSp ∧ Bl w' bZ #[.int .i64 p.id, .int .i64 p.par, .bool p.leaf, .int .u64 q.re.f, .int .u64 q.re.l, .int .u64 q.re.r, .int .u64 q.sh.f, .int .u64 q.sh.l, .int .u64 q.sh.r, .int .u64 q.up.f, .int .u64 q.up.l, .int .u64 q.up.r, .int .i64 p.pk, .int .i64 p.bt] TSp) (by as_aux_lemma => kernel_rfl) ⟨B.drew, D.drew, Z.drew⟩ (fun hHeld => ?_)
  replace B := B.drew
  replace D := D.drew
  replace Z := Z.drew
  replace T := T.drew
  generalize VZ.drew = V1 at B D Z T hHeld ⊢
  refine wpAnyH_take (i := 0) (v := ?_) (by simp only [List.getElem?_toArray, List.getElem?_cons_zero]; rfl) (by as_aux_lemma => kernel_rfl) (by as_aux_lemma => kernel_rfl) (by as_aux_lemma => kernel_rfl) (by exact fun _ _ _ h => h) (Or.inl ⟨by rfl, ?_⟩) (by assumption) ?_
  rotate_left
  · (intro w hSw; obtain ⟨h1S, h2S, h3S⟩ := hSw; obtain ⟨c0, c1, c2, c3, c4, c5, c6, c7, c8, c9, c10, c11, c12, c13⟩ := id h3S.at14; go_simp; (try with_reducible rfl))
  try simp only [Act.put, List.setIfInBounds_toArray, List.set_cons_zero, List.set_cons_succ]
  refine wpAnyH_ready (rs := [1]) (by as_aux_lemma => kernel_rfl) (by simp) ?_
  refine AllReadyH.cons (by simp only [List.getElem?_toArray, List.getElem?_cons_zero, List.getElem?_cons_succ]; rfl) (fun K hK => ?_) AllReadyH.nil
  go_simp
  go_at_call 10
  (with_reducible refine (hZ1 _).mono ?_)
  rintro e z1 ⟨rfl, hb⟩
  replace B := B.below hb
  replace D := D.below hb
  replace Z := Z.below hb
  replace T := sps T hb T.size
  clear hb
  refine hK.out _ _ ⟨B, D, Z⟩ (fun hHeld => ?_)
  clear hK K
  try simp only [Act.put, List.setIfInBounds_toArray, List.set_cons_zero, List.set_cons_succ]
  refine wpAnyH_take (i := 2) (v := ?_) (by simp only [List.getElem?_toArray, List.getElem?_cons_zero, List.getElem?_cons_succ]; rfl) (by as_aux_lemma => kernel_rfl) (by as_aux_lemma => kernel_rfl) (by as_aux_lemma => kernel_rfl) (by exact fun _ _ _ h => h) (Or.inl ⟨by rfl, ?_⟩) (by assumption) ?_
  rotate_left
  · (intro w hSw; go_simp; (try with_reducible rfl))
  try simp only [Act.put, List.setIfInBounds_toArray, List.set_cons_zero, List.set_cons_succ]
  refine wpAnyH_take (i := 3) (v := ?_) (by simp only [List.getElem?_toArray, List.getElem?_cons_zero, List.getElem?_cons_succ]; rfl) (by as_aux_lemma => kernel_rfl) (by as_aux_lemma => kernel_rfl) (by as_aux_lemma => kernel_rfl) (by exact fun _ _ _ h => h) (Or.inl ⟨by rfl, ?_⟩) (by assumption) ?_
  rotate_left
  · (intro w hSw; go_simp; (try with_reducible rfl))
  try simp only [Act.put, List.setIfInBounds_toArray, List.set_cons_zero, List.set_cons_succ]
  refine wpAnyH_take (i := 4) (v := ?_) (by simp only [List.getElem?_toArray, List.getElem?_cons_zero, List.getElem?_cons_succ]; rfl) (by as_aux_lemma => kernel_rfl) (by as_aux_lemma => kernel_rfl) (by as_aux_lemma => kernel_rfl) (by exact fun _ _ _ h => h) (Or.inl ⟨by rfl, ?_⟩) (by assumption) ?_
  rotate_left
  · (intro w hSw; obtain ⟨h1S, h2S, h3S⟩ := hSw; obtain ⟨c0, c1, c2, c3, c4, c5, c6, c7, c8, c9, c10, c11, c12, c13⟩ := id h3S.at14; go_simp; (try with_reducible rfl))
  try simp only [Act.put, List.setIfInBounds_toArray, List.set_cons_zero, List.set_cons_succ]
  refine wpAnyH_take (i := 6) (v := ?_) (by simp only [List.getElem?_toArray, List.getElem?_cons_zero, List.getElem?_cons_succ]; rfl) (by as_aux_lemma => kernel_rfl) (by as_aux_lemma => kernel_rfl) (by as_aux_lemma => kernel_rfl) (by exact fun _ _ _ h => h) (Or.inl ⟨by rfl, ?_⟩) (by assumption) ?_
  rotate_left
  · (intro w hSw; obtain ⟨h1S, h2S, h3S⟩ := hSw; obtain ⟨c0, c1, c2, c3, c4, c5, c6, c7, c8, c9, c10, c11, c12, c13⟩ := id h2S.at14; go_simp; (try with_reducible rfl))
  try simp only [Act.put, List.setIfInBounds_toArray, List.set_cons_zero, List.set_cons_succ]
  refine wpAnyH_ready (rs := [5]) (by as_aux_lemma => kernel_rfl) (by simp) ?_
  refine AllReadyH.cons (by simp only [List.getElem?_toArray, List.getElem?_cons_zero, List.getElem?_cons_succ]; rfl) (fun K hK => ?_) AllReadyH.nil
  go_simp
  go_at_call 11
  (with_reducible refine (hZ2 _).mono ?_)
  rintro e z5 ⟨rfl, hb⟩
  replace B := B.below hb
  replace D := D.below hb
  replace Z := Z.below hb
  replace T := sps T hb T.size
  clear hb
  refine hK.out _ _ ⟨B, D, Z⟩ (fun hHeld => ?_)
  clear hK K
  try simp only [Act.put, List.setIfInBounds_toArray, List.set_cons_zero, List.set_cons_succ]
  refine wpAnyH_ready (rs := [7]) (by as_aux_lemma => kernel_rfl) (by simp) ?_
  refine AllReadyH.cons (by simp only [List.getElem?_toArray, List.getElem?_cons_zero, List.getElem?_cons_succ]; rfl) (fun K hK => ?_) AllReadyH.nil
  go_simp
  go_at_call 11
  (with_reducible refine (hR _).mono ?_)
  rintro e z7 ⟨rfl, hb⟩
  replace B := B.below hb
  replace D := D.below hb
  replace Z := Z.below hb
  replace T := sps T hb T.size
  clear hb
  refine hK.out _ _ ⟨B, D, Z⟩ (fun hHeld => ?_)
  clear hK K
  try simp only [Act.put, List.setIfInBounds_toArray, List.set_cons_zero, List.set_cons_succ]
  refine wpAnyH_take (i := 8) (v := ?_) (by simp only [List.getElem?_toArray, List.getElem?_cons_zero, List.getElem?_cons_succ]; rfl) (by as_aux_lemma => kernel_rfl) (by as_aux_lemma => kernel_rfl) (by as_aux_lemma => kernel_rfl) (by exact fun _ _ _ h => h) (Or.inl ⟨by rfl, ?_⟩) (by assumption) ?_
  rotate_left
  · (intro w hSw; go_simp; (try with_reducible rfl))
  try simp only [Act.put, List.setIfInBounds_toArray, List.set_cons_zero, List.set_cons_succ]
  refine wpAnyH_take (i := 9) (v := ?_) (by simp only [List.getElem?_toArray, List.getElem?_cons_zero, List.getElem?_cons_succ]; rfl) (by as_aux_lemma => kernel_rfl) (by as_aux_lemma => kernel_rfl) (by as_aux_lemma => kernel_rfl) (by exact fun _ _ _ h => h) (Or.inl ⟨by rfl, ?_⟩) (by assumption) ?_
  rotate_left
  · (intro w hSw; go_simp; (try with_reducible rfl))
  try simp only [Act.put, List.setIfInBounds_toArray, List.set_cons_zero, List.set_cons_succ]
  refine wpAnyH_take (i := 10) (v := ?_) (by simp only [List.getElem?_toArray, List.getElem?_cons_zero, List.getElem?_cons_succ]; rfl) (by as_aux_lemma => kernel_rfl) (by as_aux_lemma => kernel_rfl) (by as_aux_lemma => kernel_rfl) (by exact fun _ _ _ h => h) (Or.inl ⟨by rfl, ?_⟩) (by assumption) ?_
  rotate_left
  · (intro w hSw; go_simp; (try with_reducible rfl))
  try simp only [Act.put, List.setIfInBounds_toArray, List.set_cons_zero, List.set_cons_succ]
  refine wpAnyH_take (i := 11) (v := ?_) (by simp only [List.getElem?_toArray, List.getElem?_cons_zero, List.getElem?_cons_succ]; rfl) (by as_aux_lemma => kernel_rfl) (by as_aux_lemma => kernel_rfl) (by as_aux_lemma => kernel_rfl) (by exact fun _ _ _ h => h) (Or.inl ⟨by rfl, ?_⟩) (by assumption) ?_
  rotate_left
  · (intro w hSw; go_simp; (try with_reducible rfl))
  try simp only [Act.put, List.setIfInBounds_toArray, List.set_cons_zero, List.set_cons_succ]
  refine wpAnyH_take (i := 12) (v := ?_) (by simp only [List.getElem?_toArray, List.getElem?_cons_zero, List.getElem?_cons_succ]; rfl) (by as_aux_lemma => kernel_rfl) (by as_aux_lemma => kernel_rfl) (by as_aux_lemma => kernel_rfl) (by exact fun _ _ _ h => h) (Or.inl ⟨by rfl, ?_⟩) (by assumption) ?_
  rotate_left
  · (intro w hSw; obtain ⟨h1S, h2S, h3S⟩ := hSw; obtain ⟨c0, c1, c2, c3, c4, c5, c6, c7, c8, c9, c10, c11, c12, c13⟩ := id h3S.at14; go_simp; (try with_reducible rfl))
  try simp only [Act.put, List.setIfInBounds_toArray, List.set_cons_zero, List.set_cons_succ]
  refine wpAnyH_take (i := 13) (v := ?_) (by simp only [List.getElem?_toArray, List.getElem?_cons_zero, List.getElem?_cons_succ]; rfl) (by as_aux_lemma => kernel_rfl) (by as_aux_lemma => kernel_rfl) (by as_aux_lemma => kernel_rfl) (by exact fun _ _ _ h => h) (Or.inl ⟨by rfl, ?_⟩) (by assumption) ?_
  rotate_left
  · (intro w hSw; go_simp; (try with_reducible rfl))
  try simp only [Act.put, List.setIfInBounds_toArray, List.set_cons_zero, List.set_cons_succ]
  refine wpAnyH_take (i := 14) (v := ?_) (by simp only [List.getElem?_toArray, List.getElem?_cons_zero, List.getElem?_cons_succ]; rfl) (by as_aux_lemma => kernel_rfl) (by as_aux_lemma => kernel_rfl) (by as_aux_lemma => kernel_rfl) (by exact fun _ _ _ h => h) (Or.inl ⟨by rfl, ?_⟩) (by assumption) ?_
  rotate_left
  · (intro w hSw; obtain ⟨h1S, h2S, h3S⟩ := hSw; obtain ⟨c0, c1, c2, c3, c4, c5, c6, c7, c8, c9, c10, c11, c12, c13⟩ := id h1S.at14; go_simp; (try with_reducible rfl))
  try simp only [Act.put, List.setIfInBounds_toArray, List.set_cons_zero, List.set_cons_succ]
  refine wpAnyH_take (i := 15) (v := ?_) (by simp only [List.getElem?_toArray, List.getElem?_cons_zero, List.getElem?_cons_succ]; rfl) (by as_aux_lemma => kernel_rfl) (by as_aux_lemma => kernel_rfl) (by as_aux_lemma => kernel_rfl) (by exact fun _ _ _ h => h) (Or.inl ⟨by rfl, ?_⟩) (by assumption) ?_
  rotate_left
  · (intro w hSw; go_simp; (try with_reducible rfl))
  try simp only [Act.put, List.setIfInBounds_toArray, List.set_cons_zero, List.set_cons_succ]
  refine wpAnyH_take (i := 16) (v := ?_) (by simp only [List.getElem?_toArray, List.getElem?_cons_zero, List.getElem?_cons_succ]; rfl) (by as_aux_lemma => kernel_rfl) (by as_aux_lemma => kernel_rfl) (by as_aux_lemma => kernel_rfl) (by exact fun _ _ _ h => h) (Or.inl ⟨by rfl, ?_⟩) (by assumption) ?_
  rotate_left
  · (intro w hSw; go_simp; (try with_reducible rfl))
  try simp only [Act.put, List.setIfInBounds_toArray, List.set_cons_zero, List.set_cons_succ]
  refine wpAnyH_take (i := 17) (v := ?_) (by simp only [List.getElem?_toArray, List.getElem?_cons_zero, List.getElem?_cons_succ]; rfl) (by as_aux_lemma => kernel_rfl) (by as_aux_lemma => kernel_rfl) (by as_aux_lemma => kernel_rfl) (by exact fun _ _ _ h => h) (Or.inl ⟨by rfl, ?_⟩) (by assumption) ?_
  rotate_left
  · (intro w hSw; go_simp; (try with_reducible rfl))
  try simp only [Act.put, List.setIfInBounds_toArray, List.set_cons_zero, List.set_cons_succ]
  refine wpAnyH_take (i := 18) (v := ?_) (by simp only [List.getElem?_toArray, List.getElem?_cons_zero, List.getElem?_cons_succ]; rfl) (by as_aux_lemma => kernel_rfl) (by as_aux_lemma => kernel_rfl) (by as_aux_lemma => kernel_rfl) (by exact fun _ _ _ h => h) (Or.inl ⟨by rfl, ?_⟩) (by assumption) ?_
  rotate_left
  · (intro w hSw; go_simp; (try with_reducible rfl))
  try simp only [Act.put, List.setIfInBounds_toArray, List.set_cons_zero, List.set_cons_succ]
  refine wpAnyH_take (i := 19) (v := ?_) (by simp only [List.getElem?_toArray, List.getElem?_cons_zero, List.getElem?_cons_succ]; rfl) (by as_aux_lemma => kernel_rfl) (by as_aux_lemma => kernel_rfl) (by as_aux_lemma => kernel_rfl) (by exact fun _ _ _ h => h) (Or.inl ⟨by rfl, ?_⟩) (by assumption) ?_
  rotate_left
  · (intro w hSw; obtain ⟨h1S, h2S, h3S⟩ := hSw; obtain ⟨c0, c1, c2, c3, c4, c5, c6, c7, c8, c9, c10, c11, c12, c13⟩ := id h3S.at14; go_simp; (try with_reducible rfl))
  try simp only [Act.put, List.setIfInBounds_toArray, List.set_cons_zero, List.set_cons_succ]
  refine wpAnyH_take (i := 20) (v := ?_) (by simp only [List.getElem?_toArray, List.getElem?_cons_zero, List.getElem?_cons_succ]; rfl) (by as_aux_lemma => kernel_rfl) (by as_aux_lemma => kernel_rfl) (by as_aux_lemma => kernel_rfl) (by exact fun _ _ _ h => h) (Or.inl ⟨by rfl, ?_⟩) (by assumption) ?_
  rotate_left
  · (intro w hSw; go_simp; (try with_reducible rfl))
  try simp only [Act.put, List.setIfInBounds_toArray, List.set_cons_zero, List.set_cons_succ]
  refine wpAnyH_take (i := 21) (v := ?_) (by simp only [List.getElem?_toArray, List.getElem?_cons_zero, List.getElem?_cons_succ]; rfl) (by as_aux_lemma => kernel_rfl) (by as_aux_lemma => kernel_rfl) (by as_aux_lemma => kernel_rfl) (by exact fun _ _ _ h => h) (Or.inl ⟨by rfl, ?_⟩) (by assumption) ?_
  rotate_left
  · (intro w hSw; obtain ⟨h1S, h2S, h3S⟩ := hSw; obtain ⟨c0, c1, c2, c3, c4, c5, c6, c7, c8, c9, c10, c11, c12, c13⟩ := id h1S.at14; go_simp; (try with_reducible rfl))
  try simp only [Act.put, List.setIfInBounds_toArray, List.set_cons_zero, List.set_cons_succ]
  refine wpAnyH_take (i := 22) (v := ?_) (by simp only [List.getElem?_toArray, List.getElem?_cons_zero, List.getElem?_cons_succ]; rfl) (by as_aux_lemma => kernel_rfl) (by as_aux_lemma => kernel_rfl) (by as_aux_lemma => kernel_rfl) (by exact fun _ _ _ h => h) (Or.inl ⟨by rfl, ?_⟩) (by assumption) ?_
  rotate_left
  · (intro w hSw; go_simp; (try with_reducible rfl))
  try simp only [Act.put, List.setIfInBounds_toArray, List.set_cons_zero, List.set_cons_succ]
  refine wpAnyH_take (i := 23) (v := ?_) (by simp only [List.getElem?_toArray, List.getElem?_cons_zero, List.getElem?_cons_succ]; rfl) (by as_aux_lemma => kernel_rfl) (by as_aux_lemma => kernel_rfl) (by as_aux_lemma => kernel_rfl) (by exact fun _ _ _ h => h) (Or.inl ⟨by rfl, ?_⟩) (by assumption) ?_
  rotate_left
  · (intro w hSw; go_simp; (try with_reducible rfl))
  try simp only [Act.put, List.setIfInBounds_toArray, List.set_cons_zero, List.set_cons_succ]
  refine wpAnyH_take (i := 24) (v := ?_) (by simp only [List.getElem?_toArray, List.getElem?_cons_zero, List.getElem?_cons_succ]; rfl) (by as_aux_lemma => kernel_rfl) (by as_aux_lemma => kernel_rfl) (by as_aux_lemma => kernel_rfl) (by exact fun _ _ _ h => h) (Or.inl ⟨by rfl, ?_⟩) (by assumption) ?_
  rotate_left
  · (intro w hSw; go_simp; (try with_reducible rfl))
  try simp only [Act.put, List.setIfInBounds_toArray, List.set_cons_zero, List.set_cons_succ]
  refine wpAnyH_done (by as_aux_lemma => kernel_rfl) ?_ _
  refine hK _ _ ?_
  go_wp2_with fail
  go_ret
  exact ⟨by simp, T⟩
end Go.Proofs.YtkcmfcgoknhodaaGreatDoor
