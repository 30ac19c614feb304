/- A spec in memory; what the program's own small questions answer. Condition: the numbers are what the fields can hold. -/
import Derived.Test.YtpopcnebndgblaaGreatSpM
import Derived.Test.YtpopcnebndgblaaGreatBlQ
import Derived.Deep.RegionHeld3
namespace Go.Proofs.YtpopcnebndgblaaGreat
open Go.RowKit W
set_option linter.unusedVariables false

theorem spk {B : Nat} {W w w' : World} (h : Below B W w) (k : Below w.heap.size w w') (hB : B ≤ w.heap.size) : Below B W w' := h.trans (k.mono hB)
abbrev cwV (c : Cw) : Value := .agg #[.int .u64 c.f, .int .u64 c.l, .int .u64 c.r]
abbrev spC (p : Sp) : Array Value := #[.int .i64 p.id, .int .i64 p.par, .bool p.leaf, .int .u64 p.re.f, .int .u64 p.re.l, .int .u64 p.re.r, .int .u64 p.sh.f, .int .u64 p.sh.l, .int .u64 p.sh.r, .int .u64 p.up.f, .int .u64 p.up.l, .int .u64 p.up.r, .int .i64 p.pk, .int .i64 p.bt]
abbrev spV (p : Sp) : Value := .agg #[.int .i64 p.id, .int .i64 p.par, .bool p.leaf, .int .u64 p.re.f, .int .u64 p.re.l, .int .u64 p.re.r, .int .u64 p.sh.f, .int .u64 p.sh.l, .int .u64 p.sh.r, .int .u64 p.up.f, .int .u64 p.up.l, .int .u64 p.up.r, .int .i64 p.pk, .int .i64 p.bt]
/-- Block B holds the spec. -/
def SB (W : World) (B : Nat) (p : Sp) : Prop := W.heap[B]? = some (.cells (spC p) 34 (0, 0))
theorem SB.lt {W : World} {B : Nat} {p : Sp} (h : SB W B p) : B < W.heap.size := (Array.getElem?_eq_some_iff.1 h).1
theorem SB.new (W : World) (p : Sp) : SB (W.alloc (.cells (spC p) 34)) W.heap.size p := World.alloc_heap_new W _
theorem SB.below {W w : World} {B : Nat} {p : Sp} (h : SB W B p) (hb : Below W.heap.size W w) : SB w B p := (hb.block B h.lt).trans h
theorem SB.alloc {W : World} {B : Nat} {p : Sp} (h : SB W B p) (o : Obj) : SB (W.alloc o) B p := (Below.heap_alloc W o B h.lt).trans h
theorem SB.cell {W : World} {B : Nat} {p : Sp} (h : SB W B p) (i : Nat) : W.cell? ⟨B, i, none⟩ = (spC p)[i]? := by
  have e : W.heap[B]? = some (.cells (spC p) 34 (0, 0)) := h
  simp [World.cell?, e]
theorem SB.thaw {W : World} {B : Nat} {p : Sp} (h : SB W B p) (i : Nat) : W.frozen? ⟨B, i, none⟩ = false := by
  have e : W.heap[B]? = some (.cells (spC p) 34 (0, 0)) := h
  simp [World.frozen?, e]
/-- The cells of the spec in block B. -/
abbrev SC (W : World) (B : Nat) (p : Sp) : Prop :=
  W.cell? ⟨B, 0, none⟩ = some (.int .i64 p.id) ∧ W.cell? ⟨B, 1, none⟩ = some (.int .i64 p.par) ∧ W.cell? ⟨B, 2, none⟩ = some (.bool p.leaf) ∧
  W.cell? ⟨B, 3, none⟩ = some (.int .u64 p.re.f) ∧ W.cell? ⟨B, 4, none⟩ = some (.int .u64 p.re.l) ∧ W.cell? ⟨B, 5, none⟩ = some (.int .u64 p.re.r) ∧
  W.cell? ⟨B, 6, none⟩ = some (.int .u64 p.sh.f) ∧ W.cell? ⟨B, 7, none⟩ = some (.int .u64 p.sh.l) ∧ W.cell? ⟨B, 8, none⟩ = some (.int .u64 p.sh.r) ∧
  W.cell? ⟨B, 9, none⟩ = some (.int .u64 p.up.f) ∧ W.cell? ⟨B, 10, none⟩ = some (.int .u64 p.up.l) ∧ W.cell? ⟨B, 11, none⟩ = some (.int .u64 p.up.r) ∧
  W.cell? ⟨B, 12, none⟩ = some (.int .i64 p.pk) ∧ W.cell? ⟨B, 13, none⟩ = some (.int .i64 p.bt)
theorem SB.all {W : World} {B : Nat} {p : Sp} (h : SB W B p) : SC W B p :=
  ⟨h.cell 0, h.cell 1, h.cell 2, h.cell 3, h.cell 4, h.cell 5, h.cell 6, h.cell 7, h.cell 8, h.cell 9, h.cell 10, h.cell 11, h.cell 12, h.cell 13⟩

/-! ### What is asked -/
def hasC (c : Cw) : Bool := !decide (c.f = 0 ∧ c.l = 0 ∧ c.r = 0)
def mayC (c : Cw) : Bool := mayB c.f c.l c.r
def wi (n a b : Int) : Bool := decide (a ≤ n ∧ n ≤ b)
def idB (p : Sp) : Bool := wi p.id 1 65535 && wi p.par 0 65535 && (p.par != p.id)
def curB (p : Sp) : Bool := mayC p.re && mayC p.sh && mayC p.up
def kindN (p : Sp) : Int := if p.leaf then (if hasC p.re && hasC p.sh then 3 else if hasC p.re then 1 else if hasC p.sh then 2 else 0) else 4
def furB (p : Sp) : Bool := if p.leaf then (hasC p.re || hasC p.sh) && wi p.pk 1 4096 && wi p.bt 1 16777216 else hasC p.sh && !hasC p.re && (p.pk == 0) && (p.bt == 0)
def lasB (p : Sp) : Bool := !(hasC p.sh && (p.sh.r == 0)) && !(hasC p.up && (p.up.r == 0)) && (hasC p.sh || !hasC p.up)
open Classical in
noncomputable def belB (a b : Cw) : Bool := decide (isBelow ⟨a.f, a.l, a.r⟩ ⟨b.f, b.l, b.r⟩)
noncomputable def bouB (p : Sp) : Bool := !hasC p.up || belB p.re p.up
noncomputable def mayN (p : Sp) : Int := if idB p then (if curB p then (if furB p then (if lasB p then (if bouB p then 0 else 130) else 130) else 130) else 30) else 130
def withS (p q : Sp) : Sp := { p with re := q.re, sh := q.sh, up := q.up }

theorem within_any (n a b : Int) (w : World) :
    Calls Tryz.prog 73 #[.int .i64 n, .int .i64 a, .int .i64 b] w fun e w' => e = .returned (.bool (wi n a b)) ∧ Below w.heap.size w w' := by
  unfold wi
  by_cases h1 : a ≤ n
  · by_cases h2 : n ≤ b
    · go_enter Tryz.func73, Tryz.ntmps73
      go_wp2
      go_ret
      exact ⟨by simp [h1, h2], Below.refl _ _⟩
    · go_enter Tryz.func73, Tryz.ntmps73
      go_wp2
      go_ret
      exact ⟨by simp [h2], Below.refl _ _⟩
  · go_enter Tryz.func73, Tryz.ntmps73
    go_wp2
    go_ret
    exact ⟨by simp; omega, Below.refl _ _⟩
theorem has_any (c : Cw) (w : World) :
    Calls Tryz.prog 76 #[cwV c] w fun e w' => e = .returned (.bool (hasC c)) ∧ Below w.heap.size w w' := by
  have hN := fun w => none_any c.f c.l c.r w
  unfold hasC
  generalize decide (c.f = 0 ∧ c.l = 0 ∧ c.r = 0) = b at hN
  have T := up1 w (.cells #[.int .u64 c.f, .int .u64 c.l, .int .u64 c.r] 32)
  go_enter Tryz.func76, Tryz.ntmps76
  go_wp2_with (go_at_call 94; (with_reducible refine (hN _).mono ?_); rintro e w1 ⟨rfl, hb⟩; replace T := spk T hb T.size; clear hb)
  go_ret
  exact ⟨by simp, T⟩

theorem placed_any (p : Sp) (w : World) :
    Calls Tryz.prog 59 #[spV p] w fun e w' => e = .returned (.bool (idB p)) ∧ Below w.heap.size w w' := by
  have h1 := fun w => within_any p.id 1 65535 w
  have h2 := fun w => within_any p.par 0 65535 w
  have B := SB.new w p
  have T := up1 w (.cells (spC p) 34)
  unfold idB
  generalize wi p.id 1 65535 = a at h1
  generalize wi p.par 0 65535 = b at h2
  cases a <;> cases b
  all_goals
    go_enter Tryz.func59, Tryz.ntmps59
    go_wp2_with (first
      | (go_at_call 73; (with_reducible refine (h1 _).mono ?_); rintro e w1 ⟨rfl, hb⟩; replace B := B.below hb; replace T := spk T hb T.size; clear hb; obtain ⟨c0, c1, c2, c3, c4, c5, c6, c7, c8, c9, c10, c11, c12, c13⟩ := id B.all)
      | (go_at_call 73; (with_reducible refine (h2 _).mono ?_); rintro e w2 ⟨rfl, hb⟩; replace B := B.below hb; replace T := spk T hb T.size; clear hb; obtain ⟨d0, d1, d2, d3, d4, d5, d6, d7, d8, d9, d10, d11, d12, d13⟩ := id B.all))
    all_goals (go_ret; exact ⟨by simp [*], T⟩)

theorem drawn_of (p : Sp) (a b c : Bool) (w : World)
    (h1 : ∀ w, Calls Tryz.prog 74 #[cwV p.re] w fun e w' => e = .returned (.bool a) ∧ Below w.heap.size w w')
    (h2 : ∀ w, Calls Tryz.prog 74 #[cwV p.sh] w fun e w' => e = .returned (.bool b) ∧ Below w.heap.size w w')
    (h3 : ∀ w, Calls Tryz.prog 74 #[cwV p.up] w fun e w' => e = .returned (.bool c) ∧ Below w.heap.size w w') :
    Calls Tryz.prog 60 #[spV p] w fun e w' => e = .returned (.bool (a && b && c)) ∧ Below w.heap.size w w' := by
  have B := SB.new w p
  have T := up1 w (.cells (spC p) 34)
  cases a <;> cases b
  all_goals
    go_enter Tryz.func60, Tryz.ntmps60
    go_wp2_with (first
      | (go_at_call 74; (with_reducible refine (h1 _).mono ?_); rintro e w1 ⟨rfl, hb⟩; replace B := B.below hb; replace T := spk T hb T.size; clear hb; obtain ⟨c0, c1, c2, c3, c4, c5, c6, c7, c8, c9, c10, c11, c12, c13⟩ := id B.all)
      | (go_at_call 74; (with_reducible refine (h2 _).mono ?_); rintro e w2 ⟨rfl, hb⟩; replace B := B.below hb; replace T := spk T hb T.size; clear hb; obtain ⟨d0, d1, d2, d3, d4, d5, d6, d7, d8, d9, d10, d11, d12, d13⟩ := id B.all)
      | (go_at_call 74; (with_reducible refine (h3 _).mono ?_); rintro e w3 ⟨rfl, hb⟩; replace T := spk T hb T.size; clear hb))
    go_ret
    exact ⟨by simp, T⟩
theorem drawn_any (p : Sp) (hp : p.ok) (w : World) :
    Calls Tryz.prog 60 #[spV p] w fun e w' => e = .returned (.bool (curB p)) ∧ Below w.heap.size w w' := by
  obtain ⟨_, _, ⟨a1, a2, a3⟩, ⟨b1, b2, b3⟩, ⟨c1, c2, c3⟩, _⟩ := hp
  exact drawn_of p _ _ _ w (fun w => may_any _ _ _ w a1 a2 a3) (fun w => may_any _ _ _ w b1 b2 b3) (fun w => may_any _ _ _ w c1 c2 c3)

theorem Kind_any (p : Sp) (w : World) :
    Calls Tryz.prog 75 #[spV p] w fun e w' => e = .returned (.int .u8 (kindN p)) ∧ Below w.heap.size w w' := by
  have h1 := fun w => has_any p.re w
  have h2 := fun w => has_any p.sh w
  have B := SB.new w p
  have T := up1 w (.cells (spC p) 34)
  unfold kindN
  obtain ⟨ii, qq, lf, re, sh, uu, pk, bt⟩ := p
  simp only at h1 h2 ⊢
  generalize hasC re = a at h1
  generalize hasC sh = b at h2
  cases lf
  · go_enter Tryz.func75, Tryz.ntmps75
    go_wp2
    go_ret
    exact ⟨rfl, T⟩
  · cases a <;> cases b
    all_goals
      go_enter Tryz.func75, Tryz.ntmps75
      go_wp2_with (first
        | (go_at_call 76; (with_reducible refine (h1 _).mono ?_); rintro e w1 ⟨rfl, hb⟩; replace B := B.below hb; replace T := spk T hb T.size; clear hb; obtain ⟨c0, c1, c2, c3, c4, c5, c6, c7, c8, c9, c10, c11, c12, c13⟩ := id B.all)
        | (go_at_call 76; (with_reducible refine (h2 _).mono ?_); rintro e w2 ⟨rfl, hb⟩; replace B := B.below hb; replace T := spk T hb T.size; clear hb; obtain ⟨d0, d1, d2, d3, d4, d5, d6, d7, d8, d9, d10, d11, d12, d13⟩ := id B.all))
      go_ret
      exact ⟨by simp, T⟩

theorem furnished_any (p : Sp) (w : World) :
    Calls Tryz.prog 61 #[spV p] w fun e w' => e = .returned (.bool (furB p)) ∧ Below w.heap.size w w' := by
  have h1 := fun w => has_any p.re w
  have h2 := fun w => has_any p.sh w
  have hK := fun w => Kind_any p w
  have h3 := fun w => within_any p.pk 1 4096 w
  have h4 := fun w => within_any p.bt 1 16777216 w
  have B := SB.new w p
  have T := up1 w (.cells (spC p) 34)
  unfold furB
  unfold kindN at hK
  obtain ⟨ii, qq, lf, re, sh, uu, pk, bt⟩ := p
  simp only at h1 h2 h3 h4 hK ⊢
  generalize hasC re = a at h1 hK
  generalize hasC sh = b at h2 hK
  generalize wi pk 1 4096 = c at h3
  generalize wi bt 1 16777216 = d at h4
  cases lf
  · cases b <;> cases a
    all_goals
      go_enter Tryz.func61, Tryz.ntmps61
      go_wp2_with (first
        | (go_at_call 76; (with_reducible refine (h1 _).mono ?_); rintro e w1 ⟨rfl, hb⟩; replace B := B.below hb; replace T := spk T hb T.size; clear hb; obtain ⟨c0, c1, c2, c3, c4, c5, c6, c7, c8, c9, c10, c11, c12, c13⟩ := id B.all)
        | (go_at_call 76; (with_reducible refine (h2 _).mono ?_); rintro e w2 ⟨rfl, hb⟩; replace B := B.below hb; replace T := spk T hb T.size; clear hb; obtain ⟨d0, d1, d2, d3, d4, d5, d6, d7, d8, d9, d10, d11, d12, d13⟩ := id B.all))
      all_goals (go_ret; exact ⟨by simp [*], T⟩)
  · cases a <;> cases b <;> cases c
    all_goals
      simp at hK
      go_enter Tryz.func61, Tryz.ntmps61
      go_wp2_with (first
        | (go_at_call 75; (with_reducible refine (hK _).mono ?_); rintro e w1 ⟨rfl, hb⟩; replace B := B.below hb; replace T := spk T hb T.size; clear hb; obtain ⟨c0, c1, c2, c3, c4, c5, c6, c7, c8, c9, c10, c11, c12, c13⟩ := id B.all)
        | (go_at_call 73; (with_reducible refine (h3 _).mono ?_); rintro e w2 ⟨rfl, hb⟩; replace B := B.below hb; replace T := spk T hb T.size; clear hb; obtain ⟨d0, d1, d2, d3, d4, d5, d6, d7, d8, d9, d10, d11, d12, d13⟩ := id B.all)
        | (go_at_call 73; (with_reducible refine (h4 _).mono ?_); rintro e w3 ⟨rfl, hb⟩; replace T := spk T hb T.size; clear hb))
      go_ret
      exact ⟨by simp, T⟩

theorem bounded_any (m : Nat) (hsort : SortU m) (hm : 3 ≤ m) (p : Sp) (hp : p.ok) (w : World) :
    Calls Tryz.prog 63 #[spV p] w fun e w' => e = .returned (.bool (bouB p)) ∧ Below w.heap.size w w' := by
  obtain ⟨_, _, ⟨a1, a2, a3⟩, _, ⟨b1, b2, b3⟩, _⟩ := hp
  have h1 := fun w => has_any p.up w
  have h2 := fun w => belowP_any m hsort hm p.re.f p.re.l p.re.r p.up.f p.up.l p.up.r w a1 a2 a3 b1 b2 b3
  have B := SB.new w p
  have T := up1 w (.cells (spC p) 34)
  unfold bouB belB
  generalize hasC p.up = a at h1
  cases a
  · go_enter Tryz.func63, Tryz.ntmps63
    go_wp2_with (first
      | (go_at_call 76; (with_reducible refine (h1 _).mono ?_); rintro e w1 ⟨rfl, hb⟩; replace B := B.below hb; replace T := spk T hb T.size; clear hb; obtain ⟨c0, c1, c2, c3, c4, c5, c6, c7, c8, c9, c10, c11, c12, c13⟩ := id B.all))
    go_ret
    exact ⟨by simp, T⟩
  · go_enter Tryz.func63, Tryz.ntmps63
    go_wp2_with (first
      | (go_at_call 76; (with_reducible refine (h1 _).mono ?_); rintro e w1 ⟨rfl, hb⟩; replace B := B.below hb; replace T := spk T hb T.size; clear hb; obtain ⟨c0, c1, c2, c3, c4, c5, c6, c7, c8, c9, c10, c11, c12, c13⟩ := id B.all)
      | (go_at_call 77; (with_reducible refine (h2 _).mono ?_); rintro e w2 ⟨rfl, hb⟩; replace T := spk T hb T.size; clear hb))
    go_ret
    exact ⟨by simp, T⟩
end Go.Proofs.YtpopcnebndgblaaGreat
