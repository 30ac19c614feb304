/- What the calls of a nil tree, and of one that nobody made, answer. No condition. -/
import Derived.Test.YtjfpemkdidoacaaVB
namespace Go.Proofs.Ytjfpemkdidoacaa
open Go.RowKit Go.Shelf
set_option linter.unusedVariables false
/-- A nil tree, or one that nobody made. -/
def Zt (q : Pt) (w : World) : Prop := q = none ∨ ∃ B : Nat, q = some ⟨B, 0, none⟩ ∧ Box w B #[.nilFunc, .nilFunc, .pointer none, .int .i64 0] 57
theorem Zt.below {q : Pt} {w w' : World} (h : Zt q w) (hb : Below w.heap.size w w') : Zt q w' := by
  rcases h with h | ⟨B, h1, h2⟩
  · exact .inl h
  · exact .inr ⟨B, h1, h2.below hb⟩
theorem z_top (q : Pt) (w : World) (h : Zt q w) : Calls Try.prog 45 #[.pointer q] w fun e w' => e = .returned (.pointer none) ∧ w = w' := by
  rcases h with rfl | ⟨B, rfl, h⟩
  · go_enter Try.func45, Try.ntmps45
    go_wp2
    go_ret
    exact ⟨rfl, rfl⟩
  · have c2 : w.cell? ⟨B, 2, none⟩ = some (.pointer none) := h.cell 2
    go_enter Try.func45, Try.ntmps45
    go_wp2
    go_ret
    exact ⟨rfl, rfl⟩
theorem z_made (q : Pt) (w : World) (h : Zt q w) : Calls Try.prog 37 #[.pointer q] w fun e w' => e = .returned (.bool false) ∧ w = w' := by
  have hn : ∀ w : World, (binOp BinOp.neq 53 .nilFunc .nilFunc).run Try.prog w = .ok (.bool false) w := fun _ => by kernel_rfl
  rcases h with rfl | ⟨B, rfl, h⟩
  · go_enter Try.func37, Try.ntmps37
    go_wp2
    go_ret
    exact ⟨rfl, rfl⟩
  · have c2 : w.cell? ⟨B, 0, none⟩ = some .nilFunc := h.cell 0
    go_enter Try.func37, Try.ntmps37
    go_wp2
    go_ret
    exact ⟨rfl, rfl⟩
theorem z_len (q : Pt) (w : World) (h : Zt q w) : Calls Try.prog 27 #[.pointer q] w fun e w' => e = .returned (.int .i64 0) ∧ w = w' := by
  rcases h with rfl | ⟨B, rfl, h⟩
  · go_enter Try.func27, Try.ntmps27
    go_wp2
    go_ret
    exact ⟨rfl, rfl⟩
  · have c2 : w.cell? ⟨B, 3, none⟩ = some (.int .i64 0) := h.cell 3
    go_enter Try.func27, Try.ntmps27
    go_wp2
    go_ret
    exact ⟨rfl, rfl⟩
theorem z_get (q : Pt) (k : Ky) (w : World) (h : Zt q w) : Calls Try.prog 17 #[.pointer q, ky k] w fun e w' => e = .returned (.tuple #[.int .u64 0, .bool false]) ∧ Below w.heap.size w w' :=
  get_any (.pointer q) none .nil k w (fun w1 hb => z_top q w1 (h.below hb)) rfl
theorem z_first (q : Pt) (w : World) (h : Zt q w) : Calls Try.prog 25 #[.pointer q] w fun e w' => e = .returned (.tuple #[.agg #[.int .u64 0, .int .i64 0], .bool false]) ∧ Below w.heap.size w w' :=
  firstT_any (.pointer q) none .nil w (fun w1 hb => z_top q w1 (h.below hb)) rfl
theorem z_all (q : Pt) (w : World) (h : Zt q w) : Calls Try.prog 21 #[.pointer q] w fun e w' => e = .returned (.tuple #[.int .u64 0, .bool false]) ∧ w = w' :=
  all_some (.pointer q) none .nil w (z_top q w h) rfl
theorem z_upto1 (q : Pt) (x : Int) (w : World) : Calls Try.prog 48 #[.pointer q, .pointer none, eU x] w fun e w' => e = .returned (.tuple #[.int .u64 0, .bool false]) ∧ Below w.heap.size w w' := by
  go_enter Try.func48, Try.ntmps48
  go_wp2
  go_ret2
  exact ⟨rfl, Below.refl _ _⟩
theorem z_upto (q : Pt) (x : Int) (w : World) (h : Zt q w) : Calls Try.prog 19 #[.pointer q, eU x] w fun e w' => e = .returned (.tuple #[.int .u64 0, .bool false]) ∧ Below w.heap.size w w' :=
  uptoT_any q none x 0 false w (fun w1 hb => z_top q w1 (h.below hb)) (fun w1 hb => z_upto1 q x w1)
theorem z_find (q : Pt) (x : Int) (w : World) (h : Zt q w) : Calls Try.prog 22 #[.pointer q, .func (.func 23) #[eU x] #[]] w fun e w' => e = .returned (.tuple #[.agg #[.int .u64 0, .int .i64 0], .bool false]) ∧ Below w.heap.size w w' :=
  findT_any q none x none w (fun w1 hb => z_top q w1 (h.below hb)) (fun w1 hb => find_nil _ x w1)
theorem z_height (q : Pt) (w : World) (h : Zt q w) : Calls Try.prog 28 #[.pointer q] w fun e w' => e = .returned (.int .i64 0) ∧ Below w.heap.size w w' :=
  heightT_any (.pointer q) none .nil w (z_top q w h) (by decide) rfl
theorem z_well (q : Pt) (w : World) (h : Zt q w) : Calls Try.prog 29 #[.pointer q, .func (.func 30) #[] #[]] w fun e w' => e = .returned (.bool false) ∧ Below w.heap.size w w' := by
  have T := up3 w (.cells #[.pointer q] 23) (.cells #[.func (.func 30) #[] #[]] 65) (.cells #[.bool false] 4)
  have hM := fun w1 hb => z_made q w1 (h.below hb)
  have b3 := Box.new ((w.alloc (.cells #[.pointer q] 23)).alloc (.cells #[.func (.func 30) #[] #[]] 65)) 4 #[.bool false]
  simp only [World.size_alloc] at b3
  have c3 := b3.cell 0
  have f3 := b3.thaw 0
  go_enter Try.func29, Try.ntmps29
  go_wp2_with (go_at_call 37; (with_reducible refine (hM _ T).mono ?_); rintro e w1 ⟨rfl, rfl⟩)
  exact bodyPost_ret (v := .bool false) (by simp [results, Try.results29, go_sem, c3]) rfl ⟨rfl, T⟩
theorem z_put (q : Pt) (k : Ky) (v : Int) (w : World) (h : Zt q w) : Calls Try.prog 13 #[.pointer q, ky k, eU v] w fun e w' => e = .returned (.int .i64 1) ∧ Below w.heap.size w w' := by
  have T := up3 w (.cells #[.pointer q] 23) (.cells #[eU k.1, eI k.2] 32) (.cells #[eU v] 30)
  have hM := fun w1 hb => z_made q w1 (h.below hb)
  go_enter Try.func13, Try.ntmps13
  go_wp2_with (go_at_call 37; (with_reducible refine (hM _ T).mono ?_); rintro e w1 ⟨rfl, rfl⟩)
  go_ret
  exact ⟨rfl, T⟩
theorem z_drop (q : Pt) (k : Ky) (w : World) (h : Zt q w) : Calls Try.prog 14 #[.pointer q, ky k] w fun e w' => e = .returned (.int .i64 1) ∧ Below w.heap.size w w' := by
  have T := up2 w (.cells #[.pointer q] 23) (.cells #[eU k.1, eI k.2] 32)
  have hM := fun w1 hb => z_made q w1 (h.below hb)
  go_enter Try.func14, Try.ntmps14
  go_wp2_with (go_at_call 37; (with_reducible refine (hM _ T).mono ?_); rintro e w1 ⟨rfl, rfl⟩)
  go_ret
  exact ⟨rfl, T⟩
theorem z_copy (q : Pt) (w : World) (h : Zt q w) : Calls Try.prog 12 #[.pointer q] w fun e w' => e = .returned (.pointer none) ∧ w = w' := by
  have hM := z_made q w h
  go_enter Try.func12, Try.ntmps12
  go_wp2_with (go_at_call 37; (with_reducible refine hM.mono ?_); rintro e w1 ⟨rfl, rfl⟩)
  go_ret
  exact ⟨rfl, rfl⟩
theorem new_no1 (w : World) : Calls Try.prog 31 #[.nilFunc, .func (.func 32) #[] #[]] w fun e w' => e = .returned (.pointer none) ∧ w = w' := by
  have hn : ∀ w : World, (binOp BinOp.eql 53 .nilFunc .nilFunc).run Try.prog w = .ok (.bool true) w := fun _ => by kernel_rfl
  go_enter Try.func31, Try.ntmps31
  go_wp2
  go_ret
  exact ⟨rfl, rfl⟩
theorem new_no2 (w : World) : Calls Try.prog 31 #[.func (.func 33) #[] #[], .nilFunc] w fun e w' => e = .returned (.pointer none) ∧ w = w' := by
  have hn : ∀ w : World, (binOp BinOp.eql 53 (.func (.func 33) #[] #[]) .nilFunc).run Try.prog w = .ok (.bool false) w := fun _ => by kernel_rfl
  have hm : ∀ w : World, (binOp BinOp.eql 54 .nilFunc .nilFunc).run Try.prog w = .ok (.bool true) w := fun _ => by kernel_rfl
  go_enter Try.func31, Try.ntmps31
  go_wp2
  go_ret
  exact ⟨rfl, rfl⟩
/-- Its items: none. -/
theorem z_each (q : Pt) (n Cb n₀ : Nat) (w : World) (h : Zt q w) (hn : n₀ ≤ w.heap.size) (h6 : 6 ≤ n) (hC : Box w Cb #[.pointer q] 23) :
    SeqC n 52 #[.pointer (some ⟨Cb, 0, none⟩)] (fun m : It => #[ky m.1, eU m.2]) n₀ (fun ys => ys = []) (fun pre => pre ≠ [] ∧ pre <+: []) (fun pre x => pre ++ [x] <+: []) w :=
  each1T_seq n Cb n₀ q none .nil w hn h6 hC (fun w1 hb => z_top q w1 (h.below hb)) rfl
end Go.Proofs.Ytjfpemkdidoacaa
