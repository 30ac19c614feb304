/- PacketOrder: its walk. Condition: the library's table of powers of ten holds them. -/
import Derived.Test.YtdmgalcfgignpaaDoorPkW
import Derived.Test.YtdmgalcfgignpaaDoorGC
import Derived.Deep.RegionHeld3
namespace Go.Proofs.YtdmgalcfgignpaaDoor
open Go.RowKit W
set_option linter.unusedVariables false
/-- A packet lies in a block of its own. -/
abbrev PBox (w : World) (B : Nat) (p : Pk) : Prop := Box w B #[.int .u64 p.id, .int .i64 p.cls, .int .i64 p.len, .int .u64 p.tick] 24
/-- Its four cells. -/
abbrev PCells (w : World) (B : Nat) (p : Pk) : Prop :=
  w.cell? ⟨B, 0, none⟩ = some (.int .u64 p.id) ∧ w.cell? ⟨B, 1, none⟩ = some (.int .i64 p.cls) ∧ w.cell? ⟨B, 2, none⟩ = some (.int .i64 p.len) ∧ w.cell? ⟨B, 3, none⟩ = some (.int .u64 p.tick)
theorem PBox.cells {w : World} {B : Nat} {p : Pk} (h : PBox w B p) : PCells w B p := ⟨h.cell 0, h.cell 1, h.cell 2, h.cell 3⟩
theorem keep3 {w : World} {A B C : Nat} {a b c : Pk} (h : PBox w A a) (k : PBox w B b) (l : PBox w C c) : w.cell? ⟨A, 0, none⟩ = some (.int .u64 a.id) ∧ w.cell? ⟨A, 1, none⟩ = some (.int .i64 a.cls) ∧ w.cell? ⟨A, 2, none⟩ = some (.int .i64 a.len) ∧ w.cell? ⟨A, 3, none⟩ = some (.int .u64 a.tick) ∧ w.cell? ⟨B, 0, none⟩ = some (.int .u64 b.id) ∧ w.cell? ⟨B, 1, none⟩ = some (.int .i64 b.cls) ∧ w.cell? ⟨B, 2, none⟩ = some (.int .i64 b.len) ∧ w.cell? ⟨B, 3, none⟩ = some (.int .u64 b.tick) ∧ w.cell? ⟨C, 0, none⟩ = some (.int .u64 c.id) ∧ w.cell? ⟨C, 1, none⟩ = some (.int .i64 c.cls) ∧ w.cell? ⟨C, 2, none⟩ = some (.int .i64 c.len) ∧ w.cell? ⟨C, 3, none⟩ = some (.int .u64 c.tick) :=
  ⟨Box.cell h 0, Box.cell h 1, Box.cell h 2, Box.cell h 3, Box.cell k 0, Box.cell k 1, Box.cell k 2, Box.cell k 3, Box.cell l 0, Box.cell l 1, Box.cell l 2, Box.cell l 3⟩
set_option maxHeartbeats 8000000 in
set_option maxRecDepth 100000 in
theorem PacketOrder_core (a b c : Pk) (ab ba bc ac : Bool) (w : World) (ht : Tab w)
    (hA : ∀ w, Tab w → Calls Tryd.prog 12 #[] w fun e w' => e = .returned (.bool true) ∧ Below w.heap.size w w')
    (hab : ∀ w, Calls Tryd.prog 20 #[.agg #[.int .u64 a.id, .int .i64 a.cls, .int .i64 a.len, .int .u64 a.tick], .agg #[.int .u64 b.id, .int .i64 b.cls, .int .i64 b.len, .int .u64 b.tick]] w fun e w' => e = .returned (.bool ab) ∧ Below w.heap.size w w')
    (hbc : ∀ w, Calls Tryd.prog 20 #[.agg #[.int .u64 b.id, .int .i64 b.cls, .int .i64 b.len, .int .u64 b.tick], .agg #[.int .u64 c.id, .int .i64 c.cls, .int .i64 c.len, .int .u64 c.tick]] w fun e w' => e = .returned (.bool bc) ∧ Below w.heap.size w w')
    (hac : ∀ w, Calls Tryd.prog 20 #[.agg #[.int .u64 a.id, .int .i64 a.cls, .int .i64 a.len, .int .u64 a.tick], .agg #[.int .u64 c.id, .int .i64 c.cls, .int .i64 c.len, .int .u64 c.tick]] w fun e w' => e = .returned (.bool ac) ∧ Below w.heap.size w w')
    (haa : ∀ w, Calls Tryd.prog 20 #[.agg #[.int .u64 a.id, .int .i64 a.cls, .int .i64 a.len, .int .u64 a.tick], .agg #[.int .u64 a.id, .int .i64 a.cls, .int .i64 a.len, .int .u64 a.tick]] w fun e w' => e = .returned (.bool false) ∧ Below w.heap.size w w')
    (hba : ∀ w, Calls Tryd.prog 20 #[.agg #[.int .u64 b.id, .int .i64 b.cls, .int .i64 b.len, .int .u64 b.tick], .agg #[.int .u64 a.id, .int .i64 a.cls, .int .i64 a.len, .int .u64 a.tick]] w fun e w' => e = .returned (.bool ba) ∧ Below w.heap.size w w')
    (hcase : (ab = true ∧ ba = false ∧ (a.tick == b.tick) = false ∧ decide (b.tick ≤ a.tick) = false) ∨ (ab = false ∧ ba = true ∧ (a.tick == b.tick) = false ∧ decide (b.tick ≤ a.tick) = true) ∨
      (ab = true ∧ ba = false ∧ (a.tick == b.tick) = true ∧ (a.id == b.id) = false ∧ decide (b.tick ≤ a.tick) = true) ∨ (ab = false ∧ ba = false ∧ (a.tick == b.tick) = true ∧ (a.id == b.id) = true ∧ decide (b.tick ≤ a.tick) = true) ∨
      (ab = false ∧ ba = true ∧ (a.tick == b.tick) = true ∧ (a.id == b.id) = false ∧ decide (b.tick ≤ a.tick) = true))
    (hcase2 : ab = false ∨ bc = false ∨ (bc = true ∧ ac = true)) :
    Calls Tryd.prog 6 #[.agg #[.int .u64 a.id, .int .i64 a.cls, .int .i64 a.len, .int .u64 a.tick], .agg #[.int .u64 b.id, .int .i64 b.cls, .int .i64 b.len, .int .u64 b.tick], .agg #[.int .u64 c.id, .int .i64 c.cls, .int .i64 c.len, .int .u64 c.tick]] w fun e w' => e = .returned (.bool true) ∧ Below w.heap.size w w' := by
  have B1 : PBox (((w.alloc (.cells #[.int .u64 a.id, .int .i64 a.cls, .int .i64 a.len, .int .u64 a.tick] 24)).alloc (.cells #[.int .u64 b.id, .int .i64 b.cls, .int .i64 b.len, .int .u64 b.tick] 24)).alloc (.cells #[.int .u64 c.id, .int .i64 c.cls, .int .i64 c.len, .int .u64 c.tick] 24)) w.heap.size a := ((Box.new w 24 #[.int .u64 a.id, .int .i64 a.cls, .int .i64 a.len, .int .u64 a.tick]).alloc _).alloc _
  have B2 : PBox (((w.alloc (.cells #[.int .u64 a.id, .int .i64 a.cls, .int .i64 a.len, .int .u64 a.tick] 24)).alloc (.cells #[.int .u64 b.id, .int .i64 b.cls, .int .i64 b.len, .int .u64 b.tick] 24)).alloc (.cells #[.int .u64 c.id, .int .i64 c.cls, .int .i64 c.len, .int .u64 c.tick] 24)) (w.heap.size + 1) b := by
    have h := (Box.new (w.alloc (.cells #[.int .u64 a.id, .int .i64 a.cls, .int .i64 a.len, .int .u64 a.tick] 24)) 24 #[.int .u64 b.id, .int .i64 b.cls, .int .i64 b.len, .int .u64 b.tick]).alloc (.cells #[.int .u64 c.id, .int .i64 c.cls, .int .i64 c.len, .int .u64 c.tick] 24)
    simpa using h
  have B3 : PBox (((w.alloc (.cells #[.int .u64 a.id, .int .i64 a.cls, .int .i64 a.len, .int .u64 a.tick] 24)).alloc (.cells #[.int .u64 b.id, .int .i64 b.cls, .int .i64 b.len, .int .u64 b.tick] 24)).alloc (.cells #[.int .u64 c.id, .int .i64 c.cls, .int .i64 c.len, .int .u64 c.tick] 24)) (w.heap.size + 1 + 1) c := by
    have h := Box.new ((w.alloc (.cells #[.int .u64 a.id, .int .i64 a.cls, .int .i64 a.len, .int .u64 a.tick] 24)).alloc (.cells #[.int .u64 b.id, .int .i64 b.cls, .int .i64 b.len, .int .u64 b.tick] 24)) 24 #[.int .u64 c.id, .int .i64 c.cls, .int .i64 c.len, .int .u64 c.tick]
    simpa using h
  have T := up3 w (.cells #[.int .u64 a.id, .int .i64 a.cls, .int .i64 a.len, .int .u64 a.tick] 24) (.cells #[.int .u64 b.id, .int .i64 b.cls, .int .i64 b.len, .int .u64 b.tick] 24) (.cells #[.int .u64 c.id, .int .i64 c.cls, .int .i64 c.len, .int .u64 c.tick] 24)
  go_enter Tryd.func6, Tryd.ntmps6
  go_upto_region 1 with (fail)
  generalize ((w.alloc (.cells #[.int .u64 a.id, .int .i64 a.cls, .int .i64 a.len, .int .u64 a.tick] 24)).alloc (.cells #[.int .u64 b.id, .int .i64 b.cls, .int .i64 b.len, .int .u64 b.tick] 24)).alloc (.cells #[.int .u64 c.id, .int .i64 c.cls, .int .i64 c.len, .int .u64 c.tick] 24) = W0 at B1 B2 B3 T ⊢
  go_upto_region 3 with (go_at_call 12; (with_reducible refine (hA _ (ht.below T)).mono ?_); rintro e w1 ⟨rfl, hb⟩; replace B1 := Box.below B1 hb; replace B2 := Box.below B2 hb; replace B3 := Box.below B3 hb; replace T := ups T hb T.size; clear hb)
  obtain ⟨a0, a1, a2, a3, b0, b1, b2, b3, c0, c1, c2, c3⟩ := keep3 B1 B2 B3
  go_region_held3 (fun w' => w'.cell? ⟨w.heap.size, 0, none⟩ = some (.int .u64 a.id) ∧ w'.cell? ⟨w.heap.size, 1, none⟩ = some (.int .i64 a.cls) ∧ w'.cell? ⟨w.heap.size, 2, none⟩ = some (.int .i64 a.len) ∧ w'.cell? ⟨w.heap.size, 3, none⟩ = some (.int .u64 a.tick) ∧ w'.cell? ⟨w.heap.size + 1, 0, none⟩ = some (.int .u64 b.id) ∧ w'.cell? ⟨w.heap.size + 1, 1, none⟩ = some (.int .i64 b.cls) ∧ w'.cell? ⟨w.heap.size + 1, 2, none⟩ = some (.int .i64 b.len) ∧ w'.cell? ⟨w.heap.size + 1, 3, none⟩ = some (.int .u64 b.tick) ∧ w'.cell? ⟨w.heap.size + 1 + 1, 0, none⟩ = some (.int .u64 c.id) ∧ w'.cell? ⟨w.heap.size + 1 + 1, 1, none⟩ = some (.int .i64 c.cls) ∧ w'.cell? ⟨w.heap.size + 1 + 1, 2, none⟩ = some (.int .i64 c.len) ∧ w'.cell? ⟨w.heap.size + 1 + 1, 3, none⟩ = some (.int .u64 c.tick))
    (exact keep3 B1 B2 B3)
    (first
      | (go_at_call 20; (with_reducible refine (hab _).mono ?_); rintro e w2 ⟨rfl, hb⟩; (first | replace hb := undrew hb | replace hb := undrewN hb | skip); replace B1 := Box.below B1 hb; replace B2 := Box.below B2 hb; replace B3 := Box.below B3 hb; replace T := ups T hb T.size; clear hb)
      | (go_at_call 20; (with_reducible refine (hbc _).mono ?_); rintro e w3 ⟨rfl, hb⟩; (first | replace hb := undrew hb | replace hb := undrewN hb | skip); replace B1 := Box.below B1 hb; replace B2 := Box.below B2 hb; replace B3 := Box.below B3 hb; replace T := ups T hb T.size; clear hb)
      | (go_at_call 20; (with_reducible refine (hac _).mono ?_); rintro e w4 ⟨rfl, hb⟩; (first | replace hb := undrew hb | replace hb := undrewN hb | skip); replace B1 := Box.below B1 hb; replace B2 := Box.below B2 hb; replace B3 := Box.below B3 hb; replace T := ups T hb T.size; clear hb))
  clear hab hbc hac a0 a1 a2 a3 b0 b1 b2 b3 c0 c1 c2 c3
  obtain ⟨a0, a1, a2, a3, b0, b1, b2, b3, c0, c1, c2, c3⟩ := keep3 B1 B2 B3
  rcases hcase with ⟨rfl, rfl, e1, e3⟩ | ⟨rfl, rfl, e1, e3⟩ | ⟨rfl, rfl, e1, e2, e3⟩ | ⟨rfl, rfl, e1, e2, e3⟩ | ⟨rfl, rfl, e1, e2, e3⟩
  all_goals
    (rcases hcase2 with h | rfl | ⟨rfl, rfl⟩ <;> first
      | (exfalso; cases h; done)
      | ((try clear h)
         go_wp2_with (first
           | (go_at_call 20; (with_reducible refine (haa _).mono ?_); rintro e wn ⟨rfl, hb⟩; replace B1 := Box.below B1 hb; replace B2 := Box.below B2 hb; replace B3 := Box.below B3 hb; replace T := ups T hb T.size; clear hb; obtain ⟨_, _, _, _, _, _, _, _, _, _, _, _⟩ := keep3 B1 B2 B3)
           | (go_at_call 20; (with_reducible refine (hba _).mono ?_); rintro e wn ⟨rfl, hb⟩; replace B1 := Box.below B1 hb; replace B2 := Box.below B2 hb; replace B3 := Box.below B3 hb; replace T := ups T hb T.size; clear hb; obtain ⟨_, _, _, _, _, _, _, _, _, _, _, _⟩ := keep3 B1 B2 B3))
         go_ret
         exact ⟨rfl, T⟩
         )
      )
theorem bef_trans {i t j u k v : Int} (h : bef i t j u = true) (h2 : bef j u k v = true) : bef i t k v = true := by
  unfold bef at *
  split at h <;> split at h2 <;> split <;> simp at h h2 ⊢ <;> omega
theorem bef_self (i t : Int) : bef i t i t = false := by unfold bef; simp
theorem PacketOrder_walk (a b c : Pk) (w : World) (ht : Tab w) :
    Calls Tryd.prog 6 #[.agg #[.int .u64 a.id, .int .i64 a.cls, .int .i64 a.len, .int .u64 a.tick], .agg #[.int .u64 b.id, .int .i64 b.cls, .int .i64 b.len, .int .u64 b.tick], .agg #[.int .u64 c.id, .int .i64 c.cls, .int .i64 c.len, .int .u64 c.tick]] w fun e w' => e = .returned (.bool true) ∧ Below w.heap.size w w' := by
  refine PacketOrder_core a b c (bef a.id a.tick b.id b.tick) (bef b.id b.tick a.id a.tick) (bef b.id b.tick c.id c.tick) (bef a.id a.tick c.id c.tick) w ht (fun w h => awake_any w h)
    (fun w => Before_any _ _ _ _ _ _ _ _ w) (fun w => Before_any _ _ _ _ _ _ _ _ w) (fun w => Before_any _ _ _ _ _ _ _ _ w) (fun w => ?_) (fun w => Before_any _ _ _ _ _ _ _ _ w) ?_ ?_
  · have h := Before_any a.id a.cls a.len a.tick a.id a.cls a.len a.tick w
    rw [bef_self] at h
    exact h
  · rcases Int.lt_trichotomy a.tick b.tick with h | h | h
    · exact .inl ⟨by rw [bef_ne (by omega)]; simpa using h, by rw [bef_ne (by omega)]; simp; omega, by simp; omega, by simp; omega⟩
    · rcases Int.lt_trichotomy a.id b.id with k | k | k
      · exact .inr (.inr (.inl ⟨by rw [bef_eq h]; simpa using k, by rw [bef_eq h.symm]; simp; omega, by simp [h], by simp; omega, by simp; omega⟩))
      · exact .inr (.inr (.inr (.inl ⟨by rw [bef_eq h]; simp; omega, by rw [bef_eq h.symm]; simp; omega, by simp [h], by simp [k], by simp; omega⟩)))
      · exact .inr (.inr (.inr (.inr ⟨by rw [bef_eq h]; simp; omega, by rw [bef_eq h.symm]; simpa using k, by simp [h], by simp; omega, by simp; omega⟩)))
    · exact .inr (.inl ⟨by rw [bef_ne (by omega)]; simp; omega, by rw [bef_ne (by omega)]; simpa using h, by simp; omega, by simp; omega⟩)
  · cases hab : bef a.id a.tick b.id b.tick with
    | false => exact .inl rfl
    | true =>
      cases hbc : bef b.id b.tick c.id c.tick with
      | false => exact .inr (.inl rfl)
      | true => exact .inr (.inr ⟨rfl, bef_trans hab hbc⟩)
end Go.Proofs.YtdmgalcfgignpaaDoor
