/- What the document's own Text answers: a packet's text, or none. No condition. -/
import Derived.Test.YtdmgalcfgignpaaDoorRpD
import Derived.Test.YtdmgalcfgignpaaDoorPkO
namespace Go.Proofs.YtdmgalcfgignpaaDoor
open Go.RowKit W
set_option linter.unusedVariables false

set_option maxHeartbeats 4000000 in
set_option maxRecDepth 100000 in
theorem RText_core (p : Pk) (a0 a1 a2 a3 D1 D2 D3 D4 D5 D6 : ByteArray) (w : World) (gc : 0 ≤ p.cls) (gl : 0 ≤ p.len) (ec : IntKind.u64.wrap p.cls = p.cls) (el : IntKind.u64.wrap p.len = p.len)
    (h0 : ∀ w, Calls Tryd.prog 25 #[.int .u64 p.id] w fun e w' => e = .returned (.string a0) ∧ Below w.heap.size w w')
    (h1 : ∀ w, Calls Tryd.prog 25 #[.int .u64 p.cls] w fun e w' => e = .returned (.string a1) ∧ Below w.heap.size w w')
    (h2 : ∀ w, Calls Tryd.prog 25 #[.int .u64 p.len] w fun e w' => e = .returned (.string a2) ∧ Below w.heap.size w w')
    (h3 : ∀ w, Calls Tryd.prog 25 #[.int .u64 p.tick] w fun e w' => e = .returned (.string a3) ∧ Below w.heap.size w w')
    (k1 : ∀ W, (Op.stringOp .add a0 (⟨#[32]⟩ : ByteArray)).run Tryd.prog W = .ok (.string D1) W)
    (k2 : ∀ W, (Op.stringOp .add D1 a1).run Tryd.prog W = .ok (.string D2) W)
    (k3 : ∀ W, (Op.stringOp .add D2 (⟨#[32]⟩ : ByteArray)).run Tryd.prog W = .ok (.string D3) W)
    (k4 : ∀ W, (Op.stringOp .add D3 a2).run Tryd.prog W = .ok (.string D4) W)
    (k5 : ∀ W, (Op.stringOp .add D4 (⟨#[32]⟩ : ByteArray)).run Tryd.prog W = .ok (.string D5) W)
    (k6 : ∀ W, (Op.stringOp .add D5 a3).run Tryd.prog W = .ok (.string D6) W) :
    Calls Tryd.prog 9 #[.agg #[.int .u64 p.id, .int .i64 p.cls, .int .i64 p.len, .int .u64 p.tick]] w fun e w' => e = .returned (.tuple #[.string D6, .int .i64 0]) ∧ Below w.heap.size w w' := by
  have B1 : PBox (w.alloc (.cells #[.int .u64 p.id, .int .i64 p.cls, .int .i64 p.len, .int .u64 p.tick] 24)) w.heap.size p := Box.new w 24 #[.int .u64 p.id, .int .i64 p.cls, .int .i64 p.len, .int .u64 p.tick]
  have T := up1 w (.cells #[.int .u64 p.id, .int .i64 p.cls, .int .i64 p.len, .int .u64 p.tick] 24)
  go_enter Tryd.func9, Tryd.ntmps9
  go_upto_region 1 with (fail)
  generalize w.alloc (.cells #[.int .u64 p.id, .int .i64 p.cls, .int .i64 p.len, .int .u64 p.tick] 24) = W0 at B1 T ⊢
  obtain ⟨c0, c1, c2, c3⟩ := PBox.cells B1
  go_upto_region 3 with (fail)
  go_region_held3 (fun w' => w'.cell? ⟨w.heap.size, 0, none⟩ = some (.int .u64 p.id) ∧ w'.cell? ⟨w.heap.size, 1, none⟩ = some (.int .i64 p.cls) ∧ w'.cell? ⟨w.heap.size, 2, none⟩ = some (.int .i64 p.len) ∧ w'.cell? ⟨w.heap.size, 3, none⟩ = some (.int .u64 p.tick))
    (exact PBox.cells B1)
    (first
      | (go_at_call 25; (with_reducible refine (h0 _).mono ?_); rintro e w2 ⟨rfl, hb⟩; (first | replace hb := undrew hb | replace hb := undrewN hb | skip); replace B1 := Box.below B1 hb; replace T := ups T hb T.size; clear hb)
      | (go_at_call 25; (with_reducible refine (h1 _).mono ?_); rintro e w3 ⟨rfl, hb⟩; (first | replace hb := undrew hb | replace hb := undrewN hb | skip); replace B1 := Box.below B1 hb; replace T := ups T hb T.size; clear hb)
      | (go_at_call 25; (with_reducible refine (h2 _).mono ?_); rintro e w4 ⟨rfl, hb⟩; (first | replace hb := undrew hb | replace hb := undrewN hb | skip); replace B1 := Box.below B1 hb; replace T := ups T hb T.size; clear hb)
      | (go_at_call 25; (with_reducible refine (h3 _).mono ?_); rintro e w5 ⟨rfl, hb⟩; (first | replace hb := undrew hb | replace hb := undrewN hb | skip); replace B1 := Box.below B1 hb; replace T := ups T hb T.size; clear hb))
  go_wp2
  go_ret2
  exact ⟨rfl, T⟩
theorem add_of (x y : List UInt8) (hx : x.length ≤ 1000) (hy : y.length ≤ 1000) : ∀ W, (Op.stringOp .add (⟨x.toArray⟩ : ByteArray) ⟨y.toArray⟩).run Tryd.prog W = .ok (.string ⟨(x ++ y).toArray⟩) W := fun W => by
  have h := run_string_add_sum (P := Tryd.prog) (w := W) (⟨x.toArray⟩ : ByteArray) ⟨y.toArray⟩ (by simp [ByteArray.size]; omega)
  rw [bytes_append] at h
  exact h
theorem RText_good (p : Pk) (hp : p.ok) (g : p.good) (w : World) :
    Calls Tryd.prog 9 #[.agg #[.int .u64 p.id, .int .i64 p.cls, .int .i64 p.len, .int .u64 p.tick]] w fun e w' => e = .returned (.tuple #[.string ⟨(txt p).toArray⟩, .int .i64 0]) ∧ Below w.heap.size w w' := by
  obtain ⟨wi, ⟨_, wc⟩, ⟨_, wl⟩, wt⟩ := hp
  obtain ⟨gc, gl⟩ := g
  have la := dec_short p.id.toNat (by omega)
  have lb := dec_short p.cls.toNat (by omega)
  have lc := dec_short p.len.toNat (by omega)
  have ld := dec_short p.tick.toNat (by omega)
  have h := RText_core p (dec p.id.toNat) (dec p.cls.toNat) (dec p.len.toNat) (dec p.tick.toNat)
    ⟨(Lib.decDigits p.id.toNat ++ [32]).toArray⟩ ⟨(Lib.decDigits p.id.toNat ++ [32] ++ Lib.decDigits p.cls.toNat).toArray⟩ ⟨(Lib.decDigits p.id.toNat ++ [32] ++ Lib.decDigits p.cls.toNat ++ [32]).toArray⟩
    ⟨(Lib.decDigits p.id.toNat ++ [32] ++ Lib.decDigits p.cls.toNat ++ [32] ++ Lib.decDigits p.len.toNat).toArray⟩ ⟨(Lib.decDigits p.id.toNat ++ [32] ++ Lib.decDigits p.cls.toNat ++ [32] ++ Lib.decDigits p.len.toNat ++ [32]).toArray⟩
    ⟨(Lib.decDigits p.id.toNat ++ [32] ++ Lib.decDigits p.cls.toNat ++ [32] ++ Lib.decDigits p.len.toNat ++ [32] ++ Lib.decDigits p.tick.toNat).toArray⟩ w gc gl
    (by rw [IntKind.wrap_u64]; omega) (by rw [IntKind.wrap_u64]; omega) (fun w => NumberI_any _ wi w) (fun w => NumberI_any _ ⟨gc, by omega⟩ w) (fun w => NumberI_any _ ⟨gl, by omega⟩ w) (fun w => NumberI_any _ wt w)
    (add_of _ [32] (by omega) (by simp)) (add_of _ _ (by simp; omega) (by omega)) (add_of _ [32] (by simp; omega) (by simp)) (add_of _ _ (by simp; omega) (by omega)) (add_of _ [32] (by simp; omega) (by simp)) (add_of _ _ (by simp; omega) (by omega))
  have e : Lib.decDigits p.id.toNat ++ [32] ++ Lib.decDigits p.cls.toNat ++ [32] ++ Lib.decDigits p.len.toNat ++ [32] ++ Lib.decDigits p.tick.toNat = txt p := by unfold txt; simp
  rw [e] at h
  exact h
theorem RText_bad1 (p : Pk) (g : p.cls < 0) (w : World) :
    Calls Tryd.prog 9 #[.agg #[.int .u64 p.id, .int .i64 p.cls, .int .i64 p.len, .int .u64 p.tick]] w fun e w' => e = .returned (.tuple #[.string ⟨#[]⟩, .int .i64 2]) ∧ Below w.heap.size w w' := by
  go_enter Tryd.func9, Tryd.ntmps9
  go_wp2
  go_ret2
  exact ⟨rfl, up1 _ _⟩
theorem RText_bad2 (p : Pk) (g0 : 0 ≤ p.cls) (g : p.len < 0) (w : World) :
    Calls Tryd.prog 9 #[.agg #[.int .u64 p.id, .int .i64 p.cls, .int .i64 p.len, .int .u64 p.tick]] w fun e w' => e = .returned (.tuple #[.string ⟨#[]⟩, .int .i64 2]) ∧ Below w.heap.size w w' := by
  go_enter Tryd.func9, Tryd.ntmps9
  go_wp2
  go_ret2
  exact ⟨rfl, up1 _ _⟩
theorem RText_bad (p : Pk) (g : ¬ p.good) (w : World) :
    Calls Tryd.prog 9 #[.agg #[.int .u64 p.id, .int .i64 p.cls, .int .i64 p.len, .int .u64 p.tick]] w fun e w' => e = .returned (.tuple #[.string ⟨#[]⟩, .int .i64 2]) ∧ Below w.heap.size w w' := by
  by_cases gc : p.cls < 0
  · exact RText_bad1 p gc w
  · exact RText_bad2 p (by omega) (by have : ¬ (0 ≤ p.cls ∧ 0 ≤ p.len) := g; omega) w
end Go.Proofs.YtdmgalcfgignpaaDoor
