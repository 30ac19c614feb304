/- A command, a reply: what is written of it. No condition. -/
import Derived.Test.YtamjnekdfhocdaaDoorCmE
import Derived.Test.YtamjnekdfhocdaaDoorCmB
namespace Go.Proofs.YtamjnekdfhocdaaDoor
open Go.ChangeShapes Go.WideShapes Go.Deep Go.RowKit
set_option linter.unusedVariables false
set_option linter.unusedSimpArgs false
/-- A reply's cells. -/
def rpV (r : Rp) : Array Value := #[.int .i64 r.code, .int .u64 (r.now : Int), .int .u64 (r.t0 : Int), .int .u64 (r.t1 : Int), .int .u64 (r.t2 : Int), .int .u64 (r.t3 : Int), .int .u64 (r.t4 : Int), .int .u64 (r.t5 : Int), .int .u64 (r.t6 : Int), .int .u64 (r.t7 : Int)]
theorem rpV_size (r : Rp) : (rpV r).size = 10 := rfl
theorem rpV_one (r : Rp) : (rpV r).all (·.oneCell') = true := by kernel_rfl
theorem rpV_all (r : Rp) : (rpV r).extract 0 (0 + 10) = rpV r := by kernel_rfl
theorem spl10 (c d : Rp) : spl (rpV c) 0 (rpV d).toList = rpV d := by kernel_rfl
theorem size37 : (Tryd.prog.info? 37).map (·.size) = some 10 := by kernel_rfl
theorem zero37 : (Tryd.prog.info? 37).map (fun i => i.zero) = some (some (.agg (rpV ⟨0, 0, 0, 0, 0, 0, 0, 0, 0, 0⟩))) := by kernel_rfl
theorem rpV_0 (r : Rp) : (rpV r)[0]? = some (.int .i64 r.code) := rfl
theorem rpV_1 (r : Rp) : (rpV r)[1]? = some (.int .u64 (r.now : Int)) := rfl
theorem rpV_2 (r : Rp) : (rpV r)[2]? = some (.int .u64 (r.t0 : Int)) := rfl
theorem rpV_3 (r : Rp) : (rpV r)[3]? = some (.int .u64 (r.t1 : Int)) := rfl
theorem rpV_4 (r : Rp) : (rpV r)[4]? = some (.int .u64 (r.t2 : Int)) := rfl
theorem rpV_5 (r : Rp) : (rpV r)[5]? = some (.int .u64 (r.t3 : Int)) := rfl
theorem rpV_6 (r : Rp) : (rpV r)[6]? = some (.int .u64 (r.t4 : Int)) := rfl
theorem rpV_7 (r : Rp) : (rpV r)[7]? = some (.int .u64 (r.t5 : Int)) := rfl
theorem rpV_8 (r : Rp) : (rpV r)[8]? = some (.int .u64 (r.t6 : Int)) := rfl
theorem rpV_9 (r : Rp) : (rpV r)[9]? = some (.int .u64 (r.t7 : Int)) := rfl
/-- Each of those leads to what has those bytes. -/
def WrL (B : Nat) (c : Array Value) (t : TypeId) : List Value → List (List UInt8) → Prop
  | [], _ => True
  | v :: vs, b :: bl => Wr v B c t b ∧ WrL B c t vs bl
  | _ :: _, [] => False
theorem WrL.at {B : Nat} {c : Array Value} {t : TypeId} : ∀ {vs : List Value} {bl : List (List UInt8)}, WrL B c t vs bl → ∀ (j : Nat) (v : Value), vs[j]? = some v → ∃ b, bl[j]? = some b ∧ Wr v B c t b
  | [], _, _, j, v, h => by simp at h
  | x :: vs, b :: bl, h, 0, v, hv => ⟨b, rfl, by
      have e : x = v := by simpa using hv
      exact e ▸ h.1⟩
  | x :: vs, b :: bl, h, j + 1, v, hv => by
    obtain ⟨b', h1, h2⟩ := h.2.at j v (by simpa using hv)
    exact ⟨b', by simpa using h1, h2⟩
theorem wr_all {T : TypeId} {p : Value} {B : Nat} {c : Array Value} {t : TypeId} {row : Array Value} {bl : List (List UInt8)} {n : Nat} {b : List UInt8} (h96 : T ≠ 96) (h98 : T ≠ 98) (h100 : T ≠ 100) (h101 : T ≠ 101) (hn : row.toList.length = n) (hsm : n < 1000)
    (hp : ∀ w, Calls Tryd.prog 48 #[.iface T p] w fun e w' => e = .returned (.slice (some ⟨w.heap.size, 0, none⟩) n n) ∧ Box w' w.heap.size row 20 ∧ Below w.heap.size w w')
    (hw : WrL B c t row.toList bl) (hb : (bl.take n).flatten = b) : Wr (.iface T p) B c t b := by
  have h := wr_rec (c := c) (B := B) (t := t) (vs := row.toList) (bl := bl) h96 h98 h100 h101 (fun w => by rw [hn, Array.toArray_toList]; exact hp w) hw.at (by omega)
  rw [hn, hb] at h
  exact h
theorem wr_cur {B k : Nat} {c : Array Value} {t : TypeId} {a0 a1 a2 : Nat} (h0 : a0 < 18446744073709551616) (h1 : a1 < 18446744073709551616) (h2 : a2 < 18446744073709551616)
    (c0 : c[k]? = some (.int .u64 (a0 : Int))) (c1 : c[k + 1]? = some (.int .u64 (a1 : Int))) (c2 : c[k + 2]? = some (.int .u64 (a2 : Int))) : Wr (.iface 116 (ptrAt B k)) B c t (encL [.u a0, .u a1, .u a2]) :=
  wr_all (row := row116 B k) (n := 3) (bl := [numL a0, numL a1, numL a2]) (by decide) (by decide) (by decide) (by decide) rfl (by decide) (parts_116 B k) ⟨wr_u h0 c0, wr_u h1 c1, wr_u h2 c2, trivial⟩ rfl
theorem wr_sta {B : Nat} {r : Rp} {t : TypeId} (h : r.ok) : Wr (.iface 117 (ptrAt B 2)) B (rpV r) t (encL [.u r.t0, .u r.t1, .u r.t2, .u r.t3, .u r.t4, .u r.t5, .u r.t6, .u r.t7]) := by
  unfold Rp.ok hasR at h
  simp only [List.forall_mem_cons, List.not_mem_nil, false_implies, implies_true, and_true] at h
  obtain ⟨q0, q1, q2, q3, q4, q5, q6, q7, q8, q9⟩ := h
  exact wr_all (row := row117 B 2) (n := 8) (bl := [numL r.t0, numL r.t1, numL r.t2, numL r.t3, numL r.t4, numL r.t5, numL r.t6, numL r.t7]) (by decide) (by decide) (by decide) (by decide) rfl (by decide) (parts_117 B 2)
    ⟨wr_u q2 (rpV_2 r), wr_u q3 (rpV_3 r), wr_u q4 (rpV_4 r), wr_u q5 (rpV_5 r), wr_u q6 (rpV_6 r), wr_u q7 (rpV_7 r), wr_u q8 (rpV_8 r), wr_u q9 (rpV_9 r), trivial⟩ rfl
theorem wr_rep {B : Nat} {r : Rp} {t : TypeId} (h : r.ok) : Wr (.iface 80 (ptrAt B 0)) B (rpV r) t (encL (hasR r)) := by
  have hs := wr_sta (B := B) (t := t) h
  unfold Rp.ok hasR at h
  simp only [List.forall_mem_cons, List.not_mem_nil, false_implies, implies_true, and_true] at h
  obtain ⟨q0, q1, q2, q3, q4, q5, q6, q7, q8, q9⟩ := h
  exact wr_all (row := row80 B 0) (n := 3) (bl := [numL (zg r.code), numL r.now, encL [.u r.t0, .u r.t1, .u r.t2, .u r.t3, .u r.t4, .u r.t5, .u r.t6, .u r.t7]]) (by decide) (by decide) (by decide) (by decide) rfl (by decide) (parts_80 B 0)
    ⟨wr_e q0 (rpV_0 r), wr_u q1 (rpV_1 r), hs, trivial⟩ (by simp [hasR, encL, encF])
/-- All that a command has, written by its kind's pointer. -/
theorem wr_cmd {B : Nat} {C : Cm} {t : TypeId} (h : C.ok) (h1 : 1 ≤ C.k) (h7 : C.k ≤ 7) : Wr (hadV B C.k) B (cmV C) t (encL (hasC C)) := by
  obtain ⟨hk, h⟩ := h
  simp only [List.forall_mem_cons, List.not_mem_nil, false_implies, implies_true, and_true] at h
  obtain ⟨a1, a2, a3, a4, a5, a7, a8, a9, a10, a11, a12, a13, a14, a15, a16, a17, a18, a19, a20, a21, a22, a23⟩ := h
  have r0 : Wr (.iface 116 (ptrAt B 7)) B (cmV C) t _ := wr_cur a7 a8 a9 (cmV_7 C) (cmV_8 C) (cmV_9 C)
  have r1 : Wr (.iface 116 (ptrAt B 10)) B (cmV C) t _ := wr_cur a10 a11 a12 (cmV_10 C) (cmV_11 C) (cmV_12 C)
  have r2 : Wr (.iface 116 (ptrAt B 13)) B (cmV C) t _ := wr_cur a13 a14 a15 (cmV_13 C) (cmV_14 C) (cmV_15 C)
  rcases (by omega : C.k = 1 ∨ C.k = 2 ∨ C.k = 3 ∨ C.k = 4 ∨ C.k = 5 ∨ C.k = 6 ∨ C.k = 7) with e | e | e | e | e | e | e
  · have eh : hasC C = [.u C.rate, .i C.most, .u C.hor] := by unfold hasC; rw [if_pos e]
    rw [eh, show hadV B C.k = .iface 105 (ptrAt B 1) by rw [e]; rfl]
    exact wr_all (row := row105 B 1) (n := 3) (bl := [numL C.rate, numL (zg C.most), numL C.hor]) (by decide) (by decide) (by decide) (by decide) rfl (by decide) (parts_105 B 1) ⟨wr_u a1 (cmV_1 C), wr_i a2 (cmV_2 C), wr_u a3 (cmV_3 C), trivial⟩ rfl
  · have eh : hasC C = [.i C.si, .i C.sq, .b C.lf, .u C.r0, .u C.r1, .u C.r2, .u C.s0, .u C.s1, .u C.s2, .u C.u0, .u C.u1, .u C.u2, .i C.pk, .i C.bt] := by unfold hasC; rw [if_neg (by omega), if_pos e]
    rw [eh, show hadV B C.k = .iface 106 (ptrAt B 4) by rw [e]; rfl]
    exact wr_all (row := row106 B 4) (n := 8) (bl := [numL (zg C.si), numL (zg C.sq), [if C.lf then 1 else 0], encL [.u C.r0, .u C.r1, .u C.r2], encL [.u C.s0, .u C.s1, .u C.s2], encL [.u C.u0, .u C.u1, .u C.u2], numL (zg C.pk), numL (zg C.bt)]) (by decide) (by decide) (by decide) (by decide) rfl (by decide) (parts_106 B 4)
      ⟨wr_i a4 (cmV_4 C), wr_i a5 (cmV_5 C), wr_b trivial (cmV_6 C), r0, r1, r2, wr_i a16 (cmV_16 C), wr_i a17 (cmV_17 C), trivial⟩ (by simp [encL, encF])
  · have eh : hasC C = [.i C.si, .u C.r0, .u C.r1, .u C.r2, .u C.s0, .u C.s1, .u C.s2, .u C.u0, .u C.u1, .u C.u2] := by unfold hasC; rw [if_neg (by omega), if_neg (by omega), if_pos e]
    rw [eh, show hadV B C.k = .iface 107 (ptrAt B 4) by rw [e]; rfl]
    exact wr_all (row := row107 B 4) (n := 4) (bl := [numL (zg C.si), encL [.u C.r0, .u C.r1, .u C.r2], encL [.u C.s0, .u C.s1, .u C.s2], encL [.u C.u0, .u C.u1, .u C.u2]]) (by decide) (by decide) (by decide) (by decide) rfl (by decide) (parts_107 B 4)
      ⟨wr_i a4 (cmV_4 C), r0, r1, r2, trivial⟩ (by simp [encL, encF])
  · have eh : hasC C = [.i C.id] := by unfold hasC; rw [if_neg (by omega), if_neg (by omega), if_neg (by omega), if_neg (by omega), if_neg (by omega)]
    rw [eh, show hadV B C.k = .iface 98 (ptrAt B 18) by rw [e]; rfl]
    have := wr_i (B := B) (t := t) a18 (cmV_18 C)
    rw [← List.append_nil (numL (zg C.id))] at this
    exact this
  · have eh : hasC C = [.u C.pid, .i C.pc, .i C.pl, .u C.pa] := by unfold hasC; rw [if_neg (by omega), if_neg (by omega), if_neg (by omega), if_pos e]
    rw [eh, show hadV B C.k = .iface 108 (ptrAt B 19) by rw [e]; rfl]
    exact wr_all (row := row108 B 19) (n := 4) (bl := [numL C.pid, numL (zg C.pc), numL (zg C.pl), numL C.pa]) (by decide) (by decide) (by decide) (by decide) rfl (by decide) (parts_108 B 19) ⟨wr_u a19 (cmV_19 C), wr_i a20 (cmV_20 C), wr_i a21 (cmV_21 C), wr_u a22 (cmV_22 C), trivial⟩ rfl
  · have eh : hasC C = [.u C.to] := by unfold hasC; rw [if_neg (by omega), if_neg (by omega), if_neg (by omega), if_neg (by omega), if_pos e]
    rw [eh, show hadV B C.k = .iface 96 (ptrAt B 23) by rw [e]; rfl]
    have := wr_u (B := B) (t := t) a23 (cmV_23 C)
    rw [← List.append_nil (numL C.to)] at this
    exact this
  · have eh : hasC C = [.i C.id] := by unfold hasC; rw [if_neg (by omega), if_neg (by omega), if_neg (by omega), if_neg (by omega), if_neg (by omega)]
    rw [eh, show hadV B C.k = .iface 98 (ptrAt B 18) by rw [e]; rfl]
    have := wr_i (B := B) (t := t) a18 (cmV_18 C)
    rw [← List.append_nil (numL (zg C.id))] at this
    exact this
end Go.Proofs.YtamjnekdfhocdaaDoor
