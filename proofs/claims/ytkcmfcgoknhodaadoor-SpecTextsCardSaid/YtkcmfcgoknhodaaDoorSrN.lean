/- What the document's own Number answers: a number's digits. No condition. -/
import Derived.Test.YtkcmfcgoknhodaaDoorSpC
import Derived.Lib.Walk
namespace Go.Proofs.YtkcmfcgoknhodaaDoor
open Go.RowKit Go.Lib W
set_option linter.unusedVariables false

theorem infoS : (Tryd.prog.info? 9).map (fun i => (i.zero, i.size, i.bytes)) = some (some (.string ⟨#[]⟩), 1, 16) := by kernel_rfl

theorem own_below {w w' : World} {base : Nat} {e : TypeId} {size : Nat} {v : Value} {n : Nat} {xs : List Value} (h : w.ownsRow base e size v n xs) (hb : Below w.heap.size w w') : w'.ownsRow base e size v n xs :=
  h.kept (row := none) ⟨hb.os, hb.tape, hb.output, hb.size, fun k hk _ => hb.block k hk⟩ (by cases hv : v.ownBlock <;> simp)
theorem own_some {w : World} {base : Nat} {e : TypeId} {size : Nat} {v : Value} {n : Nat} {xs : List Value} (h : w.ownsRow base e size v n xs) (hn : 0 < n) :
    ∃ g cap, v = .slice (some ⟨g, 0, none⟩) n cap ∧ base ≤ g ∧ g < w.heap.size ∧ n ≤ cap ∧ cap ≤ maxLen ∧ ∀ j u, xs[j]? = some u → w.cell? ((⟨g, 0, none⟩ : Addr).add j) = some u := by
  have hc := fun g (e : v.ownBlock = some g) => h.cells e
  have hl := h.lt
  rcases h.2 with ⟨_, h0⟩ | ⟨g, cap, cur, rfl, hb, _, hk, hm, _, _⟩
  · omega
  · exact ⟨g, cap, rfl, hb, (hl g rfl).2, hk, hm, hc g rfl⟩
theorem one_news (w : World) (x : Value) (t : TypeId) : ∀ j u, [x][j]? = some u → (w.alloc (.cells #[x] t)).cell? ((⟨w.heap.size, 0, none⟩ : Addr).add j) = some u := by
  intro j u hj
  match j, hj with
  | 0, hj =>
    have e : (w.alloc (.cells #[x] t)).cell? ⟨w.heap.size, 0, none⟩ = (#[x] : Array Value)[0]? := World.cell?_alloc_new _ _ _ _
    have a : (⟨w.heap.size, 0, none⟩ : Addr).add 0 = ⟨w.heap.size, 0, none⟩ := Lib.add_plain _ _ _
    rw [a, e]
    simpa using hj
  | j + 1, hj => simp at hj
theorem one_str (x : ByteArray) : ∀ u ∈ [Value.string x], u.oneCell' = true := by
  intro u hu
  simp only [List.mem_singleton] at hu
  subst hu; rfl
theorem drop_at (s : ByteArray) (pos : Nat) (h : pos < s.size) : s.data.toList.drop pos = s[pos]'h :: s.data.toList.drop (pos + 1) := by
  have hl : pos < s.data.toList.length := by rw [Array.length_toList]; exact h
  rw [List.drop_eq_getElem_cons hl]
  rfl
theorem drop_end (s : ByteArray) (pos : Nat) (h : ¬ pos < s.size) : s.data.toList.drop pos = [] := by
  have hl : s.data.toList.length ≤ pos := by rw [Array.length_toList]; have : s.size = s.data.size := rfl; omega
  exact List.drop_eq_nil_of_le hl

/-- The last digit, as a string. -/
def last (u : Nat) : ByteArray := ⟨#[UInt8.ofNat (48 + u % 10)]⟩
theorem bytes_append (a b : List UInt8) : (⟨a.toArray⟩ : ByteArray) ++ ⟨b.toArray⟩ = ⟨(a ++ b).toArray⟩ := by
  apply ByteArray.ext
  simp
theorem dec_size (u : Nat) (h : u < 18446744073709551616) : (dec u).size ≤ 20 := by
  have := dec_short u h
  unfold dec
  simpa [ByteArray.size] using this
theorem last_size (u : Nat) : (last u).size ≤ 1 := by simp [last, ByteArray.size]
theorem dec_small {u : Nat} (h : u < 10) : dec u = last u := by
  unfold dec last
  rw [decDigits_one h, Nat.mod_eq_of_lt h]
theorem dec_big {u : Nat} (h : ¬ u < 10) : dec u = dec (u / 10) ++ last u := by
  unfold dec last
  have e := bytes_append (decDigits (u / 10)) [UInt8.ofNat (48 + u % 10)]
  rw [show decDigits u = decDigits (u / 10) ++ [UInt8.ofNat (48 + u % 10)] by rw [decDigits, dif_neg h]]
  exact e.symm
theorem last_of (u : Nat) (w : World) : (convert 55 9 (.slice (some ⟨w.heap.size, 0, none⟩) 1 1)).run Tryd.prog (w.alloc (.cells #[.int .u8 (48 + (u : Int) % 10)] 5)) = .ok (.string (last u)) (w.alloc (.cells #[.int .u8 (48 + (u : Int) % 10)] 5)) := by
  have h := run_convert_bytes_back (P := Tryd.prog) (w.alloc (.cells #[.int .u8 (48 + (u : Int) % 10)] 5)) 55 9 5 ⟨w.heap.size, 0, none⟩ 1 [UInt8.ofNat (48 + u % 10)] Tryd.underlying55 Tryd.underlying5 Tryd.underlying9 (fun j hj => by
    obtain rfl : j = 0 := by simp at hj; omega
    have e : (w.alloc (.cells #[.int .u8 (48 + (u : Int) % 10)] 5)).cell? ⟨w.heap.size, 0, none⟩ = (#[.int .u8 (48 + (u : Int) % 10)] : Array Value)[0]? := World.cell?_alloc_new _ _ _ _
    rw [Lib.add_plain, e]
    have k := digit_of (u % 10) (by omega)
    simp only [List.getElem_cons_zero, k]
    simp)
  exact h
set_option maxHeartbeats 4000000 in
set_option maxRecDepth 100000 in
theorem Number_any : ∀ (u : Nat), u < 18446744073709551616 → ∀ (w : World), Calls Tryd.prog 13 #[.int .u64 u] w fun e w' => e = .returned (.string (dec u)) ∧ Below w.heap.size w w' := by
  intro u
  induction u using Nat.strongRecOn with
  | _ u ih =>
    intro hu w
    have hcv := last_of u w
    by_cases h : u < 10
    · go_enter Tryd.func13, Tryd.ntmps13
      go_wp2
      go_ret
      exact ⟨by rw [dec_small h]; rfl, up1 _ _⟩
    · have hR := fun w => ih (u / 10) (by omega) (by omega) w
      rw [show ((u / 10 : Nat) : Int) = (u : Int) / 10 by omega] at hR
      have s1 := dec_size (u / 10) (by omega)
      have s2 := last_size u
      obtain ⟨D, hD⟩ : ∃ D, dec (u / 10) ++ last u = D := ⟨_, rfl⟩
      have T := up1 w (.cells #[.int .u8 (48 + (u : Int) % 10)] 5)
      rw [dec_big h, hD]
      go_enter Tryd.func13, Tryd.ntmps13
      go_wp2_with (go_at_call 13; (with_reducible refine (hR _).mono ?_); rintro e w1 ⟨rfl, hb⟩; replace T := sps T hb T.size; clear hb)
      go_ret
      exact ⟨rfl, T⟩
end Go.Proofs.YtkcmfcgoknhodaaDoor
