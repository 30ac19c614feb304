/- What the document's own Number answers: a number's digits. No condition. -/
import Derived.Test.YtdmgalcfgignpaaDoorPkT
namespace Go.Proofs.YtdmgalcfgignpaaDoor
open Go.RowKit Go.Lib W
set_option linter.unusedVariables false

/-- The last digit, as a string. -/
def last (u : Nat) : ByteArray := ⟨#[UInt8.ofNat (48 + u % 10)]⟩
theorem bytes_append (a b : List UInt8) : (⟨a.toArray⟩ : ByteArray) ++ ⟨b.toArray⟩ = ⟨(a ++ b).toArray⟩ := by
  apply ByteArray.ext
  simp
theorem dec_size (u : Nat) (h : u < 18446744073709551616) : (dec u).size ≤ 20 := by
  have := dec_short u h
  unfold dec
  simpa [ByteArray.size] using this
theorem last_size (u : Nat) : (last u).size ≤ 1 := by simp [last, ByteArray.size]
theorem dec_small {u : Nat} (h : u < 10) : dec u = last u := by
  unfold dec last
  rw [decDigits_one h, Nat.mod_eq_of_lt h]
theorem dec_big {u : Nat} (h : ¬ u < 10) : dec u = dec (u / 10) ++ last u := by
  unfold dec last
  have e := bytes_append (decDigits (u / 10)) [UInt8.ofNat (48 + u % 10)]
  rw [show decDigits u = decDigits (u / 10) ++ [UInt8.ofNat (48 + u % 10)] by rw [decDigits, dif_neg h]]
  exact e.symm
theorem last_of (u : Nat) (w : World) : (convert 81 9 (.slice (some ⟨w.heap.size, 0, none⟩) 1 1)).run Tryd.prog (w.alloc (.cells #[.int .u8 (48 + (u : Int) % 10)] 5)) = .ok (.string (last u)) (w.alloc (.cells #[.int .u8 (48 + (u : Int) % 10)] 5)) := by
  have h := run_convert_bytes_back (P := Tryd.prog) (w.alloc (.cells #[.int .u8 (48 + (u : Int) % 10)] 5)) 81 9 5 ⟨w.heap.size, 0, none⟩ 1 [UInt8.ofNat (48 + u % 10)] Tryd.underlying81 Tryd.underlying5 Tryd.underlying9 (fun j hj => by
    obtain rfl : j = 0 := by simp at hj; omega
    have e : (w.alloc (.cells #[.int .u8 (48 + (u : Int) % 10)] 5)).cell? ⟨w.heap.size, 0, none⟩ = (#[.int .u8 (48 + (u : Int) % 10)] : Array Value)[0]? := World.cell?_alloc_new _ _ _ _
    rw [Lib.add_plain, e]
    have k := digit_of (u % 10) (by omega)
    simp only [List.getElem_cons_zero, k]
    simp)
  exact h
set_option maxHeartbeats 4000000 in
set_option maxRecDepth 100000 in
theorem Number_any : ∀ (u : Nat), u < 18446744073709551616 → ∀ (w : World), Calls Tryd.prog 25 #[.int .u64 u] w fun e w' => e = .returned (.string (dec u)) ∧ Below w.heap.size w w' := by
  intro u
  induction u using Nat.strongRecOn with
  | _ u ih =>
    intro hu w
    have hcv := last_of u w
    by_cases h : u < 10
    · go_enter Tryd.func25, Tryd.ntmps25
      go_wp2
      go_ret
      exact ⟨by rw [dec_small h]; rfl, up1 _ _⟩
    · have hR := fun w => ih (u / 10) (by omega) (by omega) w
      rw [show ((u / 10 : Nat) : Int) = (u : Int) / 10 by omega] at hR
      have s1 := dec_size (u / 10) (by omega)
      have s2 := last_size u
      obtain ⟨D, hD⟩ : ∃ D, dec (u / 10) ++ last u = D := ⟨_, rfl⟩
      have T := up1 w (.cells #[.int .u8 (48 + (u : Int) % 10)] 5)
      rw [dec_big h, hD]
      go_enter Tryd.func25, Tryd.ntmps25
      go_wp2_with (go_at_call 25; (with_reducible refine (hR _).mono ?_); rintro e w1 ⟨rfl, hb⟩; replace T := ups T hb T.size; clear hb)
      go_ret
      exact ⟨rfl, T⟩
end Go.Proofs.YtdmgalcfgignpaaDoor
