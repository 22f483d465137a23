/-
  lanes.Xor, for every two texts: the bytes of the first, each exclusively or'ed with that of the second at its place, as far as the second goes. Condition: the first text takes no more than the reach of the form.
-/
import Derived.Test.YtcglobpklhkebabChecked
import Derived.Test.YtcglobpklhkebabMur
namespace Go.Proofs.Ytcglobpklhkebab.LanesXor
open Go.RowKit Mur
set_option maxRecDepth 100000

def xorAt (a b : List UInt8) (i : Nat) : UInt8 := if i < b.length then a.getD i 0 ^^^ b.getD i 0 else a.getD i 0
/-- The bytes below k are done. -/
def part (a b : List UInt8) (k : Nat) : List UInt8 := (List.range a.length).map fun i => if i < k then xorAt a b i else a.getD i 0
def xorL (a b : List UInt8) : List UInt8 := (List.range a.length).map fun i => xorAt a b i
def xorS (a b : ByteArray) : ByteArray := ⟨(xorL a.data.toList b.data.toList).toArray⟩

theorem part_length (a b : List UInt8) (k : Nat) : (part a b k).length = a.length := by simp [part]
theorem part_zero (a b : List UInt8) : part a b 0 = a := by
  apply List.ext_getElem (by simp [part])
  intro i h1 h2
  simp [part, List.getD, h2]

theorem part_succ (a b : List UInt8) (k : Nat) (ha : k < a.length) (hb : k < b.length) : (part a b k).set k ((part a b k)[k]'(by rw [part_length]; exact ha) ^^^ b[k]) = part a b (k + 1) := by
  apply List.ext_getElem (by simp [part])
  intro i h1 h2
  rw [List.getElem_set]
  by_cases e : k = i
  · subst e
    simp [part, xorAt, List.getD, ha, hb]
  · have e1 : (i < k + 1) = (i < k) := by simp; omega
    simp [part, e, e1]
theorem part_end (a b : List UInt8) (k : Nat) (h : a.length ≤ k ∨ b.length ≤ k) : part a b k = xorL a b := by
  apply List.ext_getElem (by simp [part, xorL])
  intro i h1 h2
  have h1' : i < a.length := by simpa [part] using h1
  by_cases e : i < k
  · simp [part, xorL, e]
  · have eb : ¬ i < b.length := by omega
    simp [part, xorL, xorAt, e, eb]

set_option maxHeartbeats 800000 in
theorem xor_any (a b : ByteArray) (w : World) (ha : a.size ≤ 140737488351232) (_hb : b.size ≤ 140737488351232) :
    Calls Try.prog 42 #[.string a, .string b] w fun e w' => e = .returned (.string (xorS a b)) ∧ Below w.heap.size w w' := by
  have hconv := conv_row (P := Try.prog) w 9 43 5 a Try.underlying9 Try.underlying43 Try.underlying5
  obtain ⟨cap, w1, hcap, hconv, hrow, hbel⟩ := hconv
  go_enter Try.func42, Try.ntmps42
  go_wp2
  clear hconv
  go_loopw [14] (fun i wr => ∃ k : Nat, k ≤ a.size ∧ k ≤ b.size ∧ i = .int .i64 k ∧ Row wr w.heap.size (bytesV (part a.data.toList b.data.toList k)) ∧ Below w.heap.size w wr) (fun i _ => a.size - (intOf i).toNat)
  case atStart => exact ⟨0, Nat.zero_le _, Nat.zero_le _, rfl, by rw [part_zero]; exact hrow, hbel⟩
  case round =>
    obtain ⟨k, hka, hkb, rfl, hrow, hbel⟩ := hrel
    by_cases hlt : k < a.size ∧ k < b.size
    · obtain ⟨hlta, hltb⟩ := hlt
      have hc := hrow.cell (i := k) (bytesV_at (by rw [part_length]; exact hlta))
      have hf := hrow.free (i := k) (by rw [bytesV_length, part_length]; exact hlta)
      have hs := part_succ a.data.toList b.data.toList k hlta hltb
      have hset := hrow.set k (u8 ((part a.data.toList b.data.toList k)[k]'(by rw [part_length]; exact hlta) ^^^ b.data.toList[k]'hltb))
      rw [bytesV_set, hs] at hset
      have HS := Lib.hid hset
      clear hs hset
      go_wp2
      go_region
      all_goals go_wp2
      all_goals go_roundw
      case rel => exact ⟨k + 1, by omega, by omega, by go_num, by rw [xor_u8]; exact (HS.out).drew, (hbel.setCell (p := ⟨w.heap.size, k, none⟩) (Nat.le_refl _) _).drew⟩
      case measure => simp [intOf]; omega
    · have hend := part_end a.data.toList b.data.toList k (by have h1 : a.data.toList.length = a.size := rfl; have h2 : b.data.toList.length = b.size := rfl; omega)
      rw [hend] at hrow
      have hback := string_row (P := Try.prog) hrow 43 5 9 Try.underlying43 Try.underlying5 Try.underlying9 a.size cap (by simp [xorL])
      clear hend hrow
      go_wp2
      go_ret
      exact ⟨rfl, hbel⟩
end Go.Proofs.Ytcglobpklhkebab.LanesXor
