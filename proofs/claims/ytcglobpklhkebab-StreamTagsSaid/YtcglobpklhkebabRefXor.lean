/-
  the document answer for Xor, for every two texts: the bytes of the first, each exclusively or'ed with that of the second at its place, as far as the second goes. Condition: the first text takes no more than the reach of the form.
-/
import Derived.Test.YtcglobpklhkebabChecked
import Derived.Test.YtcglobpklhkebabMur
import Derived.Test.YtcglobpklhkebabLanesXor
namespace Go.Proofs.Ytcglobpklhkebab.RefXor
open Go.RowKit Mur LanesXor
set_option maxRecDepth 100000

set_option maxHeartbeats 800000 in
theorem refxor_any (a b : ByteArray) (w : World) (ha : a.size ≤ 140737488351232) (_hb : b.size ≤ 140737488351232) :
    Calls Try.prog 28 #[.string a, .string b] w fun e w' => e = .returned (.string (xorS a b)) ∧ Below w.heap.size w w' := by
  have hconv := conv_row (P := Try.prog) w 9 43 5 a Try.underlying9 Try.underlying43 Try.underlying5
  obtain ⟨cap, w1, hcap, hconv, hrow, hbel⟩ := hconv
  go_enter Try.func28, Try.ntmps28
  go_wp2
  clear hconv
  go_loopw [14] (fun i wr => ∃ k : Nat, k ≤ a.size ∧ k ≤ b.size ∧ i = .int .i64 k ∧ Row wr w.heap.size (bytesV (LanesXor.part a.data.toList b.data.toList k)) ∧ Below w.heap.size w wr) (fun i _ => a.size - (intOf i).toNat)
  case atStart => exact ⟨0, Nat.zero_le _, Nat.zero_le _, rfl, by rw [LanesXor.part_zero]; exact hrow, hbel⟩
  case round =>
    obtain ⟨k, hka, hkb, rfl, hrow, hbel⟩ := hrel
    by_cases hlt : k < a.size ∧ k < b.size
    · obtain ⟨hlta, hltb⟩ := hlt
      have hc := hrow.cell (i := k) (bytesV_at (by rw [LanesXor.part_length]; exact hlta))
      have hf := hrow.free (i := k) (by rw [bytesV_length, LanesXor.part_length]; exact hlta)
      have hs := LanesXor.part_succ a.data.toList b.data.toList k hlta hltb
      have hset := hrow.set k (u8 ((LanesXor.part a.data.toList b.data.toList k)[k]'(by rw [LanesXor.part_length]; exact hlta) ^^^ b.data.toList[k]'hltb))
      rw [bytesV_set, hs] at hset
      have HS := Lib.hid hset
      clear hs hset
      go_wp2
      go_region
      all_goals go_wp2
      all_goals go_roundw
      case rel => exact ⟨k + 1, by omega, by omega, by go_num, by rw [xor_u8]; exact (HS.out).drew, (hbel.setCell (p := ⟨w.heap.size, k, none⟩) (Nat.le_refl _) _).drew⟩
      case measure => simp [intOf]; omega
    · have hend := LanesXor.part_end a.data.toList b.data.toList k (by have h1 : a.data.toList.length = a.size := rfl; have h2 : b.data.toList.length = b.size := rfl; omega)
      rw [hend] at hrow
      have hback := string_row (P := Try.prog) hrow 43 5 9 Try.underlying43 Try.underlying5 Try.underlying9 a.size cap (by simp [xorL])
      clear hend hrow
      go_wp2
      go_ret
      exact ⟨rfl, hbel⟩
end Go.Proofs.Ytcglobpklhkebab.RefXor
