/-
  The document's own answer for High of layer 1 answers, for every input, what the plain mathematics of the text LanesSpec says. No condition but that the numbers fit.
-/
import Derived.Test.YtlinpbmglcjkkaaChecked
import Derived.Test.YtlinpbmglcjkkaaLnHigh
import Derived.BigQuiet
import Derived.Deep.QuietTactic
namespace Go.Proofs.Ytlinpbmglcjkkaa.RefOne
open Go.RowKit Mur Lanes
set_option maxRecDepth 100000

set_option maxHeartbeats 800000 in
theorem high_any (n : Nat) (wd : Int) (w : World) (hn : n < 18446744073709551616) (h1 : -9223372036854775808 ≤ wd) (h2 : wd ≤ 9223372036854775807) :
    Calls Try.prog 69 #[.int .u64 n, .int .i64 wd] w fun e w' => e = .returned (.string ⟨(high n (widthOf wd)).toArray⟩) ∧ Below w.heap.size w w' := by
  obtain ⟨m, hm⟩ : ∃ m, m = widthOf wd := ⟨_, rfl⟩
  have hm64 : m ≤ 64 := by rw [hm]; unfold widthOf; omega
  have hmw : max 0 (min wd 64) = (m : Int) := by rw [hm]; unfold widthOf; omega
  rw [← hm]
  clear hm
  have hmk : ∀ u : World, (Instr.makeSlice 116 (.int .i64 (m : Int)) (.int .i64 (m : Int))).run Try.prog u = .ok (.slice (some ⟨u.heap.size, 0, none⟩) m m) (u.alloc (.cells (madeCells #[.int .u8 0] m) 5)) := fun u => make_u8 u m (by omega)
  go_enter Try.func69, Try.ntmps69
  go_wp2
  clear hmk
  go_loopw [14] (fun i wr => ∃ k : Nat, k ≤ m ∧ i = .int .i64 k ∧ Row wr w.heap.size (bytesV (highPart n m (min k 8))) ∧ Below w.heap.size w wr) (fun i _ => m - (intOf i).toNat)
  case atStart => exact ⟨0, Nat.zero_le _, rfl, by rw [Nat.zero_min, highPart_zero, ← zero_bytes]; exact made_row _ _ _ _, (Below.refl _ _).alloc (Nat.le_refl _) _⟩
  case round =>
    obtain ⟨k, hka, rfl, hrow, hbel⟩ := hrel
    by_cases hlta : k < m
    · by_cases hltb : k < 8
      · have hk8 : min k 8 = k := by omega
        rw [hk8] at hrow
        have hj : ((m : Int) - 1 - (k : Int)).toNat = m - 1 - k := by omega
        have hjl : m - 1 - k < (highPart n m k).length := by simp [highPart]; omega
        have hc := hrow.cell (i := m - 1 - k) (bytesV_at hjl)
        have hf := hrow.free (i := m - 1 - k) (by rw [bytesV_length]; exact hjl)
        have hset := hrow.set (m - 1 - k) (u8 (UInt8.ofNat (n / 2 ^ (8 * k))))
        rw [bytesV_set, highPart_succ n m k hlta] at hset
        have HS := Lib.hid hset
        clear hset hk8
        go_wp2
        go_roundw
        case rel =>
          have hk9 : min (k + 1) 8 = k + 1 := by omega
          refine ⟨k + 1, by omega, by go_num, ?_, hbel.setCell (p := ⟨w.heap.size, m - 1 - k, none⟩) (Nat.le_refl _) _⟩
          rw [hk9, shr8]
          exact HS.out
        case measure => simp [intOf]; omega
      · have hk8 : min k 8 = min (k + 1) 8 := by omega
        rw [hk8] at hrow
        clear hk8
        go_wp2
        go_roundw
        case rel => exact ⟨k + 1, by omega, by go_num, hrow, hbel⟩
        case measure => simp [intOf]; omega
    · obtain rfl : k = m := by omega
      have hrow' := hrow
      rw [highPart_end n k hn] at hrow'
      have hback := string_row (P := Try.prog) hrow' 116 5 9 Try.underlying116 Try.underlying5 Try.underlying9 k k (by simp [high])
      clear hrow hrow'
      go_wp2
      go_ret
      exact ⟨rfl, hbel⟩

end Go.Proofs.Ytlinpbmglcjkkaa.RefOne
