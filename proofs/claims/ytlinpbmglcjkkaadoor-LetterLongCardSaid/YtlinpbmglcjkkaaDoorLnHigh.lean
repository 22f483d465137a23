/-
  lanes.High answers what the plain mathematics of the text LanesSpec says, and leaves all memory that was there as it was. Condition: the number and the width are of their kinds.
-/
import Derived.Test.YtlinpbmglcjkkaaDoorLnBase
import Derived.BigQuiet
import Derived.StillTailTactics
import Derived.Deep.QuietTactic
namespace Go.Proofs.YtlinpbmglcjkkaaDoor.Lanes
open Go.RowKit Mur
set_option maxRecDepth 100000

set_option maxHeartbeats 800000 in
theorem high_any (n : Nat) (wd : Int) (w : World) (hn : n < 18446744073709551616) (h1 : -9223372036854775808 ≤ wd) (h2 : wd ≤ 9223372036854775807) :
    Calls Tryd.prog 59 #[.int .u64 n, .int .i64 wd] w fun e w' => e = .returned (.string ⟨(high n (widthOf wd)).toArray⟩) ∧ Below w.heap.size w w' := by
  obtain ⟨m, hm⟩ : ∃ m, m = widthOf wd := ⟨_, rfl⟩
  have hm64 : m ≤ 64 := by rw [hm]; unfold widthOf; omega
  have hmw : min (max wd 0) 64 = (m : Int) := by rw [hm]; unfold widthOf; omega
  rw [← hm]
  clear hm
  have hmk : ∀ u : World, (Instr.makeSlice 113 (.int .i64 (m : Int)) (.int .i64 (m : Int))).run Tryd.prog u = .ok (.slice (some ⟨u.heap.size, 0, none⟩) m m) (u.alloc (.cells (madeCells #[.int .u8 0] m) 5)) := fun u => make_u8 u m (by omega)
  go_enter Tryd.func59, Tryd.ntmps59
  go_wp2
  clear hmk
  go_loopw [14] (fun i wr => ∃ k : Nat, k ≤ m ∧ k ≤ 8 ∧ i = .int .i64 k ∧ Row wr w.heap.size (bytesV (highPart n m k)) ∧ Below w.heap.size w wr) (fun i _ => 8 - (intOf i).toNat)
  case atStart => exact ⟨0, Nat.zero_le _, Nat.zero_le _, rfl, by rw [highPart_zero, ← zero_bytes]; exact made_row _ _ _ _, (Below.refl _ _).alloc (Nat.le_refl _) _⟩
  case round =>
    obtain ⟨k, hka, hkb, rfl, hrow, hbel⟩ := hrel
    by_cases hlt : k < m ∧ k < 8
    · obtain ⟨hlta, hltb⟩ := hlt
      have hj : ((m : Int) - 1 - (k : Int)).toNat = m - 1 - k := by omega
      have hjl : m - 1 - k < (highPart n m k).length := by simp [highPart]; omega
      have hc := hrow.cell (i := m - 1 - k) (bytesV_at hjl)
      have hf := hrow.free (i := m - 1 - k) (by rw [bytesV_length]; exact hjl)
      have hset := hrow.set (m - 1 - k) (u8 (UInt8.ofNat (n / 2 ^ (8 * k))))
      rw [bytesV_set, highPart_succ n m k hlta] at hset
      have HS := Lib.hid hset
      clear hset
      go_wp2
      go_roundw
      case rel =>
        refine ⟨k + 1, by omega, by omega, by go_num, ?_, hbel.setCell (p := ⟨w.heap.size, m - 1 - k, none⟩) (Nat.le_refl _) _⟩
        rw [shr8]
        exact HS.out
      case measure => simp [intOf]; omega
    · have hend : k = min m 8 := by omega
      have hrow' := hrow
      rw [hend, highPart_end n m hn] at hrow'
      have hback := string_row (P := Tryd.prog) hrow' 113 5 9 Tryd.underlying113 Tryd.underlying5 Tryd.underlying9 m m (by simp [high])
      clear hend hrow hrow'
      go_wp2
      go_ret
      exact ⟨rfl, hbel⟩
end Go.Proofs.YtlinpbmglcjkkaaDoor.Lanes
