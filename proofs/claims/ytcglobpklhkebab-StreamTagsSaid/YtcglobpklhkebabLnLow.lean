/-
  lanes.Low answers what the plain mathematics of the text LanesSpec says, and leaves the world as it was. Condition: the text takes no more than the reach of the form.
-/
import Derived.Test.YtcglobpklhkebabLnBase
import Derived.BigQuiet
import Derived.StillTailTactics
import Derived.Deep.QuietTactic
namespace Go.Proofs.Ytcglobpklhkebab.Lanes
open Go.RowKit Mur
set_option maxRecDepth 100000

set_option maxHeartbeats 800000 in
theorem low_any (s : ByteArray) (w : World) (hs : s.size ≤ 140737488351232) :
    Calls Try.prog 36 #[.string s] w fun e w' => e = .returned (.int .u64 (low s.data.toList : Nat)) ∧ w = w' := by
  go_enter Try.func36, Try.ntmps36
  go_wp2
  go_loop [3, 8] (fun n i => ∃ k : Nat, k ≤ 8 ∧ k ≤ s.size ∧ i = .int .i64 k ∧ n = .int .u64 (lowN s.data.toList k : Nat)) (fun _ i => 8 - (intOf i).toNat)
  case atStart => exact ⟨0, by omega, by omega, rfl, rfl⟩
  case round =>
    obtain ⟨k, hka, hkb, rfl, rfl⟩ := hrel
    by_cases hlt : k < 8 ∧ k < s.size
    · obtain ⟨hlta, hltb⟩ := hlt
      go_wp2
      go_round
      case rel =>
        refine ⟨k + 1, by omega, by omega, by go_num, ?_⟩
        have hb : byt s.data.toList k = s[k].toNat := byt_get (l := s.data.toList) (i := k) hltb
        have h1 := byt_lt s.data.toList k
        have h2 := lowN_lt s.data.toList k
        have h3 := lowN_lt s.data.toList (k + 1)
        have h4 : 2 ^ (8 * (k + 1)) ≤ 2 ^ 64 := Nat.pow_le_pow_right (by omega) (by omega)
        have h5 : byt s.data.toList k * 2 ^ (8 * k) < 18446744073709551616 := by
          rw [lowN] at h3
          omega
        have h6 : lowN s.data.toList k < 18446744073709551616 := by
          rw [lowN] at h3
          omega
        rw [← hb]
        have e1 : IntKind.u64.wrap (byt s.data.toList k : Int) = (byt s.data.toList k : Int) := by rw [IntKind.wrap_u64]; omega
        have e2 : IntKind.u64.wrap ((byt s.data.toList k : Int) * 2 ^ (8 * k)) = ((byt s.data.toList k * 2 ^ (8 * k) : Nat) : Int) := by
          rw [IntKind.wrap_u64]
          have : ((byt s.data.toList k : Int) * 2 ^ (8 * k)) = ((byt s.data.toList k * 2 ^ (8 * k) : Nat) : Int) := by push_cast; rfl
          rw [this]
          omega
        rw [e1, e2, bits_or_u64_nat _ _ h6 h5, or_add _ _ _ h2]
        rfl
      case measure => simp [intOf]; omega
    · have hl : low s.data.toList = lowN s.data.toList k := by
        have : s.data.toList.length = s.size := rfl
        have e : min s.data.toList.length 8 = k := by omega
        rw [low, e]
      have HL := Lib.hid hl
      clear hl
      go_wp2
      go_ret
      exact ⟨ret_int (by rw [HL.out]), rfl⟩
end Go.Proofs.Ytcglobpklhkebab.Lanes
