/-
  The document's Low of layer 1 answers what the plain mathematics of the text LanesSpec says, and leaves the world as it was. Condition: the text takes no more than the reach of the form.
-/
import Derived.Test.YtcglobpklhkebaaLnBase
import Derived.BigQuiet
import Derived.Deep.QuietTactic
namespace Go.Proofs.Ytcglobpklhkebaa.RefOne
open Go.RowKit Mur Lanes

/-- The j highest of the lowest m bytes as a number. -/
def topN (l : List UInt8) (m : Nat) : Nat → Nat
  | 0 => 0
  | j + 1 => topN l m j * 256 + byt l (m - 1 - j)
theorem topN_low (l : List UInt8) (m j : Nat) (h : j ≤ m) : lowN l m = lowN l (m - j) + 2 ^ (8 * (m - j)) * topN l m j := by
  induction j with
  | zero => simp [topN]
  | succ j ih =>
    rw [ih (by omega)]
    obtain ⟨t, ht⟩ : ∃ t, m - j = t + 1 := ⟨m - j - 1, by omega⟩
    have e1 : m - (j + 1) = t := by omega
    have e2 : m - 1 - j = t := by omega
    rw [ht, e1, topN, e2, lowN, Nat.mul_add, Nat.pow_add]
    have : 2 ^ (8 * t) * 2 ^ (8 * 1) * topN l m j = 2 ^ (8 * t) * (topN l m j * 256) := by
      rw [Nat.mul_assoc, Nat.mul_comm (topN l m j)]
    rw [this, Nat.mul_add, Nat.mul_comm (byt l t)]
    omega
theorem topN_lt (l : List UInt8) (m j : Nat) : topN l m j < 2 ^ (8 * j) := by
  induction j with
  | zero => simp [topN]
  | succ j ih =>
    have := byt_lt l (m - 1 - j)
    rw [topN, Nat.mul_add, Nat.pow_add]
    omega
theorem topN_all (l : List UInt8) (m : Nat) : topN l m m = lowN l m := by
  have := topN_low l m m (Nat.le_refl _)
  simp [lowN] at this
  exact this.symm

set_option maxHeartbeats 800000 in
theorem low_any (s : ByteArray) (w : World) (hs : s.size ≤ 140737488351232) :
    Calls Try.prog 51 #[.string s] w fun e w' => e = .returned (.int .u64 (low s.data.toList : Nat)) ∧ w = w' := by
  obtain ⟨m, hm⟩ : ∃ m, m = min s.size 8 := ⟨_, rfl⟩
  have hmi : min (s.size : Int) 8 = (m : Int) := by omega
  have hms : m ≤ s.size := by omega
  have hm8 : m ≤ 8 := by omega
  have hlow : low s.data.toList = lowN s.data.toList m := by
    have : s.data.toList.length = s.size := rfl
    rw [low, this, hm]
  have HL := Lib.hid hlow
  clear hlow hm
  go_enter Try.func51, Try.ntmps51
  go_wp2
  go_loop [3, 4] (fun n i => ∃ j : Nat, j ≤ m ∧ i = .int .i64 ((m : Int) - 1 - (j : Int)) ∧ n = .int .u64 (topN s.data.toList m j : Nat)) (fun _ i => (intOf i + 1).toNat)
  case atStart => exact ⟨0, by omega, by simp, rfl⟩
  case round =>
    obtain ⟨j, hj, rfl, rfl⟩ := hrel
    by_cases hlt : j < m
    · have hi : ((m : Int) - 1 - (j : Int)).toNat = m - 1 - j := by omega
      have hi2 : m - 1 - j < s.size := by omega
      go_wp2
      go_round
      case rel =>
        refine ⟨j + 1, by omega, by go_num, ?_⟩
        have hb : byt s.data.toList (m - 1 - j) = s[m - 1 - j].toNat := byt_get (l := s.data.toList) (i := m - 1 - j) hi2
        have h1 := byt_lt s.data.toList (m - 1 - j)
        have h2 := topN_lt s.data.toList m j
        have h4 : 2 ^ (8 * j) ≤ 2 ^ 56 := Nat.pow_le_pow_right (by omega) (by omega)
        rw [← hb]
        have e1 : IntKind.u64.wrap (byt s.data.toList (m - 1 - j) : Int) = (byt s.data.toList (m - 1 - j) : Int) := by rw [IntKind.wrap_u64]; omega
        have e2 : IntKind.u64.wrap ((topN s.data.toList m j : Int) * 256) = ((topN s.data.toList m j * 2 ^ 8 : Nat) : Int) := by rw [IntKind.wrap_u64]; omega
        rw [e1, e2, bits_or_u64_nat _ _ (by omega) (by omega), or_add' _ _ _ (by omega)]
        rfl
      case measure => simp [intOf]; omega
    · obtain rfl : j = m := by omega
      go_wp2
      go_ret
      exact ⟨ret_int (by rw [HL.out, topN_all]), rfl⟩
end Go.Proofs.Ytcglobpklhkebaa.RefOne
