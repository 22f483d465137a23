/-
  The document's own answer for Bit is what the plain mathematics of the text LanesSpec says; the world stays as it was. Condition: the text takes no more than the reach of the form.
-/
import Derived.Test.YtcglobpklhkebabLnBase
import Derived.BigQuiet
import Derived.StillTailTactics
import Derived.Deep.QuietTactic
namespace Go.Proofs.Ytcglobpklhkebab.RefOne
open Go.RowKit Mur Lanes

set_option maxHeartbeats 800000 in
theorem bit_any (s : ByteArray) (at_ : Int) (w : World) (h1 : -9223372036854775808 ≤ at_) (h2 : at_ ≤ 9223372036854775807) (hs : s.size ≤ 140737488351232) :
    Calls Try.prog 40 #[.string s, .int .i64 at_] w fun e w' => e = .returned (.int .i64 (bit s.data.toList at_ : Nat)) ∧ w = w' := by
  by_cases h0 : 0 ≤ at_
  · by_cases h8 : at_ / 8 < s.size
    · go_enter Try.func40, Try.ntmps40
      go_wp2
      go_ret
      refine ⟨ret_int ?_, rfl⟩
      have hb : byt s.data.toList (at_ / 8).toNat = s[(at_ / 8).toNat].toNat := byt_get (l := s.data.toList) (i := (at_ / 8).toNat) (by have : s.data.toList.length = s.size := rfl; omega)
      have hc : ¬ (at_ < 0 ∨ (s.data.toList.length : Int) ≤ at_ / 8) := by have : s.data.toList.length = s.size := rfl; omega
      have he : ((s[(at_ / 8).toNat].toNat : Int) / 2 ^ (at_ % 8).toNat) = ((byt s.data.toList (at_ / 8).toNat / 2 ^ (at_ % 8).toNat : Nat) : Int) := by rw [hb]; simp
      have hlt : byt s.data.toList (at_ / 8).toNat / 2 ^ (at_ % 8).toNat < 256 := Nat.lt_of_le_of_lt (Nat.div_le_self _ _) (byt_lt _ _)
      rw [he, bit, if_neg hc]
      generalize byt s.data.toList (at_ / 8).toNat / 2 ^ (at_ % 8).toNat = g at hlt
      rw [IntWalk.wrap64_in _ (by omega), and_one _ (by omega)]
    · have h0' : ¬ at_ < 0 := by omega
      have hd : decide (at_ < 0) = false := by simpa using h0
      go_enter Try.func40, Try.ntmps40
      go_wp2
      go_ret
      refine ⟨ret_int ?_, rfl⟩
      have hc : at_ < 0 ∨ (s.data.toList.length : Int) ≤ at_ / 8 := by have : s.data.toList.length = s.size := rfl; omega
      rw [bit, if_pos hc]; rfl
  · have hd : decide (at_ < 0) = true := by simp; omega
    go_enter Try.func40, Try.ntmps40
    go_wp2
    go_ret
    refine ⟨ret_int ?_, rfl⟩
    have hc : at_ < 0 ∨ (s.data.toList.length : Int) ≤ at_ / 8 := by omega
    rw [bit, if_pos hc]; rfl
end Go.Proofs.Ytcglobpklhkebab.RefOne
