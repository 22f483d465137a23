/-
  The document's own answer for Alike: whether two texts are the same; all memory that was there stays. Condition: the texts take no more than the reach of the form.
-/
import Derived.Test.YtcglobpklhkebabLnBase
import Derived.BigQuiet
import Derived.StillTailTactics
import Derived.Deep.QuietTactic
namespace Go.Proofs.Ytcglobpklhkebab.RefOne
open Go.RowKit Mur Lanes

/-- What the loop of Alike has gathered, as a number. -/
def gather (a b : List UInt8) (k : Nat) : Nat := (a.length ^^^ b.length) ||| (Lanes.differ a b k).toNat
theorem gather_zero (a b : List UInt8) (k : Nat) : gather a b k = 0 ↔ a.length = b.length ∧ Lanes.differ a b k = 0 := by
  unfold gather
  rw [Nat.or_eq_zero_iff]
  constructor
  · rintro ⟨h1, h2⟩
    refine ⟨?_, UInt8.toNat_inj.mp h2⟩
    apply Nat.eq_of_testBit_eq
    intro i
    have := congrArg (fun n => n.testBit i) h1
    simp only [Nat.testBit_xor, Nat.zero_testBit] at this
    simpa using this
  · rintro ⟨h1, h2⟩
    rw [h1, h2, Nat.xor_self]
    exact ⟨rfl, rfl⟩
theorem gather_lt (a b : List UInt8) (k : Nat) (ha : a.length ≤ 140737488351232) (hb : b.length ≤ 140737488351232) : gather a b k < 9223372036854775808 := by
  have h1 : a.length ^^^ b.length < 2 ^ 63 := Nat.xor_lt_two_pow (by omega) (by omega)
  have h2 := (Lanes.differ a b k).toNat_lt
  exact Nat.or_lt_two_pow h1 (by omega)

set_option maxHeartbeats 800000 in
theorem alike_any (a b : ByteArray) (w : World) (ha : a.size ≤ 140737488351232) (hb : b.size ≤ 140737488351232) :
    Calls Try.prog 31 #[.string a, .string b] w fun e w' => e = .returned (.bool (a.toList == b.toList)) ∧ Below w.heap.size w w' := by
  have hx0 : bits .xor .i64 (a.size : Int) (b.size : Int) = (gather a.data.toList b.data.toList 0 : Int) := by
    rw [xor_i64_nat _ _ (by omega) (by omega)]
    show _ = (((a.size ^^^ b.size) ||| 0 : Nat) : Int)
    rw [Nat.or_zero]
  go_enter Try.func31, Try.ntmps31
  go_wp2
  clear hx0
  go_loopw [5, 17] (fun d i wr => ∃ k : Nat, k ≤ a.size ∧ k ≤ b.size ∧ i = .int .i64 k ∧ d = .int .i64 (gather a.data.toList b.data.toList k : Nat) ∧ Below w.heap.size w wr) (fun _ i _ => a.size - (intOf i).toNat)
  case atStart => exact ⟨0, by omega, by omega, rfl, rfl, Below.refl _ _⟩
  case round =>
    obtain ⟨k, hka, hkb, rfl, rfl, hbel⟩ := hrel
    by_cases hlt : k < a.size ∧ k < b.size
    · obtain ⟨hlta, hltb⟩ := hlt
      go_wp2
      go_quiet (fail)
      all_goals go_wp2
      all_goals go_roundw
      case rel =>
        refine ⟨k + 1, by omega, by omega, by go_num, ?_, belowN hbel _⟩
        have ha' : a.data.toList.getD k 0 = a[k] := by
          have : k < a.data.toList.length := hlta
          simp only [List.getD, List.getElem?_eq_getElem this]
          rfl
        have hb' : b.data.toList.getD k 0 = b[k] := by
          have : k < b.data.toList.length := hltb
          simp only [List.getD, List.getElem?_eq_getElem this]
          rfl
        have hg := gather_lt a.data.toList b.data.toList k ha hb
        have hx := (a[k] ^^^ b[k]).toNat_lt
        rw [xor_u8, IntWalk.wrap64_in _ (by omega), or_i64_nat _ _ hg (by omega)]
        have e : gather a.data.toList b.data.toList (k + 1) = gather a.data.toList b.data.toList k ||| (a[k] ^^^ b[k]).toNat := by
          unfold gather
          rw [Lanes.differ, ha', hb', UInt8.toNat_or, Nat.or_assoc]
        rw [e]
      case measure => simp [intOf]; omega
    · have hl : a.data.toList.length = a.size := rfl
      have hl' : b.data.toList.length = b.size := rfl
      have hsame := differ_same a.data.toList b.data.toList
      have e : min a.data.toList.length b.data.toList.length = k := by omega
      rw [e, ← gather_zero] at hsame
      have HS := Lib.hid hsame
      clear hsame e hl hl'
      generalize gather a.data.toList b.data.toList k = g at HS
      go_wp2
      go_ret
      refine ⟨ret_bool ?_, hbel⟩
      rw [ByteArray.toList_eq, ByteArray.toList_eq, Bool.eq_iff_iff, beq_iff_eq, beq_iff_eq, ← HS.out]
      omega
end Go.Proofs.Ytcglobpklhkebab.RefOne
