/-
  lanes.Alike answers whether two texts are the same, and leaves all memory that was there as it was. Condition: the texts take no more than the reach of the form.
-/
import Derived.Test.YtcglobpklhkebabLnBase
import Derived.BigQuiet
import Derived.StillTailTactics
import Derived.Deep.QuietTactic
namespace Go.Proofs.Ytcglobpklhkebab.Lanes
open Go.RowKit Mur
set_option maxRecDepth 100000

set_option maxHeartbeats 800000 in
theorem alike_any (a b : ByteArray) (w : World) (ha : a.size ≤ 140737488351232) (hb : b.size ≤ 140737488351232) :
    Calls Try.prog 30 #[.string a, .string b] w fun e w' => e = .returned (.bool (decide (a.data.toList = b.data.toList))) ∧ Below w.heap.size w w' := by
  go_enter Try.func30, Try.ntmps30
  go_wp2
  go_loopw [5, 12] (fun d i wr => ∃ k : Nat, k ≤ a.size ∧ k ≤ b.size ∧ i = .int .i64 k ∧ d = u8 (differ a.data.toList b.data.toList k) ∧ Below w.heap.size w wr) (fun _ i _ => a.size - (intOf i).toNat)
  case atStart => exact ⟨0, by omega, by omega, rfl, rfl, Below.refl _ _⟩
  case round =>
    obtain ⟨k, hka, hkb, rfl, rfl, hbel⟩ := hrel
    by_cases hlt : k < a.size ∧ k < b.size
    · obtain ⟨hlta, hltb⟩ := hlt
      go_wp2
      go_quiet (fail)
      all_goals go_wp2
      all_goals go_roundw
      case rel =>
        refine ⟨k + 1, by omega, by omega, by go_num, ?_, belowN hbel _⟩
        have ha' : a.data.toList.getD k 0 = a[k] := by
          have : k < a.data.toList.length := hlta
          simp only [List.getD, List.getElem?_eq_getElem this]
          rfl
        have hb' : b.data.toList.getD k 0 = b[k] := by
          have : k < b.data.toList.length := hltb
          simp only [List.getD, List.getElem?_eq_getElem this]
          rfl
        rw [xor_u8, or_u8, differ, ha', hb']
      case measure => simp [intOf]; omega
    · have hl : a.data.toList.length = a.size := rfl
      have hl' : b.data.toList.length = b.size := rfl
      have hsame := differ_same a.data.toList b.data.toList
      have e : min a.data.toList.length b.data.toList.length = k := by omega
      rw [e, hl, hl'] at hsame
      have HS := Lib.hid hsame
      clear hsame e hl hl'
      by_cases hd : differ a.data.toList b.data.toList k = 0
      · have hb1 : (((differ a.data.toList b.data.toList k).toNat : Int) == 0) = true := by rw [hd]; rfl
        have HD := Lib.hid hd
        clear hd
        go_wp2
        go_ret
        refine ⟨ret_bool ?_, hbel⟩
        have h := HS.out
        rw [Bool.eq_iff_iff]
        simp only [beq_iff_eq, decide_eq_true_eq]
        rw [← h]
        exact ⟨fun h => ⟨by omega, HD.out⟩, fun h => by omega⟩
      · have hb1 : (((differ a.data.toList b.data.toList k).toNat : Int) == 0) = false := by
          simp only [beq_eq_false_iff_ne, ne_eq]
          intro h
          exact hd (UInt8.toNat_inj.mp (by have : (0 : UInt8).toNat = 0 := rfl; omega))
        have HD := Lib.hid hd
        clear hd
        go_wp2
        go_ret
        refine ⟨ret_bool ?_, hbel⟩
        have h := HS.out
        symm
        rw [decide_eq_false_iff_not, ← h]
        exact fun h => HD.out h.2
end Go.Proofs.Ytcglobpklhkebab.Lanes
