/-
  lanes.Words answers what the plain mathematics of the text LanesSpec says, and leaves all memory that was there as it was. Condition: the text takes no more than the reach of the form.
-/
import Derived.Test.YtncafbejgidliaaDoorLnBase
import Derived.BigQuiet
import Derived.StillTailTactics
import Derived.Deep.QuietTactic
namespace Go.Proofs.YtncafbejgidliaaDoor.Lanes
open Go.RowKit Mur
set_option maxRecDepth 100000

set_option maxHeartbeats 800000 in
theorem words_any (s : ByteArray) (big : Bool) (w : World) (hs : s.size ≤ 140737488351232) :
    Calls Tryd.prog 83 #[.string s, .bool big] w fun e w' => e = .returned (.slice (some ⟨w.heap.size, 0, none⟩) (s.size / 4) (s.size / 4)) ∧ Row w' w.heap.size (wordsV (words s.data.toList big)) ∧ Below w.heap.size w w' := by
  have hmk : ∀ u : World, (Instr.makeSlice 89 (.int .i64 ((s.size : Int) / 4)) (.int .i64 ((s.size : Int) / 4))).run Tryd.prog u = .ok (.slice (some ⟨u.heap.size, 0, none⟩) (s.size / 4) (s.size / 4)) (u.alloc (.cells (madeCells #[.int .u32 0] (s.size / 4)) 84)) := fun u => make_u32 u (s.size / 4) (by omega)
  have hl : s.data.toList.length = s.size := rfl
  go_enter Tryd.func83, Tryd.ntmps83
  go_wp2
  clear hmk
  go_loopw [14] (fun i wr => ∃ k : Nat, k ≤ 4 * (s.size / 4) ∧ i = .int .i64 k ∧ Row wr w.heap.size (wordsV (wordsPart s.data.toList big k)) ∧ Below w.heap.size w wr) (fun i _ => s.size - (intOf i).toNat)
  case atStart => exact ⟨0, Nat.zero_le _, rfl, by rw [wordsPart_zero, hl, ← zero_words]; exact made_row _ _ _ _, (Below.refl _ _).alloc (Nat.le_refl _) _⟩
  case round =>
    obtain ⟨k, hk, rfl, hrow, hbel⟩ := hrel
    have hlen : (wordsPart s.data.toList big k).length = s.size / 4 := wordsPart_length _ _ _
    by_cases hlt : k < 4 * (s.size / 4)
    · have hks : k < s.size := by omega
      have hj : k / 4 < s.size / 4 := by omega
      have hjl : k / 4 < (wordsPart s.data.toList big k).length := by omega
      have hc := hrow.cell (i := k / 4) (wordsV_at hjl)
      have hf := hrow.free (i := k / 4) (by rw [wordsV_length]; exact hjl)
      have hsh := shiftN_le k big
      have hset := hrow.set (k / 4) (.int .u32 ((wordPart s.data.toList big k (k / 4) ||| byt s.data.toList k * 2 ^ shiftN k big : Nat) : Int))
      rw [wordsV_set, wordsPart_succ] at hset
      have HS := Lib.hid hset
      clear hset hl
      have HL := Lib.hid hlen
      clear hlen
      have w1 : IntKind.i64.wrap ((k : Int) / 4) = (k : Int) / 4 := IntWalk.i64_in _ (by omega)
      have w2 : 0 ≤ (k : Int) / 4 := by omega
      have w3 : ((k : Int) / 4).toNat = k / 4 := by omega
      have w4 : (k : Int) / 4 < (s.size : Int) / 4 := by omega
      go_wp2
      go_still_tail 15, (by kernel_rfl)
      still_call (shift_q _ _ _ (by omega))
      repeat still_step
      refine wpStill_nil ?_
      change wpList _ _ _ _ _ wr.drew
      have hc' : wr.drew.cell? ⟨w.heap.size, k / 4, none⟩ = _ := hc
      have hf' : wr.drew.frozen? ⟨w.heap.size, k / 4, none⟩ = _ := hf
      clear hc hf w1
      go_wp2
      go_roundw
      case rel =>
        refine ⟨k + 1, by omega, by go_num, ?_, (hbel.setCell (p := ⟨w.heap.size, k / 4, none⟩) (Nat.le_refl _) _).drew⟩
        have hb : byt s.data.toList k = s[k].toNat := byt_get (l := s.data.toList) (i := k) hks
        have h1 := byt_lt s.data.toList k
        have hw : (wordsPart s.data.toList big k)[k / 4] = wordPart s.data.toList big k (k / 4) := by simp [wordsPart]
        have h2 := wordPart_lt s.data.toList big k (k / 4)
        have hp : 2 ^ shiftN k big ≤ 2 ^ 24 := Nat.pow_le_pow_right (by omega) (by omega)
        have h3 : byt s.data.toList k * 2 ^ shiftN k big ≤ 255 * 2 ^ 24 := Nat.mul_le_mul (by omega) hp
        rw [← hb, hw]
        rw [shl32 _ _ (by omega) (by omega), u32_or_nat _ _ h2 (by omega)]
        exact HS.out.drew
      case measure => simp [intOf]; omega
    · have hend := wordsPart_end s.data.toList big k (by omega)
      rw [hend] at hrow
      clear hend hlen hl
      go_wp2
      go_ret
      exact ⟨rfl, hrow, hbel⟩
end Go.Proofs.YtncafbejgidliaaDoor.Lanes
