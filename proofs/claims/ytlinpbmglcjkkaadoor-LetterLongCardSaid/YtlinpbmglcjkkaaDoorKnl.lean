/-
  How long parts are, as package letter reckons it (strLong, numsLong, strsLong): what is answered, whatever the lengths. Conditions: a list is read in memory (StrsR), and has no more than 1000000 elements.
-/
import Derived.Test.YtlinpbmglcjkkaaDoorLetA
namespace Go.Proofs.YtlinpbmglcjkkaaDoor.Knw
open Go.RowKit Mur Prt Lanes
set_option maxRecDepth 100000

def strL (z : ByteArray) : Int := wrap64 (2 + (z.size : Int))
def numsL (n : Nat) : Int := wrap64 (1 + wrap64 (5 * (n : Int)))
def strsL (zs : List ByteArray) : Int := zs.foldl (fun a z => wrap64 (a + strL z)) 1

set_option maxHeartbeats 800000 in
theorem strLong_any (z : ByteArray) (L : Int) (w : World) (hL : L = strL z) :
    Calls Tryd.prog 25 #[.string z] w fun e w' => e = .returned (.int .i64 L) ∧ w = w' := by
  have HL := Lib.hid hL
  clear hL
  go_enter Tryd.func25, Tryd.ntmps25
  go_wp2
  go_ret
  exact ⟨by rw [HL.out]; rfl, rfl⟩

set_option maxHeartbeats 800000 in
theorem numsLong_any (a : Option Addr) (n c : Nat) (L : Int) (w : World) (hL : L = numsL n) :
    Calls Tryd.prog 28 #[.slice a n c] w fun e w' => e = .returned (.int .i64 L) ∧ w = w' := by
  have HL := Lib.hid hL
  clear hL
  go_enter Tryd.func28, Tryd.ntmps28
  go_wp2
  go_ret
  exact ⟨by rw [HL.out]; rfl, rfl⟩

theorem strsL_snoc (zs : List ByteArray) (q : Nat) (s : ByteArray) (h : zs[q]? = some s) : strsL (zs.take (q + 1)) = wrap64 (strsL (zs.take q) + strL s) := by
  rw [List.take_add_one, h, strsL, List.foldl_append]
  rfl

set_option maxHeartbeats 1600000 in
theorem strsLong_any (zs : List ByteArray) (n : Nat) (a : Option Addr) (c : Nat) (L : Int) (w : World) (hL : L = strsL zs) (hr : StrsR w a zs) (hn : zs.length = n) (hn2 : n ≤ 1000000) :
    Calls Tryd.prog 33 #[.slice a n c] w fun e w' => e = .returned (.int .i64 L) ∧ w = w' := by
  have HL := Lib.hid hL
  have HR := Lib.hid hr
  have HN := Lib.hid hn
  clear hL hr hn
  go_enter Tryd.func33, Tryd.ntmps33
  go_wp2
  go_loopw [3, 8] (fun o i wr => ∃ j : Nat, j ≤ n ∧ o = .int .i64 (strsL (zs.take j)) ∧ i = .int .i64 j ∧ w = wr) (fun _ i _ => n - (intOf i).toNat)
  case atStart => exact ⟨0, by omega, rfl, rfl, rfl⟩
  case round =>
    obtain ⟨j, hj, rfl, rfl, rfl⟩ := hrel
    by_cases hlt : j < n
    · have hjl : j < zs.length := by have := HN.out; omega
      obtain ⟨g, o, rfl, hg, hc⟩ := HR.out (by have := HN.out; omega)
      obtain ⟨s, hs⟩ : ∃ s, zs[j]? = some s := ⟨_, List.getElem?_eq_getElem hjl⟩
      have c1 := hc j s hs
      obtain ⟨M, hM⟩ : ∃ M, M = strL s := ⟨_, rfl⟩
      have R1 := Lib.hid (fun u => strLong_any s M u hM)
      have HS := Lib.hid (strsL_snoc zs j s hs)
      rw [← hM] at HS
      obtain ⟨T, hT⟩ : ∃ T, T = strsL (zs.take j) := ⟨_, rfl⟩
      rw [← hT] at HS ⊢
      clear hjl hc hg hs hM hT
      go_wp2_with ((with_reducible refine (R1.out _).mono ?_; rintro e w1 ⟨rfl, rfl⟩))
      go_roundw
      case rel => exact ⟨j + 1, by omega, by rw [HS.out], by go_num, trivial⟩
      case measure => simp [intOf]; omega
    · obtain rfl : j = n := by omega
      have hlt2 : ¬ ((j : Int) < (j : Int)) := by omega
      have HT : strsL (zs.take j) = L := by rw [HL.out, List.take_of_length_le (by rw [HN.out]; exact Nat.le_refl _)]
      rw [HT]
      go_wp2
      go_ret
      exact ⟨rfl, rfl⟩
end Go.Proofs.YtlinpbmglcjkkaaDoor.Knw
