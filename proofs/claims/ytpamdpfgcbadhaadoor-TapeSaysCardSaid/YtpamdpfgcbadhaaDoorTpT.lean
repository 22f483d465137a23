/-
  What package tape calls of Go's library: strconv.Itoa (over its table of powers of ten, which lies in a variable), strings.HasPrefix; and Dec, the names of numbers. Condition: the table's cells (Pow).
-/
import Derived.Test.YtpamdpfgcbadhaaDoorRTpE
import Derived.Test.YtpamdpfgcbadhaaDoorShelf
import Derived.Lib.AppendIntMem
namespace Go.Proofs.YtpamdpfgcbadhaaDoor.Tape
open Go.RowKit Mur Prt Lanes Tap Cel RTap
set_option maxRecDepth 100000
set_option linter.unusedSimpArgs false

/-- The table of powers of ten lies in its variable. -/
def Pow (w : World) : Prop := Lib.TabIs Tryd.prog w "internal/strconv.uint64pow10" .u64 Lib.pow10Tab
theorem Pow.below {w w' : World} (h : Pow w) (k : Below w.heap.size w w') : Pow w' := Lib.tabBelow_of_tabIs h w' k
theorem digits_lib (n : Nat) : Lib.decDigits n = digits n := by
  induction n using Nat.strongRecOn with
  | ind n ih =>
    by_cases h : n < 10
    · rw [Lib.decDigits, dif_pos h, digits_low n h]
    · rw [Lib.decDigits, dif_neg h, digits_high n h, ih (n / 10) (by omega)]
theorem itoa_dec (n : Int) (m : Nat) (h : max n 0 = (m : Int)) : Lib.itoa (m : Int) = dec n := by
  rw [Lib.itoa_nonneg, digits_lib, ← dec_nat, dec, dec]
  by_cases hn : n < 1
  · rw [if_pos hn, if_pos (by omega)]
  · rw [if_neg hn, if_neg (by omega)]
    congr 1
    omega
theorem below_grow (w : World) (k : Nat) (os : Array Obj) : Below w.heap.size w (Sort.grow (w.drewN k) os) :=
  ⟨rfl, rfl, rfl, by rw [Sort.size_grow]; exact Nat.le_add_right _ _, fun j hj => Sort.heap_grow_old (w.drewN k) os hj⟩

set_option maxHeartbeats 1600000 in
theorem dec_any (n : Int) (X : ByteArray) (w : World) (hX : X = tx (dec n)) (h1 : -9223372036854775808 ≤ n) (h2 : n ≤ 9223372036854775807) (hp : Pow w) :
    Calls Tryd.prog 16 #[.int .i64 n] w fun e w' => e = .returned (.string X) ∧ Below w.heap.size w w' := by
  obtain ⟨m, hm⟩ : ∃ m : Nat, max n 0 = (m : Int) := ⟨(max n 0).toNat, by omega⟩
  have R := Lib.hid (Tryd.strconv_Itoa (m : Int) (by omega) (by omega) w hp)
  have hq : (⟨(Lib.itoa (m : Int)).toArray⟩ : ByteArray) = X := by rw [hX, itoa_dec n m hm]
  rw [hq] at R
  clear hq hX h1 h2 hp
  go_enter Tryd.func16, Tryd.ntmps16
  go_wp2_with ((with_reducible refine R.out.mono ?_); rintro e w2 ⟨rfl, k, os, rfl⟩)
  go_ret
  exact ⟨rfl, below_grow w k os⟩
end Go.Proofs.YtpamdpfgcbadhaaDoor.Tape
