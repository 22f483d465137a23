/-
  The helper ints of layer 19's statements answers true of two slices that hold the same numbers. Condition: no more than a million.
-/
import Derived.Test.YtedgpglldlohfaaDoorLyU
import Derived.BigQuiet
import Derived.Deep.QuietTactic
namespace Go.Proofs.YtedgpglldlohfaaDoor.Lyo
open Go.RowKit Mur Zs
set_option maxRecDepth 100000

theorem not_same_int (x : Int) : (x != x) = false := by simp
set_option maxHeartbeats 800000 in
theorem ints_any (l : List Int) (n : Nat) (a b : Option Addr) (c d : Nat) (w : World) (hn : l.length = n) (hn2 : n ≤ 1000000) (ha : ZsR w a l) (hb : ZsR w b l) :
    Calls Tryd.prog 14 #[.slice a n c, .slice b n d] w fun e w' => e = .returned (.bool true) ∧ Below w.heap.size w w' := by
  have HA := Lib.hid ha
  have HB := Lib.hid hb
  have HN := Lib.hid hn
  clear ha hb hn
  have hd : ((n : Int) != (n : Int)) = false := by simp
  go_enter Tryd.func14, Tryd.ntmps14
  go_wp2
  go_loopw [13] (fun i wr => ∃ q k : Nat, q ≤ n ∧ i = .int .i64 q ∧ wr = w.drewN k) (fun i _ => n - (intOf i).toNat)
  case atStart => exact ⟨0, 0, by omega, rfl, rfl⟩
  case round =>
    obtain ⟨q, k, hq, rfl, rfl⟩ := hrel
    by_cases hlt : q < n
    · obtain ⟨g, o, rfl, hg, hgc⟩ := HA.out (by have := HN.out; omega)
      obtain ⟨h, o2, rfl, hh, hhc⟩ := HB.out (by have := HN.out; omega)
      have hql : q < l.length := by have := HN.out; omega
      have c1 := hgc q l[q] (List.getElem?_eq_getElem hql)
      have c2 := hhc q l[q] (List.getElem?_eq_getElem hql)
      generalize l[q] = x at *
      have hs := not_same_int x
      clear hql hgc hhc
      go_wp2
      go_quiet (fail)
      go_wp2
      go_roundw
      case rel => exact ⟨q + 1, k + nq, by omega, by go_num, rfl⟩
      case measure => simp [intOf]; omega
    · obtain rfl : q = n := by omega
      go_wp2
      go_ret
      exact ⟨rfl, Mur.belowN (Below.refl _ _) k⟩
end Go.Proofs.YtedgpglldlohfaaDoor.Lyo
