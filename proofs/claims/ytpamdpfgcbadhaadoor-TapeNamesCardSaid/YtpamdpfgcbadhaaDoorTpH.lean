/-
  The statements' helper cells of layer 15 answers true for lists that read the same. Conditions: no list has more than 1000000 cells.
-/
import Derived.Test.YtpamdpfgcbadhaaDoorTpU
import Derived.BigQuiet
import Derived.Deep.QuietTactic
namespace Go.Proofs.YtpamdpfgcbadhaaDoor.TpH
open Go.RowKit Mur Prt Lanes Tap Cel RTap
set_option maxRecDepth 100000
set_option linter.unusedSimpArgs false

theorem not_same (x : ByteArray) : (!(x.toList == x.toList)) = false := by simp
theorem same (x : ByteArray) : (x.toList == x.toList) = true := by simp

set_option maxHeartbeats 1600000 in
theorem cells_any (l : List K) (n m : Nat) (a b : Option Addr) (c d : Nat) (w : World) (hn : n = l.length) (hm : m = l.length) (hn2 : n ≤ 1000000) (ha : CelR w a l) (hb : CelR w b l) :
    Calls Tryd.prog 11 #[.slice a n c, .slice b m d] w fun e w' => e = .returned (.bool true) ∧ Below w.heap.size w w' := by
  obtain rfl : m = n := by omega
  have HA := Lib.hid ha
  have HB := Lib.hid hb
  have HN := Lib.hid hn
  clear ha hb hn hm
  have hd : ((m : Int) != (m : Int)) = false := by simp
  go_enter Tryd.func11, Tryd.ntmps11
  go_wp2
  go_loopw [13] (fun i wr => ∃ q k : Nat, q ≤ m ∧ i = .int .i64 q ∧ wr = w.drewN k) (fun i _ => m - (intOf i).toNat)
  case atStart => exact ⟨0, 0, by omega, rfl, rfl⟩
  case round =>
    obtain ⟨q, k, hq, rfl, rfl⟩ := hrel
    by_cases hlt : q < m
    · obtain ⟨g, o, rfl, hg, hgc⟩ := HA.out (by have := HN.out; omega)
      obtain ⟨h, o2, rfl, hh, hhc⟩ := HB.out (by have := HN.out; omega)
      have hql : q < l.length := by have := HN.out; omega
      obtain ⟨⟨A, D⟩, hx⟩ : ∃ x, l[q]? = some x := ⟨_, List.getElem?_eq_getElem hql⟩
      have c1 : w.cell? ⟨g, o + q * 2, none⟩ = some (.string A) := (hgc q _ hx).1
      have c2 : w.cell? ⟨g, o + q * 2 + 1, none⟩ = some (.string D) := (hgc q _ hx).2
      have c3 : w.cell? ⟨h, o2 + q * 2, none⟩ = some (.string A) := (hhc q _ hx).1
      have c4 : w.cell? ⟨h, o2 + q * 2 + 1, none⟩ = some (.string D) := (hhc q _ hx).2
      have s1 := same A
      have s2 := same D
      clear hql hgc hhc hx
      go_wp2
      go_quiet (fail)
      go_wp2
      go_roundw
      case rel => exact ⟨q + 1, k + nq, by omega, by go_num, rfl⟩
      case measure => simp [intOf]; omega
    · obtain rfl : q = m := by omega
      go_wp2
      go_ret
      exact ⟨rfl, belowN (Below.refl _ _) k⟩
end Go.Proofs.YtpamdpfgcbadhaaDoor.TpH
