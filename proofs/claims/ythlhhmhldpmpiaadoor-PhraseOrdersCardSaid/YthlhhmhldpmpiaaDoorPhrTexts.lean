/-
  The statements' helper of layer 11: two slices of one and the same texts are alike. Conditions: that the slices' cells hold these texts.
-/
import Derived.Test.YthlhhmhldpmpiaaDoorPhrQ
import Derived.BigQuiet
import Derived.Deep.QuietTactic
namespace Go.Proofs.YthlhhmhldpmpiaaDoor.Phr
open Go.RowKit Mur
set_option maxRecDepth 100000

theorem not_same (x : ByteArray) : (!(x.toList == x.toList)) = false := by simp

set_option maxHeartbeats 800000 in
theorem texts_any (l : List ByteArray) (n m : Nat) (a b : Option Addr) (c d : Nat) (w : World) (hn : n = l.length) (hm : m = l.length) (hn2 : n ≤ 1000000) (ha : StrsR w a l) (hb : StrsR w b l) :
    Calls Tryd.prog 20 #[.slice a n c, .slice b m d] w fun e w' => e = .returned (.bool true) ∧ Below w.heap.size w w' := by
  obtain rfl : m = n := by omega
  have HA := Lib.hid ha
  have HB := Lib.hid hb
  have HN := Lib.hid hn
  clear ha hb hn hm
  have hd : ((m : Int) != (m : Int)) = false := by simp
  go_enter Tryd.func20, Tryd.ntmps20
  go_wp2
  go_loopw [13] (fun i wr => ∃ q k : Nat, q ≤ m ∧ i = .int .i64 q ∧ wr = w.drewN k) (fun i _ => m - (intOf i).toNat)
  case atStart => exact ⟨0, 0, by omega, rfl, rfl⟩
  case round =>
    obtain ⟨q, k, hq, rfl, rfl⟩ := hrel
    by_cases hlt : q < m
    · obtain ⟨g, o, rfl, hg, hgc⟩ := HA.out (by have := HN.out; omega)
      obtain ⟨h, o2, rfl, hh, hhc⟩ := HB.out (by have := HN.out; omega)
      have hql : q < l.length := by have := HN.out; omega
      have c1 := hgc q l[q] (List.getElem?_eq_getElem hql)
      have c2 := hhc q l[q] (List.getElem?_eq_getElem hql)
      generalize l[q] = x at *
      have hs := not_same x
      clear hql hgc hhc
      go_wp2
      go_quiet (fail)
      go_wp2
      go_roundw
      case rel => exact ⟨q + 1, k + nq, by omega, by go_num, rfl⟩
      case measure => simp [intOf]; omega
    · obtain rfl : q = m := by omega
      go_wp2
      go_ret
      exact ⟨rfl, belowN (Below.refl _ _) k⟩
end Go.Proofs.YthlhhmhldpmpiaaDoor.Phr
