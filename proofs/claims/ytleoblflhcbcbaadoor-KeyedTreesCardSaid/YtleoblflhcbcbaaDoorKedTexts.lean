/-
  The statements' helper 'texts' of layer 3: two slices of one and the same texts are alike. Condition: their cells hold these texts.
-/
import Derived.Test.YtleoblflhcbcbaaDoorChecked
import Derived.Test.YtleoblflhcbcbaaDoorStrs
import Derived.BigQuiet
import Derived.Deep.QuietTactic
namespace Go.Proofs.YtleoblflhcbcbaaDoor.Ked
open Go.RowKit Mur

theorem not_same (x : ByteArray) : (!(x.toList == x.toList)) = false := by simp
set_option maxHeartbeats 800000 in
theorem texts_any (l : List ByteArray) (n : Nat) (a b : Option Addr) (g h c d : Nat) (w : World) (hn : n = l.length) (hn2 : n ≤ 1000000) (ha : n ≠ 0 → a = some ⟨g, 0, none⟩) (hb : n ≠ 0 → b = some ⟨h, 0, none⟩) (hga : ∀ i x, l[i]? = some x → w.cell? ⟨g, i, none⟩ = some (.string x)) (hhb : ∀ i x, l[i]? = some x → w.cell? ⟨h, i, none⟩ = some (.string x)) :
    Calls Tryd.prog 19 #[.slice a n c, .slice b n d] w fun e w' => e = .returned (.bool true) ∧ ∃ k, w' = w.drewN k := by
  have HA := Lib.hid ha
  have HB := Lib.hid hb
  have HG := Lib.hid hga
  have HH := Lib.hid hhb
  have HN := Lib.hid hn
  clear ha hb hga hhb hn
  have hd : ((n : Int) != (n : Int)) = false := by simp
  go_enter Tryd.func19, Tryd.ntmps19
  go_wp2
  go_loopw [13] (fun i wr => ∃ q k : Nat, q ≤ n ∧ i = .int .i64 q ∧ wr = w.drewN k) (fun i _ => n - (intOf i).toNat)
  case atStart => exact ⟨0, 0, by omega, rfl, rfl⟩
  case round =>
    obtain ⟨q, k, hq, rfl, rfl⟩ := hrel
    by_cases hlt : q < n
    · obtain rfl := HA.out (by omega)
      obtain rfl := HB.out (by omega)
      have hql : q < l.length := by have := HN.out; omega
      have c1 : w.cell? ⟨g, q, none⟩ = some (.string l[q]) := HG.out q l[q] (List.getElem?_eq_getElem hql)
      have c2 : w.cell? ⟨h, q, none⟩ = some (.string l[q]) := HH.out q l[q] (List.getElem?_eq_getElem hql)
      generalize l[q] = x at *
      have hs := not_same x
      clear hql
      go_wp2
      go_quiet (fail)
      go_wp2
      go_roundw
      case rel => exact ⟨q + 1, k + nq, by omega, by go_num, rfl⟩
      case measure => simp [intOf]; omega
    · obtain rfl : q = n := by omega
      go_wp2
      go_ret
      exact ⟨rfl, k, rfl⟩
theorem texts_below (l : List ByteArray) (n : Nat) (a b : Option Addr) (g h c d : Nat) (w : World) (hn : n = l.length) (hn2 : n ≤ 1000000) (ha : n ≠ 0 → a = some ⟨g, 0, none⟩) (hb : n ≠ 0 → b = some ⟨h, 0, none⟩) (hga : ∀ i x, l[i]? = some x → w.cell? ⟨g, i, none⟩ = some (.string x)) (hhb : ∀ i x, l[i]? = some x → w.cell? ⟨h, i, none⟩ = some (.string x)) :
    Calls Tryd.prog 19 #[.slice a n c, .slice b n d] w fun e w' => e = .returned (.bool true) ∧ Below w.heap.size w w' :=
  (texts_any l n a b g h c d w hn hn2 ha hb hga hhb).mono fun _ _ ⟨h1, k, h2⟩ => ⟨h1, by rw [h2]; exact belowN (Below.refl _ _) k⟩
end Go.Proofs.YtleoblflhcbcbaaDoor.Ked
