/-
  The statements' helpers of layer 16: cells and issues answer true for lists that read the same; long tells whether a play is more than is gone through. Conditions: no list has more than 1000000 of them.
-/
import Derived.Test.YtdhipdoaefdfeaaGreatDoorBkC
import Derived.BigQuiet
import Derived.Deep.QuietTactic
namespace Go.Proofs.YtdhipdoaefdfeaaGreatDoor.Bkh
open Go.RowKit Mur Prt Lanes Tap Cel Bkl Bkm Rec Bkr
set_option maxRecDepth 100000
set_option linter.unusedSimpArgs false

theorem not_same (x : ByteArray) : (!(x.toList == x.toList)) = false := by simp
theorem same (x : ByteArray) : (x.toList == x.toList) = true := by simp
/-- A call of the statements: what to do, a number, a name, a text. -/
structure OpK where
  kind : Int
  num : Int
  name : ByteArray
  text : ByteArray
def opV (o : OpK) : List Value := [.int .i64 o.kind, .int .i64 o.num, .string o.name, .string o.text]
abbrev OpsR (w : World) (a : Option Addr) (l : List OpK) : Prop := RecR 4 opV w a l
def great (o : OpK) : Bool := decide (300 < (o.name.size : Int) + (o.text.size : Int)) || decide (2000 < o.num)

set_option maxHeartbeats 1600000 in
theorem cells_any (l : List K) (n m : Nat) (a b : Option Addr) (c d : Nat) (w : World) (hn : n = l.length) (hm : m = l.length) (hn2 : n ≤ 1000000) (ha : CelR w a l) (hb : CelR w b l) :
    Calls Tryz.prog 17 #[.slice a n c, .slice b m d] w fun e w' => e = .returned (.bool true) ∧ Below w.heap.size w w' := by
  obtain rfl : m = n := by omega
  have HA := Lib.hid ha
  have HB := Lib.hid hb
  have HN := Lib.hid hn
  clear ha hb hn hm
  have hd : ((m : Int) != (m : Int)) = false := by simp
  go_enter Tryz.func17, Tryz.ntmps17
  go_wp2
  go_loopw [13] (fun i wr => ∃ q k : Nat, q ≤ m ∧ i = .int .i64 q ∧ wr = w.drewN k) (fun i _ => m - (intOf i).toNat)
  case atStart => exact ⟨0, 0, by omega, rfl, rfl⟩
  case round =>
    obtain ⟨q, k, hq, rfl, rfl⟩ := hrel
    by_cases hlt : q < m
    · obtain ⟨g, o, rfl, hg, hgc⟩ := HA.out (by have := HN.out; omega)
      obtain ⟨h, o2, rfl, hh, hhc⟩ := HB.out (by have := HN.out; omega)
      have hql : q < l.length := by have := HN.out; omega
      obtain ⟨⟨A, D⟩, hx⟩ : ∃ x, l[q]? = some x := ⟨_, List.getElem?_eq_getElem hql⟩
      have c1 : w.cell? ⟨g, o + q * 2, none⟩ = some (.string A) := (hgc q _ hx).1
      have c2 : w.cell? ⟨g, o + q * 2 + 1, none⟩ = some (.string D) := (hgc q _ hx).2
      have c3 : w.cell? ⟨h, o2 + q * 2, none⟩ = some (.string A) := (hhc q _ hx).1
      have c4 : w.cell? ⟨h, o2 + q * 2 + 1, none⟩ = some (.string D) := (hhc q _ hx).2
      have s1 := same A
      have s2 := same D
      clear hql hgc hhc hx
      go_wp2
      go_quiet (fail)
      go_wp2
      go_roundw
      case rel => exact ⟨q + 1, k + nq, by omega, by go_num, rfl⟩
      case measure => simp [intOf]; omega
    · obtain rfl : q = m := by omega
      go_wp2
      go_ret
      exact ⟨rfl, belowN (Below.refl _ _) k⟩
set_option maxHeartbeats 1600000 in
theorem issues_any (l : List Iss) (n m : Nat) (a b : Option Addr) (c d : Nat) (w : World) (hn : n = l.length) (hm : m = l.length) (hn2 : n ≤ 1000000) (ha : IssR w a l) (hb : IssR w b l) :
    Calls Tryz.prog 16 #[.slice a n c, .slice b m d] w fun e w' => e = .returned (.bool true) ∧ Below w.heap.size w w' := by
  obtain rfl : m = n := by omega
  have HA := Lib.hid ha
  have HB := Lib.hid hb
  have HN := Lib.hid hn
  clear ha hb hn hm
  have hd : ((m : Int) != (m : Int)) = false := by simp
  go_enter Tryz.func16, Tryz.ntmps16
  go_wp2
  go_loopw [13] (fun i wr => ∃ q k : Nat, q ≤ m ∧ i = .int .i64 q ∧ wr = w.drewN k) (fun i _ => m - (intOf i).toNat)
  case atStart => exact ⟨0, 0, by omega, rfl, rfl⟩
  case round =>
    obtain ⟨q, k, hq, rfl, rfl⟩ := hrel
    by_cases hlt : q < m
    · obtain ⟨g, o, rfl, hg, hgc⟩ := HA.out (by have := HN.out; omega)
      obtain ⟨h, o2, rfl, hh, hhc⟩ := HB.out (by have := HN.out; omega)
      have hql : q < l.length := by have := HN.out; omega
      obtain ⟨⟨A, D, E⟩, hx⟩ : ∃ x, l[q]? = some x := ⟨_, List.getElem?_eq_getElem hql⟩
      have c1 : w.cell? ⟨g, o + q * 3, none⟩ = some (.string (tx A)) := hgc q _ hx 0 _ rfl
      have c2 : w.cell? ⟨g, o + q * 3 + 1, none⟩ = some (.string (tx D)) := hgc q _ hx 1 _ rfl
      have c3 : w.cell? ⟨g, o + q * 3 + 2, none⟩ = some (.string (tx E)) := hgc q _ hx 2 _ rfl
      have c4 : w.cell? ⟨h, o2 + q * 3, none⟩ = some (.string (tx A)) := hhc q _ hx 0 _ rfl
      have c5 : w.cell? ⟨h, o2 + q * 3 + 1, none⟩ = some (.string (tx D)) := hhc q _ hx 1 _ rfl
      have c6 : w.cell? ⟨h, o2 + q * 3 + 2, none⟩ = some (.string (tx E)) := hhc q _ hx 2 _ rfl
      have s1 := same (tx A)
      have s2 := same (tx D)
      have s3 := same (tx E)
      clear hql hgc hhc hx
      go_wp2
      go_quiet (fail)
      go_wp2
      go_roundw
      case rel => exact ⟨q + 1, k + nq, by omega, by go_num, rfl⟩
      case measure => simp [intOf]; omega
    · obtain rfl : q = m := by omega
      go_wp2
      go_ret
      exact ⟨rfl, belowN (Below.refl _ _) k⟩

set_option maxHeartbeats 3200000 in
theorem long_any (l : List OpK) (n : Nat) (a : Option Addr) (c : Nat) (B : Bool) (w : World) (hB : B = (l.any great || decide (20 < n))) (hr : OpsR w a l) (hn : l.length = n) (hnm : n ≤ 9223372036854775807) (hz : ∀ o ∈ l, o.name.size ≤ 140737488351232 ∧ o.text.size ≤ 140737488351232) :
    Calls Tryz.prog 13 #[.slice a n c, .slice none 0 0] w fun e w' => e = .returned (.bool B) ∧ Below w.heap.size w w' := by
  have HR := Lib.hid hr
  have HN := Lib.hid hn
  have HZ := Lib.hid hz
  have HB := Lib.hid hB
  clear hr hn hz hB
  go_enter Tryz.func13, Tryz.ntmps13
  go_wp2
  go_loopw [9] (fun i wr => ∃ j : Nat, j ≤ n ∧ i = .int .i64 (j : Int) ∧ Below w.heap.size w wr ∧ (l.take j).any great = false) (fun i _ => n - (intOf i).toNat)
  case atStart => exact ⟨0, by omega, rfl, Below.refl _ _, by simp⟩
  case round =>
    obtain ⟨j, hj, rfl, hb, hs⟩ := hrel
    have HS := Lib.hid (And.intro hb hs)
    clear hb hs
    by_cases hlt : j < n
    · have hlt2 : (j : Int) < (n : Int) := by omega
      have hjl : j < l.length := by have := HN.out; omega
      obtain ⟨b, o, rfl, hlo, hcell⟩ := HR.out (by omega)
      obtain ⟨x, hx⟩ : ∃ x, l[j]? = some x := ⟨_, List.getElem?_eq_getElem hjl⟩
      obtain ⟨z1, z2⟩ := HZ.out x (List.mem_of_getElem? hx)
      have k0 : wr.cell? ⟨b, o + j * 4, none⟩ = some (.int .i64 x.kind) := (HS.out.1.cell (p := ⟨b, o + j * 4, none⟩) hlo).trans (hcell j x hx 0 _ rfl)
      have k1 : wr.cell? ⟨b, o + j * 4 + 1, none⟩ = some (.int .i64 x.num) := (HS.out.1.cell (p := ⟨b, o + j * 4 + 1, none⟩) hlo).trans (hcell j x hx 1 _ rfl)
      have k2 : wr.cell? ⟨b, o + j * 4 + 2, none⟩ = some (.string x.name) := (HS.out.1.cell (p := ⟨b, o + j * 4 + 2, none⟩) hlo).trans (hcell j x hx 2 _ rfl)
      have k3 : wr.cell? ⟨b, o + j * 4 + 3, none⟩ = some (.string x.text) := (HS.out.1.cell (p := ⟨b, o + j * 4 + 3, none⟩) hlo).trans (hcell j x hx 3 _ rfl)
      have n1 : ¬ 9223372036854775807 < x.name.size + x.text.size := by omega
      have hnext : (l.take (j + 1)).any great = great x := by
        rw [List.take_add_one, hx, List.any_append, HS.out.2]
        simp
      have hbig : great x = true → B = true := fun h => by
        rw [HB.out]
        have : l.any great = true := List.any_eq_true.2 ⟨x, List.mem_of_getElem? hx, h⟩
        rw [this]
        rfl
      have HX := Lib.hid (And.intro hnext hbig)
      clear hnext hbig hcell hjl hx
      by_cases g1 : (300 : Int) < (x.name.size : Int) + (x.text.size : Int)
      · have g2 : 300 < x.name.size + x.text.size := by omega
        have e1 : decide (300 < (x.name.size : Int) + (x.text.size : Int)) = true := decide_eq_true g1
        have e2 : decide (300 < x.name.size + x.text.size) = true := decide_eq_true g2
        have hB1 : B = true := HX.out.2 (by rw [great, e1]; rfl)
        subst hB1
        go_wp2
        go_ret
        exact ⟨rfl, HS.out.1.alloc HS.out.1.size _⟩
      · have g2 : ¬ 300 < x.name.size + x.text.size := by omega
        have e1 : decide (300 < (x.name.size : Int) + (x.text.size : Int)) = false := decide_eq_false g1
        have e2 : decide (300 < x.name.size + x.text.size) = false := decide_eq_false g2
        by_cases g3 : 2000 < x.num
        · have e3 : decide (2000 < x.num) = true := decide_eq_true g3
          have hB1 : B = true := HX.out.2 (by rw [great, e3]; simp)
          subst hB1
          go_wp2
          go_ret
          exact ⟨rfl, HS.out.1.alloc HS.out.1.size _⟩
        · have e3 : decide (2000 < x.num) = false := decide_eq_false g3
          go_wp2
          go_roundw
          case rel => exact ⟨j + 1, by omega, by go_num, HS.out.1.alloc HS.out.1.size _, by rw [HX.out.1, great, e1, e3]; rfl⟩
          case measure => simp [intOf]; omega
    · obtain rfl : j = n := by omega
      have hlt2 : ¬ ((j : Int) < (j : Int)) := by omega
      have hall : l.any great = false := by
        have := HS.out.2
        rwa [List.take_of_length_le (by have := HN.out; omega)] at this
      have hB1 : B = decide (20 < (j : Int)) := by
        rw [HB.out, hall, Bool.false_or]
        by_cases g : 20 < j
        · rw [decide_eq_true g, decide_eq_true (by omega)]
        · rw [decide_eq_false g, decide_eq_false (by omega)]
      by_cases g : 20 < j
      · have e1 : decide (20 < (j : Int)) = true := decide_eq_true (by omega)
        have e2 : decide (20 < j) = true := decide_eq_true g
        rw [e1] at hB1
        subst hB1
        go_wp2
        go_ret
        exact ⟨by simp, HS.out.1⟩
      · have e1 : decide (20 < (j : Int)) = false := decide_eq_false (by omega)
        have e2 : decide (20 < j) = false := decide_eq_false g
        rw [e1] at hB1
        subst hB1
        go_wp2
        go_ret
        exact ⟨by simp, HS.out.1⟩
end Go.Proofs.YtdhipdoaefdfeaaGreatDoor.Bkh
