/-
  The statements' helpers of layer 10: two slices of one and the same numbers, or texts, are alike; and the statements' own example answers true. Conditions: that the slices' cells hold these numbers, these texts.
-/
import Derived.Test.YtdmboijjkalefaaPrtD
import Derived.BigQuiet
import Derived.Deep.QuietTactic
namespace Go.Proofs.Ytdmboijjkalefaa.Prt
open Go.RowKit Mur Lanes
set_option maxRecDepth 100000

theorem not_same (x : ByteArray) : (!(x.toList == x.toList)) = false := by simp
theorem not_same_int (x : Int) : (x != x) = false := by simp

set_option maxHeartbeats 800000 in
theorem ints_any (l : List Int) (n m : Nat) (a b : Option Addr) (c d : Nat) (w : World) (hn : n = l.length) (hm : m = l.length) (hn2 : n ≤ 1000000) (ha : IntsR w a l) (hb : IntsR w b l) :
    Calls Try.prog 23 #[.slice a n c, .slice b m d] w fun e w' => e = .returned (.bool true) ∧ Below w.heap.size w w' := by
  obtain rfl : m = n := by omega
  have HA := Lib.hid ha
  have HB := Lib.hid hb
  have HN := Lib.hid hn
  clear ha hb hn hm
  have hd : ((m : Int) != (m : Int)) = false := by simp
  go_enter Try.func23, Try.ntmps23
  go_wp2
  go_loopw [13] (fun i wr => ∃ q k : Nat, q ≤ m ∧ i = .int .i64 q ∧ wr = w.drewN k) (fun i _ => m - (intOf i).toNat)
  case atStart => exact ⟨0, 0, by omega, rfl, rfl⟩
  case round =>
    obtain ⟨q, k, hq, rfl, rfl⟩ := hrel
    by_cases hlt : q < m
    · obtain ⟨g, o, rfl, hg, hgc⟩ := HA.out (by have := HN.out; omega)
      obtain ⟨h, o2, rfl, hh, hhc⟩ := HB.out (by have := HN.out; omega)
      have hql : q < l.length := by have := HN.out; omega
      have c1 := hgc q l[q] (List.getElem?_eq_getElem hql)
      have c2 := hhc q l[q] (List.getElem?_eq_getElem hql)
      generalize l[q] = x at *
      have hs := not_same_int x
      clear hql hgc hhc
      go_wp2
      go_quiet (fail)
      go_wp2
      go_roundw
      case rel => exact ⟨q + 1, k + nq, by omega, by go_num, rfl⟩
      case measure => simp [intOf]; omega
    · obtain rfl : q = m := by omega
      go_wp2
      go_ret
      exact ⟨rfl, belowN (Below.refl _ _) k⟩

set_option maxHeartbeats 800000 in
theorem texts_any (l : List ByteArray) (n m : Nat) (a b : Option Addr) (c d : Nat) (w : World) (hn : n = l.length) (hm : m = l.length) (hn2 : n ≤ 1000000) (ha : StrsR w a l) (hb : StrsR w b l) :
    Calls Try.prog 24 #[.slice a n c, .slice b m d] w fun e w' => e = .returned (.bool true) ∧ Below w.heap.size w w' := by
  obtain rfl : m = n := by omega
  have HA := Lib.hid ha
  have HB := Lib.hid hb
  have HN := Lib.hid hn
  clear ha hb hn hm
  have hd : ((m : Int) != (m : Int)) = false := by simp
  go_enter Try.func24, Try.ntmps24
  go_wp2
  go_loopw [13] (fun i wr => ∃ q k : Nat, q ≤ m ∧ i = .int .i64 q ∧ wr = w.drewN k) (fun i _ => m - (intOf i).toNat)
  case atStart => exact ⟨0, 0, by omega, rfl, rfl⟩
  case round =>
    obtain ⟨q, k, hq, rfl, rfl⟩ := hrel
    by_cases hlt : q < m
    · obtain ⟨g, o, rfl, hg, hgc⟩ := HA.out (by have := HN.out; omega)
      obtain ⟨h, o2, rfl, hh, hhc⟩ := HB.out (by have := HN.out; omega)
      have hql : q < l.length := by have := HN.out; omega
      have c1 := hgc q l[q] (List.getElem?_eq_getElem hql)
      have c2 := hhc q l[q] (List.getElem?_eq_getElem hql)
      generalize l[q] = x at *
      have hs := not_same x
      clear hql hgc hhc
      go_wp2
      go_quiet (fail)
      go_wp2
      go_roundw
      case rel => exact ⟨q + 1, k + nq, by omega, by go_num, rfl⟩
      case measure => simp [intOf]; omega
    · obtain rfl : q = m := by omega
      go_wp2
      go_ret
      exact ⟨rfl, belowN (Below.refl _ _) k⟩

theorem awake_str : layX (str [97, 98]) = ⟨#[0, 2, 97, 98]⟩ ∧ errV (str [97, 98]) = 0 := by constructor <;> rfl
theorem awake_nums : layX (layAll num [1]) = ⟨#[1, 0, 0, 0, 0, 1]⟩ ∧ errV (layAll num [1]) = 0 := by constructor <;> rfl
theorem awake_num : numV (readNum [120, 0, 0, 0, 1, 0] 1) = 256 ∧ posV (readNum [120, 0, 0, 0, 1, 0] 1) = 6 ∧ errV (readNum [120, 0, 0, 0, 1, 0] 1) = 0 := by refine ⟨?_, ?_, ?_⟩ <;> rfl
theorem awake_short : strV (readStr [0, 3, 97, 98] 0) = ⟨#[]⟩ ∧ posV (readStr [0, 3, 97, 98] 0) = 0 ∧ errV (readStr [0, 3, 97, 98] 0) = 2 := by refine ⟨?_, ?_, ?_⟩ <;> rfl
theorem awake_strs : listV (readAll readStr [1, 0, 1, 113] 0) = [[113]] ∧ posV (readAll readStr [1, 0, 1, 113] 0) = 4 ∧ errV (readAll readStr [1, 0, 1, 113] 0) = 0 := by refine ⟨?_, ?_, ?_⟩ <;> rfl

set_option maxHeartbeats 3200000 in
theorem awake_any (w : World) : Calls Try.prog 6 #[] w fun e w' => e = .returned (.bool true) ∧ Below w.heap.size w w' := by
  have R1 := Lib.hid (fun u => str_any ⟨#[97, 98]⟩ u ⟨#[0, 2, 97, 98]⟩ 0 awake_str.1.symm awake_str.2.symm (by decide))
  have R2 := Lib.hid (fun (a : Option Addr) (u : World) (hu : IntsR u a [1]) => nums_any [1] 1 a 1 u ⟨#[1, 0, 0, 0, 0, 1]⟩ 0 awake_nums.1.symm awake_nums.2.symm hu rfl (by omega) (fun z hz => by simp at hz; subst hz; omega))
  have R3 := Lib.hid (fun u => readNum_any ⟨#[120, 0, 0, 0, 1, 0]⟩ 1 u 256 6 0 awake_num.1.symm awake_num.2.1.symm awake_num.2.2.symm (by omega) (by omega) (by decide))
  have R4 := Lib.hid (fun u => readStr_any ⟨#[0, 3, 97, 98]⟩ 0 u ⟨#[]⟩ 0 2 awake_short.1.symm awake_short.2.1.symm awake_short.2.2.symm (by omega) (by omega) (by decide))
  have R5 := Lib.hid (show ∀ u, Calls Try.prog 21 #[.string ⟨#[1, 0, 1, 113]⟩, .int .i64 0] u fun e w' => ∃ ao c, e = .returned (.tuple #[.slice ao 1 c, .int .i64 4, .int .i64 0]) ∧ StrsR w' ao [⟨#[113]⟩] ∧ Below u.heap.size u w' from
    fun u => readstrs_any ⟨#[1, 0, 1, 113]⟩ 0 u [[113]] 4 0 awake_strs.1.symm awake_strs.2.1.symm awake_strs.2.2.symm (by omega) (by omega) (by decide))
  go_enter Try.func6, Try.ntmps6
  go_wp2_with fail
  refine (R1.out _).mono ?_
  rintro e w1 ⟨rfl, hb1⟩
  have HW1 := Lib.hid hb1
  clear hb1
  go_wp2_with fail
  refine (R2.out _ _ (fun _ => ⟨w1.heap.size, 0, rfl, by simp, fun i x hx => by
    match i, hx with
    | 0, hx => cases hx; simp [World.cell?_alloc_new]⟩)).mono ?_
  rintro e w2 ⟨rfl, hb2⟩
  have HW2 := Lib.hid ((HW1.out.alloc HW1.out.size (.cells #[.int .i64 1] 3)).trans (hb2.mono (Nat.le_trans HW1.out.size (by simp))))
  clear hb2
  go_wp2_with fail
  refine (R3.out _).mono ?_
  rintro e w3 ⟨rfl, hb3⟩
  have HW3 := Lib.hid (HW2.out.trans (hb3.mono HW2.out.size))
  clear hb3
  go_wp2_with fail
  refine (R4.out _).mono ?_
  rintro e w4 ⟨rfl, hb4⟩
  have HW4 := Lib.hid (HW3.out.trans (hb4.mono HW3.out.size))
  clear hb4
  go_wp2_with fail
  refine (R5.out _).mono ?_
  rintro e w5 ⟨ao, c, rfl, hr5, hb5⟩
  have HW5 := Lib.hid (HW4.out.trans (hb5.mono HW4.out.size))
  clear hb5
  obtain ⟨b, o, rfl, hb, hc⟩ := hr5 (by decide)
  have hc0 := hc 0 ⟨#[113]⟩ rfl
  rw [Nat.add_zero] at hc0
  clear hc hb
  go_wp2
  go_ret
  exact ⟨rfl, HW5.out⟩
end Go.Proofs.Ytdmboijjkalefaa.Prt
