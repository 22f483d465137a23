/-
  The statements' helpers of layer 14: two slices of one and the same numbers, or texts, are alike; long: whether lists are more than is gone through. Conditions: that the slices' cells hold these numbers, these texts.
-/
import Derived.Test.YtlinpbmglcjkkaaPrtD
import Derived.BigQuiet
import Derived.Deep.QuietTactic
namespace Go.Proofs.Ytlinpbmglcjkkaa.LetH
open Go.RowKit Mur Lanes Prt
set_option maxRecDepth 100000

theorem not_same (x : ByteArray) : (!(x.toList == x.toList)) = false := by simp
theorem not_same_int (x : Int) : (x != x) = false := by simp

set_option maxHeartbeats 800000 in
theorem ints_any (l : List Int) (n m : Nat) (a b : Option Addr) (c d : Nat) (w : World) (hn : n = l.length) (hm : m = l.length) (hn2 : n ≤ 1000000) (ha : IntsR w a l) (hb : IntsR w b l) :
    Calls Try.prog 31 #[.slice a n c, .slice b m d] w fun e w' => e = .returned (.bool true) ∧ Below w.heap.size w w' := by
  obtain rfl : m = n := by omega
  have HA := Lib.hid ha
  have HB := Lib.hid hb
  have HN := Lib.hid hn
  clear ha hb hn hm
  have hd : ((m : Int) != (m : Int)) = false := by simp
  go_enter Try.func31, Try.ntmps31
  go_wp2
  go_loopw [13] (fun i wr => ∃ q k : Nat, q ≤ m ∧ i = .int .i64 q ∧ wr = w.drewN k) (fun i _ => m - (intOf i).toNat)
  case atStart => exact ⟨0, 0, by omega, rfl, rfl⟩
  case round =>
    obtain ⟨q, k, hq, rfl, rfl⟩ := hrel
    by_cases hlt : q < m
    · obtain ⟨g, o, rfl, hg, hgc⟩ := HA.out (by have := HN.out; omega)
      obtain ⟨h, o2, rfl, hh, hhc⟩ := HB.out (by have := HN.out; omega)
      have hql : q < l.length := by have := HN.out; omega
      have c1 := hgc q l[q] (List.getElem?_eq_getElem hql)
      have c2 := hhc q l[q] (List.getElem?_eq_getElem hql)
      generalize l[q] = x at *
      have hs := not_same_int x
      clear hql hgc hhc
      go_wp2
      go_quiet (fail)
      go_wp2
      go_roundw
      case rel => exact ⟨q + 1, k + nq, by omega, by go_num, rfl⟩
      case measure => simp [intOf]; omega
    · obtain rfl : q = m := by omega
      go_wp2
      go_ret
      exact ⟨rfl, belowN (Below.refl _ _) k⟩

set_option maxHeartbeats 800000 in
theorem texts_any (l : List ByteArray) (n m : Nat) (a b : Option Addr) (c d : Nat) (w : World) (hn : n = l.length) (hm : m = l.length) (hn2 : n ≤ 1000000) (ha : StrsR w a l) (hb : StrsR w b l) :
    Calls Try.prog 32 #[.slice a n c, .slice b m d] w fun e w' => e = .returned (.bool true) ∧ Below w.heap.size w w' := by
  obtain rfl : m = n := by omega
  have HA := Lib.hid ha
  have HB := Lib.hid hb
  have HN := Lib.hid hn
  clear ha hb hn hm
  have hd : ((m : Int) != (m : Int)) = false := by simp
  go_enter Try.func32, Try.ntmps32
  go_wp2
  go_loopw [13] (fun i wr => ∃ q k : Nat, q ≤ m ∧ i = .int .i64 q ∧ wr = w.drewN k) (fun i _ => m - (intOf i).toNat)
  case atStart => exact ⟨0, 0, by omega, rfl, rfl⟩
  case round =>
    obtain ⟨q, k, hq, rfl, rfl⟩ := hrel
    by_cases hlt : q < m
    · obtain ⟨g, o, rfl, hg, hgc⟩ := HA.out (by have := HN.out; omega)
      obtain ⟨h, o2, rfl, hh, hhc⟩ := HB.out (by have := HN.out; omega)
      have hql : q < l.length := by have := HN.out; omega
      have c1 := hgc q l[q] (List.getElem?_eq_getElem hql)
      have c2 := hhc q l[q] (List.getElem?_eq_getElem hql)
      generalize l[q] = x at *
      have hs := not_same x
      clear hql hgc hhc
      go_wp2
      go_quiet (fail)
      go_wp2
      go_roundw
      case rel => exact ⟨q + 1, k + nq, by omega, by go_num, rfl⟩
      case measure => simp [intOf]; omega
    · obtain rfl : q = m := by omega
      go_wp2
      go_ret
      exact ⟨rfl, belowN (Below.refl _ _) k⟩

theorem awake_str : layX (str [97, 98]) = ⟨#[0, 2, 97, 98]⟩ ∧ errV (str [97, 98]) = 0 := by constructor <;> rfl
theorem awake_nums : layX (layAll num [1]) = ⟨#[1, 0, 0, 0, 0, 1]⟩ ∧ errV (layAll num [1]) = 0 := by constructor <;> rfl
theorem awake_num : numV (readNum [120, 0, 0, 0, 1, 0] 1) = 256 ∧ posV (readNum [120, 0, 0, 0, 1, 0] 1) = 6 ∧ errV (readNum [120, 0, 0, 0, 1, 0] 1) = 0 := by refine ⟨?_, ?_, ?_⟩ <;> rfl
theorem awake_short : strV (readStr [0, 3, 97, 98] 0) = ⟨#[]⟩ ∧ posV (readStr [0, 3, 97, 98] 0) = 0 ∧ errV (readStr [0, 3, 97, 98] 0) = 2 := by refine ⟨?_, ?_, ?_⟩ <;> rfl
theorem awake_strs : listV (readAll readStr [1, 0, 1, 113] 0) = [[113]] ∧ posV (readAll readStr [1, 0, 1, 113] 0) = 4 ∧ errV (readAll readStr [1, 0, 1, 113] 0) = 0 := by refine ⟨?_, ?_, ?_⟩ <;> rfl


/-- Are lists more than is gone through? -/
def longB (nl : Nat) (ms : List ByteArray) : Bool := ms.any (fun s => decide (6100 < s.size)) || (decide (300 < nl) || decide (300 < ms.length))
theorem longB_no (nl : Nat) (ms : List ByteArray) (h : longB nl ms = false) : (∀ s ∈ ms, s.size ≤ 6100) ∧ nl ≤ 300 ∧ ms.length ≤ 300 := by
  simp only [longB, Bool.or_eq_false_iff, decide_eq_false_iff_not, List.any_eq_false, decide_eq_true_eq] at h
  exact ⟨fun s hs => by have := h.1 s hs; omega, by omega, by omega⟩
set_option maxHeartbeats 1600000 in
theorem long_any (ms : List ByteArray) (nl nm : Nat) (a b : Option Addr) (c d : Nat) (B : Bool) (w : World) (hB : B = longB nl ms) (hm : nm = ms.length) (hb : StrsR w b ms) (h1 : nl ≤ 9223372036854775807) (h2 : nm ≤ 9223372036854775807) :
    Calls Try.prog 7 #[.slice a nl c, .slice b nm d] w fun e w' => e = .returned (.bool B) ∧ w = w' := by
  have HB := Lib.hid hB
  have HM := Lib.hid hm
  have HS := Lib.hid hb
  clear hB hm hb
  go_enter Try.func7, Try.ntmps7
  go_wp2
  go_loopw [9] (fun i wr => ∃ q : Nat, q ≤ nm ∧ i = .int .i64 q ∧ wr = w ∧ ∀ (k : Nat) (s : ByteArray), k < q → ms[k]? = some s → s.size ≤ 6100) (fun i _ => nm - (intOf i).toNat)
  case atStart => exact ⟨0, by omega, rfl, rfl, fun k s hk => absurd hk (Nat.not_lt_zero _)⟩
  case round =>
    obtain ⟨q, hq, rfl, rfl, hall⟩ := hrel
    have HALL := Lib.hid hall
    clear hall
    by_cases hlt : q < nm
    · obtain ⟨g, o, rfl, hg, hgc⟩ := HS.out (by have := HM.out; omega)
      have hql : q < ms.length := by have := HM.out; omega
      obtain ⟨s, hs⟩ : ∃ s, s = ms[q] := ⟨_, rfl⟩
      have c1 := hgc q s (by rw [hs]; exact List.getElem?_eq_getElem hql)
      by_cases hz : 6100 < s.size
      · have hd1 : decide (6100 < (s.size : Int)) = true := decide_eq_true (by omega)
        have hd2 : decide (6100 < s.size) = true := decide_eq_true hz
        have hBt : B = true := by
          rw [HB.out, longB, Bool.or_eq_true]
          exact .inl (List.any_eq_true.2 ⟨s, by rw [hs]; exact List.getElem_mem hql, hd2⟩)
        subst hBt
        clear hs hql hgc
        go_wp2
        go_ret
        exact ⟨rfl, rfl⟩
      · have hd1 : decide (6100 < (s.size : Int)) = false := decide_eq_false (by omega)
        have hd2 : decide (6100 < s.size) = false := decide_eq_false hz
        have HNEXT := Lib.hid (show ∀ (k : Nat) (x : ByteArray), k < q + 1 → ms[k]? = some x → x.size ≤ 6100 from fun k x hk hx => by
          rcases Nat.lt_succ_iff_lt_or_eq.1 hk with h | h
          · exact HALL.out k x h hx
          · subst h
            rw [List.getElem?_eq_getElem hql] at hx
            cases hx
            rw [← hs]
            omega)
        clear hs hql hgc hz
        go_wp2
        go_roundw
        case rel => exact ⟨q + 1, by omega, by go_num, trivial, HNEXT.out⟩
        case measure => simp [intOf]; omega
    · obtain rfl : q = nm := by omega
      have hany : ms.any (fun s => decide (6100 < s.size)) = false := by
        rw [List.any_eq_false]
        intro s hs
        obtain ⟨k, hk, rfl⟩ := List.mem_iff_getElem.1 hs
        have := HALL.out k ms[k] (by rw [HM.out]; exact hk) (List.getElem?_eq_getElem hk)
        simp
        omega
      have hBe : B = (decide (300 < nl) || decide (300 < q)) := by rw [HB.out, longB, hany, Bool.false_or, HM.out]
      clear hany HALL
      by_cases hn : 300 < nl
      · have hd1 : decide (300 < (nl : Int)) = true := decide_eq_true (by omega)
        have hd2 : decide (300 < nl) = true := decide_eq_true hn
        obtain rfl : B = true := by rw [hBe, hd2]; rfl
        clear hBe
        go_wp2
        go_ret
        exact ⟨rfl, rfl⟩
      · have hd1 : decide (300 < (nl : Int)) = false := decide_eq_false (by omega)
        have hd2 : decide (300 < nl) = false := decide_eq_false hn
        obtain ⟨z, hz⟩ : ∃ z, z = decide (300 < q) := ⟨_, rfl⟩
        have hd3 : decide (300 < (q : Int)) = z := by rw [hz]; exact decide_eq_decide.2 (by omega)
        have hd4 := hz.symm
        obtain rfl : B = z := by rw [hBe, hd2, hz]; rfl
        clear hBe hz
        go_wp2
        go_ret
        exact ⟨rfl, rfl⟩
end Go.Proofs.Ytlinpbmglcjkkaa.LetH
