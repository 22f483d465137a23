/-
  The statements' helpers of layer 14: two slices of one and the same numbers, or texts, are alike; long: whether lists are more than is gone through. Conditions: that the slices' cells hold these numbers, these texts.
-/
import Derived.Test.YtlinpbmglcjkkaaDoorPrtD
import Derived.BigQuiet
import Derived.Deep.QuietTactic
namespace Go.Proofs.YtlinpbmglcjkkaaDoor.LetH
open Go.RowKit Mur Lanes Prt
set_option maxRecDepth 100000

theorem not_same (x : ByteArray) : (!(x.toList == x.toList)) = false := by simp
theorem not_same_int (x : Int) : (x != x) = false := by simp

/-- Are lists more than is gone through? -/
def longB (nl : Nat) (ms : List ByteArray) : Bool := ms.any (fun s => decide (6100 < s.size)) || (decide (300 < nl) || decide (300 < ms.length))
theorem longB_no (nl : Nat) (ms : List ByteArray) (h : longB nl ms = false) : (∀ s ∈ ms, s.size ≤ 6100) ∧ nl ≤ 300 ∧ ms.length ≤ 300 := by
  simp only [longB, Bool.or_eq_false_iff, decide_eq_false_iff_not, List.any_eq_false, decide_eq_true_eq] at h
  exact ⟨fun s hs => by have := h.1 s hs; omega, by omega, by omega⟩
set_option maxHeartbeats 1600000 in
theorem long_any (ms : List ByteArray) (nl nm : Nat) (a b : Option Addr) (c d : Nat) (B : Bool) (w : World) (hB : B = longB nl ms) (hm : nm = ms.length) (hb : StrsR w b ms) (h1 : nl ≤ 9223372036854775807) (h2 : nm ≤ 9223372036854775807) :
    Calls Tryd.prog 4 #[.slice a nl c, .slice b nm d] w fun e w' => e = .returned (.bool B) ∧ w = w' := by
  have HB := Lib.hid hB
  have HM := Lib.hid hm
  have HS := Lib.hid hb
  clear hB hm hb
  go_enter Tryd.func4, Tryd.ntmps4
  go_wp2
  go_loopw [9] (fun i wr => ∃ q : Nat, q ≤ nm ∧ i = .int .i64 q ∧ wr = w ∧ ∀ (k : Nat) (s : ByteArray), k < q → ms[k]? = some s → s.size ≤ 6100) (fun i _ => nm - (intOf i).toNat)
  case atStart => exact ⟨0, by omega, rfl, rfl, fun k s hk => absurd hk (Nat.not_lt_zero _)⟩
  case round =>
    obtain ⟨q, hq, rfl, rfl, hall⟩ := hrel
    have HALL := Lib.hid hall
    clear hall
    by_cases hlt : q < nm
    · obtain ⟨g, o, rfl, hg, hgc⟩ := HS.out (by have := HM.out; omega)
      have hql : q < ms.length := by have := HM.out; omega
      obtain ⟨s, hs⟩ : ∃ s, s = ms[q] := ⟨_, rfl⟩
      have c1 := hgc q s (by rw [hs]; exact List.getElem?_eq_getElem hql)
      by_cases hz : 6100 < s.size
      · have hd1 : decide (6100 < (s.size : Int)) = true := decide_eq_true (by omega)
        have hd2 : decide (6100 < s.size) = true := decide_eq_true hz
        have hBt : B = true := by
          rw [HB.out, longB, Bool.or_eq_true]
          exact .inl (List.any_eq_true.2 ⟨s, by rw [hs]; exact List.getElem_mem hql, hd2⟩)
        subst hBt
        clear hs hql hgc
        go_wp2
        go_ret
        exact ⟨rfl, rfl⟩
      · have hd1 : decide (6100 < (s.size : Int)) = false := decide_eq_false (by omega)
        have hd2 : decide (6100 < s.size) = false := decide_eq_false hz
        have HNEXT := Lib.hid (show ∀ (k : Nat) (x : ByteArray), k < q + 1 → ms[k]? = some x → x.size ≤ 6100 from fun k x hk hx => by
          rcases Nat.lt_succ_iff_lt_or_eq.1 hk with h | h
          · exact HALL.out k x h hx
          · subst h
            rw [List.getElem?_eq_getElem hql] at hx
            cases hx
            rw [← hs]
            omega)
        clear hs hql hgc hz
        go_wp2
        go_roundw
        case rel => exact ⟨q + 1, by omega, by go_num, trivial, HNEXT.out⟩
        case measure => simp [intOf]; omega
    · obtain rfl : q = nm := by omega
      have hany : ms.any (fun s => decide (6100 < s.size)) = false := by
        rw [List.any_eq_false]
        intro s hs
        obtain ⟨k, hk, rfl⟩ := List.mem_iff_getElem.1 hs
        have := HALL.out k ms[k] (by rw [HM.out]; exact hk) (List.getElem?_eq_getElem hk)
        simp
        omega
      have hBe : B = (decide (300 < nl) || decide (300 < q)) := by rw [HB.out, longB, hany, Bool.false_or, HM.out]
      clear hany HALL
      by_cases hn : 300 < nl
      · have hd1 : decide (300 < (nl : Int)) = true := decide_eq_true (by omega)
        have hd2 : decide (300 < nl) = true := decide_eq_true hn
        obtain rfl : B = true := by rw [hBe, hd2]; rfl
        clear hBe
        go_wp2
        go_ret
        exact ⟨rfl, rfl⟩
      · have hd1 : decide (300 < (nl : Int)) = false := decide_eq_false (by omega)
        have hd2 : decide (300 < nl) = false := decide_eq_false hn
        obtain ⟨z, hz⟩ : ∃ z, z = decide (300 < q) := ⟨_, rfl⟩
        have hd3 : decide (300 < (q : Int)) = z := by rw [hz]; exact decide_eq_decide.2 (by omega)
        have hd4 := hz.symm
        obtain rfl : B = z := by rw [hBe, hd2, hz]; rfl
        clear hBe hz
        go_wp2
        go_ret
        exact ⟨rfl, rfl⟩
end Go.Proofs.YtlinpbmglcjkkaaDoor.LetH
