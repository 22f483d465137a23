/-
  Find of the document's answer for layer 11: what is answered is what the plain mathematics says; all memory that was there stays as it was. Conditions: that lengths fit.
-/
import Derived.Test.YthlhhmhldpmpiaaDoorRPhrE
import Derived.Test.YthlhhmhldpmpiaaDoorPhrK
import Derived.Deep.LoopGhost
namespace Go.Proofs.YthlhhmhldpmpiaaDoor.RPhr
open Go.RowKit Mur Phr Runs
set_option maxRecDepth 100000

theorem prefix_next (k : Nat) : ∀ (y z : List Nat) (a b : Nat), y[k]? = some b → z[k]? = some a → (y.take (k + 1)).isPrefixOf z = ((y.take k).isPrefixOf z && ((a : Int) == (b : Int))) := by
  have hab : ∀ a b : Nat, ((a : Int) == (b : Int)) = (b == a) := fun a b => by
    rw [Bool.eq_iff_iff, beq_iff_eq, beq_iff_eq]
    omega
  induction k with
  | zero =>
    intro y z a b hy hz
    cases y with
    | nil => cases hy
    | cons y0 y =>
      cases z with
      | nil => cases hz
      | cons z0 z =>
        have e1 : y0 = b := Option.some.inj hy
        have e2 : z0 = a := Option.some.inj hz
        subst e1
        subst e2
        rw [hab]
        show ((y0 == z0) && ([] : List Nat).isPrefixOf z) = (([] : List Nat).isPrefixOf (z0 :: z) && (y0 == z0))
        simp
  | succ k ih =>
    intro y z a b hy hz
    cases y with
    | nil => cases hy
    | cons y0 y =>
      cases z with
      | nil => cases hz
      | cons z0 z =>
        have h := ih y z a b hy hz
        show ((y0 == z0) && (y.take (k + 1)).isPrefixOf z) = (((y0 == z0) && (y.take k).isPrefixOf z) && ((a : Int) == (b : Int)))
        rw [h, Bool.and_assoc]
theorem prefix_short (y z : List Nat) (h : z.length < y.length) : y.isPrefixOf z = false := by
  rw [← Bool.not_eq_true, List.isPrefixOf_iff_prefix]
  intro hp
  have := hp.length_le
  omega

set_option maxHeartbeats 6400000 in
theorem find_any (a b : ByteArray) (N : Int) (w : World) (hN : N = findB a.data.toList b.data.toList) (ha : a.size ≤ 1000000) (hb : b.size ≤ 1000000) :
    Calls Tryd.prog 32 #[.string a, .string b] w fun e w' => e = .returned (.int .i64 N) ∧ Below w.heap.size w w' := by
  obtain ⟨x, hx⟩ : ∃ x, x = fold a.data.toList := ⟨_, rfl⟩
  obtain ⟨y, hy⟩ : ∃ y, y = fold b.data.toList := ⟨_, rfl⟩
  have mx : ∀ c ∈ x, may c = true := by rw [hx]; exact may_map _ (rs_may _)
  have my : ∀ c ∈ y, may c = true := by rw [hy]; exact may_map _ (rs_may _)
  obtain ⟨A, hA⟩ : ∃ A, A = tx (text x) := ⟨_, rfl⟩
  obtain ⟨B, hB⟩ : ∃ B, B = tx (text y) := ⟨_, rfl⟩
  have hAs : A.size ≤ 1000000 := by
    rw [hA, tx_size, hx, fold, width_small, text_rs]
    exact Nat.le_trans (sd_length _) ha
  have hBs : B.size ≤ 1000000 := by
    rw [hB, tx_size, hy, fold, width_small, text_rs]
    exact Nat.le_trans (sd_length _) hb
  obtain ⟨p, hp⟩ : ∃ p, p = x.length := ⟨_, rfl⟩
  obtain ⟨q, hq⟩ : ∃ q, q = y.length := ⟨_, rfl⟩
  have hpl : p ≤ 1000000 := by have := (text_length x).1; rw [hA, tx_size] at hAs; omega
  have hql : q ≤ 1000000 := by have := (text_length y).1; rw [hB, tx_size] at hBs; omega
  have R1 := Lib.hid (fun u => fold_any a A u (by rw [hA, hx]; rfl) ha)
  have R2 := Lib.hid (fun u => fold_any b B u (by rw [hB, hy]; rfl) hb)
  have R3 := Lib.hid (fun u => runes_read A x true p u (by rw [hA, tx_list, rs_text x mx]) (by rw [hA, tx_list, runes_text x mx]; rfl) hp hAs)
  have R4 := Lib.hid (fun u => runes_read B y true q u (by rw [hB, tx_list, rs_text y my]) (by rw [hB, tx_list, runes_text y my]; rfl) hq hBs)
  have HN := Lib.hid (show N = find x y by rw [hN, hx, hy]; rfl)
  have HP := Lib.hid hp
  have HQ := Lib.hid hq
  clear hx hy hN ha hb hA hB hp hq hAs hBs mx my
  go_enter Tryd.func32, Tryd.ntmps32
  go_wp2_with fail
  refine (R1.out _).mono ?_
  rintro e w1 ⟨rfl, hb1⟩
  have HW1 := Lib.hid hb1
  clear hb1
  go_wp2_with fail
  refine (R3.out _).mono ?_
  rintro e w2 ⟨a2, c2, rfl, -, hr2, hb2⟩
  have HW2 := Lib.hid (HW1.out.trans (hb2.mono HW1.out.size))
  have HR2 := Lib.hid hr2
  clear hb2 hr2
  go_wp2_with fail
  refine (R2.out _).mono ?_
  rintro e w3 ⟨rfl, hb3⟩
  have HW3 := Lib.hid (HW2.out.trans (hb3.mono HW2.out.size))
  have HR3 := Lib.hid (HR2.out.below hb3)
  clear hb3 HR2
  go_wp2_with fail
  refine (R4.out _).mono ?_
  rintro e w4 ⟨a4, c4, rfl, -, hr4, hb4⟩
  have HW4 := Lib.hid (HW3.out.trans (hb4.mono HW3.out.size))
  have HX := Lib.hid (HR3.out.below hb4)
  have HY := Lib.hid hr4
  clear hb4 hr4 HR3
  go_wp2_with fail
  go_loopg [9] (p + 1) (fun gk i wr => ∃ (t j : Nat), t + gk = p + 1 ∧ i = .int .i64 t ∧ (∀ s, s < t → y.isPrefixOf (x.drop s) = false) ∧ wr = w4.drewN j)
  case atStart => exact ⟨0, 0, by omega, rfl, fun s hs => absurd hs (Nat.not_lt_zero _), rfl⟩
  case round =>
    obtain ⟨t, j, ht, rfl, hno, rfl⟩ := hrel
    have HNO := Lib.hid hno
    clear hno
    by_cases hle : t + q ≤ p
    · obtain ⟨g', rfl⟩ : ∃ g', gk = g' + 1 := ⟨gk - 1, by omega⟩
      have hd : decide ((t : Int) + (q : Int) ≤ (p : Int)) = true := decide_eq_true (by omega)
      have hd2 : decide (t + q ≤ p) = true := decide_eq_true hle
      go_wp2_with fail
      go_loopg [10, 35] q (fun gi sm k wi => ∃ (c d : Nat), c + gi = q ∧ k = .int .i64 c ∧ sm = .bool ((y.take c).isPrefixOf (x.drop t)) ∧ wi = w4.drewN d)
      case atStart => exact ⟨0, j, by omega, rfl, by rw [List.take_zero]; rfl, rfl⟩
      case round =>
        obtain ⟨c, d, hc, rfl, rfl, rfl⟩ := hrel
        by_cases hlt : c < q
        · obtain ⟨gi, rfl⟩ : ∃ gi, gk = gi + 1 := ⟨gk - 1, by omega⟩
          obtain ⟨u, hu⟩ : ∃ u, x[t + c]? = some u := ⟨_, List.getElem?_eq_getElem (show t + c < x.length by have := HP.out; omega)⟩
          obtain ⟨v, hv⟩ : ∃ v, y[c]? = some v := ⟨_, List.getElem?_eq_getElem (show c < y.length by have := HQ.out; omega)⟩
          obtain ⟨g1, o1, rfl, -, hc1⟩ := HX.out (by have := HP.out; omega)
          obtain ⟨g2, o2, rfl, -, hc2⟩ := HY.out (by have := HQ.out; omega)
          have d1 := hc1 (t + c) u hu
          have d2 := hc2 c v hv
          have HST := Lib.hid (prefix_next c y (x.drop t) u v hv (by rw [List.getElem?_drop]; exact hu))
          have htc : (t : Int) + (c : Int) < (p : Int) := by omega
          clear hc1 hc2 hu hv
          cases hs : (y.take c).isPrefixOf (x.drop t) with
          | true =>
            rw [hs, Bool.true_and] at HST
            generalize hst : (y.take (c + 1)).isPrefixOf (x.drop t) = st at *
            have HST2 := Lib.hid hst
            clear hs hst
            go_wp2
            go_quiet (fail)
            go_wp2
            go_roundg gi
            case measure => omega
            case rel => exact ⟨c + 1, d + nq, by omega, by go_num, by rw [HST2.out, HST.out], rfl⟩
          | false =>
            rw [hs, Bool.false_and] at HST
            clear hs
            go_wp2
            go_quiet (fail)
            go_wp2
            go_roundg gi
            case measure => omega
            case rel => exact ⟨c + 1, d + nq, by omega, by go_num, by rw [HST.out], rfl⟩
        · obtain rfl : gk = 0 := by omega
          obtain rfl : c = q := by omega
          rw [List.take_of_length_le (show y.length ≤ c by have := HQ.out; omega)]
          cases hs : y.isPrefixOf (x.drop t) with
          | true =>
            obtain rfl : N = (t : Int) := by
              rw [HN.out, find, findGo_some y x 0 t (by have := HP.out; omega) hs HNO.out]
              simp
            clear hs
            go_wp2
            go_ret
            exact ⟨rfl, belowN HW4.out _⟩
          | false =>
            have HNO2 := Lib.hid (show ∀ s, s < t + 1 → y.isPrefixOf (x.drop s) = false from fun s hs2 => by
              by_cases h : s = t
              · rw [h]; exact hs
              · exact HNO.out s (by omega))
            clear hs
            go_wp2
            go_roundg g'
            case measure => omega
            case rel => exact ⟨t + 1, d, by omega, by go_num, HNO2.out, rfl⟩
    · have hd : decide ((t : Int) + (q : Int) ≤ (p : Int)) = false := decide_eq_false (by omega)
      have hd2 : decide (t + q ≤ p) = false := decide_eq_false hle
      obtain rfl : N = -1 := by
        rw [HN.out, find, findGo_none y x 0 fun s hs => by
          by_cases h : s < t
          · exact HNO.out s h
          · exact prefix_short y _ (by rw [List.length_drop]; have := HP.out; have := HQ.out; omega)]
      go_wp2
      go_ret
      exact ⟨rfl, belowN HW4.out _⟩
end Go.Proofs.YthlhhmhldpmpiaaDoor.RPhr
