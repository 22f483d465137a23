/-
  Compare of the document's answer for layer 11: what is answered is what the plain mathematics says; all memory that was there stays as it was. Conditions: that lengths fit.
-/
import Derived.Test.YthlhhmhldpmpiaaDoorRPhrH
import Derived.Laws.Cover1
namespace Go.Proofs.YthlhhmhldpmpiaaDoor.RPhr
open Go.RowKit Mur Phr Runs
set_option maxRecDepth 100000

theorem less_true (a b : ByteArray) (h : cmpL (bytesN a.data.toList) (bytesN b.data.toList) = -1) : Op.bytesLess a.toList b.toList = true := by
  rw [Go.ByteArray.toList_eq, Go.ByteArray.toList_eq, bytesLess_cmp, h]
  rfl
theorem less_false (a b : ByteArray) (h : cmpL (bytesN a.data.toList) (bytesN b.data.toList) ≠ -1) : Op.bytesLess a.toList b.toList = false := by
  rw [Go.ByteArray.toList_eq, Go.ByteArray.toList_eq, bytesLess_cmp, decide_eq_false h]

theorem same_true (a b : ByteArray) (h : cmpL (bytesN a.data.toList) (bytesN b.data.toList) = 0) : (a.toList == b.toList) = true := by
  rw [Go.ByteArray.toList_eq, Go.ByteArray.toList_eq, bytesN_inj _ _ ((cmpL_zero _ _).1 h)]
  exact beq_self_eq_true _
theorem same_false (a b : ByteArray) (h : cmpL (bytesN a.data.toList) (bytesN b.data.toList) ≠ 0) : (a.toList == b.toList) = false := by
  rw [Go.ByteArray.toList_eq, Go.ByteArray.toList_eq, beq_eq_false_iff_ne]
  intro e
  exact h ((cmpL_zero _ _).2 (by rw [e]))

set_option maxHeartbeats 6400000 in
theorem compare_any (a b : ByteArray) (N : Int) (w : World) (hN : N = Phr.compare a.data.toList b.data.toList) (ha : a.size ≤ 1000000) (hb : b.size ≤ 1000000) :
    Calls Tryd.prog 34 #[.string a, .string b] w fun e w' => e = .returned (.int .i64 N) ∧ Below w.heap.size w w' := by
  obtain ⟨x, hx⟩ : ∃ x, x = fold a.data.toList := ⟨_, rfl⟩
  obtain ⟨y, hy⟩ : ∃ y, y = fold b.data.toList := ⟨_, rfl⟩
  have mx : ∀ c ∈ x, may c = true := by rw [hx]; exact may_map _ (rs_may _)
  have my : ∀ c ∈ y, may c = true := by rw [hy]; exact may_map _ (rs_may _)
  obtain ⟨A, hA⟩ : ∃ A, A = tx (text x) := ⟨_, rfl⟩
  obtain ⟨B, hB⟩ : ∃ B, B = tx (text y) := ⟨_, rfl⟩
  have hAs : A.size ≤ 1000000 := by
    rw [hA, tx_size, hx, fold, width_small, text_rs]
    exact Nat.le_trans (sd_length _) ha
  have hBs : B.size ≤ 1000000 := by
    rw [hB, tx_size, hy, fold, width_small, text_rs]
    exact Nat.le_trans (sd_length _) hb
  obtain ⟨p, hp⟩ : ∃ p, p = x.length := ⟨_, rfl⟩
  obtain ⟨q, hq⟩ : ∃ q, q = y.length := ⟨_, rfl⟩
  have hpl : p ≤ 1000000 := by have := (text_length x).1; rw [hA, tx_size] at hAs; omega
  have hql : q ≤ 1000000 := by have := (text_length y).1; rw [hB, tx_size] at hBs; omega
  have R1 := Lib.hid (fun u => fold_any a A u (by rw [hA, hx]; rfl) ha)
  have R2 := Lib.hid (fun u => fold_any b B u (by rw [hB, hy]; rfl) hb)
  have R3 := Lib.hid (fun u => runes_read A x true p u (by rw [hA, tx_list, rs_text x mx]) (by rw [hA, tx_list, runes_text x mx]; rfl) hp hAs)
  have R4 := Lib.hid (fun u => runes_read B y true q u (by rw [hB, tx_list, rs_text y my]) (by rw [hB, tx_list, runes_text y my]; rfl) hq hBs)
  have HN := Lib.hid (show N = if cmpL x y = 0 then cmpL (bytesN a.data.toList) (bytesN b.data.toList) else cmpL x y by rw [hN, hx, hy]; rfl)
  have HP := Lib.hid hp
  have HQ := Lib.hid hq
  have HLT := Lib.hid (less_true a b)
  have HLF := Lib.hid (less_false a b)
  have HGT := Lib.hid (same_true a b)
  have HGF := Lib.hid (same_false a b)
  have hr := cmpL_range (bytesN a.data.toList) (bytesN b.data.toList)
  generalize cmpL (bytesN a.data.toList) (bytesN b.data.toList) = z at *
  have HR := Lib.hid hr
  obtain ⟨m, hm⟩ : ∃ m, m = min p q := ⟨_, rfl⟩
  have hmi : min (p : Int) (q : Int) = (m : Int) := by omega
  have HMM := Lib.hid hm
  have hmp : m ≤ p := by omega
  have hmq : m ≤ q := by omega
  clear hx hy hN ha hb hA hB hp hq hAs hBs mx my hr hm
  go_enter Tryd.func34, Tryd.ntmps34
  go_wp2_with fail
  refine (R1.out _).mono ?_
  rintro e w1 ⟨rfl, hb1⟩
  have HW1 := Lib.hid hb1
  clear hb1
  go_wp2_with fail
  refine (R3.out _).mono ?_
  rintro e w2 ⟨a2, c2, rfl, -, hr2, hb2⟩
  have HW2 := Lib.hid (HW1.out.trans (hb2.mono HW1.out.size))
  have HR2 := Lib.hid hr2
  clear hb2 hr2
  go_wp2_with fail
  refine (R2.out _).mono ?_
  rintro e w3 ⟨rfl, hb3⟩
  have HW3 := Lib.hid (HW2.out.trans (hb3.mono HW2.out.size))
  have HR3 := Lib.hid (HR2.out.below hb3)
  clear hb3 HR2
  go_wp2_with fail
  refine (R4.out _).mono ?_
  rintro e w4 ⟨a4, c4, rfl, -, hr4, hb4⟩
  have HW4 := Lib.hid (HW3.out.trans (hb4.mono HW3.out.size))
  have HX := Lib.hid (HR3.out.below hb4)
  have HY := Lib.hid hr4
  clear hb4 hr4 HR3
  go_wp2_with fail
  go_loopw [27] (fun i wr => ∃ (k j : Nat), k ≤ m ∧ i = .int .i64 k ∧ cmpL x y = cmpL (x.drop k) (y.drop k) ∧ wr = w4.drewN j) (fun i _ => m - (intOf i).toNat)
  case atStart => exact ⟨0, 0, Nat.zero_le _, rfl, rfl, rfl⟩
  case round =>
    obtain ⟨k, j, hk, rfl, hcmp, rfl⟩ := hrel
    by_cases hlt : k < m
    · obtain ⟨u, hu⟩ : ∃ u, x[k]? = some u := ⟨_, List.getElem?_eq_getElem (show k < x.length by have := HP.out; omega)⟩
      obtain ⟨v, hv⟩ : ∃ v, y[k]? = some v := ⟨_, List.getElem?_eq_getElem (show k < y.length by have := HQ.out; omega)⟩
      obtain ⟨g1, o1, rfl, -, hc1⟩ := HX.out (by have := HP.out; omega)
      obtain ⟨g2, o2, rfl, -, hc2⟩ := HY.out (by have := HQ.out; omega)
      have d1 := hc1 k u hu
      have d2 := hc2 k v hv
      have hst := cmpL_drop x y k u v hu hv
      have hkp : k < p := by omega
      have hkq : k < q := by omega
      by_cases huv : u = v
      · subst huv
        have hne : ((u : Int) != (u : Int)) = false := by simp
        have HC := Lib.hid (show cmpL x y = cmpL (x.drop (k + 1)) (y.drop (k + 1)) by rw [hcmp, hst, if_neg (Nat.lt_irrefl _), if_neg (Nat.lt_irrefl _)])
        clear hc1 hc2 hu hv hst hcmp
        go_wp2
        go_quiet (fail)
        go_wp2
        go_roundw
        case rel => exact ⟨k + 1, j + nq, by omega, by go_num, HC.out, rfl⟩
        case measure => simp [intOf]; omega
      · have hne : ((u : Int) != (v : Int)) = true := by simp; omega
        by_cases hl : u < v
        · have hd : decide ((u : Int) < (v : Int)) = true := decide_eq_true (by omega)
          have hd2 : decide (u < v) = true := decide_eq_true hl
          obtain rfl : N = -1 := by rw [HN.out, hcmp, hst, if_pos hl]; rfl
          clear hc1 hc2 hu hv hst hcmp HN
          go_wp2
          go_quiet (fail)
          go_wp2
          go_quiet (fail)
          go_wp2
          go_ret
          exact ⟨rfl, belowN (belowN (belowN HW4.out _) _) _⟩
        · have hd : decide ((u : Int) < (v : Int)) = false := decide_eq_false (by omega)
          have hd2 : decide (u < v) = false := decide_eq_false hl
          obtain rfl : N = 1 := by rw [HN.out, hcmp, hst, if_neg hl, if_pos (show v < u by omega)]; rfl
          clear hc1 hc2 hu hv hst hcmp HN
          go_wp2
          go_quiet (fail)
          go_wp2
          go_quiet (fail)
          go_wp2
          go_ret
          exact ⟨rfl, belowN (belowN (belowN HW4.out _) _) _⟩
    · obtain rfl : k = m := by omega
      have hce := cmpL_ends x y k (by rw [← HP.out, ← HQ.out]; exact HMM.out)
      rw [← hcmp, ← HP.out, ← HQ.out] at hce
      clear hcmp
      by_cases h1 : p < q
      · have hd : decide ((p : Int) < (q : Int)) = true := decide_eq_true (by omega)
        have hd2 : decide (p < q) = true := decide_eq_true h1
        obtain rfl : N = -1 := by rw [HN.out, hce, if_pos h1]; rfl
        clear hce HN
        go_wp2
        go_ret
        exact ⟨rfl, belowN HW4.out j⟩
      · have hd : decide ((p : Int) < (q : Int)) = false := decide_eq_false (by omega)
        have hd2 : decide (p < q) = false := decide_eq_false h1
        by_cases h2 : q < p
        · have hd3 : decide ((q : Int) < (p : Int)) = true := decide_eq_true (by omega)
          have hd4 : decide (q < p) = true := decide_eq_true h2
          obtain rfl : N = 1 := by rw [HN.out, hce, if_neg h1, if_pos h2]; rfl
          clear hce HN
          go_wp2
          go_ret
          exact ⟨rfl, belowN HW4.out j⟩
        · have hd3 : decide ((q : Int) < (p : Int)) = false := decide_eq_false (by omega)
          have hd4 : decide (q < p) = false := decide_eq_false h2
          have hNz : N = z := by rw [HN.out, hce, if_neg h1, if_neg h2, if_pos rfl]
          have hr := HR.out
          by_cases z1 : z = -1
          · obtain rfl : N = -1 := by rw [hNz, z1]
            have e1 := HLT.out z1
            clear hce HN hNz hr z1
            go_wp2
            go_ret
            exact ⟨rfl, belowN HW4.out j⟩
          · have e1 := HLF.out z1
            by_cases z2 : z = 1
            · obtain rfl : N = 1 := by rw [hNz, z2]
              have e2 := HGF.out (by omega)
              clear hce HN hNz hr z1 z2
              go_wp2
              go_ret
              exact ⟨rfl, belowN HW4.out j⟩
            · obtain rfl : N = 0 := by omega
              have e2 := HGT.out (by omega)
              clear hce HN hNz hr z1 z2
              go_wp2
              go_ret
              exact ⟨rfl, belowN HW4.out j⟩
end Go.Proofs.YthlhhmhldpmpiaaDoor.RPhr
