/-
  The limbs of a text, of package stream's Poly1305, are what the plain mathematics of the text Poly says, and all memory that was there stays. Condition: the text takes no more than the reach of the form.
-/
import Derived.Test.YtcglobpklhkebabPolyCar
import Derived.Deep.CutBlock
import Derived.Test.YtcglobpklhkebabLnLow
namespace Go.Proofs.Ytcglobpklhkebab.Poly
open Go.RowKit Mur Lanes
set_option maxRecDepth 100000

theorem extract_drop (x : ByteArray) (k : Nat) : (x.extract k x.size).data.toList = x.data.toList.drop k := by
  rw [ByteArray.data_extract]
  have h : x.data.toList.length = x.size := rfl
  simp [Array.toList_extract, List.take_of_length_le, h]

set_option maxHeartbeats 1600000 in
theorem limbs_any (s : ByteArray) (C : List Nat) (w : World) (hs : s.size ≤ 140737488351232) (hC : C = limbs s.data.toList) :
    Calls Try.prog 15 #[.string s] w fun e w' => e = .returned (.agg (numsV C).toArray) ∧ Below w.heap.size w w' := by
  have hst : Box1 w zeros ((w.alloc (.cells zeros5.toArray 37)).alloc (.cells zeros5.toArray 37)) := Box1.start w zeros
  have HC := Lib.hid hC
  have hokC : Five C := by rw [hC]; exact limbsTo_ok _ 5
  have HKC := Lib.hid hokC
  clear hC hokC
  have HZa := Lib.hid ((Whole.made' w 37 zeros5.toArray _ rfl).alloc (.cells zeros5.toArray 37))
  have HXa := Lib.hid (Whole.made' (w.alloc (.cells zeros5.toArray 37)) 37 zeros5.toArray (w.heap.size + 1) (by simp))
  have HBa := Lib.hid hst.below
  clear hst
  go_enter Try.func15, Try.ntmps15
  go_wp2
  go_loopw [7] (fun i wr => ∃ k : Nat, k ≤ 5 ∧ i = .int .i64 k ∧ Whole wr w.heap.size 37 zeros5 ∧ Whole wr (w.heap.size + 1) 37 (numsV (limbsTo s.data.toList k)) ∧ Below w.heap.size w wr) (fun i _ => 5 - (intOf i).toNat)
  case atStart => exact ⟨0, by omega, rfl, HZa.out, HXa.out, HBa.out⟩
  case round =>
    obtain ⟨k, hk5, rfl, hz, hx, hbel⟩ := hrel
    by_cases hlt : k < 5
    · have hd2 : decide ((k : Int) < 5) = true := by simp; omega
      have ik : (k : Int) < 5 := by omega
      obtain ⟨f, hf⟩ : ∃ f, f = min (26 * k / 8) s.data.toList.length := ⟨_, rfl⟩
      have hsl : s.data.toList.length = s.size := rfl
      have hfi : min (26 * (k : Int) / 8) (s.size : Int) = (f : Int) := by omega
      have hfs : (f : Int) ≤ (s.size : Int) := by omega
      obtain ⟨sh, hsh⟩ : ∃ sh, sh = 26 * k % 8 := ⟨_, rfl⟩
      have hshi : 26 * (k : Int) % 8 = (sh : Int) := by omega
      obtain ⟨L, hL⟩ : ∃ L, L = low (s.data.toList.drop f) := ⟨_, rfl⟩
      have hLl : L < 18446744073709551616 := by
        rw [hL]
        refine Nat.lt_of_lt_of_le (lowN_lt _ _) ?_
        exact Nat.pow_le_pow_right (by omega) (show 8 * min _ 8 ≤ 64 by omega)
      have hnext : limbsTo s.data.toList (k + 1) = (limbsTo s.data.toList k).set k (L / 2 ^ sh % 67108864) := by rw [hL, hf, hsh]; rfl
      have hok := limbsTo_ok s.data.toList k
      have R := Lib.hid (show ∀ u, Calls Try.prog 36 #[.string (s.extract f s.size)] u fun e w' => e = .returned (.int .u64 (L : Int)) ∧ u = w' from fun u => by
        have := low_any (s.extract f s.size) u (by rw [ByteArray.size_extract]; omega)
        rw [extract_drop, ← hL] at this
        exact this)
      have hdl : L / 2 ^ sh < 18446744073709551616 := Nat.lt_of_le_of_lt (Nat.div_le_self _ _) hLl
      have hm := mask_u64 (L / 2 ^ sh) hdl
      have hdi : (L : Int) / 2 ^ sh = ((L / 2 ^ sh : Nat) : Int) := by rw [Int.natCast_ediv, Int.natCast_pow]; rfl
      generalize limbsTo s.data.toList k = X at *
      have cx := num_cell hx (i := k) (by rw [hok.1]; exact hlt)
      have fx := num_free hx (i := k) (by rw [hok.1]; exact hlt)
      have HP := Lib.hid (set_num hx k (L / 2 ^ sh % 67108864))
      have HZ := Lib.hid (hz.other (w.heap.size + 1) k (.int .u64 ((L / 2 ^ sh % 67108864 : Nat) : Int)) (by omega))
      have HB := Lib.hid (hbel.setCell (p := ⟨w.heap.size + 1, k, none⟩) (by show w.heap.size ≤ w.heap.size + 1; omega) (.int .u64 ((L / 2 ^ sh % 67108864 : Nat) : Int)))
      have HN := Lib.hid hnext
      have HM := Lib.hid hm
      have HDI := Lib.hid hdi
      have HSH := Lib.hid hshi
      clear hz hx hbel hnext hm hdi hok hf hsh hL hsl hshi hdl HZa HXa HBa
      go_upto_region 6 with (fail)
      have hshi := HSH.out
      go_wp2_with fail
      refine (R.out _).mono ?_
      rintro e w1 ⟨rfl, rfl⟩
      go_wp2
      go_roundw
      case rel => exact ⟨k + 1, by omega, by go_num, by rw [HDI.out, HM.out]; exact HZ.out, by rw [HN.out, HDI.out, HM.out]; exact HP.out, by rw [HDI.out, HM.out]; exact HB.out⟩
      case measure => simp [intOf]; omega
    · have hd2 : decide ((k : Int) < 5) = false := by simp; omega
      obtain rfl : k = 5 := by omega
      have hx2 : Whole wr (w.heap.size + 1) 37 (numsV C) := by rw [HC.out]; exact hx
      have HR := Lib.hid hx2
      have HZ := Lib.hid hz
      have hz2 := hz
      unfold Whole at hz2
      have HZ2 := Lib.hid hz2
      have HBL := Lib.hid hbel
      have HIC := Lib.hid (info5 HKC.out.1)
      have HIA := Lib.hid (infoA5 HKC.out.1)
      have HO5 := Lib.hid (show zeros5.toArray.size = (numsV C).toArray.size from same5 (s := zeros) rfl HKC.out.1)
      have H1 := Lib.hid (one5 C)
      clear hz hx hx2 hz2 hbel HZa HXa HBa
      go_wp2_with ((first
        | (with_reducible refine wpList_load_mid rfl 37 (.tmp 3) rfl (w.heap.size + 1) 0 rfl (numsV C) _ HR.out.range Try.underlying37 rfl HIC.out ?_)
        | (with_reducible refine wpList_store_row rfl 37 (.tmp 2) (.tmp 28) rfl w.heap.size (numsV C).toArray rfl rfl 37 zeros5.toArray HZ2.out HIA.out HO5.out H1.out ?_)))
      refine bodyPost_ret (v := .agg (numsV C).toArray) ?_ rfl ⟨rfl, below_setRow HBL.out (Nat.le_refl _) _⟩
      exact results_whole (ty := 37) Try.results15 _ _ w.heap.size 37 (numsV C) _ (by simp [Act.put]) (HZ.out.setRow _) Try.underlying37 rfl HIC.out

/-- The bytes of r: those of the first kind below i lack bits, those of the second below j. -/
def facTo (l : List UInt8) (i j : Nat) : List UInt8 := (List.range 16).map fun k => if k % 4 = 3 ∧ k < i then l.getD k 0 &&& 15 else if k % 4 = 0 ∧ k ≠ 0 ∧ k < j then l.getD k 0 &&& 252 else l.getD k 0
theorem facTo_length (l : List UInt8) (i j : Nat) : (facTo l i j).length = 16 := by simp [facTo]
theorem facTo_zero {l : List UInt8} (h : l.length = 32) : facTo l 3 4 = l.take 16 := by
  apply List.ext_getElem (by simp [facTo, h])
  intro k h1 h2
  have hk : k < 16 := by simpa [facTo] using h1
  have e1 : ¬ (k % 4 = 3 ∧ k < 3) := by omega
  have e2 : ¬ (k % 4 = 0 ∧ k ≠ 0 ∧ k < 4) := by omega
  simp only [facTo, List.getElem_map, List.getElem_range, e1, e2, if_false, List.getElem_take]
  simp [List.getD, h, show k < 32 by omega]
theorem facTo_end (l : List UInt8) (i j : Nat) (hi : 16 ≤ i) (hj : 16 ≤ j) : facTo l i j = fac l := by
  unfold facTo fac
  apply List.map_congr_left
  intro k hk
  have hk : k < 16 := List.mem_range.1 hk
  unfold facAt
  have e1 : (k % 4 = 3 ∧ k < i) = (k % 4 = 3) := by simp only [eq_iff_iff]; omega
  have e2 : (k % 4 = 0 ∧ k ≠ 0 ∧ k < j) = (k % 4 = 0 ∧ k ≠ 0) := by simp only [eq_iff_iff]; omega
  simp only [e1, e2]
theorem facTo_at (l : List UInt8) (i j k : Nat) (hk : k < 16) (h : (k % 4 = 3 ∧ i ≤ k) ∨ (k % 4 = 0 ∧ j ≤ k)) : (facTo l i j)[k]'(by rw [facTo_length]; exact hk) = l.getD k 0 := by
  simp only [facTo, List.getElem_map, List.getElem_range]
  rw [if_neg (by omega), if_neg (by omega)]
theorem facTo_one (l : List UInt8) (m j : Nat) : (facTo l (4 * m + 3) j).set (4 * m + 3) (l.getD (4 * m + 3) 0 &&& 15) = facTo l (4 * (m + 1) + 3) j := by
  apply List.ext_getElem (by simp [facTo])
  intro k h1 h2
  rw [List.getElem_set]
  by_cases e : 4 * m + 3 = k
  · subst e
    simp only [facTo, List.getElem_map, List.getElem_range, if_true]
    rw [if_pos (by omega)]
  · simp only [facTo, List.getElem_map, List.getElem_range, if_neg e]
    have e1 : (k % 4 = 3 ∧ k < 4 * (m + 1) + 3) = (k % 4 = 3 ∧ k < 4 * m + 3) := by simp only [eq_iff_iff]; omega
    simp only [e1]
theorem facTo_two (l : List UInt8) (i m : Nat) (hm : 4 * m < 16) (h1m : 1 ≤ m) : (facTo l i (4 * m)).set (4 * m) (l.getD (4 * m) 0 &&& 252) = facTo l i (4 * (m + 1)) := by
  apply List.ext_getElem (by simp [facTo])
  intro k h1 h2
  rw [List.getElem_set]
  by_cases e : 4 * m = k
  · subst e
    simp only [facTo, List.getElem_map, List.getElem_range, if_true]
    rw [if_neg (by omega), if_pos (by omega)]
  · simp only [facTo, List.getElem_map, List.getElem_range, if_neg e]
    have e1 : (k % 4 = 0 ∧ k ≠ 0 ∧ k < 4 * (m + 1)) = (k % 4 = 0 ∧ k ≠ 0 ∧ k < 4 * m) := by simp only [eq_iff_iff]; omega
    simp only [e1]
theorem and_15 (x : UInt8) : bits .and .u8 (x.toNat : Int) 15 = ((x &&& 15).toNat : Int) := and_u8 x 15
theorem andNot_3 (x : UInt8) : bits .andNot .u8 (x.toNat : Int) 3 = ((x &&& 252).toNat : Int) := by
  have h : ∀ y : Fin 256, bits .andNot .u8 ((UInt8.ofNat y.val).toNat : Int) 3 = (((UInt8.ofNat y.val) &&& 252).toNat : Int) := by decide +kernel
  have := h ⟨x.toNat, x.toNat_lt⟩
  simpa using this

set_option maxHeartbeats 1600000 in
theorem fac_any (key F : ByteArray) (w : World) (hk : key.size = 32) (hF : F = ⟨(fac key.data.toList).toArray⟩) :
    Calls Try.prog 16 #[.string key] w fun e w' => e = .returned (.string F) ∧ Below w.heap.size w w' := by
  have hkl : key.data.toList.length = 32 := hk
  have hK : (key.extract 0 16).data.toList = facTo key.data.toList 3 4 := by
    rw [facTo_zero hkl]
    simp [ByteArray.data_extract]
  have hconv := conv_row (P := Try.prog) w 9 43 5 (key.extract 0 16) Try.underlying9 Try.underlying43 Try.underlying5
  obtain ⟨cap, w1, hcap, hconv, hrow, hbel⟩ := hconv
  have hKs : (key.extract 0 16).size = 16 := by rw [ByteArray.size_extract]; omega
  rw [hK] at hrow
  rw [hKs] at hconv
  have hi : (16 : Int) ≤ (key.size : Int) := by omega
  have HROW := Lib.hid hrow
  have HBEL := Lib.hid hbel
  have HF := Lib.hid hF
  clear hrow hbel hF hK hKs hkl hk hcap
  go_enter Try.func16, Try.ntmps16
  go_wp2
  go_loopw [4] (fun v wr => ∃ (m q : Nat), m ≤ 4 ∧ q = 4 * m + 3 ∧ v = .int .i64 (q : Int) ∧ Row wr w.heap.size (bytesV (facTo key.data.toList q 4)) ∧ Below w.heap.size w wr) (fun v _ => 20 - (intOf v).toNat)
  case atStart => exact ⟨0, 3, by omega, rfl, rfl, HROW.out, HBEL.out⟩
  case round =>
    obtain ⟨m, q, hm, hq, rfl, hrow, hbel⟩ := hrel
    by_cases hlt : q < 16
    · have hd : decide ((q : Int) < 16) = true := by simp; omega
      have iq : (q : Int) < 16 := by omega
      have hql : q < (facTo key.data.toList q 4).length := by rw [facTo_length]; exact hlt
      have hc := hrow.cell (i := q) (bytesV_at hql)
      have hf := hrow.free (i := q) (by rw [bytesV_length]; exact hql)
      have hat := facTo_at key.data.toList q 4 q hlt (.inl ⟨by omega, Nat.le_refl _⟩)
      rw [hat] at hc
      have hset := hrow.set q (u8 (key.data.toList.getD q 0 &&& 15))
      have hone := facTo_one key.data.toList m 4
      rw [← hq] at hone
      rw [bytesV_set, hone] at hset
      have ha := and_15 (key.data.toList.getD q 0)
      generalize key.data.toList.getD q 0 = x at *
      have HS := Lib.hid hset
      have HA := Lib.hid ha
      have HB := Lib.hid (hbel.setCell (p := ⟨w.heap.size, q, none⟩) (Nat.le_refl _) (u8 (x &&& 15)))
      have HQ := Lib.hid hq
      clear hrow hbel hat hset hone ha hql HROW HBEL hq
      go_wp2
      go_roundw
      case rel => exact ⟨m + 1, 4 * (m + 1) + 3, by have h := HQ.out; omega, rfl, by have h := HQ.out; subst h; go_num, by rw [HA.out]; exact HS.out, by rw [HA.out]; exact HB.out⟩
      case measure => simp [intOf]; omega
    · have hd : decide ((q : Int) < 16) = false := by simp; omega
      obtain rfl : m = 4 := by omega
      obtain rfl : q = 19 := by omega
      have HROW2 := Lib.hid hrow
      have HBEL2 := Lib.hid hbel
      clear hrow hbel HROW HBEL
      go_wp2
      obtain ⟨wo, rfl⟩ : ∃ wo : World, wo = wr := ⟨_, rfl⟩
      go_loopw [5] (fun v wr => ∃ (m q : Nat), 1 ≤ m ∧ m ≤ 4 ∧ q = 4 * m ∧ v = .int .i64 (q : Int) ∧ Row wr w.heap.size (bytesV (facTo key.data.toList 19 q)) ∧ Below w.heap.size w wr) (fun v _ => 20 - (intOf v).toNat)
      case atStart => exact ⟨1, 4, by omega, by omega, rfl, rfl, HROW2.out, HBEL2.out⟩
      case round =>
        obtain ⟨m, q, hm1, hm, hq, rfl, hrow, hbel⟩ := hrel
        by_cases hlt : q < 16
        · have hd : decide ((q : Int) < 16) = true := by simp; omega
          have iq : (q : Int) < 16 := by omega
          have hql : q < (facTo key.data.toList 19 q).length := by rw [facTo_length]; exact hlt
          have hc := hrow.cell (i := q) (bytesV_at hql)
          have hf := hrow.free (i := q) (by rw [bytesV_length]; exact hql)
          have hat := facTo_at key.data.toList 19 q q hlt (.inr ⟨by omega, Nat.le_refl _⟩)
          rw [hat] at hc
          have hset := hrow.set q (u8 (key.data.toList.getD q 0 &&& 252))
          have hone := facTo_two key.data.toList 19 m (by omega) hm1
          rw [← hq] at hone
          rw [bytesV_set, hone] at hset
          have ha := andNot_3 (key.data.toList.getD q 0)
          generalize key.data.toList.getD q 0 = x at *
          have HS := Lib.hid hset
          have HA := Lib.hid ha
          have HB := Lib.hid (hbel.setCell (p := ⟨w.heap.size, q, none⟩) (Nat.le_refl _) (u8 (x &&& 252)))
          have HQ := Lib.hid hq
          clear hrow hbel hat hset hone ha hql HROW2 HBEL2 hq
          go_wp2
          go_roundw
          case rel => exact ⟨m + 1, 4 * (m + 1), by omega, by have h := HQ.out; omega, rfl, by have h := HQ.out; subst h; go_num, by rw [HA.out]; exact HS.out, by rw [HA.out]; exact HB.out⟩
          case measure => simp [intOf]; omega
        · have hd : decide ((q : Int) < 16) = false := by simp; omega
          obtain rfl : m = 4 := by omega
          obtain rfl : q = 16 := by omega
          rw [facTo_end _ _ _ (by omega) (by omega)] at hrow
          have hback := string_row (P := Try.prog) hrow 43 5 9 Try.underlying43 Try.underlying5 Try.underlying9 16 cap (by simp [fac])
          have HBL := Lib.hid hbel
          clear hrow hbel HROW2 HBEL2
          rw [← HF.out] at hback
          go_wp2
          go_ret
          exact ⟨rfl, HBL.out⟩
end Go.Proofs.Ytcglobpklhkebab.Poly
