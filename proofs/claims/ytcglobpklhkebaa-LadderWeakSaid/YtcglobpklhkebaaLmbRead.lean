/-
  Read and Bytes of package limbs answer what the plain mathematics of the text LimbNum says, and leave all memory that was there as it was. Conditions: words below 2^64, a text that takes no more than the reach of the form.
-/
import Derived.Test.YtcglobpklhkebaaLmbSq
import Derived.Test.YtcglobpklhkebaaLimbNum
import Derived.Test.YtcglobpklhkebaaLnLow
import Derived.Test.YtcglobpklhkebaaLnText
import Derived.IntWalk
namespace Go.Proofs.Ytcglobpklhkebaa.Limb
open Go.RowKit Mur Lanes
set_option maxRecDepth 100000

theorem extract_from (s : ByteArray) (k : Nat) : (s.extract k s.size).data.toList = s.data.toList.drop k := by
  rw [ByteArray.data_extract]
  simp [Array.toList_extract, List.take_of_length_le]
def nulls : List Nat := [0, 0, 0, 0, 0]
theorem lim_length (n : Nat) : (lim n).length = 5 := rfl

set_option maxHeartbeats 1600000 in
theorem read_any (s : ByteArray) (w : World) (hs : s.size ≤ 140737488351232) :
    Calls Try.prog 12 #[.string s] w fun r w' => r = .returned (limV (num s.data.toList)) ∧ Below w.heap.size w w' := by
  have HZa := Lib.hid ((Whole.made' w 24 (fiveL 0 0 0 0 0).toArray _ rfl).alloc (.cells (fiveL 0 0 0 0 0).toArray 24))
  have HXa := Lib.hid (Whole.made' (w.alloc (.cells (fiveL 0 0 0 0 0).toArray 24)) 24 (fiveL 0 0 0 0 0).toArray (w.heap.size + 1) (by simp))
  have HBa := Lib.hid (((Below.refl w.heap.size w).alloc (Nat.le_refl _) (.cells (fiveL 0 0 0 0 0).toArray 24)).alloc (by simp) (.cells (fiveL 0 0 0 0 0).toArray 24))
  obtain ⟨T, hT⟩ : ∃ T, T = lim (num s.data.toList) := ⟨_, rfl⟩
  have hT5 : T.length = 5 := by rw [hT]; rfl
  have HT := Lib.hid hT
  have H5 := Lib.hid hT5
  clear hT hT5
  go_enter Try.func12, Try.ntmps12
  go_wp2
  go_loopw [7] (fun i wr => ∃ k : Nat, k ≤ 5 ∧ i = .int .i64 k ∧ Whole wr w.heap.size 24 (fiveL 0 0 0 0 0) ∧ Whole wr (w.heap.size + 1) 24 (numsV (mixTo nulls T k)) ∧ Below w.heap.size w wr) (fun i _ => 5 - (intOf i).toNat)
  case atStart => exact ⟨0, by omega, rfl, HZa.out, HXa.out, HBa.out⟩
  case round =>
    obtain ⟨k, hk5, rfl, hz, hx, hbel⟩ := hrel
    by_cases hlt : k < 5
    · have hd2 : decide ((k : Int) < 5) = true := by simp; omega
      have ik : (k : Int) < 5 := by omega
      obtain ⟨f, hf⟩ : ∃ f, f = min (51 * k / 8) s.data.toList.length := ⟨_, rfl⟩
      have hsl : s.data.toList.length = s.size := rfl
      have hfi : min (51 * (k : Int) / 8) (s.size : Int) = (f : Int) := by omega
      have hfs : (f : Int) ≤ (s.size : Int) := by omega
      obtain ⟨sh, hsh⟩ : ∃ sh, sh = 51 * k % 8 := ⟨_, rfl⟩
      have hshi : 51 * (k : Int) % 8 = (sh : Int) := by omega
      obtain ⟨L, hL⟩ : ∃ L, L = low (s.data.toList.drop f) := ⟨_, rfl⟩
      have hLl : L < 18446744073709551616 := by
        rw [hL]
        refine Nat.lt_of_lt_of_le (lowN_lt _ _) ?_
        exact Nat.pow_le_pow_right (by omega) (show 8 * min _ 8 ≤ 64 by omega)
      have hval : L / 2 ^ sh % 2251799813685248 = T.getD k 0 := by rw [hL, hf, hsh, HT.out]; exact read_at _ k hlt
      have hnext : mixTo nulls T (k + 1) = (mixTo nulls T k).set k (L / 2 ^ sh % 2251799813685248) := by rw [hval]; rfl
      have hlen : (mixTo nulls T k).length = 5 := by rw [mixTo_length]; rfl
      have R := Lib.hid (show ∀ u, Calls Try.prog 50 #[.string (s.extract f s.size)] u fun e w' => e = .returned (.int .u64 (L : Int)) ∧ u = w' from fun u => by
        have := low_any (s.extract f s.size) u (by rw [ByteArray.size_extract]; omega)
        rw [extract_from, ← hL] at this
        exact this)
      have hdl : L / 2 ^ sh < 18446744073709551616 := Nat.lt_of_le_of_lt (Nat.div_le_self _ _) hLl
      have hm := mask51 (L / 2 ^ sh) hdl
      have hdi : (L : Int) / 2 ^ sh = ((L / 2 ^ sh : Nat) : Int) := by rw [Int.natCast_ediv, Int.natCast_pow]; rfl
      generalize mixTo nulls T k = X at *
      have cx := num_cell hx (i := k) (by rw [hlen]; exact hlt)
      have fx := num_free hx (i := k) (by rw [hlen]; exact hlt)
      have HP := Lib.hid (set_num hx k (L / 2 ^ sh % 2251799813685248))
      have HZ := Lib.hid (hz.other (w.heap.size + 1) k (.int .u64 ((L / 2 ^ sh % 2251799813685248 : Nat) : Int)) (by omega))
      have HB := Lib.hid (hbel.setCell (p := ⟨w.heap.size + 1, k, none⟩) (by show w.heap.size ≤ w.heap.size + 1; omega) (.int .u64 ((L / 2 ^ sh % 2251799813685248 : Nat) : Int)))
      have HN := Lib.hid hnext
      have HM := Lib.hid hm
      have HDI := Lib.hid hdi
      have HSH := Lib.hid hshi
      clear hz hx hbel hnext hm hdi hlen hf hsh hL hsl hshi hdl hval HZa HXa HBa
      go_upto_region 6 with (fail)
      have hshi := HSH.out
      go_wp2_with fail
      refine (R.out _).mono ?_
      rintro e w1 ⟨rfl, rfl⟩
      go_wp2
      go_roundw
      case rel => exact ⟨k + 1, by omega, by go_num, by rw [HDI.out, HM.out]; exact HZ.out, by rw [HN.out, HDI.out, HM.out]; exact HP.out, by rw [HDI.out, HM.out]; exact HB.out⟩
      case measure => simp [intOf]; omega
    · have hd2 : decide ((k : Int) < 5) = false := by simp; omega
      obtain rfl : k = 5 := by omega
      rw [mixTo_end (a := nulls) rfl H5.out, HT.out] at hx
      have hx2 : Whole wr (w.heap.size + 1) 24 (numsV (lim (num s.data.toList))) := hx
      obtain ⟨r0, r1, r2, r3, r4, hr⟩ := limV_five (num s.data.toList)
      have hr2 : numsV (lim (num s.data.toList)) = fiveL r0 r1 r2 r3 r4 := by
        have := congrArg (fun v => match v with | Value.agg a => a.toList | _ => []) hr
        simpa [limV] using this
      rw [hr2] at hx2
      have HR := Lib.hid hr
      have HB := Lib.hid hbel
      have c0 := hx2.row.cell (i := 0) rfl
      have c1 := hx2.row.cell (i := 1) rfl
      have c2 := hx2.row.cell (i := 2) rfl
      have c3 := hx2.row.cell (i := 3) rfl
      have c4 := hx2.row.cell (i := 4) rfl
      have z0 := hz.row.cell (i := 0) rfl
      have z1 := hz.row.cell (i := 1) rfl
      have z2 := hz.row.cell (i := 2) rfl
      have z3 := hz.row.cell (i := 3) rfl
      have z4 := hz.row.cell (i := 4) rfl
      have f0 := hz.row.free (i := 0) (by simp)
      have f1 := hz.row.free (i := 1) (by simp)
      have f2 := hz.row.free (i := 2) (by simp)
      have f3 := hz.row.free (i := 3) (by simp)
      have f4 := hz.row.free (i := 4) (by simp)
      clear hr hr2 hx hx2 hz hbel HZa HXa HBa
      go_wp2
      rw [HR.out]
      exact bodyPost_ret (v := five r0 r1 r2 r3 r4) (by simp [results, Try.results12, go_sem, z0, z1, z2, z3, z4]) rfl ⟨rfl, set5 HB.out (by omega) _ _ _ _ _⟩

def nulls8 : List Nat := [0, 0, 0, 0, 0, 0, 0, 0]
abbrev zeros8 : List Value := [.int .u32 0, .int .u32 0, .int .u32 0, .int .u32 0, .int .u32 0, .int .u32 0, .int .u32 0, .int .u32 0]
theorem mix_end {a b : List Nat} (h : a.length = b.length) : mixTo a b b.length = b := by
  refine List.ext_getElem (by rw [mixTo_length, h]) fun i h1 h2 => ?_
  have := mixTo_get a b b.length i (by omega)
  rw [if_pos h2] at this
  simpa [List.getD, h1, h2] using this
theorem word_cell {w : World} {b : Nat} {t : TypeId} {s : List Nat} (h : Whole w b t (wordsV s)) {i : Nat} (hi : i < s.length) : w.cell? ⟨b, i, none⟩ = some (.int .u32 ((s.getD i 0 : Nat) : Int)) := by
  rw [h.row.cell (wordsV_at hi)]
  simp [List.getD, hi]
theorem word_free {w : World} {b : Nat} {t : TypeId} {s : List Nat} (h : Whole w b t (wordsV s)) {i : Nat} (hi : i < s.length) : w.frozen? ⟨b, i, none⟩ = false :=
  h.row.free (by rw [wordsV_length]; exact hi)
theorem set_word {w : World} {b : Nat} {t : TypeId} {s : List Nat} (h : Whole w b t (wordsV s)) (i x : Nat) : Whole (w.setCell ⟨b, i, none⟩ (.int .u32 (x : Int))) b t (wordsV (s.set i x)) := by
  rw [← wordsV_set]
  exact h.set i _

set_option maxHeartbeats 1600000 in
theorem bytes_any (a b c d e : Nat) (T : ByteArray) (w : World) (h : Words5 a b c d e) (hT : T = ⟨(bytesOf (wor a b c d e % Prime.P)).toArray⟩) :
    Calls Try.prog 16 #[five a b c d e] w fun r w' => r = .returned (.string T) ∧ Below w.heap.size w w' := by
  obtain ⟨N, hN⟩ : ∃ N, N = wor a b c d e % Prime.P := ⟨_, rfl⟩
  have hNl : N < 57896044618658097711785492504343953926634992332820282019728792003956564819968 := by rw [hN]; exact Nat.lt_trans (Nat.mod_lt _ P_pos) P_lt
  have RC := fun u => carry_any a b c d e u h
  rw [← hN] at RC hT
  obtain ⟨r0, r1, r2, r3, r4, hr⟩ := limV_five N
  have hr2 : numsV (lim N) = fiveL r0 r1 r2 r3 r4 := by
    have := congrArg (fun v => match v with | Value.agg a => a.toList | _ => []) hr
    simpa [limV] using this
  rw [hr] at RC
  have hl : ∀ i, (lim N).getD i 0 < 2251799813685248 := fun i => by
    by_cases hi : i < 5
    · rw [lim_at _ _ hi]
      exact Nat.mod_lt _ (by decide)
    · rw [List.getD, List.getElem?_eq_none (by rw [lim_length]; omega)]
      decide
  obtain ⟨X, hX⟩ : ∃ X, X = lim N := ⟨_, rfl⟩
  rw [← hX] at hl hr2
  have hX5 : X.length = 5 := by rw [hX]; rfl
  have hword : ∀ i, i < 8 → wordOf X i = (wordsOf N).getD i 0 := fun i hi => by rw [hX]; exact word_of N i hNl hi
  obtain ⟨W, hW⟩ : ∃ W, W = wordsOf N := ⟨_, rfl⟩
  rw [← hW] at hword
  have hW8 : W.length = 8 := by rw [hW]; simp [wordsOf]
  have hT2 : T = ⟨(text W false).toArray⟩ := by rw [hT, hW]; rfl
  have hWl : ∀ x ∈ W, x < 4294967296 := fun x hx => by
    rw [hW] at hx
    obtain ⟨i, -, rfl⟩ := List.mem_map.1 hx
    exact Nat.mod_lt _ (by decide)
  have R1 := Lib.hid RC
  have HL := Lib.hid hl
  have X5 := Lib.hid hX5
  have HW := Lib.hid hword
  have W8 := Lib.hid hW8
  have HT := Lib.hid hT2
  have WL := Lib.hid hWl
  have HR2 := Lib.hid hr2
  clear h RC hr hN hNl hl hX hX5 hword hW hW8 hT hT2 hWl hr2
  go_enter Try.func16, Try.ntmps16
  go_wp2_with fail
  refine (R1.out _).mono ?_
  rintro e w1 ⟨rfl, hb⟩
  have hz : w.heap.size < w1.heap.size := by have := hb.size; simp at this; omega
  have g1 : Whole w1 w.heap.size 24 (fiveL a b c d e) := Whole.below (Whole.made' w _ _ _ rfl) (by simp) hb
  have HG := Lib.hid (set5_whole g1 rfl (.int .u64 (r0 : Int)) (.int .u64 (r1 : Int)) (.int .u64 (r2 : Int)) (.int .u64 (r3 : Int)) (.int .u64 (r4 : Int)))
  have HB := Lib.hid (set5 (((Below.refl w.heap.size w).alloc (Nat.le_refl _) _).trans (hb.mono (by simp))) (Nat.le_refl _) (.int .u64 (r0 : Int)) (.int .u64 (r1 : Int)) (.int .u64 (r2 : Int)) (.int .u64 (r3 : Int)) (.int .u64 (r4 : Int)))
  have c0 := g1.row.cell (i := 0) rfl
  have c1 := g1.row.cell (i := 1) rfl
  have c2 := g1.row.cell (i := 2) rfl
  have c3 := g1.row.cell (i := 3) rfl
  have c4 := g1.row.cell (i := 4) rfl
  have f0 := g1.row.free (i := 0) (by simp)
  have f1 := g1.row.free (i := 1) (by simp)
  have f2 := g1.row.free (i := 2) (by simp)
  have f3 := g1.row.free (i := 3) (by simp)
  have f4 := g1.row.free (i := 4) (by simp)
  clear hb g1
  go_upto_region 2 with (fail)
  clear c0 c1 c2 c3 c4 f0 f1 f2 f3 f4
  generalize ((((w1.setCell ⟨w.heap.size, 0, none⟩ (.int .u64 (r0 : Int))).setCell ⟨w.heap.size, 1, none⟩ (.int .u64 (r1 : Int))).setCell ⟨w.heap.size, 2, none⟩ (.int .u64 (r2 : Int))).setCell ⟨w.heap.size, 3, none⟩ (.int .u64 (r3 : Int))).setCell ⟨w.heap.size, 4, none⟩ (.int .u64 (r4 : Int)) = wx at *
  have hne : w.heap.size ≠ wx.heap.size := Nat.ne_of_lt HG.out.lt
  have HX0 := Lib.hid (show Whole (wx.alloc (.cells zeros8.toArray 56)) w.heap.size 24 (numsV X) by rw [HR2.out]; exact HG.out.alloc _)
  have HW0 := Lib.hid (Whole.made' wx 56 zeros8.toArray _ rfl)
  have HB0 := Lib.hid (HB.out.alloc HB.out.size (.cells zeros8.toArray 56))
  have HNE := Lib.hid hne
  have hwx : w.heap.size ≤ wx.heap.size := HB.out.size
  clear HG HB hne hz
  go_upto_region 3 with (fail)
  go_wp2
  go_loopw [4, 5, 6, 10] (fun _ _ _ i wr => ∃ k : Nat, k ≤ 8 ∧ i = .int .i64 k ∧ Whole wr w.heap.size 24 (numsV X) ∧ Whole wr wx.heap.size 56 (wordsV (mixTo nulls8 W k)) ∧ Below w.heap.size w wr) (fun _ _ _ i _ => 8 - (intOf i).toNat)
  case atStart => exact ⟨0, by omega, rfl, HX0.out, HW0.out, HB0.out⟩
  case round =>
    obtain ⟨k, hk8, rfl, hx, hw, hbel⟩ := hrel
    by_cases hlt : k < 8
    · have hd2 : decide ((k : Int) < 8) = true := by simp; omega
      have ik : (k : Int) < 8 := by omega
      obtain ⟨L, hL⟩ : ∃ L, L = 32 * k / 51 := ⟨_, rfl⟩
      obtain ⟨s, hs⟩ : ∃ s, s = 32 * k % 51 := ⟨_, rfl⟩
      have hLi : 32 * (k : Int) / 51 = (L : Int) := by omega
      have hsi : 32 * (k : Int) % 51 = (s : Int) := by omega
      have iL : (L : Int) < 5 := by omega
      have lL : L < X.length := by rw [X5.out]; omega
      have is : (s : Int) < 51 := by omega
      have hlen : (mixTo nulls8 W k).length = 8 := by rw [mixTo_length]; rfl
      have hwd := HW.out k hlt
      have hnext : mixTo nulls8 W (k + 1) = (mixTo nulls8 W k).set k (W.getD k 0) := rfl
      rw [← hwd] at hnext
      unfold wordOf at hnext
      rw [← hL, ← hs] at hnext
      have cx := num_cell hx lL
      have fw := word_free hw (i := k) (by rw [hlen]; exact hlt)
      have hx1 := HL.out L
      obtain ⟨x1, hx1e⟩ : ∃ x, x = X.getD L 0 := ⟨_, rfl⟩
      rw [← hx1e] at cx hnext hx1
      obtain ⟨v1, hv1⟩ : ∃ v, v = x1 / 2 ^ s % 4294967296 := ⟨_, rfl⟩
      rw [← hv1] at hnext
      have hv1l : v1 < 4294967296 := by rw [hv1]; exact Nat.mod_lt _ (by decide)
      have hv1i : (x1 : Int) / 2 ^ s % 4294967296 = (v1 : Int) := by rw [hv1, show (x1 : Int) / 2 ^ s = ((x1 / 2 ^ s : Nat) : Int) by rw [Int.natCast_ediv, Int.natCast_pow]; rfl]; omega
      have hx1l : x1 < 18446744073709551616 := by omega
      have HLE := Lib.hid hL
      have HSE := Lib.hid hs
      have HLI := Lib.hid hLi
      have HSI := Lib.hid hsi
      have HV1 := Lib.hid hv1i
      have HNX := Lib.hid hnext
      have hw2 := set_word hw k v1
      have HW2 := Lib.hid hw2
      have HX2 := Lib.hid (hx.other wx.heap.size k (.int .u32 (v1 : Int)) (Ne.symm HNE.out))
      have HB2 := Lib.hid (hbel.setCell (p := ⟨wx.heap.size, k, none⟩) hwx (.int .u32 (v1 : Int)))
      have HLEN := Lib.hid hlen
      have e2 : ((mixTo nulls8 W k).set k v1).getD k 0 = v1 := by simp [List.getD, hlen, hlt]
      have cw := word_cell hw2 (i := k) (by rw [List.length_set, hlen]; exact hlt)
      have fw2 := word_free hw2 (i := k) (by rw [List.length_set, hlen]; exact hlt)
      rw [e2] at cw
      have CW := Lib.hid cw
      have FW2 := Lib.hid fw2
      have fwx : wr.frozen? ⟨wx.heap.size, k, none⟩ = false := fw
      have cwx := word_cell hw (i := k) (by rw [hlen]; exact hlt)
      clear hL hs hx hw hbel hwd hnext hx1e hv1 hv1i hLi hsi hw2 hlen e2 cw fw2 fw HX0 HW0 HB0
      go_upto_region 7 with (fail)
      rw [HLI.out, HSI.out]
      go_upto_region 8 with (fail)
      rw [HV1.out]
      clear cx cwx fwx
      have cw := CW.out
      have fw2 := FW2.out
      by_cases h5 : L + 1 < 5
      · have hd5 : decide ((L : Int) + 1 < 5) = true := by simp; omega
        obtain ⟨t, ht⟩ : ∃ t, t = 51 - s := ⟨_, rfl⟩
        have hti : (51 : Int) - (s : Int) = (t : Int) := by omega
        have htl : (t : Int) ≤ 51 := by omega
        have htp : (0 : Int) ≤ 51 - (s : Int) := by omega
        have iL2 : (L : Int) + 1 < 5 := by omega
        have cx2 := num_cell HX2.out (i := L + 1) (by rw [X5.out]; omega)
        obtain ⟨x2, hx2e⟩ : ∃ x, x = X.getD (L + 1) 0 := ⟨_, rfl⟩
        have hx2l := HL.out (L + 1)
        rw [← hx2e] at cx2 hx2l
        have hnx := HNX.out
        rw [if_pos h5, ← hx2e, ← ht] at hnx
        have HN2 := Lib.hid hnx
        have HTI := Lib.hid hti
        clear hnx hx2e ht hti hd5
        go_upto_region 9 with (fail)
        generalize wr.setCell ⟨wx.heap.size, k, none⟩ (.int .u32 (v1 : Int)) = wy at *
        have hti := HTI.out
        have n1 : IntKind.i64.wrap ((L : Int) + 1) = (L : Int) + 1 := IntWalk.i64_in _ (by omega)
        have n2 : (0 : Int) ≤ (L : Int) + 1 := by omega
        have n3 : ((L : Int) + 1).toNat = L + 1 := by omega
        have n4 : IntKind.i64.wrap (t : Int) = (t : Int) := IntWalk.i64_in _ (by omega)
        go_still_tail 13, (by kernel_rfl)
        change wpList _ _ _ _ _ wy.drew
        have cw' : wy.drew.cell? ⟨wx.heap.size, k, none⟩ = _ := cw
        have fw' : wy.drew.frozen? ⟨wx.heap.size, k, none⟩ = _ := fw2
        obtain ⟨v2, hv2⟩ : ∃ v, v = x2 * 2 ^ t % 18446744073709551616 % 4294967296 := ⟨_, rfl⟩
        have hv2l : v2 < 4294967296 := by rw [hv2]; exact Nat.mod_lt _ (by decide)
        have hv2i : IntKind.u32.wrap (IntKind.u64.wrap ((x2 : Int) * 2 ^ t)) = (v2 : Int) := by
          rw [IntKind.wrap_u64, IntKind.wrap_u32, show (x2 : Int) * 2 ^ t = ((x2 * 2 ^ t : Nat) : Int) by rw [Int.natCast_mul, Int.natCast_pow]; rfl, hv2]
          omega
        rw [hv2i, u32_or_nat _ _ hv1l hv2l]
        have HV2 := Lib.hid hv2
        clear cw fw2 n1 n3 n4 hti cx2 hv2 hv2i
        go_wp2
        go_roundw
        case rel =>
          refine ⟨k + 1, by omega, by go_num, (HX2.out.drew).other wx.heap.size k _ (Ne.symm HNE.out), ?_, (HB2.out.drew).setCell (p := ⟨wx.heap.size, k, none⟩) hwx _⟩
          have e3 := set_word (HW2.out.drew) k (v1 ||| v2)
          rw [List.set_set] at e3
          rw [HN2.out, ← HV2.out]
          exact e3
        case measure => simp [intOf]; omega
      · have hd5 : decide ((L : Int) + 1 < 5) = false := by simp; omega
        go_wp2
        go_roundw
        case rel => exact ⟨k + 1, by omega, by go_num, HX2.out, by rw [HNX.out, if_neg h5]; exact HW2.out, HB2.out⟩
        case measure => simp [intOf]; omega
    · have hd2 : decide ((k : Int) < 8) = false := by simp; omega
      obtain rfl : k = 8 := by omega
      have hw3 : Whole wr wx.heap.size 56 (wordsV W) := by
        have e := mix_end (a := nulls8) (b := W) (by rw [W8.out]; rfl)
        rw [W8.out] at e
        rw [← e]
        exact hw
      have RT := Lib.hid (show Calls Try.prog 54 #[.slice (some ⟨wx.heap.size, 0, none⟩) 8 8, .bool false] wr fun e w' => e = .returned (.string T) ∧ Below wr.heap.size wr w' from by
        have := text_some W wx.heap.size 0 8 false wr (by rw [W8.out]; decide) WL.out hw3.lt (fun i hi => by rw [Nat.zero_add]; exact hw3.row.cell (wordsV_at hi))
        rw [← HT.out, W8.out] at this
        exact this)
      have HBL := Lib.hid hbel
      clear hx hw hw3 hbel HX0 HW0 HB0
      go_wp2_with fail
      refine RT.out.mono ?_
      rintro e w9 ⟨rfl, hb9⟩
      have HB9 := Lib.hid (HBL.out.trans (hb9.mono HBL.out.size))
      clear hb9
      go_wp2
      go_ret
      exact ⟨rfl, HB9.out⟩
end Go.Proofs.Ytcglobpklhkebaa.Limb
