/-
  stream.blockOf answers the words of a block as the plain mathematics of the text Cha has them, and leaves all memory that was there as it was. Conditions: the state has sixteen words below 2^32, the number is below 2^32.
-/
import Derived.Test.YtcglobpklhkebabChaMix
namespace Go.Proofs.Ytcglobpklhkebab.Cha
open Go.RowKit Mur Lanes
set_option maxRecDepth 100000

def mixes (s : List Nat) : Nat → List Nat
  | 0 => s
  | k + 1 => mixed (mixes s k)
theorem Words16.mixes {s : List Nat} (h : Words16 s) (k : Nat) : Words16 (mixes s k) := by
  induction k with
  | zero => exact h
  | succ k ih => exact ih.mixed
/-- The words below k have got their own. -/
def sumTo (m s : List Nat) (k : Nat) : List Nat := (List.range 16).map fun i => if i < k then (m.getD i 0 + s.getD i 0) % 4294967296 else m.getD i 0
theorem sumTo_zero {m s : List Nat} (h : m.length = 16) : sumTo m s 0 = m := by
  apply List.ext_getElem (by simp [sumTo, h])
  intro i h1 h2
  simp [sumTo, List.getD, h2]
theorem sumTo_succ (m s : List Nat) (k : Nat) : (sumTo m s k).set k ((m.getD k 0 + s.getD k 0) % 4294967296) = sumTo m s (k + 1) := by
  apply List.ext_getElem (by simp [sumTo])
  intro i h1 h2
  rw [List.getElem_set]
  by_cases e : k = i
  · subst e; simp [sumTo]
  · have e1 : (i < k + 1) = (i < k) := by simp; omega
    simp [sumTo, e, e1]
theorem sumTo_at (m s : List Nat) (k : Nat) (h : k < 16) : (sumTo m s k).getD k 0 = m.getD k 0 := by
  simp [sumTo, List.getD, h]
theorem sumTo_length (m s : List Nat) (k : Nat) : (sumTo m s k).length = 16 := by simp [sumTo]
theorem sumTo_ok {m s : List Nat} (h : Words16 m) (k : Nat) : Words16 (sumTo m s k) := by
  refine ⟨sumTo_length _ _ _, fun x hx => ?_⟩
  simp only [sumTo, List.mem_map] at hx
  obtain ⟨i, _, rfl⟩ := hx
  split
  · exact Nat.mod_lt _ (by decide)
  · exact h.at i
/-- The words of the block of a state. -/
def blockW (s : List Nat) : List Nat := sumTo (mixes s 10) s 16
theorem blockW_ok {s : List Nat} (h : Words16 s) : Words16 (blockW s) := sumTo_ok (h.mixes 10) 16

theorem zero16 : (Try.prog.info? 51).map (fun i => (i.zero, i.size)) = some (some (.agg zeros16.toArray), zeros16.length) := by kernel_rfl

/-- The state in its box, the answer's place, and the words under way. -/
def Three (w0 : World) (b c : Nat) (t x : List Nat) (w : World) : Prop := Whole w b 51 (wordsV t) ∧ Whole w (b + 1) 51 zeros16 ∧ Whole w c 51 (wordsV x) ∧ Below w0.heap.size w0 w
theorem Three.below {w0 w w' : World} {b c : Nat} {t x : List Nat} (h : Three w0 b c t x w) (k : Below w.heap.size w w') : Three w0 b c t x w' :=
  ⟨h.1.below h.1.lt k, h.2.1.below h.2.1.lt k, h.2.2.1.below h.2.2.1.lt k, h.2.2.2.trans (k.mono h.2.2.2.size)⟩
theorem Three.put {w0 w : World} {b c : Nat} {t x : List Nat} (h : Three w0 b c t x w) (y : List Nat) (h1 : b ≠ c) (h2 : b + 1 ≠ c) (h3 : w0.heap.size ≤ c) : Three w0 b c t y (w.setRow c (wordsV y).toArray) := by
  have o1 : (w.setRow c (wordsV y).toArray).heap[b]? = w.heap[b]? := by
    simp [World.setRow, Array.getElem?_modify, Ne.symm h1]
  have o2 : (w.setRow c (wordsV y).toArray).heap[b + 1]? = w.heap[b + 1]? := by
    simp [World.setRow, Array.getElem?_modify, Ne.symm h2]
  exact ⟨o1.trans h.1, o2.trans h.2.1, h.2.2.1.setRow _, below_setRow h.2.2.2 h3 _⟩
theorem Three.word {w0 w : World} {b c : Nat} {t x : List Nat} (h : Three w0 b c t x w) (i y : Nat) (h1 : b ≠ c) (h2 : b + 1 ≠ c) (h3 : w0.heap.size ≤ c) : Three w0 b c t (x.set i y) (w.setCell ⟨c, i, none⟩ (.int .u32 (y : Int))) :=
  ⟨h.1.other _ _ _ h1.symm, h.2.1.other _ _ _ h2.symm, set_word h.2.2.1 i y, h.2.2.2.setCell h3 _⟩
theorem Three.drew {w0 w : World} {b c : Nat} {t x : List Nat} (h : Three w0 b c t x w) : Three w0 b c t x w.drew := ⟨h.1, h.2.1, h.2.2.1, h.2.2.2.drew⟩

set_option maxHeartbeats 1600000 in
theorem blockOf_any (s B : List Nat) (n : Nat) (w : World) (h : Words16 s) (hn : n < 4294967296) (hB : B = blockW (s.set 12 n)) :
    Calls Try.prog 33 #[.agg (wordsV s).toArray, .int .u32 n] w fun e w' => e = .returned (.agg (wordsV B).toArray) ∧ Below w.heap.size w w' := by
  have c12 := word_cell ((Whole.made' w 51 (wordsV s).toArray _ rfl).alloc (.cells zeros16.toArray 51)) (i := 12) (by rw [h.1]; omega)
  have f12 := word_free ((Whole.made' w 51 (wordsV s).toArray _ rfl).alloc (.cells zeros16.toArray 51)) (i := 12) (by rw [h.1]; omega)
  have ht : Words16 (s.set 12 n) := h.set 12 n hn
  have hwt := wordsV_set s 12 n
  go_enter Try.func33, Try.ntmps33
  go_upto_region 2 with (fail)
  clear c12 f12 h
  try rw [hwt]
  clear hwt
  generalize s.set 12 n = t at *
  have hA : Whole ((w.alloc (.cells (wordsV t).toArray 51)).alloc (.cells zeros16.toArray 51)) w.heap.size 51 (wordsV t) := (Whole.made' w _ (wordsV t).toArray _ rfl).alloc _
  have hZ : Whole ((w.alloc (.cells (wordsV t).toArray 51)).alloc (.cells zeros16.toArray 51)) (w.heap.size + 1) 51 zeros16 := Whole.made' _ _ zeros16.toArray _ (by simp)
  have hBl : Below w.heap.size w ((w.alloc (.cells (wordsV t).toArray 51)).alloc (.cells zeros16.toArray 51)) := ((Below.refl _ _).alloc (Nat.le_refl _) _).alloc (by simp) _
  have hsz : w.heap.size + 2 = ((w.alloc (.cells (wordsV t).toArray 51)).alloc (.cells zeros16.toArray 51)).heap.size := by simp
  have HT := Lib.hid ht
  have HB := Lib.hid hB
  have HA := Lib.hid hA
  have HZ := Lib.hid hZ
  have HBl := Lib.hid hBl
  have HI := Lib.hid (info16 ht.1)
  have HO := Lib.hid (show zeros16.length = (wordsV t).length by rw [wordsV_length, ht.1]; rfl)
  have H1 := Lib.hid (one16 t)
  have HSZ := Lib.hid hsz
  clear ht hB hA hZ hBl hsz
  have HA' : Hid (Whole ((w.alloc (.cells (wordsV t).toArray 51)).alloc (.cells #[.int .u32 0, .int .u32 0, .int .u32 0, .int .u32 0, .int .u32 0, .int .u32 0, .int .u32 0, .int .u32 0, .int .u32 0, .int .u32 0, .int .u32 0, .int .u32 0, .int .u32 0, .int .u32 0, .int .u32 0, .int .u32 0] 51)) w.heap.size 51 (wordsV t)) := HA
  have HZ' : Hid (Whole ((w.alloc (.cells (wordsV t).toArray 51)).alloc (.cells #[.int .u32 0, .int .u32 0, .int .u32 0, .int .u32 0, .int .u32 0, .int .u32 0, .int .u32 0, .int .u32 0, .int .u32 0, .int .u32 0, .int .u32 0, .int .u32 0, .int .u32 0, .int .u32 0, .int .u32 0, .int .u32 0] 51)) (w.heap.size + 1) 51 zeros16) := HZ
  have HBl' : Hid (Below w.heap.size w ((w.alloc (.cells (wordsV t).toArray 51)).alloc (.cells #[.int .u32 0, .int .u32 0, .int .u32 0, .int .u32 0, .int .u32 0, .int .u32 0, .int .u32 0, .int .u32 0, .int .u32 0, .int .u32 0, .int .u32 0, .int .u32 0, .int .u32 0, .int .u32 0, .int .u32 0, .int .u32 0] 51))) := HBl
  have HSZ' : Hid (w.heap.size + 2 = ((w.alloc (.cells (wordsV t).toArray 51)).alloc (.cells #[.int .u32 0, .int .u32 0, .int .u32 0, .int .u32 0, .int .u32 0, .int .u32 0, .int .u32 0, .int .u32 0, .int .u32 0, .int .u32 0, .int .u32 0, .int .u32 0, .int .u32 0, .int .u32 0, .int .u32 0, .int .u32 0] 51)).heap.size) := HSZ
  clear HA HZ HBl HSZ
  generalize (w.alloc (.cells (wordsV t).toArray 51)).alloc (.cells #[.int .u32 0, .int .u32 0, .int .u32 0, .int .u32 0, .int .u32 0, .int .u32 0, .int .u32 0, .int .u32 0, .int .u32 0, .int .u32 0, .int .u32 0, .int .u32 0, .int .u32 0, .int .u32 0, .int .u32 0, .int .u32 0] 51) = wx at *
  go_upto_region 3 with ((first
    | (with_reducible refine wpList_load_mid rfl 51 (.tmp 2) rfl w.heap.size 0 rfl (wordsV t) _ HA'.out.range Try.underlying51 rfl HI.out ?_)
    | (with_reducible refine wpList_alloc_z rfl 51 rfl zeros16 zero16 ?_)
    | (with_reducible refine wpList_store_new rfl 51 _ _ rfl _ (wordsV t) zeros16 rfl rfl rfl HI.out HO.out H1.out ?_)))
  have h3 : Three w w.heap.size wx.heap.size t t (wx.alloc (.cells (wordsV t).toArray 51)) := ⟨HA'.out.alloc _, HZ'.out.alloc _, Whole.made _ _ _, HBl'.out.alloc HBl'.out.size _⟩
  have hnc : w.heap.size + 2 ≤ wx.heap.size := Nat.le_of_eq HSZ'.out
  have H3 := Lib.hid h3
  clear h3 HA' HZ' HBl' HSZ' HI HO H1
  generalize wx.alloc (.cells (wordsV t).toArray 51) = wy at *
  generalize wx.heap.size = nC at *
  have n1 : w.heap.size ≠ nC := by omega
  have n2 : w.heap.size + 1 ≠ nC := by omega
  have n3 : w.heap.size ≤ nC := by omega
  have N1 := Lib.hid n1
  have N2 := Lib.hid n2
  clear n1 n2 hnc
  go_wp2
  go_loopw [10] (fun i wr => ∃ k : Nat, k ≤ 10 ∧ i = .int .i64 k ∧ Three w w.heap.size nC t (mixes t k) wr) (fun i _ => 10 - (intOf i).toNat)
  case atStart => exact ⟨0, by omega, rfl, H3.out⟩
  case round =>
    obtain ⟨k, hk10, rfl, hk⟩ := hrel
    by_cases hlt : k < 10
    · have hd2 : decide ((k : Int) < 10) = true := by simp; omega
      have hstep : mixes t (k + 1) = mixed (mixes t k) := rfl
      have hok := HT.out.mixes k
      generalize mixes t k = X at *
      obtain ⟨M, hM⟩ : ∃ M, M = mixed X := ⟨_, rfl⟩
      have hokM : Words16 M := by rw [hM]; exact hok.mixed
      rw [← hM] at hstep
      have R := Lib.hid (fun u => mixed_any X M u hok hM)
      have HX1 := Lib.hid hk.2.2.1
      have HK := Lib.hid hk
      have HIX := Lib.hid (info16 hok.1)
      have HIM := Lib.hid (infoA16 hokM.1)
      have HOM := Lib.hid (show (wordsV X).toArray.size = (wordsV M).toArray.size by simp [wordsV_length, hok.1, hokM.1])
      have H1M := Lib.hid (one16 M)
      have HST := Lib.hid hstep
      clear hk hok hokM hM hstep H3
      go_wp2_with ((with_reducible refine wpList_load_mid rfl 51 (.tmp 5) rfl nC 0 rfl (wordsV X) _ HX1.out.range Try.underlying51 rfl HIX.out ?_))
      refine (R.out _).mono ?_
      rintro e w1 ⟨rfl, hb1⟩
      have hk2 := HK.out.below hb1
      have hx2 : w1.heap[nC]? = some (.cells (wordsV X).toArray 51 (0, 0)) := hk2.2.2.1
      have HK2 := Lib.hid hk2
      have HX2 := Lib.hid hx2
      clear hb1 hk2 hx2
      go_wp2_with ((with_reducible refine wpList_store_row rfl 51 (.tmp 5) (.tmp 13) rfl nC (wordsV M).toArray rfl rfl 51 (wordsV X).toArray HX2.out HIM.out HOM.out H1M.out ?_))
      go_roundw
      case rel => exact ⟨k + 1, by omega, by go_num, by rw [HST.out]; exact HK2.out.put M N1.out N2.out n3⟩
      case measure => simp [intOf]; omega
    · have hd2 : decide ((k : Int) < 10) = false := by simp; omega
      obtain rfl : k = 10 := by omega
      have hokX := HT.out.mixes 10
      have hB2 : B = sumTo (mixes t 10) t 16 := HB.out
      generalize mixes t 10 = X at *
      have HK := Lib.hid hk
      have HX := Lib.hid hokX
      have HB2 := Lib.hid hB2
      clear hk hokX hB2 HB H3
      go_wp2
      obtain ⟨wo, rfl⟩ : ∃ wo : World, wo = wr := ⟨_, rfl⟩
      go_loopw [15] (fun i wr => ∃ k : Nat, k ≤ 16 ∧ i = .int .i64 k ∧ Three w w.heap.size nC t (sumTo X t k) wr) (fun i _ => 16 - (intOf i).toNat)
      case atStart => exact ⟨0, by omega, rfl, by rw [sumTo_zero HX.out.1]; exact HK.out⟩
      case round =>
        obtain ⟨k, hk16, rfl, hk⟩ := hrel
        by_cases hlt : k < 16
        · have hd2 : decide ((k : Int) < 16) = true := by simp; omega
          have hnext := sumTo_succ X t k
          have hat := sumTo_at X t k hlt
          have hlen := sumTo_length X t k
          have hlx := HX.out.at k
          have hlt' := HT.out.at k
          generalize sumTo X t k = Y at *
          have cx := word_cell hk.2.2.1 (i := k) (by omega)
          have fx := word_free hk.2.2.1 (i := k) (by omega)
          have ct := word_cell hk.1 (i := k) (by rw [HT.out.1]; omega)
          rw [hat] at cx
          generalize X.getD k 0 = x at *
          generalize t.getD k 0 = y at *
          have HP := Lib.hid (hk.word k ((x + y) % 4294967296) N1.out N2.out n3).drew
          have hq : ((x : Int) + (y : Int)) % 4294967296 = (((x + y) % 4294967296 : Nat) : Int) := by omega
          have HQ := Lib.hid hq
          have HNX := Lib.hid hnext
          clear hk hat hnext hq hlen
          go_wp2
          go_region
          all_goals go_wp2
          all_goals go_roundw
          case rel => exact ⟨k + 1, by omega, by go_num, by rw [← HNX.out, HQ.out]; exact HP.out⟩
          case measure => simp [intOf]; omega
        · have hd2 : decide ((k : Int) < 16) = false := by simp; omega
          obtain rfl : k = 16 := by omega
          rw [← HB2.out] at hk
          have hokB : Words16 B := by rw [HB2.out]; exact sumTo_ok HX.out 16
          have HB1 := Lib.hid hk.2.2.1
          have HIM := Lib.hid (info16 hokB.1)
          have HIA := Lib.hid (infoA16 hokB.1)
          have HOM := Lib.hid (long16 hokB.1)
          have H1M := Lib.hid (one16 B)
          have hz2 : wr.heap[w.heap.size + 1]? = some (.cells zeros16.toArray 51 (0, 0)) := hk.2.1
          have HZ2 := Lib.hid hz2
          have HZW := Lib.hid hk.2.1
          have HBL := Lib.hid hk.2.2.2
          clear hk hz2 hokB HK HX
          go_wp2_with ((first
            | (with_reducible refine wpList_load_mid rfl 51 (.tmp 5) rfl nC 0 rfl (wordsV B) _ HB1.out.range Try.underlying51 rfl HIM.out ?_)
            | (with_reducible refine wpList_store_row rfl 51 (.tmp 4) (.tmp 27) rfl (w.heap.size + 1) (wordsV B).toArray rfl rfl 51 zeros16.toArray HZ2.out HIA.out HOM.out H1M.out ?_)))
          refine bodyPost_ret (v := .agg (wordsV B).toArray) ?_ rfl ⟨rfl, below_setRow HBL.out (by omega) _⟩
          exact results_whole (ty := 51) Try.results33 _ _ (w.heap.size + 1) 51 (wordsV B) _ (by simp [Act.put]) (HZW.out.setRow _) Try.underlying51 rfl HIM.out
end Go.Proofs.Ytcglobpklhkebab.Cha
