/-
  The document's own answer for the state of a key, a number and a nonce is what the plain mathematics of the text Cha says, and all memory that was there stays. Conditions: the key has 32 bytes, the nonce 12, the number is below 2^32.
-/
import Derived.Test.YtcglobpklhkebabChaLong
import Derived.Test.YtcglobpklhkebabRefWords
import Derived.Test.YtcglobpklhkebabRefXor
namespace Go.Proofs.Ytcglobpklhkebab.RefCha
open Go.RowKit Mur Lanes Cha
set_option maxRecDepth 100000

theorem byt_left {a b : List UInt8} {i : Nat} (h : i < a.length) : byt (a ++ b) i = byt a i := by
  rw [byt_get (by rw [List.length_append]; omega), byt_get h, List.getElem_append_left h]
theorem byt_right {a b : List UInt8} {i : Nat} (h : a.length ≤ i) : byt (a ++ b) i = byt b (i - a.length) := by
  unfold byt
  simp only [List.getD, List.getElem?_append_right h]
/-- Words of whole words, one text behind the other. -/
theorem words_append (a b : List UInt8) (c : Nat) (h : a.length = 4 * c) : words (a ++ b) false = words a false ++ words b false := by
  apply List.ext_getElem
  · simp only [words_length, List.length_append]
    omega
  intro i h1 h2
  rw [words_length, List.length_append] at h1
  by_cases hi : i < c
  · rw [List.getElem_append_left (by rw [words_length]; omega)]
    simp only [words, List.getElem_map, List.getElem_range]
    rw [(RefTwo.word_sum _ i).1, (RefTwo.word_sum _ i).1, byt_left (by omega), byt_left (by omega), byt_left (by omega), byt_left (by omega)]
  · rw [List.getElem_append_right (by rw [words_length]; omega)]
    simp only [words, List.getElem_map, List.getElem_range, List.length_map, List.length_range]
    have e : a.length / 4 = c := by omega
    rw [(RefTwo.word_sum _ i).1, (RefTwo.word_sum _ _).1, byt_right (by omega), byt_right (by omega), byt_right (by omega), byt_right (by omega), e]
    have e0 : 4 * i - a.length = 4 * (i - c) := by omega
    have e1 : 4 * i + 1 - a.length = 4 * (i - c) + 1 := by omega
    have e2 : 4 * i + 2 - a.length = 4 * (i - c) + 2 := by omega
    have e3 : 4 * i + 3 - a.length = 4 * (i - c) + 3 := by omega
    rw [e0, e1, e2, e3]
theorem text_one (n : Nat) : text [n] false = [UInt8.ofNat n, UInt8.ofNat (n / 256), UInt8.ofNat (n / 65536), UInt8.ofNat (n / 16777216)] := by
  simp [text, shiftN, List.range_succ]
theorem words_text_one (n : Nat) (hn : n < 4294967296) : words (text [n] false) false = [n] := by
  rw [text_one]
  apply List.ext_getElem (by simp [words_length])
  intro i h1 h2
  obtain rfl : i = 0 := by simpa using h2
  simp only [words, List.getElem_map, List.getElem_range, List.getElem_cons_zero]
  rw [(RefTwo.word_sum _ 0).1]
  simp [byt]
  omega
/-- The number may be laid into the text, or into the words. -/
theorem state_number (key nonce : List UInt8) (n : Nat) (hk : key.length = 32) (hn : n < 4294967296) : stateW key (text [n] false) nonce = (stateZ key nonce).set 12 n := by
  have ha : (markL ++ key).length = 4 * 12 := by simp [markL, hk]
  have hz : words [0, 0, 0, 0] false = [0] := by decide
  unfold stateZ stateW
  rw [List.append_assoc (markL ++ key), List.append_assoc (markL ++ key), words_append _ _ 12 ha, words_append _ _ 12 ha, words_append (text [n] false) _ 1 (by rw [text_length]; rfl), words_append [0, 0, 0, 0] _ 1 rfl, words_text_one n hn, hz]
  have hl : (words (markL ++ key) false).length = 12 := by rw [words_length, ha]
  rw [List.set_append_right _ _ (by omega), hl]
  rfl

/-- The words below i are taken over. -/
def upTo (W : List Nat) (i : Nat) : List Nat := (List.range 16).map fun j => if j < i then W.getD j 0 else 0
theorem upTo_zero (W : List Nat) : wordsV (upTo W 0) = zeros16 := rfl
theorem upTo_length (W : List Nat) (i : Nat) : (upTo W i).length = 16 := by simp [upTo]
theorem upTo_succ (W : List Nat) (i : Nat) : (upTo W i).set i (W.getD i 0) = upTo W (i + 1) := by
  apply List.ext_getElem (by simp [upTo])
  intro j h1 h2
  rw [List.getElem_set]
  by_cases e : i = j
  · subst e; simp [upTo]
  · have e1 : (j < i + 1) = (j < i) := by simp; omega
    simp [upTo, e, e1]
theorem upTo_end {W : List Nat} (h : W.length = 16) : upTo W 16 = W := by
  apply List.ext_getElem (by simp [upTo, h])
  intro j h1 h2
  have hj : j < 16 := by omega
  simp [upTo, hj, List.getD, h2]

/-- What the loop leans on. -/
structure Going (w0 : World) (g : Nat) (W X : List Nat) (w : World) : Prop where
  src : ∀ j (h : j < W.length), w.cell? ⟨g, j, none⟩ = some (.int .u32 (W[j] : Int))
  res : Whole w w0.heap.size 51 zeros16
  s : Whole w (w0.heap.size + 1) 51 (wordsV X)
  below : Below w0.heap.size w0 w
theorem Going.set {w0 w : World} {g : Nat} {W X : List Nat} (h : Going w0 g W X w) (i y : Nat) (hg : g ≠ w0.heap.size + 1) : Going w0 g W (X.set i y) (w.setCell ⟨w0.heap.size + 1, i, none⟩ (.int .u32 (y : Int))) := by
  refine ⟨fun j hj => ?_, h.res.other _ _ _ (by omega), set_word h.s i y, h.below.setCell (p := ⟨w0.heap.size + 1, i, none⟩) (by show _ ≤ w0.heap.size + 1; omega) _⟩
  rw [World.cell?_setCell_other w ⟨w0.heap.size + 1, i, none⟩ ⟨g, j, none⟩ _ (by intro e; cases e; exact hg rfl)]
  exact h.src j hj

set_option maxHeartbeats 1600000 in
theorem state_any (key nonce : ByteArray) (n : Nat) (M : List Nat) (w : World) (hk : key.size = 32) (hn : nonce.size = 12) (hlt : n < 4294967296) (hM : M = (stateZ key.data.toList nonce.data.toList).set 12 n) :
    Calls Try.prog 52 #[.string key, .int .u32 n, .string nonce] w fun e w' => e = .returned (.agg (wordsV M).toArray) ∧ Below w.heap.size w w' := by
  obtain ⟨T, hT⟩ : ∃ T : ByteArray, T = ⟨(text [n] false).toArray⟩ := ⟨_, rfl⟩
  have hTs : T.size = 4 := by
    rw [hT]
    show (text [n] false).toArray.size = 4
    simp [text_length]
  obtain ⟨A, hA⟩ : ∃ A : ByteArray, A = (⟨#[101, 120, 112, 97, 110, 100, 32, 51, 50, 45, 98, 121, 116, 101, 32, 107]⟩ : ByteArray) ++ key ++ T ++ nonce := ⟨_, rfl⟩
  have hAs : A.size = 64 := by rw [hA]; simp only [ByteArray.size_append, hk, hn, hTs]; rfl
  have hAe : A.data.toList = markL ++ key.data.toList ++ text [n] false ++ nonce.data.toList := by
    rw [hA, hT]
    simp only [ByteArray.data_append, Array.toList_append]
    rfl
  have hMA : words A.data.toList false = M := by
    rw [hM, hAe, ← state_number _ _ _ hk hlt]
    rfl
  have hokM : Words16 M := by rw [hM]; exact (stateW_ok hk rfl hn : Words16 (stateZ key.data.toList nonce.data.toList)).set 12 n hlt
  have r1 := Lib.hid (show ∀ (u : World) (b : Nat), b < u.heap.size → u.cell? ⟨b, 0, none⟩ = some (.int .u32 (n : Int)) → Calls Try.prog 45 #[.slice (some ⟨b, 0, none⟩) 1 1, .bool false] u fun e w' => e = .returned (.string T) ∧ Below u.heap.size u w' from fun u b hb hc => by
    rw [hT]
    exact RefTwo.text_some [n] b 0 1 false u (by show 1 ≤ _; omega) (fun x hx => by rw [List.mem_singleton] at hx; omega) hb (fun i hi => by
      obtain rfl : i = 0 := by have : [n].length = 1 := rfl; omega
      exact hc))
  have r2 := Lib.hid (show ∀ u, Calls Try.prog 61 #[.string A, .bool false] u fun e w' => ∃ v, e = .returned v ∧ w'.ownsRow u.heap.size 31 1 v 16 (wordsV M) ∧ Below u.heap.size u w' from fun u => by
    have := RefTwo.words_own A false u (by omega)
    rw [hMA, show A.size / 4 = 16 by omega] at this
    exact this)
  have n1 : ¬ 9223372036854775807 < 16 + key.size := by omega
  have n2 : ¬ 9223372036854775807 < 16 + key.size + T.size := by omega
  have n3 : ¬ 9223372036854775807 < 16 + key.size + T.size + nonce.size := by omega
  have HA := Lib.hid hA
  have HKM := Lib.hid hokM
  clear hA hT hTs hAs hAe hMA hokM hM hk hn
  go_enter Try.func52, Try.ntmps52
  go_upto_region 2 with (fail)
  have hZa : Whole ((w.alloc (.cells #[.int .u32 0, .int .u32 0, .int .u32 0, .int .u32 0, .int .u32 0, .int .u32 0, .int .u32 0, .int .u32 0, .int .u32 0, .int .u32 0, .int .u32 0, .int .u32 0, .int .u32 0, .int .u32 0, .int .u32 0, .int .u32 0] 51)).alloc (.cells #[.int .u32 0, .int .u32 0, .int .u32 0, .int .u32 0, .int .u32 0, .int .u32 0, .int .u32 0, .int .u32 0, .int .u32 0, .int .u32 0, .int .u32 0, .int .u32 0, .int .u32 0, .int .u32 0, .int .u32 0, .int .u32 0] 51)) w.heap.size 51 zeros16 := (Whole.made' w _ zeros16.toArray _ rfl).alloc _
  have hZb : Whole ((w.alloc (.cells #[.int .u32 0, .int .u32 0, .int .u32 0, .int .u32 0, .int .u32 0, .int .u32 0, .int .u32 0, .int .u32 0, .int .u32 0, .int .u32 0, .int .u32 0, .int .u32 0, .int .u32 0, .int .u32 0, .int .u32 0, .int .u32 0] 51)).alloc (.cells #[.int .u32 0, .int .u32 0, .int .u32 0, .int .u32 0, .int .u32 0, .int .u32 0, .int .u32 0, .int .u32 0, .int .u32 0, .int .u32 0, .int .u32 0, .int .u32 0, .int .u32 0, .int .u32 0, .int .u32 0, .int .u32 0] 51)) (w.heap.size + 1) 51 zeros16 := Whole.made' _ _ zeros16.toArray _ (by simp)
  have hBl : Below w.heap.size w ((w.alloc (.cells #[.int .u32 0, .int .u32 0, .int .u32 0, .int .u32 0, .int .u32 0, .int .u32 0, .int .u32 0, .int .u32 0, .int .u32 0, .int .u32 0, .int .u32 0, .int .u32 0, .int .u32 0, .int .u32 0, .int .u32 0, .int .u32 0] 51)).alloc (.cells #[.int .u32 0, .int .u32 0, .int .u32 0, .int .u32 0, .int .u32 0, .int .u32 0, .int .u32 0, .int .u32 0, .int .u32 0, .int .u32 0, .int .u32 0, .int .u32 0, .int .u32 0, .int .u32 0, .int .u32 0, .int .u32 0] 51)) := ((Below.refl _ _).alloc (Nat.le_refl _) _).alloc (by simp) _
  have HZa := Lib.hid hZa
  have HZb := Lib.hid hZb
  have HBl := Lib.hid hBl
  clear hZa hZb hBl
  generalize (w.alloc (.cells #[.int .u32 0, .int .u32 0, .int .u32 0, .int .u32 0, .int .u32 0, .int .u32 0, .int .u32 0, .int .u32 0, .int .u32 0, .int .u32 0, .int .u32 0, .int .u32 0, .int .u32 0, .int .u32 0, .int .u32 0, .int .u32 0] 51)).alloc (.cells #[.int .u32 0, .int .u32 0, .int .u32 0, .int .u32 0, .int .u32 0, .int .u32 0, .int .u32 0, .int .u32 0, .int .u32 0, .int .u32 0, .int .u32 0, .int .u32 0, .int .u32 0, .int .u32 0, .int .u32 0, .int .u32 0] 51) = wx at *
  go_wp2_with fail
  refine (r1.out _ wx.heap.size (by simp) (by simp [World.cell?_alloc_new])).mono ?_
  rintro e w1 ⟨rfl, hb1⟩
  have HB1 := Lib.hid (show Below wx.heap.size wx w1 from ((Below.refl wx.heap.size wx).alloc (Nat.le_refl _) _).trans (hb1.mono (by simp)))
  clear hb1
  go_wp2_with fail
  rw [← HA.out]
  refine (r2.out _).mono ?_
  rintro e w2 ⟨v, rfl, hown, hb2⟩
  have hB2 : Below wx.heap.size wx w2 := HB1.out.trans (hb2.mono HB1.out.size)
  obtain ⟨g, cap, rfl, hg, hsrc⟩ : ∃ g cap, v = .slice (some ⟨g, 0, none⟩) 16 cap ∧ wx.heap.size ≤ g ∧ ∀ j (h : j < M.length), w2.cell? ⟨g, j, none⟩ = some (.int .u32 (M[j] : Int)) := by
    have hm := HKM.out.1
    rcases hown.2 with ⟨rfl, h0⟩ | ⟨g, cap, cur, rfl, hb, hgc, hnc, hm2, hs, ht⟩
    · omega
    · refine ⟨g, cap, rfl, Nat.le_trans HB1.out.size hb, fun j hj => ?_⟩
      rw [hown.cellAt j (by omega)]
      exact wordsV_at hj
  have hgo : Going w g M (upTo M 0) w2 := ⟨hsrc, HZa.out.below HZa.out.lt hB2, by rw [upTo_zero]; exact HZb.out.below HZb.out.lt hB2, HBl.out.trans (hB2.mono HBl.out.size)⟩
  have hgn : g ≠ w.heap.size + 1 := by have := HZb.out.lt; omega
  have HGO := Lib.hid hgo
  have HGN := Lib.hid hgn
  clear hgo hgn hsrc hown hb2 hB2 HZa HZb HBl HB1 hg
  go_wp2
  go_loopw [19] (fun i wr => ∃ k : Nat, k ≤ 16 ∧ i = .int .i64 k ∧ Going w g M (upTo M k) wr) (fun i _ => 16 - (intOf i).toNat)
  case atStart => exact ⟨0, by omega, rfl, HGO.out⟩
  case round =>
    obtain ⟨k, hk16, rfl, hk⟩ := hrel
    by_cases hlk : k < 16
    · have hd2 : decide ((k : Int) < 16) = true := by simp; omega
      have ik : (k : Int) < 16 := by omega
      have hnext := upTo_succ M k
      have cs := hk.src k (by rw [HKM.out.1]; exact hlk)
      have eM : M[k]'(by rw [HKM.out.1]; exact hlk) = M.getD k 0 := by simp [List.getD, HKM.out.1, hlk]
      rw [eM] at cs
      generalize M.getD k 0 = y at *
      have cx := word_cell hk.s (i := k) (by rw [upTo_length]; exact hlk)
      have fx := word_free hk.s (i := k) (by rw [upTo_length]; exact hlk)
      have HP := Lib.hid (hk.set k y HGN.out)
      have HNX := Lib.hid hnext
      generalize upTo M k = X at *
      clear hk hnext eM HGO
      go_wp2
      go_roundw
      case rel => exact ⟨k + 1, by omega, by go_num, by rw [← HNX.out]; exact HP.out⟩
      case measure => simp [intOf]; omega
    · have hd2 : decide ((k : Int) < 16) = false := by simp; omega
      obtain rfl : k = 16 := by omega
      rw [upTo_end HKM.out.1] at hk
      have HS1 := Lib.hid hk.s
      have hz2 := hk.res
      have HRES := Lib.hid hk.res
      have HBEL := Lib.hid hk.below
      unfold Whole at hz2
      have HZ2 := Lib.hid hz2
      have HIM := Lib.hid (info16 HKM.out.1)
      have HIA := Lib.hid (infoA16 HKM.out.1)
      have HOM := Lib.hid (long16 HKM.out.1)
      have H1M := Lib.hid (one16 M)
      clear hk hz2 HGO
      go_wp2_with ((first
        | (with_reducible refine wpList_load_mid rfl 51 (.tmp 7) rfl (w.heap.size + 1) 0 rfl (wordsV M) _ HS1.out.range Try.underlying51 rfl HIM.out ?_)
        | (with_reducible refine wpList_store_row rfl 51 (.tmp 6) (.tmp 33) rfl w.heap.size (wordsV M).toArray rfl rfl 51 zeros16.toArray HZ2.out HIA.out HOM.out H1M.out ?_)))
      refine bodyPost_ret (v := .agg (wordsV M).toArray) ?_ rfl ⟨rfl, below_setRow HBEL.out (Nat.le_refl _) _⟩
      exact results_whole (ty := 51) Try.results52 _ _ w.heap.size 51 (wordsV M) _ (by simp [Act.put]) (HRES.out.setRow _) Try.underlying51 rfl HIM.out
end Go.Proofs.Ytcglobpklhkebab.RefCha
