/-
  Plain lemmas on streams: a longer one begins with a shorter one; what is hidden twice is as it was. Nothing here speaks of a program's run: no condition but those that each lemma names.
-/
import Derived.Test.YtcglobpklhkebabChaHide
namespace Go.Proofs.Ytcglobpklhkebab.Cha
open Go.RowKit Mur Lanes

theorem text_append (a b : List Nat) (big : Bool) : text (a ++ b) big = text a big ++ text b big := by
  apply List.ext_getElem
  · simp only [text_length, List.length_append]
    omega
  intro i h1 h2
  rw [text_length, List.length_append] at h1
  by_cases h : i < 4 * a.length
  · rw [List.getElem_append_left (by rw [text_length]; exact h)]
    have e : i / 4 < a.length := by omega
    have e2 : i / 4 < a.length + b.length := by omega
    simp [text, List.getD, List.getElem?_append_left e]
  · rw [List.getElem_append_right (by rw [text_length]; omega)]
    have e : a.length ≤ i / 4 := by omega
    have e2 : i / 4 - a.length = (i - 4 * a.length) / 4 := by omega
    have e3 : shiftN i big = shiftN (i - 4 * a.length) big := by
      unfold shiftN
      have : i % 4 = (i - 4 * a.length) % 4 := by omega
      rw [this]
    simp only [text, List.getElem_map, List.getElem_range, List.getD, List.getElem?_append_right e, e2, e3, List.length_map, List.length_range]
theorem streamW_prefix (s : List Nat) (c d : Nat) : ∃ r, streamW s (c + d) = streamW s c ++ r := by
  induction d with
  | zero => exact ⟨[], by simp⟩
  | succ d ih =>
    obtain ⟨r, hr⟩ := ih
    exact ⟨r ++ blockW (s.set 12 (c + d)), by rw [← List.append_assoc, ← hr]; rfl⟩
/-- A longer stream begins with a shorter one. -/
theorem streamT_take (s : List Nat) (m n : Nat) (h : m ≤ n) : (streamT s n).take m = streamT s m := by
  have hb : blocks m ≤ blocks n := by unfold blocks; omega
  obtain ⟨r, hr⟩ := streamW_prefix s (blocks m) (blocks n - blocks m)
  have e : blocks m + (blocks n - blocks m) = blocks n := by omega
  rw [e] at hr
  unfold streamT
  rw [List.take_take, hr, text_append, Nat.min_eq_left h]
  refine List.take_append_of_le_length ?_
  rw [text_length, streamW_length]
  unfold blocks
  omega
theorem streamT_block (s : List Nat) : streamT s 64 = blockT s 0 := by
  show (text ([] ++ blockW (s.set 12 0)) false).take 64 = _
  rw [List.nil_append]
  refine List.take_of_length_le ?_
  rw [text_length]
  show 4 * (sumTo _ _ 16).length ≤ 64
  rw [sumTo_length]
  omega
theorem extract_take (x : ByteArray) (n : Nat) : (x.extract 0 n).data.toList = x.data.toList.take n := by
  simp [ByteArray.data_extract]
theorem streamB_take (key nonce : ByteArray) (m n : Nat) (h : m ≤ n) : (streamB key nonce n).extract 0 m = streamB key nonce m := by
  apply ByteArray.ext
  apply Array.toList_inj.1
  rw [extract_take]
  show (streamT _ n).take m = streamT _ m
  exact streamT_take _ m n h

theorem xorL_getD (a b : List UInt8) (i : Nat) (h : i < a.length) : (LanesXor.xorL a b).getD i 0 = LanesXor.xorAt a b i := by simp [LanesXor.xorL, List.getD, h]
theorem xorL_back (a b : List UInt8) : LanesXor.xorL (LanesXor.xorL a b) b = a := by
  have hl : (LanesXor.xorL a b).length = a.length := by simp [LanesXor.xorL]
  apply List.ext_getElem (by simp [LanesXor.xorL])
  intro i h1 h2
  have e := xorL_getD a b i h2
  simp only [LanesXor.xorL, List.getElem_map, List.getElem_range] at *
  rw [LanesXor.xorAt]
  split
  · rename_i hb
    rw [e, LanesXor.xorAt, if_pos hb, UInt8.xor_assoc, UInt8.xor_self, UInt8.xor_zero]
    simp [List.getD, h2]
  · rename_i hb
    rw [e, LanesXor.xorAt, if_neg hb]
    simp [List.getD, h2]
theorem xorS_back (a b : ByteArray) : LanesXor.xorS (LanesXor.xorS a b) b = a := by
  show (⟨(LanesXor.xorL (LanesXor.xorL a.data.toList b.data.toList).toArray.toList b.data.toList).toArray⟩ : ByteArray) = a
  rw [List.toList_toArray, xorL_back]
/-- Hidden twice a text is as it was. -/
theorem hidB_back (key nonce s : ByteArray) (at_ : Nat) : hidB key nonce (hidB key nonce s at_) at_ = s := by
  unfold hidB
  rw [show (LanesXor.xorS s ((streamB key nonce (at_ + s.size)).extract at_ (at_ + s.size))).size = s.size from hidB_size key nonce s at_]
  exact xorS_back _ _
end Go.Proofs.Ytcglobpklhkebab.Cha
