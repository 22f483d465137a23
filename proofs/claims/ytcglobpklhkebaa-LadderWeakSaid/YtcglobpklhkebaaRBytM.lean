/-
  The plain mathematics of the document's Bytes and Read of layer 5: a number's bytes, bit by bit; a text with bytes 0 behind it. Nothing here speaks of a program: no condition but those that each lemma names.
-/
import Derived.Test.YtcglobpklhkebaaLmbPow
namespace Go.Proofs.Ytcglobpklhkebaa.RefLimb
open Go.RowKit Mur Lanes Limb
set_option maxRecDepth 100000

theorem mod_more (R k : Nat) : R % 2 ^ (k + 1) = R % 2 ^ k + 2 ^ k * (R / 2 ^ k % 2) := by
  rw [Nat.pow_succ, Nat.mod_mul]
theorem byte_other (R k i : Nat) (h : i ≠ k / 8) : R % 2 ^ (k + 1) / 2 ^ (8 * i) % 256 = R % 2 ^ k / 2 ^ (8 * i) % 256 := by
  rcases Nat.lt_or_ge (k / 8) i with g | g
  · have h1 : R % 2 ^ (k + 1) < 2 ^ (8 * i) := Nat.lt_of_lt_of_le (Nat.mod_lt _ (Nat.pow_pos (by decide))) (Nat.pow_le_pow_right (by decide) (by omega))
    have h2 : R % 2 ^ k < 2 ^ (8 * i) := Nat.lt_of_lt_of_le (Nat.mod_lt _ (Nat.pow_pos (by decide))) (Nat.pow_le_pow_right (by decide) (by omega))
    rw [Nat.div_eq_of_lt h1, Nat.div_eq_of_lt h2]
  · rw [mod_more]
    obtain ⟨c, hc⟩ : ∃ c, k = 8 * i + (8 + c) := ⟨k - 8 * i - 8, by omega⟩
    have e : 2 ^ k * (R / 2 ^ k % 2) = 2 ^ (8 * i) * (256 * (2 ^ c * (R / 2 ^ k % 2))) := by
      generalize R / 2 ^ k % 2 = b
      rw [hc, Nat.pow_add, Nat.pow_add 2 8 c, Nat.mul_assoc, Nat.mul_assoc]
    rw [e, Nat.add_mul_div_left _ _ (Nat.pow_pos (by decide)), Nat.add_mul_mod_self_left]
theorem byte_here (R k : Nat) : R % 2 ^ (k + 1) / 2 ^ (8 * (k / 8)) % 256 = R % 2 ^ k / 2 ^ (8 * (k / 8)) % 256 + 2 ^ (k % 8) * (R / 2 ^ k % 2) ∧ R % 2 ^ k / 2 ^ (8 * (k / 8)) % 256 < 2 ^ (k % 8) := by
  have hk : k = 8 * (k / 8) + k % 8 := by omega
  have hm : R % 2 ^ k < 2 ^ (8 * (k / 8)) * 2 ^ (k % 8) := by
    rw [← Nat.pow_add, ← hk]
    exact Nat.mod_lt _ (Nat.pow_pos (by decide))
  have hd : R % 2 ^ k / 2 ^ (8 * (k / 8)) < 2 ^ (k % 8) := Nat.div_lt_of_lt_mul hm
  have h8 : 2 ^ (k % 8) ≤ 128 := Nat.pow_le_pow_right (n := 2) (by decide) (show k % 8 ≤ 7 by omega)
  have e : 2 ^ k * (R / 2 ^ k % 2) = 2 ^ (8 * (k / 8)) * (2 ^ (k % 8) * (R / 2 ^ k % 2)) := by
    rw [← Nat.mul_assoc, ← Nat.pow_add, ← hk]
  have hb : 2 ^ (k % 8) * (R / 2 ^ k % 2) ≤ 2 ^ (k % 8) := by
    have : R / 2 ^ k % 2 ≤ 1 := by omega
    exact Nat.le_trans (Nat.mul_le_mul_left _ this) (by omega)
  rw [mod_more, e, Nat.add_mul_div_left _ _ (Nat.pow_pos (by decide))]
  generalize R % 2 ^ k / 2 ^ (8 * (k / 8)) = x at *
  generalize 2 ^ (k % 8) * (R / 2 ^ k % 2) = y at *
  generalize 2 ^ (k % 8) = z at *
  omega

theorem byt_getD (l : List UInt8) (i : Nat) : (l.getD i 0).toNat = byt l i := rfl
theorem bytes_ext {a b : List UInt8} (hl : a.length = b.length) (h : ∀ i, i < a.length → byt a i = byt b i) : a = b := by
  refine List.ext_getElem hl fun i h1 h2 => ?_
  have := h i h1
  unfold byt at this
  rw [List.getD, List.getD, List.getElem?_eq_getElem h1, List.getElem?_eq_getElem h2] at this
  exact UInt8.toNat_inj.1 this
/-- The next bit of a number's bytes. -/
theorem bytes_next (R k : Nat) : (bytesOf (R % 2 ^ k)).set (k / 8) ((bytesOf (R % 2 ^ (k + 1))).getD (k / 8) 0) = bytesOf (R % 2 ^ (k + 1)) := by
  refine bytes_ext (by rw [List.length_set, bytesOf_length, bytesOf_length]) fun i hi => ?_
  rw [List.length_set, bytesOf_length] at hi
  by_cases e : i = k / 8
  · subst e
    unfold byt
    simp [List.getD, bytesOf_length, hi]
  · have h1 : byt ((bytesOf (R % 2 ^ k)).set (k / 8) ((bytesOf (R % 2 ^ (k + 1))).getD (k / 8) 0)) i = byt (bytesOf (R % 2 ^ k)) i := by
      unfold byt
      rw [List.getD, List.getElem?_set_ne (Ne.symm e), ← List.getD]
    rw [h1, byt_bytes _ _ hi, byt_bytes _ _ hi, byte_other R k i e]
theorem bytes_same (R k : Nat) (h : R / 2 ^ k % 2 = 0) : bytesOf (R % 2 ^ (k + 1)) = bytesOf (R % 2 ^ k) := by
  rw [mod_more, h, Nat.mul_zero, Nat.add_zero]
theorem bytes_bit (R k : Nat) (hk : k < 255) (h : R / 2 ^ k % 2 = 1) : ((bytesOf (R % 2 ^ (k + 1))).getD (k / 8) 0).toNat = ((bytesOf (R % 2 ^ k)).getD (k / 8) 0).toNat ||| 2 ^ (k % 8) := by
  have hi : k / 8 < 32 := by omega
  obtain ⟨g1, g2⟩ := byte_here R k
  rw [byt_getD, byt_getD, byt_bytes _ _ hi, byt_bytes _ _ hi, g1, h, Nat.mul_one]
  have := or_add (R % 2 ^ k / 2 ^ (8 * (k / 8)) % 256) 1 (k % 8) g2
  rw [Nat.one_mul] at this
  exact this.symm
theorem limb_bit (R k : Nat) (hk : k < 255) : (lim R).getD (k / 51) 0 / 2 ^ (k % 51) % 2 = R / 2 ^ k % 2 := by
  rw [lim_at _ _ (by omega)]
  have e : (2251799813685248 : Nat) = 2 ^ (k % 51) * (2 * 2 ^ (50 - k % 51)) := by
    rw [← Nat.pow_succ', ← Nat.pow_add, show k % 51 + (50 - k % 51 + 1) = 51 by omega]
  rw [e, Nat.mod_mul_right_div_self, Nat.mod_mod_of_dvd _ (Nat.dvd_mul_right 2 _), Nat.div_div_eq_div_mul, ← Nat.pow_add, Nat.div_add_mod]

/-- 40 bytes of a text, bytes 0 behind it. -/
def pad40 (l : List UInt8) : List UInt8 := (l ++ List.replicate 40 0).take 40
theorem pad40_length (l : List UInt8) : (pad40 l).length = 40 := by simp [pad40]
theorem pad40_byt (l : List UInt8) (i : Nat) (h : i < 40) : byt (pad40 l) i = byt l i := by
  unfold byt pad40
  rw [List.getD, List.getElem?_take_of_lt h, List.getD]
  by_cases hl : i < l.length
  · rw [List.getElem?_append_left hl]
  · rw [List.getElem?_append_right (by omega), List.getElem?_eq_none (show l.length ≤ i by omega), List.getElem?_replicate]
    split <;> rfl
theorem lowN_same {a b : List UInt8} (k : Nat) (h : ∀ i, i < k → byt a i = byt b i) : lowN a k = lowN b k := by
  induction k with
  | zero => rfl
  | succ k ih => rw [lowN, lowN, ih fun i hi => h i (by omega), h k (by omega)]
theorem pad40_num (l : List UInt8) : num (pad40 l) = num l % 2 ^ (8 * 40) := by
  have h1 : num (pad40 l) = lowN l 40 := by
    unfold num
    rw [pad40_length]
    exact lowN_same 40 fun i hi => pad40_byt l i hi
  rw [h1]
  have h2 := lowN_lt l 40
  rcases Nat.lt_or_ge 40 l.length with h | h
  · have h3 := lowN_split l 40 (l.length - 40)
    rw [show 40 + (l.length - 40) = l.length by omega] at h3
    unfold num
    rw [h3]
    generalize 2 ^ (8 * 40) = M at *
    rw [Nat.add_mul_mod_self_left]
    exact (Nat.mod_eq_of_lt h2).symm
  · have h3 := lowN_out l (40 - l.length)
    rw [show l.length + (40 - l.length) = 40 by omega] at h3
    rw [← h3]
    generalize 2 ^ (8 * 40) = M at *
    exact (Nat.mod_eq_of_lt h2).symm
theorem read40 (l : List UInt8) (k f sh : Nat) (hk : k < 5) (hf : f ≤ 40) (hs : sh ≤ 13) (he : 51 * k = 8 * f + sh) : low ((pad40 l).drop f) / 2 ^ sh % 2251799813685248 = (lim (num l)).getD k 0 := by
  rw [lim_at _ _ hk, low_num, ← num_drop _ _ (by rw [pad40_length]; exact hf), pad40_num]
  have h64 : (18446744073709551616 : Nat) = 2 ^ sh * (2251799813685248 * 2 ^ (13 - sh)) := by
    rw [show (2251799813685248 : Nat) = 2 ^ 51 from rfl, ← Nat.pow_add, ← Nat.pow_add, show sh + (51 + (13 - sh)) = 64 by omega]
  rw [h64, Nat.mod_mul_right_div_self, Nat.mod_mod_of_dvd _ (Nat.dvd_mul_right _ _), Nat.div_div_eq_div_mul, ← Nat.pow_add, ← he]
  have h320 : (2 : Nat) ^ (8 * 40) = 2 ^ (51 * k) * (2251799813685248 * 2 ^ (269 - 51 * k)) := by
    rw [show (2251799813685248 : Nat) = 2 ^ 51 from rfl, ← Nat.pow_add, ← Nat.pow_add, show 51 * k + (51 + (269 - 51 * k)) = 8 * 40 by omega]
  rw [h320, Nat.mod_mul_right_div_self, Nat.mod_mod_of_dvd _ (Nat.dvd_mul_right _ _)]
end Go.Proofs.Ytcglobpklhkebaa.RefLimb
