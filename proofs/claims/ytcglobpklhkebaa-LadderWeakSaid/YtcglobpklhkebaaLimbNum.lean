/-
  Plain mathematics: the number of a text's bytes, the limbs that are read of it, the bytes of a number. Nothing here speaks of a program: no condition but those that each lemma names.
-/
import Derived.Test.YtcglobpklhkebaaLimb
import Derived.Test.YtcglobpklhkebaaLanesSpec
namespace Go.Proofs.Ytcglobpklhkebaa.Limb
open Go.RowKit Mur Lanes

/-- The number that a text's bytes are, the lowest first. -/
def num (l : List UInt8) : Nat := lowN l l.length
theorem byt_out (l : List UInt8) (i : Nat) (h : l.length ≤ i) : byt l i = 0 := by
  unfold byt
  rw [List.getD, List.getElem?_eq_none h]
  rfl
theorem byt_drop (l : List UInt8) (f i : Nat) : byt (l.drop f) i = byt l (f + i) := by
  unfold byt
  simp [List.getD]
theorem lowN_out (l : List UInt8) (k : Nat) : lowN l (l.length + k) = num l := by
  induction k with
  | zero => rfl
  | succ k ih =>
    rw [← Nat.add_assoc, lowN, ih, byt_out l _ (by omega), Nat.zero_mul, Nat.add_zero]
theorem lowN_split (l : List UInt8) (f m : Nat) : lowN l (f + m) = lowN l f + 2 ^ (8 * f) * lowN (l.drop f) m := by
  induction m with
  | zero => simp [lowN]
  | succ m ih =>
    rw [← Nat.add_assoc, lowN, ih, lowN, byt_drop, Nat.mul_add, Nat.mul_add, Nat.pow_add, Nat.add_assoc, Nat.mul_left_comm (2 ^ (8 * f)) (byt l (f + m))]
theorem num_lt (l : List UInt8) : num l < 2 ^ (8 * l.length) := lowN_lt l _
theorem num_drop (l : List UInt8) (f : Nat) (h : f ≤ l.length) : num l / 2 ^ (8 * f) = num (l.drop f) := by
  have h1 := lowN_split l f (l.length - f)
  rw [show f + (l.length - f) = l.length by omega] at h1
  have h2 := lowN_lt l f
  have h3 : num l = lowN l f + 2 ^ (8 * f) * num (l.drop f) := by
    unfold num
    rw [h1, List.length_drop]
  rw [h3, Nat.add_mul_div_left _ _ (Nat.pow_pos (by decide)), Nat.div_eq_of_lt h2, Nat.zero_add]
theorem low_num (l : List UInt8) : low l = num l % 18446744073709551616 := by
  unfold low
  rcases Nat.lt_or_ge 8 l.length with h | h
  · rw [Nat.min_eq_right (by omega)]
    have h1 := lowN_split l 8 (l.length - 8)
    rw [show 8 + (l.length - 8) = l.length by omega] at h1
    unfold num
    rw [h1, show (2 : Nat) ^ (8 * 8) = 18446744073709551616 by decide, Nat.add_mul_mod_self_left]
    exact (Nat.mod_eq_of_lt (lowN_lt l 8)).symm
  · rw [Nat.min_eq_left h]
    refine (Nat.mod_eq_of_lt (Nat.lt_of_lt_of_le (lowN_lt l _) ?_)).symm
    exact Nat.pow_le_pow_right (by decide) (show 8 * l.length ≤ 64 by omega)

theorem lim_at (n k : Nat) (h : k < 5) : (lim n).getD k 0 = n / 2 ^ (51 * k) % 2251799813685248 := by
  have : k = 0 ∨ k = 1 ∨ k = 2 ∨ k = 3 ∨ k = 4 := by omega
  rcases this with rfl | rfl | rfl | rfl | rfl
  · show n % 2251799813685248 = n / 1 % 2251799813685248
    rw [Nat.div_one]
  all_goals rfl

/-- A limb that is read. -/
theorem read_at (l : List UInt8) (k : Nat) (h : k < 5) : low (l.drop (min (51 * k / 8) l.length)) / 2 ^ (51 * k % 8) % 2251799813685248 = (lim (num l)).getD k 0 := by
  rw [lim_at _ _ h, low_num]
  rcases Nat.lt_or_ge l.length (51 * k / 8) with h1 | h1
  · rw [Nat.min_eq_right (by omega), List.drop_length]
    have h2 : num l / 2 ^ (51 * k) = 0 := Nat.div_eq_of_lt (Nat.lt_of_lt_of_le (num_lt l) (Nat.pow_le_pow_right (by decide) (by omega)))
    rw [h2]
    show 0 % _ / _ % _ = _
    rw [Nat.zero_mod, Nat.zero_div]
  · rw [Nat.min_eq_left h1, ← num_drop l _ h1]
    obtain ⟨s, hs⟩ : ∃ s, s = 51 * k % 8 := ⟨_, rfl⟩
    have h3 : num l / 2 ^ (51 * k) = num l / 2 ^ (8 * (51 * k / 8)) / 2 ^ s := by
      rw [Nat.div_div_eq_div_mul, ← Nat.pow_add, hs, Nat.div_add_mod]
    rw [h3, ← hs]
    generalize num l / 2 ^ (8 * (51 * k / 8)) = X
    have hs8 : s < 8 := by omega
    have h4 : (18446744073709551616 : Nat) = 2 ^ s * 2 ^ (64 - s) := by
      rw [← Nat.pow_add, show s + (64 - s) = 64 by omega]
    rw [h4, Nat.mod_mul_right_div_self, Nat.mod_mod_of_dvd]
    exact (show (2251799813685248 : Nat) = 2 ^ 51 from rfl) ▸ Nat.pow_dvd_pow 2 (by omega)

/-- The words of a number's bytes. -/
def wordsOf (n : Nat) : List Nat := (List.range 8).map fun i => n / 2 ^ (32 * i) % 4294967296
/-- The bytes of a number, the lowest first. -/
def bytesOf (n : Nat) : List UInt8 := text (wordsOf n) false
theorem bytesOf_length (n : Nat) : (bytesOf n).length = 32 := by
  unfold bytesOf
  rw [text_length]
  rfl
theorem word_at (n i : Nat) (h : i < 8) : (wordsOf n).getD i 0 = n / 2 ^ (32 * i) % 4294967296 := by
  unfold wordsOf
  simp [List.getD, h]
theorem byt_bytes (n i : Nat) (h : i < 32) : byt (bytesOf n) i = n / 2 ^ (8 * i) % 256 := by
  have h1 : byt (bytesOf n) i = (wordsOf n).getD (i / 4) 0 / 2 ^ (8 * (i % 4)) % 256 := by
    have hl : i < 4 * (wordsOf n).length := by simp [wordsOf]; omega
    unfold byt bytesOf text
    simp [List.getD, hl, shiftN]
  rw [h1, word_at _ _ (by omega)]
  have e : (4294967296 : Nat) = 2 ^ (8 * (i % 4)) * 2 ^ (32 - 8 * (i % 4)) := by
    rw [← Nat.pow_add, show 8 * (i % 4) + (32 - 8 * (i % 4)) = 32 by omega]
  rw [e, Nat.mod_mul_right_div_self, Nat.mod_mod_of_dvd _ ((show (256 : Nat) = 2 ^ 8 from rfl) ▸ Nat.pow_dvd_pow 2 (by omega)), Nat.div_div_eq_div_mul, ← Nat.pow_add]
  congr 3
  omega
theorem lowN_bytes (n k : Nat) (h : k ≤ 32) : lowN (bytesOf n) k = n % 2 ^ (8 * k) := by
  induction k with
  | zero => simp [lowN, Nat.mod_one]
  | succ k ih =>
    rw [lowN, ih (by omega), byt_bytes _ _ (by omega), Nat.mul_add, Nat.pow_add, Nat.mod_mul, Nat.mul_comm (2 ^ (8 * k))]
theorem num_bytes (n : Nat) (h : n < 2 ^ 256) : num (bytesOf n) = n := by
  unfold num
  rw [bytesOf_length, lowN_bytes n 32 (Nat.le_refl _)]
  exact Nat.mod_eq_of_lt h

/-- A word, as it is put together of two limbs. -/
def wordOf (x : List Nat) (i : Nat) : Nat := if 32 * i / 51 + 1 < 5 then x.getD (32 * i / 51) 0 / 2 ^ (32 * i % 51) % 4294967296 ||| x.getD (32 * i / 51 + 1) 0 * 2 ^ (51 - 32 * i % 51) % 18446744073709551616 % 4294967296 else x.getD (32 * i / 51) 0 / 2 ^ (32 * i % 51) % 4294967296
theorem glue (a b s t k : Nat) (ha : a < 2 ^ t) (hk : t + k = 32) (hs : b * 2 ^ t % 18446744073709551616 % 4294967296 = s) : a % 4294967296 ||| s = a + b % 2 ^ k * 2 ^ t := by
  have e : (4294967296 : Nat) = 2 ^ k * 2 ^ t := by
    rw [← Nat.pow_add, show k + t = 32 by omega]
  have h1 : a % 4294967296 = a := Nat.mod_eq_of_lt (Nat.lt_of_lt_of_le ha (Nat.pow_le_pow_right (n := 2) (by decide) (show t ≤ 32 by omega)))
  have h2 : s = b % 2 ^ k * 2 ^ t := by
    rw [← hs, Nat.mod_mod_of_dvd _ (by decide), e, Nat.mul_mod_mul_right]
  rw [h1, h2, or_add _ _ _ ha]
theorem word_of (n i : Nat) (hn : n < 57896044618658097711785492504343953926634992332820282019728792003956564819968) (h : i < 8) : wordOf (lim n) i = (wordsOf n).getD i 0 := by
  rw [word_at _ _ h]
  have : i = 0 ∨ i = 1 ∨ i = 2 ∨ i = 3 ∨ i = 4 ∨ i = 5 ∨ i = 6 ∨ i = 7 := by omega
  rcases this with rfl | rfl | rfl | rfl | rfl | rfl | rfl | rfl
  · show n % 2251799813685248 / 1 % 4294967296 ||| n / 2251799813685248 % 2251799813685248 * 2251799813685248 % 18446744073709551616 % 4294967296 = n / 1 % 4294967296
    rw [show n / 2251799813685248 % 2251799813685248 * 2251799813685248 % 18446744073709551616 % 4294967296 = 0 by omega, Nat.or_zero]
    omega
  · refine (glue _ _ _ 19 13 ?_ rfl rfl).trans ?_
    · show n % 2251799813685248 / 4294967296 < 524288
      omega
    · show n % 2251799813685248 / 4294967296 + n / 2251799813685248 % 2251799813685248 % 8192 * 524288 = n / 4294967296 % 4294967296
      omega
  · show n / 2251799813685248 % 2251799813685248 / 8192 % 4294967296 ||| n / 5070602400912917605986812821504 % 2251799813685248 * 274877906944 % 18446744073709551616 % 4294967296 = n / 18446744073709551616 % 4294967296
    rw [show n / 5070602400912917605986812821504 % 2251799813685248 * 274877906944 % 18446744073709551616 % 4294967296 = 0 by omega, Nat.or_zero]
    omega
  · refine (glue _ _ _ 6 26 ?_ rfl rfl).trans ?_
    · show n / 2251799813685248 % 2251799813685248 / 35184372088832 < 64
      omega
    · show n / 2251799813685248 % 2251799813685248 / 35184372088832 + n / 5070602400912917605986812821504 % 2251799813685248 % 67108864 * 64 = n / 79228162514264337593543950336 % 4294967296
      omega
  · refine (glue _ _ _ 25 7 ?_ rfl rfl).trans ?_
    · show n / 5070602400912917605986812821504 % 2251799813685248 / 67108864 < 33554432
      omega
    · show n / 5070602400912917605986812821504 % 2251799813685248 / 67108864 + n / 11417981541647679048466287755595961091061972992 % 2251799813685248 % 128 * 33554432 = n / 340282366920938463463374607431768211456 % 4294967296
      omega
  · show n / 11417981541647679048466287755595961091061972992 % 2251799813685248 / 128 % 4294967296 ||| n / 25711008708143844408671393477458601640355247900524685364822016 % 2251799813685248 * 17592186044416 % 18446744073709551616 % 4294967296 = n / 1461501637330902918203684832716283019655932542976 % 4294967296
    rw [show n / 25711008708143844408671393477458601640355247900524685364822016 % 2251799813685248 * 17592186044416 % 18446744073709551616 % 4294967296 = 0 by omega, Nat.or_zero]
    omega
  · refine (glue _ _ _ 12 20 ?_ rfl rfl).trans ?_
    · show n / 11417981541647679048466287755595961091061972992 % 2251799813685248 / 549755813888 < 4096
      omega
    · show n / 11417981541647679048466287755595961091061972992 % 2251799813685248 / 549755813888 + n / 25711008708143844408671393477458601640355247900524685364822016 % 2251799813685248 % 1048576 * 4096 = n / 6277101735386680763835789423207666416102355444464034512896 % 4294967296
      omega
  · show n / 25711008708143844408671393477458601640355247900524685364822016 % 2251799813685248 / 1048576 % 4294967296 = n / 26959946667150639794667015087019630673637144422540572481103610249216 % 4294967296
    omega
end Go.Proofs.Ytcglobpklhkebaa.Limb
