/-
  Several texts as one (LimbNum, LmbRead, LmbPow, LmbRoot, LmbEq, RLmbOne). Plain mathematics: the number of a text's bytes, the limbs that are read of it, the bytes of a number. Nothing here speaks of a program: no condition but those that each lemma names. Read and Bytes of package limbs answer what the plain mathematics of the text LimbNum says, and leave all memory that was there as it was. Conditions: words below 2^64, a text that takes no more than the reach of the form. Power, Invert and the exponents of package limbs answer what the plain mathematics says, and leave all memory that was there as it was. Conditions: words below 2^64, a text that takes no more than the reach of the form. Root of package limbs answers what the plain mathematics says, and leaves all memory that was there as it was. Condition: words below 2^64. '==' and '!=' of limbs, as one operation. No condition but those that each lemma names. The small functions of the document's own answer for layer 5 (more, small) answer what the plain mathematics of the text Limb says, and leave all memory that was there as it was. Conditions: words below 2^64, sums below 2^128.
-/
import Derived.Test.YtolmfimpaofefaaGreatDoorMLmA
import Derived.Test.YtolmfimpaofefaaGreatDoorMLn
import Derived.IntWalk
import Derived.Test.YtolmfimpaofefaaGreatDoorMWk
namespace Go.Proofs.YtolmfimpaofefaaGreatDoor.Limb
open Go.RowKit Mur Lanes

/-- The number that a text's bytes are, the lowest first. -/
def num (l : List UInt8) : Nat := lowN l l.length
theorem byt_out (l : List UInt8) (i : Nat) (h : l.length ≤ i) : byt l i = 0 := by
  unfold byt
  rw [List.getD, List.getElem?_eq_none h]
  rfl
theorem byt_drop (l : List UInt8) (f i : Nat) : byt (l.drop f) i = byt l (f + i) := by
  unfold byt
  simp [List.getD]
theorem lowN_out (l : List UInt8) (k : Nat) : lowN l (l.length + k) = num l := by
  induction k with
  | zero => rfl
  | succ k ih =>
    rw [← Nat.add_assoc, lowN, ih, byt_out l _ (by omega), Nat.zero_mul, Nat.add_zero]
theorem lowN_split (l : List UInt8) (f m : Nat) : lowN l (f + m) = lowN l f + 2 ^ (8 * f) * lowN (l.drop f) m := by
  induction m with
  | zero => simp [lowN]
  | succ m ih =>
    rw [← Nat.add_assoc, lowN, ih, lowN, byt_drop, Nat.mul_add, Nat.mul_add, Nat.pow_add, Nat.add_assoc, Nat.mul_left_comm (2 ^ (8 * f)) (byt l (f + m))]
theorem num_lt (l : List UInt8) : num l < 2 ^ (8 * l.length) := lowN_lt l _
theorem num_drop (l : List UInt8) (f : Nat) (h : f ≤ l.length) : num l / 2 ^ (8 * f) = num (l.drop f) := by
  have h1 := lowN_split l f (l.length - f)
  rw [show f + (l.length - f) = l.length by omega] at h1
  have h2 := lowN_lt l f
  have h3 : num l = lowN l f + 2 ^ (8 * f) * num (l.drop f) := by
    unfold num
    rw [h1, List.length_drop]
  rw [h3, Nat.add_mul_div_left _ _ (Nat.pow_pos (by decide)), Nat.div_eq_of_lt h2, Nat.zero_add]
theorem low_num (l : List UInt8) : low l = num l % 18446744073709551616 := by
  unfold low
  rcases Nat.lt_or_ge 8 l.length with h | h
  · rw [Nat.min_eq_right (by omega)]
    have h1 := lowN_split l 8 (l.length - 8)
    rw [show 8 + (l.length - 8) = l.length by omega] at h1
    unfold num
    rw [h1, show (2 : Nat) ^ (8 * 8) = 18446744073709551616 by decide, Nat.add_mul_mod_self_left]
    exact (Nat.mod_eq_of_lt (lowN_lt l 8)).symm
  · rw [Nat.min_eq_left h]
    refine (Nat.mod_eq_of_lt (Nat.lt_of_lt_of_le (lowN_lt l _) ?_)).symm
    exact Nat.pow_le_pow_right (by decide) (show 8 * l.length ≤ 64 by omega)

theorem lim_at (n k : Nat) (h : k < 5) : (lim n).getD k 0 = n / 2 ^ (51 * k) % 2251799813685248 := by
  have : k = 0 ∨ k = 1 ∨ k = 2 ∨ k = 3 ∨ k = 4 := by omega
  rcases this with rfl | rfl | rfl | rfl | rfl
  · show n % 2251799813685248 = n / 1 % 2251799813685248
    rw [Nat.div_one]
  all_goals rfl

/-- A limb that is read. -/
theorem read_at (l : List UInt8) (k : Nat) (h : k < 5) : low (l.drop (min (51 * k / 8) l.length)) / 2 ^ (51 * k % 8) % 2251799813685248 = (lim (num l)).getD k 0 := by
  rw [lim_at _ _ h, low_num]
  rcases Nat.lt_or_ge l.length (51 * k / 8) with h1 | h1
  · rw [Nat.min_eq_right (by omega), List.drop_length]
    have h2 : num l / 2 ^ (51 * k) = 0 := Nat.div_eq_of_lt (Nat.lt_of_lt_of_le (num_lt l) (Nat.pow_le_pow_right (by decide) (by omega)))
    rw [h2]
    show 0 % _ / _ % _ = _
    rw [Nat.zero_mod, Nat.zero_div]
  · rw [Nat.min_eq_left h1, ← num_drop l _ h1]
    obtain ⟨s, hs⟩ : ∃ s, s = 51 * k % 8 := ⟨_, rfl⟩
    have h3 : num l / 2 ^ (51 * k) = num l / 2 ^ (8 * (51 * k / 8)) / 2 ^ s := by
      rw [Nat.div_div_eq_div_mul, ← Nat.pow_add, hs, Nat.div_add_mod]
    rw [h3, ← hs]
    generalize num l / 2 ^ (8 * (51 * k / 8)) = X
    have hs8 : s < 8 := by omega
    have h4 : (18446744073709551616 : Nat) = 2 ^ s * 2 ^ (64 - s) := by
      rw [← Nat.pow_add, show s + (64 - s) = 64 by omega]
    rw [h4, Nat.mod_mul_right_div_self, Nat.mod_mod_of_dvd]
    exact (show (2251799813685248 : Nat) = 2 ^ 51 from rfl) ▸ Nat.pow_dvd_pow 2 (by omega)

/-- The words of a number's bytes. -/
def wordsOf (n : Nat) : List Nat := (List.range 8).map fun i => n / 2 ^ (32 * i) % 4294967296
/-- The bytes of a number, the lowest first. -/
def bytesOf (n : Nat) : List UInt8 := text (wordsOf n) false
theorem bytesOf_length (n : Nat) : (bytesOf n).length = 32 := by
  unfold bytesOf
  rw [text_length]
  rfl
theorem word_at (n i : Nat) (h : i < 8) : (wordsOf n).getD i 0 = n / 2 ^ (32 * i) % 4294967296 := by
  unfold wordsOf
  simp [List.getD, h]
theorem byt_bytes (n i : Nat) (h : i < 32) : byt (bytesOf n) i = n / 2 ^ (8 * i) % 256 := by
  have h1 : byt (bytesOf n) i = (wordsOf n).getD (i / 4) 0 / 2 ^ (8 * (i % 4)) % 256 := by
    have hl : i < 4 * (wordsOf n).length := by simp [wordsOf]; omega
    unfold byt bytesOf text
    simp [List.getD, hl, shiftN]
  rw [h1, word_at _ _ (by omega)]
  have e : (4294967296 : Nat) = 2 ^ (8 * (i % 4)) * 2 ^ (32 - 8 * (i % 4)) := by
    rw [← Nat.pow_add, show 8 * (i % 4) + (32 - 8 * (i % 4)) = 32 by omega]
  rw [e, Nat.mod_mul_right_div_self, Nat.mod_mod_of_dvd _ ((show (256 : Nat) = 2 ^ 8 from rfl) ▸ Nat.pow_dvd_pow 2 (by omega)), Nat.div_div_eq_div_mul, ← Nat.pow_add]
  congr 3
  omega
theorem lowN_bytes (n k : Nat) (h : k ≤ 32) : lowN (bytesOf n) k = n % 2 ^ (8 * k) := by
  induction k with
  | zero => simp [lowN, Nat.mod_one]
  | succ k ih =>
    rw [lowN, ih (by omega), byt_bytes _ _ (by omega), Nat.mul_add, Nat.pow_add, Nat.mod_mul, Nat.mul_comm (2 ^ (8 * k))]
theorem num_bytes (n : Nat) (h : n < 2 ^ 256) : num (bytesOf n) = n := by
  unfold num
  rw [bytesOf_length, lowN_bytes n 32 (Nat.le_refl _)]
  exact Nat.mod_eq_of_lt h

/-- A word, as it is put together of two limbs. -/
def wordOf (x : List Nat) (i : Nat) : Nat := if 32 * i / 51 + 1 < 5 then x.getD (32 * i / 51) 0 / 2 ^ (32 * i % 51) % 4294967296 ||| x.getD (32 * i / 51 + 1) 0 * 2 ^ (51 - 32 * i % 51) % 18446744073709551616 % 4294967296 else x.getD (32 * i / 51) 0 / 2 ^ (32 * i % 51) % 4294967296
theorem glue (a b s t k : Nat) (ha : a < 2 ^ t) (hk : t + k = 32) (hs : b * 2 ^ t % 18446744073709551616 % 4294967296 = s) : a % 4294967296 ||| s = a + b % 2 ^ k * 2 ^ t := by
  have e : (4294967296 : Nat) = 2 ^ k * 2 ^ t := by
    rw [← Nat.pow_add, show k + t = 32 by omega]
  have h1 : a % 4294967296 = a := Nat.mod_eq_of_lt (Nat.lt_of_lt_of_le ha (Nat.pow_le_pow_right (n := 2) (by decide) (show t ≤ 32 by omega)))
  have h2 : s = b % 2 ^ k * 2 ^ t := by
    rw [← hs, Nat.mod_mod_of_dvd _ (by decide), e, Nat.mul_mod_mul_right]
  rw [h1, h2, or_add _ _ _ ha]
theorem word_of (n i : Nat) (hn : n < 57896044618658097711785492504343953926634992332820282019728792003956564819968) (h : i < 8) : wordOf (lim n) i = (wordsOf n).getD i 0 := by
  rw [word_at _ _ h]
  have : i = 0 ∨ i = 1 ∨ i = 2 ∨ i = 3 ∨ i = 4 ∨ i = 5 ∨ i = 6 ∨ i = 7 := by omega
  rcases this with rfl | rfl | rfl | rfl | rfl | rfl | rfl | rfl
  · show n % 2251799813685248 / 1 % 4294967296 ||| n / 2251799813685248 % 2251799813685248 * 2251799813685248 % 18446744073709551616 % 4294967296 = n / 1 % 4294967296
    rw [show n / 2251799813685248 % 2251799813685248 * 2251799813685248 % 18446744073709551616 % 4294967296 = 0 by omega, Nat.or_zero]
    omega
  · refine (glue _ _ _ 19 13 ?_ rfl rfl).trans ?_
    · show n % 2251799813685248 / 4294967296 < 524288
      omega
    · show n % 2251799813685248 / 4294967296 + n / 2251799813685248 % 2251799813685248 % 8192 * 524288 = n / 4294967296 % 4294967296
      omega
  · show n / 2251799813685248 % 2251799813685248 / 8192 % 4294967296 ||| n / 5070602400912917605986812821504 % 2251799813685248 * 274877906944 % 18446744073709551616 % 4294967296 = n / 18446744073709551616 % 4294967296
    rw [show n / 5070602400912917605986812821504 % 2251799813685248 * 274877906944 % 18446744073709551616 % 4294967296 = 0 by omega, Nat.or_zero]
    omega
  · refine (glue _ _ _ 6 26 ?_ rfl rfl).trans ?_
    · show n / 2251799813685248 % 2251799813685248 / 35184372088832 < 64
      omega
    · show n / 2251799813685248 % 2251799813685248 / 35184372088832 + n / 5070602400912917605986812821504 % 2251799813685248 % 67108864 * 64 = n / 79228162514264337593543950336 % 4294967296
      omega
  · refine (glue _ _ _ 25 7 ?_ rfl rfl).trans ?_
    · show n / 5070602400912917605986812821504 % 2251799813685248 / 67108864 < 33554432
      omega
    · show n / 5070602400912917605986812821504 % 2251799813685248 / 67108864 + n / 11417981541647679048466287755595961091061972992 % 2251799813685248 % 128 * 33554432 = n / 340282366920938463463374607431768211456 % 4294967296
      omega
  · show n / 11417981541647679048466287755595961091061972992 % 2251799813685248 / 128 % 4294967296 ||| n / 25711008708143844408671393477458601640355247900524685364822016 % 2251799813685248 * 17592186044416 % 18446744073709551616 % 4294967296 = n / 1461501637330902918203684832716283019655932542976 % 4294967296
    rw [show n / 25711008708143844408671393477458601640355247900524685364822016 % 2251799813685248 * 17592186044416 % 18446744073709551616 % 4294967296 = 0 by omega, Nat.or_zero]
    omega
  · refine (glue _ _ _ 12 20 ?_ rfl rfl).trans ?_
    · show n / 11417981541647679048466287755595961091061972992 % 2251799813685248 / 549755813888 < 4096
      omega
    · show n / 11417981541647679048466287755595961091061972992 % 2251799813685248 / 549755813888 + n / 25711008708143844408671393477458601640355247900524685364822016 % 2251799813685248 % 1048576 * 4096 = n / 6277101735386680763835789423207666416102355444464034512896 % 4294967296
      omega
  · show n / 25711008708143844408671393477458601640355247900524685364822016 % 2251799813685248 / 1048576 % 4294967296 = n / 26959946667150639794667015087019630673637144422540572481103610249216 % 4294967296
    omega
end Go.Proofs.YtolmfimpaofefaaGreatDoor.Limb

namespace Go.Proofs.YtolmfimpaofefaaGreatDoor.Limb
open Go.RowKit Mur Lanes
set_option maxRecDepth 100000

theorem extract_from (s : ByteArray) (k : Nat) : (s.extract k s.size).data.toList = s.data.toList.drop k := by
  rw [ByteArray.data_extract]
  simp [Array.toList_extract, List.take_of_length_le]
def nulls : List Nat := [0, 0, 0, 0, 0]
theorem lim_length (n : Nat) : (lim n).length = 5 := rfl

set_option maxHeartbeats 1600000 in
theorem read_any (s : ByteArray) (w : World) (hs : s.size ≤ 140737488351232) :
    Calls Tryz.prog 72 #[.string s] w fun r w' => r = .returned (limV (num s.data.toList)) ∧ Below w.heap.size w w' := by
  have HZa := Lib.hid ((Whole.made' w 69 (fiveL 0 0 0 0 0).toArray _ rfl).alloc (.cells (fiveL 0 0 0 0 0).toArray 69))
  have HXa := Lib.hid (Whole.made' (w.alloc (.cells (fiveL 0 0 0 0 0).toArray 69)) 69 (fiveL 0 0 0 0 0).toArray (w.heap.size + 1) (by simp))
  have HBa := Lib.hid (((Below.refl w.heap.size w).alloc (Nat.le_refl _) (.cells (fiveL 0 0 0 0 0).toArray 69)).alloc (by simp) (.cells (fiveL 0 0 0 0 0).toArray 69))
  obtain ⟨T, hT⟩ : ∃ T, T = lim (num s.data.toList) := ⟨_, rfl⟩
  have hT5 : T.length = 5 := by rw [hT]; rfl
  have HT := Lib.hid hT
  have H5 := Lib.hid hT5
  clear hT hT5
  go_enter Tryz.func72, Tryz.ntmps72
  go_wp2
  go_loopw [7] (fun i wr => ∃ k : Nat, k ≤ 5 ∧ i = .int .i64 k ∧ Whole wr w.heap.size 69 (fiveL 0 0 0 0 0) ∧ Whole wr (w.heap.size + 1) 69 (numsV (mixTo nulls T k)) ∧ Below w.heap.size w wr) (fun i _ => 5 - (intOf i).toNat)
  case atStart => exact ⟨0, by omega, rfl, HZa.out, HXa.out, HBa.out⟩
  case round =>
    obtain ⟨k, hk5, rfl, hz, hx, hbel⟩ := hrel
    by_cases hlt : k < 5
    · have hd2 : decide ((k : Int) < 5) = true := by simp; omega
      have ik : (k : Int) < 5 := by omega
      obtain ⟨f, hf⟩ : ∃ f, f = min (51 * k / 8) s.data.toList.length := ⟨_, rfl⟩
      have hsl : s.data.toList.length = s.size := rfl
      have hfi : min (51 * (k : Int) / 8) (s.size : Int) = (f : Int) := by omega
      have hfs : (f : Int) ≤ (s.size : Int) := by omega
      obtain ⟨sh, hsh⟩ : ∃ sh, sh = 51 * k % 8 := ⟨_, rfl⟩
      have hshi : 51 * (k : Int) % 8 = (sh : Int) := by omega
      obtain ⟨L, hL⟩ : ∃ L, L = low (s.data.toList.drop f) := ⟨_, rfl⟩
      have hLl : L < 18446744073709551616 := by
        rw [hL]
        refine Nat.lt_of_lt_of_le (lowN_lt _ _) ?_
        exact Nat.pow_le_pow_right (by omega) (show 8 * min _ 8 ≤ 64 by omega)
      have hval : L / 2 ^ sh % 2251799813685248 = T.getD k 0 := by rw [hL, hf, hsh, HT.out]; exact read_at _ k hlt
      have hnext : mixTo nulls T (k + 1) = (mixTo nulls T k).set k (L / 2 ^ sh % 2251799813685248) := by rw [hval]; rfl
      have hlen : (mixTo nulls T k).length = 5 := by rw [mixTo_length]; rfl
      have R := Lib.hid (show ∀ u, Calls Tryz.prog 100 #[.string (s.extract f s.size)] u fun e w' => e = .returned (.int .u64 (L : Int)) ∧ u = w' from fun u => by
        have := low_any (s.extract f s.size) u (by rw [ByteArray.size_extract]; omega)
        rw [extract_from, ← hL] at this
        exact this)
      have hdl : L / 2 ^ sh < 18446744073709551616 := Nat.lt_of_le_of_lt (Nat.div_le_self _ _) hLl
      have hm := mask51 (L / 2 ^ sh) hdl
      have hdi : (L : Int) / 2 ^ sh = ((L / 2 ^ sh : Nat) : Int) := by rw [Int.natCast_ediv, Int.natCast_pow]; rfl
      generalize mixTo nulls T k = X at *
      have cx := num_cell hx (i := k) (by rw [hlen]; exact hlt)
      have fx := num_free hx (i := k) (by rw [hlen]; exact hlt)
      have HP := Lib.hid (set_num hx k (L / 2 ^ sh % 2251799813685248))
      have HZ := Lib.hid (hz.other (w.heap.size + 1) k (.int .u64 ((L / 2 ^ sh % 2251799813685248 : Nat) : Int)) (by omega))
      have HB := Lib.hid (hbel.setCell (p := ⟨w.heap.size + 1, k, none⟩) (by show w.heap.size ≤ w.heap.size + 1; omega) (.int .u64 ((L / 2 ^ sh % 2251799813685248 : Nat) : Int)))
      have HN := Lib.hid hnext
      have HM := Lib.hid hm
      have HDI := Lib.hid hdi
      have HSH := Lib.hid hshi
      clear hz hx hbel hnext hm hdi hlen hf hsh hL hsl hshi hdl hval HZa HXa HBa
      go_upto_region 6 with (fail)
      have hshi := HSH.out
      go_wp2_with fail
      refine (R.out _).mono ?_
      rintro e w1 ⟨rfl, rfl⟩
      go_wp2
      go_roundw
      case rel => exact ⟨k + 1, by omega, by go_num, by rw [HDI.out, HM.out]; exact HZ.out, by rw [HN.out, HDI.out, HM.out]; exact HP.out, by rw [HDI.out, HM.out]; exact HB.out⟩
      case measure => simp [intOf]; omega
    · have hd2 : decide ((k : Int) < 5) = false := by simp; omega
      obtain rfl : k = 5 := by omega
      rw [mixTo_end (a := nulls) rfl H5.out, HT.out] at hx
      have hx2 : Whole wr (w.heap.size + 1) 69 (numsV (lim (num s.data.toList))) := hx
      obtain ⟨r0, r1, r2, r3, r4, hr⟩ := limV_five (num s.data.toList)
      have hr2 : numsV (lim (num s.data.toList)) = fiveL r0 r1 r2 r3 r4 := by
        have := congrArg (fun v => match v with | Value.agg a => a.toList | _ => []) hr
        simpa [limV] using this
      rw [hr2] at hx2
      have HR := Lib.hid hr
      have HB := Lib.hid hbel
      have c0 := hx2.row.cell (i := 0) rfl
      have c1 := hx2.row.cell (i := 1) rfl
      have c2 := hx2.row.cell (i := 2) rfl
      have c3 := hx2.row.cell (i := 3) rfl
      have c4 := hx2.row.cell (i := 4) rfl
      have z0 := hz.row.cell (i := 0) rfl
      have z1 := hz.row.cell (i := 1) rfl
      have z2 := hz.row.cell (i := 2) rfl
      have z3 := hz.row.cell (i := 3) rfl
      have z4 := hz.row.cell (i := 4) rfl
      have f0 := hz.row.free (i := 0) (by simp)
      have f1 := hz.row.free (i := 1) (by simp)
      have f2 := hz.row.free (i := 2) (by simp)
      have f3 := hz.row.free (i := 3) (by simp)
      have f4 := hz.row.free (i := 4) (by simp)
      clear hr hr2 hx hx2 hz hbel HZa HXa HBa
      go_wp2
      rw [HR.out]
      exact bodyPost_ret (v := five r0 r1 r2 r3 r4) (by simp [results, Tryz.results72, go_sem, z0, z1, z2, z3, z4]) rfl ⟨rfl, set5 HB.out (by omega) _ _ _ _ _⟩

def nulls8 : List Nat := [0, 0, 0, 0, 0, 0, 0, 0]
abbrev zeros8 : List Value := [.int .u32 0, .int .u32 0, .int .u32 0, .int .u32 0, .int .u32 0, .int .u32 0, .int .u32 0, .int .u32 0]
theorem mix_end {a b : List Nat} (h : a.length = b.length) : mixTo a b b.length = b := by
  refine List.ext_getElem (by rw [mixTo_length, h]) fun i h1 h2 => ?_
  have := mixTo_get a b b.length i (by omega)
  rw [if_pos h2] at this
  simpa [List.getD, h1, h2] using this
theorem word_cell {w : World} {b : Nat} {t : TypeId} {s : List Nat} (h : Whole w b t (wordsV s)) {i : Nat} (hi : i < s.length) : w.cell? ⟨b, i, none⟩ = some (.int .u32 ((s.getD i 0 : Nat) : Int)) := by
  rw [h.row.cell (wordsV_at hi)]
  simp [List.getD, hi]
theorem word_free {w : World} {b : Nat} {t : TypeId} {s : List Nat} (h : Whole w b t (wordsV s)) {i : Nat} (hi : i < s.length) : w.frozen? ⟨b, i, none⟩ = false :=
  h.row.free (by rw [wordsV_length]; exact hi)
theorem set_word {w : World} {b : Nat} {t : TypeId} {s : List Nat} (h : Whole w b t (wordsV s)) (i x : Nat) : Whole (w.setCell ⟨b, i, none⟩ (.int .u32 (x : Int))) b t (wordsV (s.set i x)) := by
  rw [← wordsV_set]
  exact h.set i _

set_option maxHeartbeats 1600000 in
theorem bytes_any (a b c d e : Nat) (T : ByteArray) (w : World) (h : Words5 a b c d e) (hT : T = ⟨(bytesOf (wor a b c d e % Prime.P)).toArray⟩) :
    Calls Tryz.prog 45 #[five a b c d e] w fun r w' => r = .returned (.string T) ∧ Below w.heap.size w w' := by
  obtain ⟨N, hN⟩ : ∃ N, N = wor a b c d e % Prime.P := ⟨_, rfl⟩
  have hNl : N < 57896044618658097711785492504343953926634992332820282019728792003956564819968 := by rw [hN]; exact Nat.lt_trans (Nat.mod_lt _ P_pos) P_lt
  have RC := fun u => carry_any a b c d e u h
  rw [← hN] at RC hT
  obtain ⟨r0, r1, r2, r3, r4, hr⟩ := limV_five N
  have hr2 : numsV (lim N) = fiveL r0 r1 r2 r3 r4 := by
    have := congrArg (fun v => match v with | Value.agg a => a.toList | _ => []) hr
    simpa [limV] using this
  rw [hr] at RC
  have hl : ∀ i, (lim N).getD i 0 < 2251799813685248 := fun i => by
    by_cases hi : i < 5
    · rw [lim_at _ _ hi]
      exact Nat.mod_lt _ (by decide)
    · rw [List.getD, List.getElem?_eq_none (by rw [lim_length]; omega)]
      decide
  obtain ⟨X, hX⟩ : ∃ X, X = lim N := ⟨_, rfl⟩
  rw [← hX] at hl hr2
  have hX5 : X.length = 5 := by rw [hX]; rfl
  have hword : ∀ i, i < 8 → wordOf X i = (wordsOf N).getD i 0 := fun i hi => by rw [hX]; exact word_of N i hNl hi
  obtain ⟨W, hW⟩ : ∃ W, W = wordsOf N := ⟨_, rfl⟩
  rw [← hW] at hword
  have hW8 : W.length = 8 := by rw [hW]; simp [wordsOf]
  have hT2 : T = ⟨(text W false).toArray⟩ := by rw [hT, hW]; rfl
  have hWl : ∀ x ∈ W, x < 4294967296 := fun x hx => by
    rw [hW] at hx
    obtain ⟨i, -, rfl⟩ := List.mem_map.1 hx
    exact Nat.mod_lt _ (by decide)
  have R1 := Lib.hid RC
  have HL := Lib.hid hl
  have X5 := Lib.hid hX5
  have HW := Lib.hid hword
  have W8 := Lib.hid hW8
  have HT := Lib.hid hT2
  have WL := Lib.hid hWl
  have HR2 := Lib.hid hr2
  clear h RC hr hN hNl hl hX hX5 hword hW hW8 hT hT2 hWl hr2
  go_enter Tryz.func45, Tryz.ntmps45
  go_wp2_with fail
  refine (R1.out _).mono ?_
  rintro e w1 ⟨rfl, hb⟩
  have hz : w.heap.size < w1.heap.size := by have := hb.size; simp at this; omega
  have g1 : Whole w1 w.heap.size 69 (fiveL a b c d e) := Whole.below (Whole.made' w _ _ _ rfl) (by simp) hb
  have HG := Lib.hid (set5_whole g1 rfl (.int .u64 (r0 : Int)) (.int .u64 (r1 : Int)) (.int .u64 (r2 : Int)) (.int .u64 (r3 : Int)) (.int .u64 (r4 : Int)))
  have HB := Lib.hid (set5 (((Below.refl w.heap.size w).alloc (Nat.le_refl _) _).trans (hb.mono (by simp))) (Nat.le_refl _) (.int .u64 (r0 : Int)) (.int .u64 (r1 : Int)) (.int .u64 (r2 : Int)) (.int .u64 (r3 : Int)) (.int .u64 (r4 : Int)))
  have c0 := g1.row.cell (i := 0) rfl
  have c1 := g1.row.cell (i := 1) rfl
  have c2 := g1.row.cell (i := 2) rfl
  have c3 := g1.row.cell (i := 3) rfl
  have c4 := g1.row.cell (i := 4) rfl
  have f0 := g1.row.free (i := 0) (by simp)
  have f1 := g1.row.free (i := 1) (by simp)
  have f2 := g1.row.free (i := 2) (by simp)
  have f3 := g1.row.free (i := 3) (by simp)
  have f4 := g1.row.free (i := 4) (by simp)
  clear hb g1
  go_upto_region 2 with (fail)
  clear c0 c1 c2 c3 c4 f0 f1 f2 f3 f4
  generalize ((((w1.setCell ⟨w.heap.size, 0, none⟩ (.int .u64 (r0 : Int))).setCell ⟨w.heap.size, 1, none⟩ (.int .u64 (r1 : Int))).setCell ⟨w.heap.size, 2, none⟩ (.int .u64 (r2 : Int))).setCell ⟨w.heap.size, 3, none⟩ (.int .u64 (r3 : Int))).setCell ⟨w.heap.size, 4, none⟩ (.int .u64 (r4 : Int)) = wx at *
  have hne : w.heap.size ≠ wx.heap.size := Nat.ne_of_lt HG.out.lt
  have HX0 := Lib.hid (show Whole (wx.alloc (.cells zeros8.toArray 91)) w.heap.size 69 (numsV X) by rw [HR2.out]; exact HG.out.alloc _)
  have HW0 := Lib.hid (Whole.made' wx 91 zeros8.toArray _ rfl)
  have HB0 := Lib.hid (HB.out.alloc HB.out.size (.cells zeros8.toArray 91))
  have HNE := Lib.hid hne
  have hwx : w.heap.size ≤ wx.heap.size := HB.out.size
  clear HG HB hne hz
  go_upto_region 3 with (fail)
  go_wp2
  go_loopw [4, 5, 6, 10] (fun _ _ _ i wr => ∃ k : Nat, k ≤ 8 ∧ i = .int .i64 k ∧ Whole wr w.heap.size 69 (numsV X) ∧ Whole wr wx.heap.size 91 (wordsV (mixTo nulls8 W k)) ∧ Below w.heap.size w wr) (fun _ _ _ i _ => 8 - (intOf i).toNat)
  case atStart => exact ⟨0, by omega, rfl, HX0.out, HW0.out, HB0.out⟩
  case round =>
    obtain ⟨k, hk8, rfl, hx, hw, hbel⟩ := hrel
    by_cases hlt : k < 8
    · have hd2 : decide ((k : Int) < 8) = true := by simp; omega
      have ik : (k : Int) < 8 := by omega
      obtain ⟨L, hL⟩ : ∃ L, L = 32 * k / 51 := ⟨_, rfl⟩
      obtain ⟨s, hs⟩ : ∃ s, s = 32 * k % 51 := ⟨_, rfl⟩
      have hLi : 32 * (k : Int) / 51 = (L : Int) := by omega
      have hsi : 32 * (k : Int) % 51 = (s : Int) := by omega
      have iL : (L : Int) < 5 := by omega
      have lL : L < X.length := by rw [X5.out]; omega
      have is : (s : Int) < 51 := by omega
      have hlen : (mixTo nulls8 W k).length = 8 := by rw [mixTo_length]; rfl
      have hwd := HW.out k hlt
      have hnext : mixTo nulls8 W (k + 1) = (mixTo nulls8 W k).set k (W.getD k 0) := rfl
      rw [← hwd] at hnext
      unfold wordOf at hnext
      rw [← hL, ← hs] at hnext
      have cx := num_cell hx lL
      have fw := word_free hw (i := k) (by rw [hlen]; exact hlt)
      have hx1 := HL.out L
      obtain ⟨x1, hx1e⟩ : ∃ x, x = X.getD L 0 := ⟨_, rfl⟩
      rw [← hx1e] at cx hnext hx1
      obtain ⟨v1, hv1⟩ : ∃ v, v = x1 / 2 ^ s % 4294967296 := ⟨_, rfl⟩
      rw [← hv1] at hnext
      have hv1l : v1 < 4294967296 := by rw [hv1]; exact Nat.mod_lt _ (by decide)
      have hv1i : (x1 : Int) / 2 ^ s % 4294967296 = (v1 : Int) := by rw [hv1, show (x1 : Int) / 2 ^ s = ((x1 / 2 ^ s : Nat) : Int) by rw [Int.natCast_ediv, Int.natCast_pow]; rfl]; omega
      have hx1l : x1 < 18446744073709551616 := by omega
      have HLE := Lib.hid hL
      have HSE := Lib.hid hs
      have HLI := Lib.hid hLi
      have HSI := Lib.hid hsi
      have HV1 := Lib.hid hv1i
      have HNX := Lib.hid hnext
      have hw2 := set_word hw k v1
      have HW2 := Lib.hid hw2
      have HX2 := Lib.hid (hx.other wx.heap.size k (.int .u32 (v1 : Int)) (Ne.symm HNE.out))
      have HB2 := Lib.hid (hbel.setCell (p := ⟨wx.heap.size, k, none⟩) hwx (.int .u32 (v1 : Int)))
      have HLEN := Lib.hid hlen
      have e2 : ((mixTo nulls8 W k).set k v1).getD k 0 = v1 := by simp [List.getD, hlen, hlt]
      have cw := word_cell hw2 (i := k) (by rw [List.length_set, hlen]; exact hlt)
      have fw2 := word_free hw2 (i := k) (by rw [List.length_set, hlen]; exact hlt)
      rw [e2] at cw
      have CW := Lib.hid cw
      have FW2 := Lib.hid fw2
      have fwx : wr.frozen? ⟨wx.heap.size, k, none⟩ = false := fw
      have cwx := word_cell hw (i := k) (by rw [hlen]; exact hlt)
      clear hL hs hx hw hbel hwd hnext hx1e hv1 hv1i hLi hsi hw2 hlen e2 cw fw2 fw HX0 HW0 HB0
      go_upto_region 7 with (fail)
      rw [HLI.out, HSI.out]
      go_upto_region 8 with (fail)
      rw [HV1.out]
      clear cx cwx fwx
      have cw := CW.out
      have fw2 := FW2.out
      by_cases h5 : L + 1 < 5
      · have hd5 : decide ((L : Int) + 1 < 5) = true := by simp; omega
        obtain ⟨t, ht⟩ : ∃ t, t = 51 - s := ⟨_, rfl⟩
        have hti : (51 : Int) - (s : Int) = (t : Int) := by omega
        have htl : (t : Int) ≤ 51 := by omega
        have htp : (0 : Int) ≤ 51 - (s : Int) := by omega
        have iL2 : (L : Int) + 1 < 5 := by omega
        have cx2 := num_cell HX2.out (i := L + 1) (by rw [X5.out]; omega)
        obtain ⟨x2, hx2e⟩ : ∃ x, x = X.getD (L + 1) 0 := ⟨_, rfl⟩
        have hx2l := HL.out (L + 1)
        rw [← hx2e] at cx2 hx2l
        have hnx := HNX.out
        rw [if_pos h5, ← hx2e, ← ht] at hnx
        have HN2 := Lib.hid hnx
        have HTI := Lib.hid hti
        clear hnx hx2e ht hti hd5
        go_upto_region 9 with (fail)
        generalize wr.setCell ⟨wx.heap.size, k, none⟩ (.int .u32 (v1 : Int)) = wy at *
        have hti := HTI.out
        have n1 : IntKind.i64.wrap ((L : Int) + 1) = (L : Int) + 1 := IntWalk.i64_in _ (by omega)
        have n2 : (0 : Int) ≤ (L : Int) + 1 := by omega
        have n3 : ((L : Int) + 1).toNat = L + 1 := by omega
        have n4 : IntKind.i64.wrap (t : Int) = (t : Int) := IntWalk.i64_in _ (by omega)
        go_still_tail 13, (by kernel_rfl)
        change wpList _ _ _ _ _ wy.drew
        have cw' : wy.drew.cell? ⟨wx.heap.size, k, none⟩ = _ := cw
        have fw' : wy.drew.frozen? ⟨wx.heap.size, k, none⟩ = _ := fw2
        obtain ⟨v2, hv2⟩ : ∃ v, v = x2 * 2 ^ t % 18446744073709551616 % 4294967296 := ⟨_, rfl⟩
        have hv2l : v2 < 4294967296 := by rw [hv2]; exact Nat.mod_lt _ (by decide)
        have hv2i : IntKind.u32.wrap (IntKind.u64.wrap ((x2 : Int) * 2 ^ t)) = (v2 : Int) := by
          rw [IntKind.wrap_u64, IntKind.wrap_u32, show (x2 : Int) * 2 ^ t = ((x2 * 2 ^ t : Nat) : Int) by rw [Int.natCast_mul, Int.natCast_pow]; rfl, hv2]
          omega
        rw [hv2i, u32_or_nat _ _ hv1l hv2l]
        have HV2 := Lib.hid hv2
        clear cw fw2 n1 n3 n4 hti cx2 hv2 hv2i
        go_wp2
        go_roundw
        case rel =>
          refine ⟨k + 1, by omega, by go_num, (HX2.out.drew).other wx.heap.size k _ (Ne.symm HNE.out), ?_, (HB2.out.drew).setCell (p := ⟨wx.heap.size, k, none⟩) hwx _⟩
          have e3 := set_word (HW2.out.drew) k (v1 ||| v2)
          rw [List.set_set] at e3
          rw [HN2.out, ← HV2.out]
          exact e3
        case measure => simp [intOf]; omega
      · have hd5 : decide ((L : Int) + 1 < 5) = false := by simp; omega
        go_wp2
        go_roundw
        case rel => exact ⟨k + 1, by omega, by go_num, HX2.out, by rw [HNX.out, if_neg h5]; exact HW2.out, HB2.out⟩
        case measure => simp [intOf]; omega
    · have hd2 : decide ((k : Int) < 8) = false := by simp; omega
      obtain rfl : k = 8 := by omega
      have hw3 : Whole wr wx.heap.size 91 (wordsV W) := by
        have e := mix_end (a := nulls8) (b := W) (by rw [W8.out]; rfl)
        rw [W8.out] at e
        rw [← e]
        exact hw
      have RT := Lib.hid (show Calls Tryz.prog 74 #[.slice (some ⟨wx.heap.size, 0, none⟩) 8 8, .bool false] wr fun e w' => e = .returned (.string T) ∧ Below wr.heap.size wr w' from by
        have := text_some W wx.heap.size 0 8 false wr (by rw [W8.out]; decide) WL.out hw3.lt (fun i hi => by rw [Nat.zero_add]; exact hw3.row.cell (wordsV_at hi))
        rw [← HT.out, W8.out] at this
        exact this)
      have HBL := Lib.hid hbel
      clear hx hw hw3 hbel HX0 HW0 HB0
      go_wp2_with fail
      refine RT.out.mono ?_
      rintro e w9 ⟨rfl, hb9⟩
      have HB9 := Lib.hid (HBL.out.trans (hb9.mono HBL.out.size))
      clear hb9
      go_wp2
      go_ret
      exact ⟨rfl, HB9.out⟩
end Go.Proofs.YtolmfimpaofefaaGreatDoor.Limb

namespace Go.Proofs.YtolmfimpaofefaaGreatDoor.Limb
open Go.RowKit Mur Lanes
set_option maxRecDepth 100000

theorem bytes_val {v : Value} {N : Nat} (h : Lims v N) (T : ByteArray) (hT : T = ⟨(bytesOf (N % Prime.P)).toArray⟩) (u : World) : Calls Tryz.prog 45 #[v] u fun r w' => r = .returned (.string T) ∧ Below u.heap.size u w' := by
  obtain ⟨a, b, c, d, e, rfl, hw, rfl⟩ := h
  exact bytes_any a b c d e T u hw hT
theorem swap_val {v v' : Value} {N N' n : Nat} (h : Lims v N) (h' : Lims v' N') (hn : n < 9223372036854775808) (u : World) :
    Calls Tryz.prog 124 #[v, v', .int .i64 n] u fun r w' => r = .returned (.tuple #[if n % 2 = 1 then v' else v, if n % 2 = 1 then v else v']) ∧ Below u.heap.size u w' := by
  obtain ⟨a, b, c, d, e, rfl, hw, rfl⟩ := h
  obtain ⟨a', b', c', d', e', rfl, hw', rfl⟩ := h'
  obtain ⟨g0, g1, g2, g3, g4⟩ := hw
  obtain ⟨k0, k1, k2, k3, k4⟩ := hw'
  have := swap_any [a, b, c, d, e] [a', b', c', d', e'] n u rfl rfl (fun i => by
    match i with
    | 0 => exact g0
    | 1 => exact g1
    | 2 => exact g2
    | 3 => exact g3
    | 4 => exact g4
    | i + 5 => exact (by decide : (0 : Nat) < 18446744073709551616)) (fun i => by
    match i with
    | 0 => exact k0
    | 1 => exact k1
    | 2 => exact k2
    | 3 => exact k3
    | 4 => exact k4
    | i + 5 => exact (by decide : (0 : Nat) < 18446744073709551616)) hn
  by_cases hm : n % 2 = 1
  · simp only [if_pos hm] at this ⊢
    exact this
  · simp only [if_neg hm] at this ⊢
    exact this

/-- The bits of a text's number. -/
theorem num_byte (d : List UInt8) : num d % 256 = byt d 0 := by
  cases d with
  | nil => rfl
  | cons x t =>
    have h1 := lowN_split (x :: t) 1 t.length
    rw [show 1 + t.length = (x :: t).length by simp; omega] at h1
    have h2 : num (x :: t) = lowN (x :: t) 1 + 2 ^ (8 * 1) * lowN ((x :: t).drop 1) t.length := h1
    have h3 : lowN (x :: t) 1 = byt (x :: t) 0 := by simp [lowN]
    have h4 := byt_lt (x :: t) 0
    rw [h2, h3]
    omega
theorem bit_num (l : List UInt8) (i : Nat) (hi : i < 8 * min l.length 64) : bit l (i : Int) = num (l.take 64) / 2 ^ i % 2 := by
  have hlen : (l.take 64).length = min l.length 64 := by simp; omega
  have h1 : num (l.take 64) / 2 ^ i = num ((l.take 64).drop (i / 8)) / 2 ^ (i % 8) := by
    rw [← num_drop _ _ (by omega), Nat.div_div_eq_div_mul, ← Nat.pow_add, Nat.div_add_mod]
  have h2 : byt ((l.take 64).drop (i / 8)) 0 = byt l (i / 8) := by
    rw [byt_drop, Nat.add_zero]
    unfold byt
    have : i / 8 < 64 := by omega
    simp [List.getD, this]
  have h3 : ∀ x : Nat, x / 2 ^ (i % 8) % 2 = x % 256 / 2 ^ (i % 8) % 2 := fun x => by
    have e : (256 : Nat) = 2 ^ (i % 8) * 2 ^ (8 - i % 8) := by
      rw [← Nat.pow_add, show i % 8 + (8 - i % 8) = 8 by omega]
    rw [e, Nat.mod_mul_right_div_self, Nat.mod_mod_of_dvd]
    have h := Nat.pow_dvd_pow 2 (show 1 ≤ 8 - i % 8 by omega)
    rwa [Nat.pow_one] at h
  have hc : ¬ ((i : Int) < 0 ∨ (l.length : Int) ≤ (i : Int) / 8) := by omega
  rw [h1, h3, num_byte, h2]
  unfold bit
  rw [if_neg hc, show ((i : Int) / 8).toNat = i / 8 by omega, show ((i : Int) % 8).toNat = i % 8 by omega]
theorem half_step (E K k : Nat) (h : k < K) : E / 2 ^ (K - (k + 1)) = 2 * (E / 2 ^ (K - k)) + E / 2 ^ (K - 1 - k) % 2 := by
  rw [show K - (k + 1) = K - 1 - k by omega, show K - k = K - 1 - k + 1 by omega, Nat.pow_succ, ← Nat.div_div_eq_div_mul]
  omega

theorem pow_two (x q : Nat) : x ^ q % Prime.P * (x ^ q % Prime.P) % Prime.P = x ^ (2 * q) % Prime.P := by
  rw [← Nat.mul_mod, ← Nat.pow_add, ← Nat.two_mul]
theorem pow_more (x q : Nat) : x ^ q % Prime.P * x % Prime.P = x ^ (q + 1) % Prime.P := by
  rw [Nat.pow_succ, Nat.mod_mul_mod]

theorem five_inj {a b c d e a' b' c' d' e' : Nat} (h : five a b c d e = five a' b' c' d' e') : a = a' ∧ b = b' ∧ c = c' ∧ d = d' ∧ e = e' := by
  simp only [five, Value.agg.injEq, Array.mk.injEq, List.cons.injEq, Value.int.injEq, true_and, Int.ofNat_inj] at h
  exact ⟨h.1, h.2.1, h.2.2.1, h.2.2.2.1, h.2.2.2.2.1⟩

/-- The worlds of Power's loop. -/
structure Pw (w0 : World) (A Y : Value) (w : World) : Prop where
  a : ∃ a b c d e : Nat, A = five a b c d e ∧ Whole w w0.heap.size 69 (fiveL a b c d e)
  z : Whole w (w0.heap.size + 1) 69 (fiveL 0 0 0 0 0)
  y : ∃ a b c d e : Nat, Y = five a b c d e ∧ Whole w (w0.heap.size + 1 + 1) 69 (fiveL a b c d e)
  below : Below w0.heap.size w0 w
theorem Pw.next {w0 w w' : World} {A Y : Value} (h : Pw w0 A Y w) (q : Below w.heap.size w w') : Pw w0 A Y w' := by
  obtain ⟨⟨a, b, c, d, e, h1, h2⟩, h3, ⟨a', b', c', d', e', h4, h5⟩, h6⟩ := h
  exact ⟨⟨a, b, c, d, e, h1, h2.below h2.lt q⟩, h3.below h3.lt q, ⟨a', b', c', d', e', h4, h5.below h5.lt q⟩, h6.trans (q.mono h6.size)⟩
theorem Pw.drew {w0 w : World} {A Y : Value} (h : Pw w0 A Y w) : Pw w0 A Y w.drew := by
  obtain ⟨⟨a, b, c, d, e, h1, h2⟩, h3, ⟨a', b', c', d', e', h4, h5⟩, h6⟩ := h
  exact ⟨⟨a, b, c, d, e, h1, h2.drew⟩, h3.drew, ⟨a', b', c', d', e', h4, h5.drew⟩, h6.drew⟩
theorem Pw.set {w0 w : World} {A Y Y' : Value} (h : Pw w0 A Y w) (a b c d e : Nat) (hY : Y' = five a b c d e) : Pw w0 A Y' (((((w.setCell ⟨w0.heap.size + 1 + 1, 0, none⟩ (.int .u64 (a : Int))).setCell ⟨w0.heap.size + 1 + 1, 1, none⟩ (.int .u64 (b : Int))).setCell ⟨w0.heap.size + 1 + 1, 2, none⟩ (.int .u64 (c : Int))).setCell ⟨w0.heap.size + 1 + 1, 3, none⟩ (.int .u64 (d : Int))).setCell ⟨w0.heap.size + 1 + 1, 4, none⟩ (.int .u64 (e : Int))) := by
  obtain ⟨⟨a1, b1, c1, d1, e1, h1, h2⟩, h3, ⟨a', b', c', d', e', -, h5⟩, h6⟩ := h
  exact ⟨⟨a1, b1, c1, d1, e1, h1, set5_other h2 (by omega) _ _ _ _ _⟩, set5_other h3 (by omega) _ _ _ _ _, ⟨a, b, c, d, e, hY, set5_whole h5 rfl _ _ _ _ _⟩, set5 h6 (by omega) _ _ _ _ _⟩

theorem Pw.wy {w0 w : World} {A Y : Value} (h : Pw w0 A Y w) {a b c d e : Nat} (hY : Y = five a b c d e) : Whole w (w0.heap.size + 1 + 1) 69 (fiveL a b c d e) := by
  obtain ⟨-, -, ⟨a', b', c', d', e', h1, h2⟩, -⟩ := h
  obtain ⟨rfl, rfl, rfl, rfl, rfl⟩ := five_inj (hY.symm.trans h1)
  exact h2
theorem Pw.wa {w0 w : World} {A Y : Value} (h : Pw w0 A Y w) {a b c d e : Nat} (hY : A = five a b c d e) : Whole w w0.heap.size 69 (fiveL a b c d e) := by
  obtain ⟨⟨a', b', c', d', e', h1, h2⟩, -⟩ := h
  obtain ⟨rfl, rfl, rfl, rfl, rfl⟩ := five_inj (hY.symm.trans h1)
  exact h2
theorem cells5 {w : World} {b : Nat} {t : TypeId} {x0 x1 x2 x3 x4 : Nat} (h : Whole w b t (fiveL x0 x1 x2 x3 x4)) : w.cell? ⟨b, 0, none⟩ = some (.int .u64 (x0 : Int)) ∧ w.cell? ⟨b, 1, none⟩ = some (.int .u64 (x1 : Int)) ∧ w.cell? ⟨b, 2, none⟩ = some (.int .u64 (x2 : Int)) ∧ w.cell? ⟨b, 3, none⟩ = some (.int .u64 (x3 : Int)) ∧ w.cell? ⟨b, 4, none⟩ = some (.int .u64 (x4 : Int)) :=
  ⟨h.row.cell rfl, h.row.cell rfl, h.row.cell rfl, h.row.cell rfl, h.row.cell rfl⟩
theorem free5 {w : World} {b : Nat} {t : TypeId} {x0 x1 x2 x3 x4 : Nat} (h : Whole w b t (fiveL x0 x1 x2 x3 x4)) : w.frozen? ⟨b, 0, none⟩ = false ∧ w.frozen? ⟨b, 1, none⟩ = false ∧ w.frozen? ⟨b, 2, none⟩ = false ∧ w.frozen? ⟨b, 3, none⟩ = false ∧ w.frozen? ⟨b, 4, none⟩ = false :=
  ⟨h.row.free (by simp), h.row.free (by simp), h.row.free (by simp), h.row.free (by simp), h.row.free (by simp)⟩

set_option maxHeartbeats 3200000 in
theorem power_any (a b c d e : Nat) (s : ByteArray) (w : World) (h : Words5 a b c d e) (hs : s.size ≤ 140737488351232) :
    Calls Tryz.prog 133 #[five a b c d e, .string s] w fun r w' => r = .returned (limV (wor a b c d e ^ num (s.data.toList.take 64) % Prime.P)) ∧ Below w.heap.size w w' := by
  have hlA := lims_five h
  obtain ⟨N, hN⟩ : ∃ N, N = wor a b c d e := ⟨_, rfl⟩
  rw [← hN] at hlA ⊢
  obtain ⟨E, hE⟩ : ∃ E, E = num (s.data.toList.take 64) := ⟨_, rfl⟩
  rw [← hE]
  have hsl : s.data.toList.length = s.size := rfl
  obtain ⟨K, hK⟩ : ∃ K, K = 8 * min s.size 64 := ⟨_, rfl⟩
  have hEK : E < 2 ^ K := by
    rw [hE, hK]
    refine Nat.lt_of_lt_of_le (num_lt _) (Nat.pow_le_pow_right (by decide) ?_)
    simp
    omega
  have hbit : ∀ i, i < K → bit s.data.toList (i : Int) = E / 2 ^ i % 2 := fun i hi => by
    rw [hE]
    exact bit_num _ _ (by rw [hsl, ← hK]; exact hi)
  have hKi : 8 * min (s.size : Int) 64 = (K : Int) := by omega
  have hK5 : K ≤ 512 := by omega
  have hst : Pw w (five a b c d e) (limV (N ^ (E / 2 ^ (K - 0)) % Prime.P)) (((w.alloc (.cells #[.int .u64 a, .int .u64 b, .int .u64 c, .int .u64 d, .int .u64 e] 69)).alloc (.cells #[.int .u64 0, .int .u64 0, .int .u64 0, .int .u64 0, .int .u64 0] 69)).alloc (.cells #[.int .u64 1, .int .u64 0, .int .u64 0, .int .u64 0, .int .u64 0] 69)) := by
    refine ⟨⟨a, b, c, d, e, rfl, ((Whole.made' w _ _ _ rfl).alloc _).alloc _⟩, (Whole.made' _ _ _ _ (by simp)).alloc _, ⟨1, 0, 0, 0, 0, ?_, Whole.made' _ _ _ _ (by simp)⟩, (((Below.refl _ _).alloc (Nat.le_refl _) _).alloc (by simp) _).alloc (by simp; omega) _⟩
    rw [Nat.sub_zero, Nat.div_eq_of_lt hEK, Nat.pow_zero]
    rfl
  have HT := Lib.hid hst
  have LA := Lib.hid hlA
  have HBIT := Lib.hid hbit
  have HKI := Lib.hid hKi
  have HS := Lib.hid hs
  clear hst hlA hbit hKi hE hN hK hEK hsl h hs
  go_enter Tryz.func133, Tryz.ntmps133
  go_upto_region 2 with (fail)
  rw [HKI.out]
  go_wp2
  go_loopw [7, 14] (fun _ i wr => ∃ k : Nat, k ≤ K ∧ i = .int .i64 k ∧ Pw w (five a b c d e) (limV (N ^ (E / 2 ^ (K - k)) % Prime.P)) wr) (fun _ i _ => 512 - (intOf i).toNat)
  case atStart => exact ⟨0, by omega, rfl, HT.out⟩
  case round =>
    obtain ⟨k, hkK, rfl, hk⟩ := hrel
    clear HT
    by_cases hlt : k < K
    · have hd2 : decide (k < K) = true := by simpa using hlt
      have hd3 : decide ((k : Int) < (K : Int)) = true := by simpa using hlt
      obtain ⟨q, hq⟩ : ∃ q, q = E / 2 ^ (K - k) := ⟨_, rfl⟩
      obtain ⟨m, hm⟩ : ∃ m, m = E / 2 ^ (K - 1 - k) % 2 := ⟨_, rfl⟩
      have hm2 : m < 2 := by omega
      have hstep := half_step E K k hlt
      rw [← hq, ← hm] at hstep
      rw [← hq] at hk
      have hb := HBIT.out (K - 1 - k) (by omega)
      rw [← hm] at hb
      have R1 := Lib.hid (fun u => times_val (lims_mod (N ^ q)) (lims_mod (N ^ q)) u)
      rw [pow_two] at R1
      have R2 := Lib.hid (fun u => times_val (lims_mod (N ^ (2 * q))) LA.out u)
      rw [pow_more] at R2
      have R3 := Lib.hid (fun u => swap_val (n := m) (lims_mod (N ^ (2 * q))) (lims_mod (N ^ (2 * q + 1))) (by omega) u)
      have hnew : (if m % 2 = 1 then limV (N ^ (2 * q + 1) % Prime.P) else limV (N ^ (2 * q) % Prime.P)) = limV (N ^ (2 * q + m) % Prime.P) := by
        by_cases e : m = 1
        · subst e
          rfl
        · obtain rfl : m = 0 := by omega
          rfl
      rw [hnew, ← hstep] at R3
      obtain ⟨V2, hV2⟩ : ∃ V2, V2 = if m % 2 = 1 then limV (N ^ (2 * q) % Prime.P) else limV (N ^ (2 * q + 1) % Prime.P) := ⟨_, rfl⟩
      rw [← hV2] at R3
      obtain ⟨Y0, hY0⟩ : ∃ Y, Y = limV (N ^ q % Prime.P) := ⟨_, rfl⟩
      obtain ⟨Y1, hY1⟩ : ∃ Y, Y = limV (N ^ (2 * q) % Prime.P) := ⟨_, rfl⟩
      obtain ⟨Y2, hY2⟩ : ∃ Y, Y = limV (N ^ (2 * q + 1) % Prime.P) := ⟨_, rfl⟩
      obtain ⟨Y3, hY3⟩ : ∃ Y, Y = limV (N ^ (E / 2 ^ (K - (k + 1))) % Prime.P) := ⟨_, rfl⟩
      rw [← hY0] at R1 hk
      rw [← hY1] at R1 R2 R3
      rw [← hY2] at R2 R3
      rw [← hY3] at R3
      obtain ⟨p0, p1, p2, p3, p4, hp⟩ := limV_five (N ^ (2 * q) % Prime.P)
      rw [← hY1] at hp
      obtain ⟨g0, g1, g2, g3, g4, hg⟩ := limV_five (N ^ (E / 2 ^ (K - (k + 1))) % Prime.P)
      rw [← hY3] at hg
      rw [hp] at R2 R3
      rw [hg] at R3
      have HP := Lib.hid hp
      have HG := Lib.hid hg
      have HY3 := Lib.hid hY3
      have RB := Lib.hid (show ∀ u, Calls Tryz.prog 95 #[.string s, .int .i64 ((K : Int) - 1 - (k : Int))] u fun e w' => e = .returned (.int .i64 (m : Int)) ∧ u = w' from fun u => by
        have := bit_any s ((K - 1 - k : Nat) : Int) u (by omega) (by omega) HS.out
        rw [hb, show ((K - 1 - k : Nat) : Int) = (K : Int) - 1 - (k : Int) by omega] at this
        exact this)
      obtain ⟨ka, kz, ky, kb⟩ := hk
      obtain ⟨a1, b1, c1, d1, e1, hA1, hwA⟩ := ka
      obtain ⟨y0, y1, y2, y3, y4, hYe, hwY⟩ := ky
      have c0 := hwY.row.cell (i := 0) rfl
      have c1' := hwY.row.cell (i := 1) rfl
      have c2 := hwY.row.cell (i := 2) rfl
      have c3 := hwY.row.cell (i := 3) rfl
      have c4 := hwY.row.cell (i := 4) rfl
      have HPW := Lib.hid (show Pw w (five a b c d e) Y0 wr from ⟨⟨a1, b1, c1, d1, e1, hA1, hwA⟩, kz, ⟨y0, y1, y2, y3, y4, hYe, hwY⟩, kb⟩)
      rw [hYe] at R1
      rw [hp] at R1
      have R1' := Lib.hid R1.out
      have hkk : (k : Int) < (K : Int) := by omega
      clear hA1 hwA kz hYe hwY kb R1 hq hm hstep hb hnew hV2 hY0 hY1 hY2 hY3 hp hg
      go_wp2_with fail
      refine (R1'.out _).mono ?_
      rintro e w1 ⟨rfl, hb1⟩
      have hP1 := HPW.out.next hb1
      have HP1 := Lib.hid hP1
      clear hb1 c0 c1' c2 c3 c4
      obtain ⟨-, -, ⟨z0, z1, z2, z3, z4, -, hwY⟩, -⟩ := hP1
      have c0 := hwY.row.cell (i := 0) rfl
      have c1' := hwY.row.cell (i := 1) rfl
      have c2 := hwY.row.cell (i := 2) rfl
      have c3 := hwY.row.cell (i := 3) rfl
      have c4 := hwY.row.cell (i := 4) rfl
      have f0 := hwY.row.free (i := 0) (by simp)
      have f1 := hwY.row.free (i := 1) (by simp)
      have f2 := hwY.row.free (i := 2) (by simp)
      have f3 := hwY.row.free (i := 3) (by simp)
      have f4 := hwY.row.free (i := 4) (by simp)
      clear hwY
      go_upto_region 6 with (fail)
      clear c0 c1' c2 c3 c4 f0 f1 f2 f3 f4
      have HQ := Lib.hid (Pw.drew (HP1.out.set p0 p1 p2 p3 p4 HP.out))
      generalize ((((w1.setCell ⟨w.heap.size + 1 + 1, 0, none⟩ (.int .u64 (p0 : Int))).setCell ⟨w.heap.size + 1 + 1, 1, none⟩ (.int .u64 (p1 : Int))).setCell ⟨w.heap.size + 1 + 1, 2, none⟩ (.int .u64 (p2 : Int))).setCell ⟨w.heap.size + 1 + 1, 3, none⟩ (.int .u64 (p3 : Int))).setCell ⟨w.heap.size + 1 + 1, 4, none⟩ (.int .u64 (p4 : Int)) = wz at *
      have n1 : IntKind.i64.wrap ((K : Int) - 1) = (K : Int) - 1 := IntWalk.i64_in _ (by omega)
      have n2 : IntKind.i64.wrap ((K : Int) - 1 - (k : Int)) = (K : Int) - 1 - (k : Int) := IntWalk.i64_in _ (by omega)
      refine Steady.region_free 12 (by kernel_rfl) (by kernel_rfl) (fun u => Below wz.drew.heap.size wz.drew u) (Below.refl _ _) ?_
      simp only [List.take_succ_cons, List.take_zero]
      refine Steady.take ?_ rfl (by intro u hu; obtain ⟨t0, t1, t2, t3, t4⟩ := cells5 ((HQ.out.next hu).wy HP.out); go_simp; with_reducible rfl) ?_
      simp only [Act.put, List.setIfInBounds_toArray, List.set_cons_zero, List.set_cons_succ]
      refine Steady.take ?_ rfl (by intro u hu; obtain ⟨t0, t1, t2, t3, t4⟩ := cells5 ((HQ.out.next hu).wy HP.out); go_simp; with_reducible rfl) ?_
      simp only [Act.put, List.setIfInBounds_toArray, List.set_cons_zero, List.set_cons_succ]
      refine Steady.take ?_ rfl (by intro u hu; obtain ⟨t0, t1, t2, t3, t4⟩ := cells5 ((HQ.out.next hu).wa rfl); go_simp; with_reducible rfl) ?_
      simp only [Act.put, List.setIfInBounds_toArray, List.set_cons_zero, List.set_cons_succ]
      refine Steady.call _ _ _ rfl ?_ (Steady.kept R2.out) ?_
      · intro u
        go_simp
      simp only [Act.put, List.setIfInBounds_toArray, List.set_cons_zero, List.set_cons_succ]
      refine Steady.take ?_ rfl (by intro u hu; go_simp; with_reducible rfl) ?_
      simp only [Act.put, List.setIfInBounds_toArray, List.set_cons_zero, List.set_cons_succ]
      refine Steady.take ?_ rfl (by intro u hu; go_simp; with_reducible rfl) ?_
      simp only [Act.put, List.setIfInBounds_toArray, List.set_cons_zero, List.set_cons_succ]
      refine Steady.take ?_ rfl (by intro u hu; go_simp; with_reducible rfl) ?_
      simp only [Act.put, List.setIfInBounds_toArray, List.set_cons_zero, List.set_cons_succ]
      refine Steady.take ?_ rfl (by intro u hu; go_simp; with_reducible rfl) ?_
      simp only [Act.put, List.setIfInBounds_toArray, List.set_cons_zero, List.set_cons_succ]
      refine Steady.take ?_ rfl (by intro u hu; go_simp; with_reducible rfl) ?_
      simp only [Act.put, List.setIfInBounds_toArray, List.set_cons_zero, List.set_cons_succ]
      refine Steady.call _ _ _ rfl ?_ (Steady.same RB.out) ?_
      · intro u
        go_simp
      simp only [Act.put, List.setIfInBounds_toArray, List.set_cons_zero, List.set_cons_succ]
      refine Steady.call _ _ _ rfl ?_ (Steady.kept R3.out) ?_
      · intro u
        go_simp
      simp only [Act.put, List.setIfInBounds_toArray, List.set_cons_zero, List.set_cons_succ]
      refine Steady.take ?_ rfl (by intro u hu; go_simp; with_reducible rfl) ?_
      simp only [Act.put, List.setIfInBounds_toArray, List.set_cons_zero, List.set_cons_succ]
      refine Steady.nil ?_
      intro w9 h9
      have h10 := HQ.out.next h9
      have H10 := Lib.hid h10
      obtain ⟨t0, t1, t2, t3, t4⟩ := cells5 (h10.wy HP.out)
      obtain ⟨f0, f1, f2, f3, f4⟩ := free5 (h10.wy HP.out)
      clear h9 h10
      change wpAny _ _ _ _ (2 + 1) _ _ _
      refine wpAny_take (i := 12) (v := five g0 g1 g2 g3 g4) rfl (by kernel_rfl) (by kernel_rfl) (by kernel_rfl) (fun _ _ _ h => h) (Or.inl ⟨by rfl, fun u => by go_simp⟩) ?_
      try simp only [Act.put]
      refine wpAny_take (i := 13) (v := V2) rfl (by kernel_rfl) (by kernel_rfl) (by kernel_rfl) (fun _ _ _ h => h) (Or.inl ⟨by rfl, fun u => by go_simp⟩) ?_
      try simp only [Act.put]
      refine Reg.only (i := 14) rfl rfl (by kernel_rfl) (fun K hK => ?_)
      go_simp
      refine hK _ _ ?_
      clear hK K
      refine wpAny_done (by kernel_rfl) ?_ _
      go_wp2
      go_roundw
      case rel => exact ⟨k + 1, by omega, by go_num, by rw [← HY3.out]; exact H10.out.set g0 g1 g2 g3 g4 HG.out⟩
      case measure => simp [intOf]; omega
    · have hd2 : decide (k < K) = false := by simpa using hlt
      have hd3 : decide ((k : Int) < (K : Int)) = false := by simpa using hlt
      obtain rfl : k = K := by omega
      obtain ⟨g0, g1, g2, g3, g4, hg⟩ := limV_five (N ^ (E / 2 ^ (k - k)) % Prime.P)
      have hw := hk.wy hg
      obtain ⟨t0, t1, t2, t3, t4⟩ := cells5 hw
      obtain ⟨z0, z1, z2, z3, z4⟩ := cells5 hk.z
      obtain ⟨f0, f1, f2, f3, f4⟩ := free5 hk.z
      rw [Nat.sub_self, Nat.pow_zero, Nat.div_one] at hg
      have HG := Lib.hid hg
      have HB := Lib.hid hk.below
      clear hk hw hg
      go_wp2
      rw [HG.out]
      exact bodyPost_ret (v := five g0 g1 g2 g3 g4) (by simp [results, Tryz.results133, go_sem, z0, z1, z2, z3, z4]) rfl ⟨rfl, set5 HB.out (by omega) _ _ _ _ _⟩
theorem power_val {v : Value} {N : Nat} (h : Lims v N) (s : ByteArray) (hs : s.size ≤ 140737488351232) (u : World) : Calls Tryz.prog 133 #[v, .string s] u fun r w' => r = .returned (limV (N ^ num (s.data.toList.take 64) % Prime.P)) ∧ Below u.heap.size u w' := by
  obtain ⟨a, b, c, d, e, rfl, hw, rfl⟩ := h
  exact power_any a b c d e s u hw hs

/-- A text of the bytes of a number. -/
def numT (n : Nat) : ByteArray := ⟨(bytesOf n).toArray⟩
theorem numT_size (n : Nat) : (numT n).size = 32 := by
  show (bytesOf n).toArray.size = 32
  simp [bytesOf_length]
theorem num_numT (n : Nat) (h : n < 2 ^ 256) : num ((numT n).data.toList.take 64) = n := by
  have : (numT n).data.toList = bytesOf n := rfl
  rw [this, List.take_of_length_le (by rw [bytesOf_length]; decide), num_bytes n h]
theorem power_num {v : Value} {N : Nat} (h : Lims v N) (n : Nat) (hn : n < 2 ^ 256) (u : World) : Calls Tryz.prog 133 #[v, .string (numT n)] u fun r w' => r = .returned (limV (N ^ n % Prime.P)) ∧ Below u.heap.size u w' := by
  have := power_val h (numT n) (by rw [numT_size]; decide) u
  rw [num_numT n hn] at this
  exact this

set_option maxHeartbeats 1600000 in
theorem expo_any (t less : Nat) (w : World) (ht : t ≤ 51) (hl : less < 18446744073709551616) (E : Nat) (hE : E = subP (2 ^ (204 + t)) less) (h : Int) (hh : h = 204 + t) :
    Calls Tryz.prog 134 #[.int .i64 h, .int .u64 less] w fun r w' => r = .returned (.string (numT E)) ∧ Below w.heap.size w w' := by
  have hp : 2 ^ t < 18446744073709551616 := Nat.lt_of_le_of_lt (Nat.pow_le_pow_right (by decide) ht) (by decide)
  obtain ⟨z, hz⟩ : ∃ z, z = 2 ^ t := ⟨_, rfl⟩
  rw [← hz] at hp
  have hw1 : wor 0 0 0 0 z = 2 ^ (204 + t) := by
    unfold wor
    rw [hz, Nat.pow_add, Nat.mul_comm (2 ^ t)]
    omega
  have hw2 : wor less 0 0 0 0 = less := by unfold wor; omega
  have R1 := fun u => sub_val (lims_five (a := 0) (b := 0) (c := 0) (d := 0) (e := z) ⟨by decide, by decide, by decide, by decide, hp⟩) (lims_five (a := less) (b := 0) (c := 0) (d := 0) (e := 0) ⟨hl, by decide, by decide, by decide, by decide⟩) u
  rw [hw1, hw2, ← hE] at R1
  have hEl : E < Prime.P := by rw [hE]; exact subP_lt _ _
  have R2 := Lib.hid (fun u => bytes_val (lims_lim (Nat.lt_trans hEl P_lt)) (numT E) (by rw [Nat.mod_eq_of_lt hEl]; rfl) u)
  have R1 := Lib.hid (show ∀ u, Calls Tryz.prog 126 #[.agg #[.int .u64 0, .int .u64 0, .int .u64 0, .int .u64 0, .int .u64 (z : Int)], .agg #[.int .u64 (less : Int), .int .u64 0, .int .u64 0, .int .u64 0, .int .u64 0]] u fun r w' => r = .returned (limV E) ∧ Below u.heap.size u w' from R1)
  obtain ⟨V, hV⟩ : ∃ V, V = limV E := ⟨_, rfl⟩
  rw [← hV] at R1 R2
  have hzi : (2 : Int) ^ t = (z : Int) := by rw [hz, Int.natCast_pow]; rfl
  have g1 : 204 ≤ h := by omega
  have g2 : h ≤ 255 := by omega
  have g3 : (h - 204).toNat = t := by omega
  have HH := Lib.hid hh
  have HZ := Lib.hid hzi
  clear hh hz hzi hE hw1 hw2 hV
  go_enter Tryz.func134, Tryz.ntmps134
  go_wp2_with fail
  rw [HZ.out, wrapN _ hp]
  refine (R1.out _).mono ?_
  rintro e w1 ⟨rfl, hb1⟩
  have HB1 := Lib.hid hb1
  clear hb1
  go_wp2_with fail
  refine (R2.out _).mono ?_
  rintro e w2 ⟨rfl, hb2⟩
  have HB2 := Lib.hid (HB1.out.trans (hb2.mono HB1.out.size))
  clear hb2
  go_wp2
  go_ret
  exact ⟨rfl, HB2.out⟩
theorem expo_lit (n less : Int) (E : Nat) (t l : Nat) (ht : t ≤ 51) (hl : l < 18446744073709551616) (hn : n = 204 + t) (hls : less = l) (hE : E = subP (2 ^ (204 + t)) l) (u : World) :
    Calls Tryz.prog 134 #[.int .i64 n, .int .u64 less] u fun r w' => r = .returned (.string (numT E)) ∧ Below u.heap.size u w' := by
  rw [hls]
  exact expo_any t l u ht hl E hE n hn

set_option maxHeartbeats 1600000 in
theorem invert_any (a b c d e : Nat) (w : World) (h : Words5 a b c d e) :
    Calls Tryz.prog 99 #[five a b c d e] w fun r w' => r = .returned (limV (wor a b c d e ^ (Prime.P - 2) % Prime.P)) ∧ Below w.heap.size w w' := by
  have R1 := Lib.hid (fun u => expo_lit 255 21 (Prime.P - 2) 51 21 (by decide) (by decide) (by decide) (by decide) (by decide +kernel) u)
  have R2 := fun u => power_num (lims_five h) (Prime.P - 2) (by decide) u
  obtain ⟨r0, r1, r2, r3, r4, hr⟩ := limV_five (wor a b c d e ^ (Prime.P - 2) % Prime.P)
  rw [hr] at R2 ⊢
  obtain ⟨T, hT⟩ : ∃ T, T = numT (Prime.P - 2) := ⟨_, rfl⟩
  rw [← hT] at R1 R2
  have R2 := Lib.hid R2
  clear hr hT h
  go_enter Tryz.func99, Tryz.ntmps99
  go_upto_region 1 with (fail)
  have HA := Lib.hid (((Whole.made' w 69 (fiveL a b c d e).toArray _ rfl).alloc (.cells (fiveL 0 0 0 0 0).toArray 69)).drew)
  have HZ := Lib.hid ((Whole.made' (w.alloc (.cells (fiveL a b c d e).toArray 69)) 69 (fiveL 0 0 0 0 0).toArray (w.heap.size + 1) (by simp)).drew)
  have HB := Lib.hid ((((Below.refl w.heap.size w).alloc (Nat.le_refl _) (.cells (fiveL a b c d e).toArray 69)).alloc (by simp) (.cells (fiveL 0 0 0 0 0).toArray 69)).drew)
  generalize (w.alloc (.cells #[.int .u64 (a : Int), .int .u64 (b : Int), .int .u64 (c : Int), .int .u64 (d : Int), .int .u64 (e : Int)] 69)).alloc (.cells #[.int .u64 0, .int .u64 0, .int .u64 0, .int .u64 0, .int .u64 0] 69) = wz at *
  refine Steady.region 3 (by kernel_rfl) (by kernel_rfl) (fun u => Below wz.drew.heap.size wz.drew u) (Below.refl _ _) ?_
  simp only [List.take_succ_cons, List.take_zero, List.drop_succ_cons, List.drop_zero]
  refine Steady.take ?_ rfl (by intro u hu; obtain ⟨t0, t1, t2, t3, t4⟩ := cells5 (HA.out.below HA.out.lt hu); go_simp; with_reducible rfl) ?_
  simp only [Act.put, List.setIfInBounds_toArray, List.set_cons_zero, List.set_cons_succ]
  refine Steady.call _ _ _ rfl ?_ (Steady.kept R1.out) ?_
  · intro u
    go_simp
  simp only [Act.put, List.setIfInBounds_toArray, List.set_cons_zero, List.set_cons_succ]
  refine Steady.call _ _ _ rfl ?_ (Steady.kept R2.out) ?_
  · intro u
    go_simp
  simp only [Act.put, List.setIfInBounds_toArray, List.set_cons_zero, List.set_cons_succ]
  refine Steady.nil ?_
  intro w9 h9
  obtain ⟨z0, z1, z2, z3, z4⟩ := cells5 (HZ.out.below HZ.out.lt h9)
  obtain ⟨f0, f1, f2, f3, f4⟩ := free5 (HZ.out.below HZ.out.lt h9)
  have HB9 := Lib.hid (HB.out.trans (h9.mono HB.out.size))
  clear h9
  go_wp2
  exact bodyPost_ret (v := five r0 r1 r2 r3 r4) (by simp [results, Tryz.results99, go_sem, z0, z1, z2, z3, z4]) rfl ⟨rfl, set5 HB9.out (by omega) _ _ _ _ _⟩
theorem invert_val {v : Value} {N : Nat} (h : Lims v N) (u : World) : Calls Tryz.prog 99 #[v] u fun r w' => r = .returned (limV (N ^ (Prime.P - 2) % Prime.P)) ∧ Below u.heap.size u w' := by
  obtain ⟨a, b, c, d, e, rfl, hw, rfl⟩ := h
  exact invert_any a b c d e u hw
end Go.Proofs.YtolmfimpaofefaaGreatDoor.Limb

namespace Go.Proofs.YtolmfimpaofefaaGreatDoor.Limb
open Go.RowKit Mur Lanes
set_option maxRecDepth 100000

/-- The first and the second root that are tried. -/
def rootA (x : Nat) : Nat := x ^ (2 ^ 252 - 2) % Prime.P
def rootB (x : Nat) : Nat := rootA x * (2 ^ (2 ^ 253 - 5) % Prime.P) % Prime.P
/-- What is told as a root of x. -/
def rootV (x : Nat) : Value := if rootA x ^ 2 % Prime.P = x then limV (rootA x) else if rootB x ^ 2 % Prime.P = x then limV (rootB x) else five 0 0 0 0 0
def rootIs (x : Nat) : Bool := decide (rootA x ^ 2 % Prime.P = x) || decide (rootB x ^ 2 % Prime.P = x)

theorem times_one : times 1 = 1 := by decide
/-- The worlds of Root: what came in, reduced; the answer's place; what is tried. -/
structure Rt (w0 : World) (x0 x1 x2 x3 x4 p : Nat) (r0 r1 r2 r3 r4 : Nat) (w : World) : Prop where
  x : Whole w w0.heap.size 69 (fiveL x0 x1 x2 x3 x4)
  z : Whole w (w0.heap.size + 1) 69 (fiveL 0 0 0 0 0)
  r : Whole w p 69 (fiveL r0 r1 r2 r3 r4)
  far : w0.heap.size + 1 < p
  below : Below w0.heap.size w0 w
theorem Rt.next {w0 w w' : World} {x0 x1 x2 x3 x4 p r0 r1 r2 r3 r4 : Nat} (h : Rt w0 x0 x1 x2 x3 x4 p r0 r1 r2 r3 r4 w) (q : Below w.heap.size w w') : Rt w0 x0 x1 x2 x3 x4 p r0 r1 r2 r3 r4 w' :=
  ⟨h.x.below h.x.lt q, h.z.below h.z.lt q, h.r.below h.r.lt q, h.far, h.below.trans (q.mono h.below.size)⟩
theorem Rt.drew {w0 w : World} {x0 x1 x2 x3 x4 p r0 r1 r2 r3 r4 : Nat} (h : Rt w0 x0 x1 x2 x3 x4 p r0 r1 r2 r3 r4 w) : Rt w0 x0 x1 x2 x3 x4 p r0 r1 r2 r3 r4 w.drew := ⟨h.x, h.z, h.r, h.far, h.below.drew⟩

end Go.Proofs.YtolmfimpaofefaaGreatDoor.Limb

namespace Go.Proofs.YtolmfimpaofefaaGreatDoor.Limb
open Go.RowKit Mur Lanes
set_option maxRecDepth 100000

theorem eql_run {o : Oper} {a : Act} {x y : Operand} {t : TypeId} (m n : Nat) (ho : o.op = .binOp .eql 69 x y t) (hm : m < 57896044618658097711785492504343953926634992332820282019728792003956564819968) (hn : n < 57896044618658097711785492504343953926634992332820282019728792003956564819968) (hx : a.eval x = limV m) (hy : a.eval y = limV n) (u : World) :
    (execOp a.eval o).run Tryz.prog u = .ok (.value (.bool (decide (m = n)))) u := by
  have h := eq_lim hm hn u
  obtain ⟨m0, m1, m2, m3, m4, hm⟩ := limV_five m
  obtain ⟨n0, n1, n2, n3, n4, hn⟩ := limV_five n
  rw [hm, hn] at h
  unfold execOp
  simp only [ho, hx, hy, hm, hn]
  go_simp
theorem eql_yes {o : Oper} {a : Act} {x y : Operand} {t : TypeId} (m : Nat) (ho : o.op = .binOp .eql 69 x y t) (hm : m < 57896044618658097711785492504343953926634992332820282019728792003956564819968) (hx : a.eval x = limV m) (hy : a.eval y = limV m) (u : World) :
    (execOp a.eval o).run Tryz.prog u = .ok (.value (.bool true)) u := by
  have := eql_run m m ho hm hm hx hy u
  rw [decide_eq_true rfl] at this
  exact this
end Go.Proofs.YtolmfimpaofefaaGreatDoor.Limb

namespace Go.Proofs.YtolmfimpaofefaaGreatDoor.RefLimb
open Go.RowKit Mur Lanes Limb
set_option maxRecDepth 100000

/-- The product of two words by halves. -/
theorem halves (a b p q r s : Nat) (ha : a < 18446744073709551616) (hb : b < 18446744073709551616) (hp : p = a % 4294967296) (hq : q = a / 4294967296) (hr : r = b % 4294967296) (hs : s = b / 4294967296) :
    p * r < 18446744073709551616 ∧ p * s < 18446744073709551616 ∧ q * r < 18446744073709551616 ∧ q * s + p * s / 4294967296 + q * r / 4294967296 + (p * r / 4294967296 + p * s % 4294967296 + q * r % 4294967296) / 4294967296 = a * b / 18446744073709551616 ∧
      (p * r / 4294967296 + p * s % 4294967296 + q * r % 4294967296) % 4294967296 * 4294967296 + p * r % 4294967296 = a * b % 18446744073709551616 := by
  have h0 : a * b = q * s * 18446744073709551616 + (p * s + q * r) * 4294967296 + p * r := by
    have e1 : a = q * 4294967296 + p := by omega
    have e2 : b = s * 4294967296 + r := by omega
    rw [e1, e2]
    grind
  have b1 : p * r ≤ 4294967295 * 4294967295 := Nat.mul_le_mul (by omega) (by omega)
  have b2 : p * s ≤ 4294967295 * 4294967295 := Nat.mul_le_mul (by omega) (by omega)
  have b3 : q * r ≤ 4294967295 * 4294967295 := Nat.mul_le_mul (by omega) (by omega)
  rw [h0]
  generalize p * r = x at *
  generalize p * s = y at *
  generalize q * r = z at *
  generalize q * s = t at *
  omega

set_option maxHeartbeats 1600000 in
theorem more_any (N a b : Nat) (w : World) (ha : a < 18446744073709551616) (hb : b < 18446744073709551616) (hN : N + a * b < 340282366920938463463374607431768211456) :
    Calls Tryz.prog 165 #[.agg #[.int .u64 ((N % 18446744073709551616 : Nat) : Int), .int .u64 ((N / 18446744073709551616 : Nat) : Int)], .int .u64 a, .int .u64 b] w fun e w' => e = .returned (.agg #[.int .u64 (((N + a * b) % 18446744073709551616 : Nat) : Int), .int .u64 (((N + a * b) / 18446744073709551616 : Nat) : Int)]) ∧ Below w.heap.size w w' := by
  obtain ⟨p, hp⟩ : ∃ p, p = a % 4294967296 := ⟨_, rfl⟩
  obtain ⟨q, hq⟩ : ∃ p, p = a / 4294967296 := ⟨_, rfl⟩
  obtain ⟨r, hr⟩ : ∃ p, p = b % 4294967296 := ⟨_, rfl⟩
  obtain ⟨s, hs⟩ : ∃ p, p = b / 4294967296 := ⟨_, rfl⟩
  obtain ⟨g1, g2, g3, g4, g5⟩ := halves a b p q r s ha hb hp hq hr hs
  have ma := Mul64.maskN a ha
  have mb := Mul64.maskN b hb
  have da := Mul64.divN a
  have db := Mul64.divN b
  rw [← hp] at ma
  rw [← hr] at mb
  rw [← hq] at da
  rw [← hs] at db
  obtain ⟨ll, hll⟩ : ∃ x, x = p * r := ⟨_, rfl⟩
  obtain ⟨lh, hlh⟩ : ∃ x, x = p * s := ⟨_, rfl⟩
  obtain ⟨hl, hhl⟩ : ∃ x, x = q * r := ⟨_, rfl⟩
  rw [← hll] at g1 g4 g5
  rw [← hlh] at g2 g4 g5
  rw [← hhl] at g3 g4 g5
  have x1 : IntKind.u64.wrap ((p : Int) * (r : Int)) = (ll : Int) := by rw [mulN, ← hll, wrapN _ g1]
  have x2 : IntKind.u64.wrap ((p : Int) * (s : Int)) = (lh : Int) := by rw [mulN, ← hlh, wrapN _ g2]
  have x3 : IntKind.u64.wrap ((q : Int) * (r : Int)) = (hl : Int) := by rw [mulN, ← hhl, wrapN _ g3]
  have pb : p < 4294967296 ∧ q < 4294967296 ∧ r < 4294967296 ∧ s < 4294967296 := by omega
  obtain ⟨p1, p2, p3, p4⟩ := pb
  obtain ⟨nl, hnl⟩ : ∃ x, x = N % 18446744073709551616 := ⟨_, rfl⟩
  obtain ⟨nh, hnh⟩ : ∃ x, x = N / 18446744073709551616 := ⟨_, rfl⟩
  obtain ⟨mid, hmid⟩ : ∃ x, x = ll / 4294967296 + lh % 4294967296 + hl % 4294967296 := ⟨_, rfl⟩
  obtain ⟨low, hlow⟩ : ∃ x, x = a * b % 18446744073709551616 := ⟨_, rfl⟩
  obtain ⟨hi, hhi⟩ : ∃ x, x = a * b / 18446744073709551616 := ⟨_, rfl⟩
  rw [← hmid] at g4 g5
  rw [← hlow] at g5
  rw [← hhi] at g4
  have hmidl : mid < 12884901888 := by omega
  have y1 : IntKind.u64.wrap (IntKind.u64.wrap ((ll : Int) / 4294967296 + bits .and .u64 (lh : Int) 4294967295) + bits .and .u64 (hl : Int) 4294967295) = (mid : Int) := by
    rw [Mul64.maskN lh g2, Mul64.maskN hl g3, Mul64.divN, addN, wrapN _ (by omega), addN, wrapN _ (by omega), ← hmid]
  have y2 : bits .or .u64 (IntKind.u64.wrap ((mid : Int) * 4294967296)) (bits .and .u64 (ll : Int) 4294967295) = (low : Int) := by
    have e1 : IntKind.u64.wrap ((mid : Int) * 4294967296) = ((mid % 4294967296 * 4294967296 : Nat) : Int) := by rw [IntKind.wrap_u64]; omega
    have e2 := or_add' (ll % 4294967296) (mid % 4294967296) 32 (Nat.mod_lt _ (by decide))
    rw [show (2 : Nat) ^ 32 = 4294967296 from rfl] at e2
    rw [e1, Mul64.maskN ll g1, bits_or_u64_nat _ _ (by omega) (by omega), e2, g5]
  have hqs : q * s < 18446744073709551616 := Nat.lt_of_le_of_lt (Nat.mul_le_mul (show q ≤ 4294967295 by omega) (show s ≤ 4294967295 by omega)) (by decide)
  have hh : nh + hi < 18446744073709551616 := by omega
  have y3 : IntKind.u64.wrap ((nh : Int) + IntKind.u64.wrap (IntKind.u64.wrap (IntKind.u64.wrap (IntKind.u64.wrap ((q : Int) * (s : Int)) + (lh : Int) / 4294967296) + (hl : Int) / 4294967296) + (mid : Int) / 4294967296)) = ((nh + hi : Nat) : Int) := by
    rw [mulN, wrapN _ hqs]
    generalize q * s = t at *
    rw [Mul64.divN, addN, wrapN _ (by omega), Mul64.divN, addN, wrapN _ (by omega), Mul64.divN, addN, wrapN _ (by omega), addN, wrapN _ (by omega)]
    congr 1
    omega
  have y4 : IntKind.u64.wrap ((nl : Int) + (low : Int)) = (((nl + low) % 18446744073709551616 : Nat) : Int) := by rw [IntKind.wrap_u64]; omega
  obtain ⟨S, hS⟩ : ∃ S, S = (nl + low) % 18446744073709551616 := ⟨_, rfl⟩
  rw [← hS] at y4
  obtain ⟨H, hH⟩ : ∃ S, S = nh + hi := ⟨_, rfl⟩
  rw [← hH] at y3
  have hres : (N + a * b) % 18446744073709551616 = S ∧ (N + a * b) / 18446744073709551616 = if S < low then H + 1 else H := by
    generalize a * b = ab at *
    have : S = (N + ab) % 18446744073709551616 := by omega
    refine ⟨this.symm, ?_⟩
    split <;> omega
  obtain ⟨R, hR⟩ : ∃ R, R = if S < low then H + 1 else H := ⟨_, rfl⟩
  rw [hres.1, hres.2, ← hnl, ← hnh, ← hR]
  have RR := Lib.hid hR
  have hHl : H + 1 < 18446744073709551616 ∨ ¬ S < low := by
    by_cases hc : S < low
    · left
      have := hres.2
      rw [if_pos hc] at this
      have h4 : (N + a * b) / 18446744073709551616 < 18446744073709551616 := by omega
      omega
    · exact .inr hc
  have MA := Lib.hid ma
  have MB := Lib.hid mb
  have DA := Lib.hid da
  have DB := Lib.hid db
  have X1 := Lib.hid x1
  have X2 := Lib.hid x2
  have X3 := Lib.hid x3
  have Y1 := Lib.hid y1
  have Y2 := Lib.hid y2
  have Y3 := Lib.hid y3
  have Y4 := Lib.hid y4
  clear ma mb da db x1 x2 x3 y1 y2 y3 y4 hp hq hr hs hll hlh hhl g1 g2 g3 g4 g5 hN hnl hnh hmid hlow hhi hS hH hres hR hqs hh hmidl
  go_enter Tryz.func165, Tryz.ntmps165
  go_upto_region 2 with (fail)
  rw [MA.out, MB.out, DA.out, DB.out]
  go_upto_region 3 with (fail)
  rw [X1.out, X2.out, X3.out]
  go_upto_region 4 with (fail)
  rw [Y1.out]
  go_upto_region 5 with (fail)
  rw [Y2.out]
  go_upto_region 6 with (fail)
  rw [Y3.out]
  go_upto_region 7 with (fail)
  rw [Y4.out]
  by_cases hc : S < low
  · have hd : decide ((S : Int) < (low : Int)) = true := by simpa using hc
    have hd' : decide (S < low) = true := by simpa using hc
    have hw : IntKind.u64.wrap ((H : Int) + 1) = ((H + 1 : Nat) : Int) := by
      rw [IntKind.wrap_u64]
      rcases hHl with h | h
      · omega
      · exact absurd hc h
    have hR := RR.out
    rw [if_pos hc] at hR
    have HR := Lib.hid hR
    clear hR
    have HW := Lib.hid hw
    clear hw hc hHl
    go_wp2
    rw [HW.out, HR.out]
    exact bodyPost_ret (v := .agg #[.int .u64 (S : Int), .int .u64 ((H + 1 : Nat) : Int)]) (by simp [results, Tryz.results165, go_sem]) rfl ⟨rfl, ((Below.refl _ _).alloc (Nat.le_refl _) _).alloc (by simp) _⟩
  · have hd : decide ((S : Int) < (low : Int)) = false := by simpa using hc
    have hd' : decide (S < low) = false := by simpa using hc
    have hR := RR.out
    rw [if_neg hc] at hR
    have HR := Lib.hid hR
    clear hR hc hHl
    go_wp2
    rw [HR.out]
    exact bodyPost_ret (v := .agg #[.int .u64 (S : Int), .int .u64 (H : Int)]) (by simp [results, Tryz.results165, go_sem]) rfl ⟨rfl, ((Below.refl _ _).alloc (Nat.le_refl _) _).alloc (by simp) _⟩

/-- The worlds of small: limbs, the answer's place, what is carried. -/
structure Sm (w0 : World) (x c : List Nat) (w : World) : Prop where
  x : Whole w w0.heap.size 69 (numsV x)
  z : Whole w (w0.heap.size + 1) 69 (fiveL 0 0 0 0 0)
  c : Whole w (w0.heap.size + 1 + 1) 69 (numsV c)
  below : Below w0.heap.size w0 w
theorem Sm.setX {w0 w : World} {x c : List Nat} (h : Sm w0 x c w) (i v : Nat) : Sm w0 (x.set i v) c (w.setCell ⟨w0.heap.size, i, none⟩ (.int .u64 (v : Int))) :=
  ⟨set_num h.x i v, h.z.other _ _ _ (by omega), h.c.other _ _ _ (by omega), h.below.setCell (p := ⟨w0.heap.size, i, none⟩) (Nat.le_refl _) _⟩
theorem Sm.setC {w0 w : World} {x c : List Nat} (h : Sm w0 x c w) (i v : Nat) : Sm w0 x (c.set i v) (w.setCell ⟨w0.heap.size + 1 + 1, i, none⟩ (.int .u64 (v : Int))) :=
  ⟨h.x.other _ _ _ (by omega), h.z.other _ _ _ (by omega), set_num h.c i v, h.below.setCell (p := ⟨w0.heap.size + 1 + 1, i, none⟩) (by show _ ≤ w0.heap.size + 1 + 1; omega) _⟩
theorem Sm.drew {w0 w : World} {x c : List Nat} (h : Sm w0 x c w) : Sm w0 x c w.drew := ⟨h.x, h.z, h.c, h.below.drew⟩

def nulls : List Nat := [0, 0, 0, 0, 0]
def lows (X : List Nat) : List Nat := X.map (· % 2251799813685248)
def tops (X : List Nat) : List Nat := X.map (· / 2251799813685248)

set_option maxHeartbeats 3200000 in
theorem small_any (a b c d e : Nat) (w : World) (h : Words5 a b c d e) :
    Calls Tryz.prog 141 #[five a b c d e] w fun r w' => r = .returned (five (a % 2251799813685248 + e / 2251799813685248 * 19) (b % 2251799813685248 + a / 2251799813685248) (c % 2251799813685248 + b / 2251799813685248) (d % 2251799813685248 + c / 2251799813685248) (e % 2251799813685248 + d / 2251799813685248)) ∧ Below w.heap.size w w' := by
  obtain ⟨X, hX⟩ : ∃ X, X = [a, b, c, d, e] := ⟨_, rfl⟩
  have hX5 : X.length = 5 := by rw [hX]; rfl
  have hXl : ∀ i, X.getD i 0 < 18446744073709551616 := fun i => by
    rw [hX]
    obtain ⟨h1, h2, h3, h4, h5⟩ := h
    match i with
    | 0 => exact h1
    | 1 => exact h2
    | 2 => exact h3
    | 3 => exact h4
    | 4 => exact h5
    | i + 5 => exact (by decide : (0 : Nat) < 18446744073709551616)
  obtain ⟨Y, hY⟩ : ∃ Y, Y = lows X := ⟨_, rfl⟩
  obtain ⟨C, hC⟩ : ∃ Y, Y = tops X := ⟨_, rfl⟩
  have hY5 : Y.length = 5 := by rw [hY, lows, List.length_map, hX5]
  have hC5 : C.length = 5 := by rw [hC, tops, List.length_map, hX5]
  have hYg : ∀ i, i < 5 → Y.getD i 0 = X.getD i 0 % 2251799813685248 := fun i hi => by
    rw [hY, lows]
    simp [List.getD, hX5, hi]
  have hCg : ∀ i, i < 5 → C.getD i 0 = X.getD i 0 / 2251799813685248 := fun i hi => by
    rw [hC, tops]
    simp [List.getD, hX5, hi]
  obtain ⟨Z, hZ⟩ : ∃ Z, Z = [a % 2251799813685248 + e / 2251799813685248 * 19, b % 2251799813685248 + a / 2251799813685248, c % 2251799813685248 + b / 2251799813685248, d % 2251799813685248 + c / 2251799813685248, e % 2251799813685248 + d / 2251799813685248] := ⟨_, rfl⟩
  have hZ5 : Z.length = 5 := by rw [hZ]; rfl
  have hZ0 : Z.getD 0 0 = Y.getD 0 0 + 19 * C.getD 4 0 := by
    rw [hYg 0 (by omega), hCg 4 (by omega), hX, hZ]
    show _ % _ + _ / _ * 19 = a % 2251799813685248 + 19 * (e / 2251799813685248)
    omega
  have hZi : ∀ i, 1 ≤ i → i < 5 → Z.getD i 0 = Y.getD i 0 + C.getD (i - 1) 0 := fun i h1 hi => by
    rw [hYg i hi, hCg (i - 1) (by omega), hX, hZ]
    have : i = 1 ∨ i = 2 ∨ i = 3 ∨ i = 4 := by omega
    rcases this with rfl | rfl | rfl | rfl <;> rfl
  have hst : Sm w X nulls (((w.alloc (.cells (numsV X).toArray 69)).alloc (.cells (fiveL 0 0 0 0 0).toArray 69)).alloc (.cells (fiveL 0 0 0 0 0).toArray 69)) :=
    ⟨((Whole.made' w _ _ _ rfl).alloc _).alloc _, (Whole.made' _ _ _ _ (by simp)).alloc _, Whole.made' _ _ _ _ (by simp), (((Below.refl _ _).alloc (Nat.le_refl _) _).alloc (by simp) _).alloc (by simp; omega) _⟩
  have hres : five (a % 2251799813685248 + e / 2251799813685248 * 19) (b % 2251799813685248 + a / 2251799813685248) (c % 2251799813685248 + b / 2251799813685248) (d % 2251799813685248 + c / 2251799813685248) (e % 2251799813685248 + d / 2251799813685248) = .agg (numsV Z).toArray := by rw [hZ]; rfl
  rw [hres, show five a b c d e = .agg (numsV X).toArray by rw [hX]; rfl]
  have HT := Lib.hid hst
  have X5 := Lib.hid hX5
  have Y5 := Lib.hid hY5
  have C5 := Lib.hid hC5
  have Z5 := Lib.hid hZ5
  have XL := Lib.hid hXl
  have YG := Lib.hid hYg
  have CG := Lib.hid hCg
  have Z0 := Lib.hid hZ0
  have ZI := Lib.hid hZi
  clear hst hX5 hY5 hC5 hZ5 hXl hYg hCg hZ0 hZi hX hY hC hZ hres h
  go_enter Tryz.func141, Tryz.ntmps141
  go_wp2
  go_loopw [4, 6] (fun _ i wr => ∃ k : Nat, k ≤ 5 ∧ i = .int .i64 k ∧ Sm w (mixTo X Y k) (mixTo nulls C k) wr) (fun _ i _ => 5 - (intOf i).toNat)
  case atStart => exact ⟨0, by omega, rfl, HT.out⟩
  case round =>
    obtain ⟨k, hk5, rfl, hk⟩ := hrel
    by_cases hlt : k < 5
    · have hd2 : decide ((k : Int) < 5) = true := by simp; omega
      have ik : (k : Int) < 5 := by omega
      have lX : k < (mixTo X Y k).length := by rw [mixTo_length, X5.out]; exact hlt
      have lC : k < (mixTo nulls C k).length := by rw [mixTo_length]; exact hlt
      have gX : (mixTo X Y k).getD k 0 = X.getD k 0 := by rw [mixTo_get X Y k k (by rw [X5.out]; exact hlt), if_neg (by omega)]
      have hX : mixTo X Y (k + 1) = (mixTo X Y k).set k (X.getD k 0 % 2251799813685248) := by rw [← YG.out k hlt]; rfl
      have hC : mixTo nulls C (k + 1) = (mixTo nulls C k).set k (X.getD k 0 / 2251799813685248) := by rw [← CG.out k hlt]; rfl
      have l1 := XL.out k
      generalize mixTo X Y k = A at *
      generalize mixTo nulls C k = B at *
      generalize X.getD k 0 = x at *
      have mx := mask51 x l1
      have dx := div51 x
      obtain ⟨t, ht⟩ : ∃ t, t = x / 2251799813685248 := ⟨_, rfl⟩
      obtain ⟨v, hv⟩ : ∃ t, t = x % 2251799813685248 := ⟨_, rfl⟩
      rw [← ht] at dx hC
      rw [← hv] at mx hX
      have cx := num_cell hk.x lX
      rw [gX] at cx
      have cc := num_cell hk.c lC
      have fc := num_free hk.c lC
      have h2 := hk.setC k t
      have cx2 := num_cell h2.x lX
      rw [gX] at cx2
      have fx2 := num_free h2.x lX
      have h3 := h2.setX k v
      have HX := Lib.hid hX
      have HC := Lib.hid hC
      have H3 := Lib.hid h3
      have CX2 := Lib.hid cx2
      have FX2 := Lib.hid fx2
      have MX := Lib.hid mx
      have DX := Lib.hid dx
      clear mx dx ht hv hk hX hC h2 h3 cx2 fx2 gX lX lC HT
      go_upto_region 6 with (fail)
      rw [DX.out]
      clear cx cc fc
      have cx2 := CX2.out
      have fx2 := FX2.out
      go_wp2
      rw [MX.out]
      go_roundw
      case rel => exact ⟨k + 1, by omega, by go_num, by rw [HX.out, HC.out]; exact H3.out⟩
      case measure => simp [intOf]; omega
    · have hd2 : decide ((k : Int) < 5) = false := by simp; omega
      obtain rfl : k = 5 := by omega
      rw [mixTo_end X5.out Y5.out, mixTo_end (a := nulls) rfl C5.out] at hk
      clear HT
      have c0 := num_cell hk.x (i := 0) (by rw [Y5.out]; omega)
      have f0 := num_free hk.x (i := 0) (by rw [Y5.out]; omega)
      have c4 := num_cell hk.c (i := 4) (by rw [C5.out]; omega)
      have h2 := hk.setX 0 (Z.getD 0 0)
      have v0 : IntKind.u64.wrap ((Y.getD 0 0 : Nat) + IntKind.u64.wrap (19 * ((C.getD 4 0 : Nat) : Int))) = ((Z.getD 0 0 : Nat) : Int) := by
        have := XL.out 4
        have := XL.out 0
        have e1 := YG.out 0 (by omega)
        have e2 := CG.out 4 (by omega)
        rw [Z0.out, mul19', wrapN _ (by omega), addN, wrapN _ (by omega)]
      have e0 : mixTo (Y.set 0 (Z.getD 0 0)) Z 1 = Y.set 0 (Z.getD 0 0) := by
        show (Y.set 0 (Z.getD 0 0)).set 0 (Z.getD 0 0) = _
        rw [List.set_set]
      have H2 := Lib.hid (show Sm w (mixTo (Y.set 0 (Z.getD 0 0)) Z 1) C _ by rw [e0]; exact h2)
      generalize Z.getD 0 0 = z0 at *
      generalize Y.getD 0 0 = y0 at *
      generalize C.getD 4 0 = x4 at *
      have V0 := Lib.hid v0
      clear hk h2 v0 e0
      go_upto_region 9 with (fail)
      rw [V0.out]
      clear c0 f0 c4
      have hB1 : (Y.set 0 z0).length = 5 := by rw [List.length_set, Y5.out]
      have hBg : ∀ i, 1 ≤ i → (Y.set 0 z0).getD i 0 = Y.getD i 0 := fun i hi => by
        rw [List.getD, List.getElem?_set_ne (by omega), ← List.getD]
      have YL : ∀ i, i < 5 → Y.getD i 0 < 2251799813685248 := fun i hi => by rw [YG.out i hi]; exact Nat.mod_lt _ (by decide)
      have CL : ∀ i, i < 5 → C.getD i 0 < 8192 := fun i hi => by
        rw [CG.out i hi]
        have := XL.out i
        omega
      have BG := Lib.hid hBg
      have B1 := Lib.hid hB1
      have YL := Lib.hid YL
      have CL := Lib.hid CL
      clear hBg hB1
      generalize Y.set 0 z0 = B at *
      go_wp2
      rw [show ((5 : Nat) : Int) = 5 from rfl]
      go_loopw [5] (fun i wr => ∃ k : Nat, 1 ≤ k ∧ k ≤ 5 ∧ i = .int .i64 k ∧ Sm w (mixTo B Z k) C wr) (fun i _ => 5 - (intOf i).toNat)
      case atStart => exact ⟨1, by omega, by omega, rfl, H2.out⟩
      case round =>
        obtain ⟨k, hk1, hk5, rfl, hk⟩ := hrel
        clear H2
        by_cases hlt : k < 5
        · have hd2 : decide ((k : Int) < 5) = true := by simp; omega
          have ik : (k : Int) < 5 := by omega
          have lX : k < (mixTo B Z k).length := by rw [mixTo_length, B1.out]; exact hlt
          have gX : (mixTo B Z k).getD k 0 = Y.getD k 0 := by rw [mixTo_get B Z k k (by rw [B1.out]; exact hlt), if_neg (by omega)]; exact BG.out k hk1
          have hX : mixTo B Z (k + 1) = (mixTo B Z k).set k (Y.getD k 0 + C.getD (k - 1) 0) := by rw [← ZI.out k hk1 hlt]; rfl
          have cc := num_cell hk.c (i := k - 1) (by rw [C5.out]; omega)
          have b1 := YL.out k hlt
          have b2 := CL.out (k - 1) (by omega)
          generalize mixTo B Z k = A at *
          generalize Y.getD k 0 = y at *
          generalize C.getD (k - 1) 0 = x at *
          have cx := num_cell hk.x lX
          rw [gX] at cx
          have fx := num_free hk.x lX
          have v1 : IntKind.u64.wrap ((y : Int) + (x : Int)) = ((y + x : Nat) : Int) := by rw [addN, wrapN _ (by omega)]
          obtain ⟨s, hs⟩ : ∃ s, s = y + x := ⟨_, rfl⟩
          rw [← hs] at v1 hX
          have h3 := hk.setX k s
          have HX := Lib.hid hX
          have H3 := Lib.hid (hk.drew.setX k s)
          have n1 : IntKind.i64.wrap ((k : Int) - 1) = (k : Int) - 1 := IntWalk.i64_in _ (by omega)
          have n2 : (1 : Int) ≤ (k : Int) := by omega
          have n2' : (0 : Int) ≤ (k : Int) - 1 := by omega
          have n3 : ((k : Int) - 1).toNat = k - 1 := by omega
          have n4 : (k : Int) - 1 < 5 := by omega
          clear hk hX h3 gX lX hs
          go_upto_region 12 with (fail)
          go_still_tail 9, (by kernel_rfl)
          change wpList _ _ _ _ _ wr.drew
          have cx' : wr.drew.cell? ⟨w.heap.size, k, none⟩ = _ := cx
          have fx' : wr.drew.frozen? ⟨w.heap.size, k, none⟩ = _ := fx
          clear cx fx cc n1 n3 v1
          go_wp2
          go_roundw
          case rel => exact ⟨k + 1, by omega, by omega, by go_num, by rw [HX.out]; exact H3.out⟩
          case measure => simp [intOf]; omega
        · have hd2 : decide ((k : Int) < 5) = false := by simp; omega
          obtain rfl : k = 5 := by omega
          rw [mixTo_end B1.out Z5.out] at hk
          obtain ⟨r0, r1, r2, r3, r4, hr⟩ := list_five Z5.out
          have hx : Whole wr w.heap.size 69 (fiveL r0 r1 r2 r3 r4) := by
            have := hk.x
            rw [hr] at this
            exact this
          obtain ⟨t0, t1, t2, t3, t4⟩ := cells5 hx
          obtain ⟨z0', z1, z2, z3, z4⟩ := cells5 hk.z
          obtain ⟨f0, f1, f2, f3, f4⟩ := free5 hk.z
          have HB := Lib.hid hk.below
          have HR := Lib.hid hr
          clear hk hx hr
          go_wp2
          rw [HR.out]
          exact bodyPost_ret (v := five r0 r1 r2 r3 r4) (by simp [results, Tryz.results141, go_sem, z0', z1, z2, z3, z4]) rfl ⟨rfl, set5 HB.out (by omega) _ _ _ _ _⟩
end Go.Proofs.YtolmfimpaofefaaGreatDoor.RefLimb
