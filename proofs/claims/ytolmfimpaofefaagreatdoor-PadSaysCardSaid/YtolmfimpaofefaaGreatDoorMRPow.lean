/-
  Several texts as one (RPow, RRoot, RBytM, RBytes). The document's Power, exponent and Root of layer 5 answer what the plain mathematics says, and leave all memory that was there as it was. Conditions: words below 2^64, a text that takes no more than the reach of the form. The document's Root of layer 5 answers what the plain mathematics says, and leaves all memory that was there as it was. Condition: words below 2^64. The plain mathematics of the document's Bytes and Read of layer 5: a number's bytes, bit by bit; a text with bytes 0 behind it. Nothing here speaks of a program: no condition but those that each lemma names. The document's Bytes and Read of layer 5 answer what the plain mathematics says, and leave all memory that was there as it was. Conditions: words below 2^64, a text that takes no more than the reach of the form.
-/
import Derived.Test.YtolmfimpaofefaaGreatDoorMRLim
import Derived.Test.YtolmfimpaofefaaGreatDoorMRef
import Derived.Test.YtolmfimpaofefaaGreatDoorMLmB
import Derived.Test.YtolmfimpaofefaaGreatDoorMWk
namespace Go.Proofs.YtolmfimpaofefaaGreatDoor.RefLimb
open Go.RowKit Mur Lanes Limb Hold
theorem one5_l : LimL one5 1 := LimL.ofFive (a := 1) (b := 0) (c := 0) (d := 0) (e := 0) (by unfold Words5; omega)
/-- 32 bytes, all ones but the first and the last one. -/
def expoL (f l : UInt8) : List UInt8 := f :: (List.replicate 30 255 ++ [l])
def expoT (f l : UInt8) : ByteArray := ⟨(expoL f l).toArray⟩
def fillB (k : Nat) : List UInt8 := List.replicate k 255 ++ List.replicate (32 - k) 0
theorem cell_u8 : TyCell Tryz.prog 5 := ⟨_, Tryz.underlying5, rfl, by kernel_rfl⟩
theorem made_cells (n : Nat) : madeCells #[.int .u8 0] n = (bytesV (List.replicate n 0)).toArray := by
  refine Array.ext (by simp [madeCells, bytesV]) fun i h1 h2 => ?_
  simp [madeCells, bytesV, u8, Nat.mod_one]
end Go.Proofs.YtolmfimpaofefaaGreatDoor.RefLimb

namespace Go.Proofs.YtolmfimpaofefaaGreatDoor.RefLimb
open Go.RowKit Mur Lanes Limb Hold
def two5 : List Value := [.int .u64 2, .int .u64 0, .int .u64 0, .int .u64 0, .int .u64 0]
theorem built_zero5 : Tryz.prog.built 69 [] = some zeros5.toArray := by kernel_rfl
/-- What is told as a root, as a list. -/
def rootL (x : Nat) : List Value := if rootA x ^ 2 % Prime.P = x then limL (rootA x) else if rootB x ^ 2 % Prime.P = x then limL (rootB x) else zeros5
theorem square1_l {X : List Value} {N : Nat} (hX : LimL X N) (u : World) : Calls Tryz.prog 144 #[.agg X.toArray, .int .i64 1] u fun r w' => r = .returned (.agg (limL (N ^ 2 % Prime.P)).toArray) ∧ Below u.heap.size u w' := by
  have := squares_l hX 1 u (by decide) (by decide)
  rw [times_one, Nat.pow_one] at this
  exact this
end Go.Proofs.YtolmfimpaofefaaGreatDoor.RefLimb

namespace Go.Proofs.YtolmfimpaofefaaGreatDoor.RefLimb
open Go.RowKit Mur Lanes Limb
set_option maxRecDepth 100000

theorem mod_more (R k : Nat) : R % 2 ^ (k + 1) = R % 2 ^ k + 2 ^ k * (R / 2 ^ k % 2) := by
  rw [Nat.pow_succ, Nat.mod_mul]
theorem byte_other (R k i : Nat) (h : i ≠ k / 8) : R % 2 ^ (k + 1) / 2 ^ (8 * i) % 256 = R % 2 ^ k / 2 ^ (8 * i) % 256 := by
  rcases Nat.lt_or_ge (k / 8) i with g | g
  · have h1 : R % 2 ^ (k + 1) < 2 ^ (8 * i) := Nat.lt_of_lt_of_le (Nat.mod_lt _ (Nat.pow_pos (by decide))) (Nat.pow_le_pow_right (by decide) (by omega))
    have h2 : R % 2 ^ k < 2 ^ (8 * i) := Nat.lt_of_lt_of_le (Nat.mod_lt _ (Nat.pow_pos (by decide))) (Nat.pow_le_pow_right (by decide) (by omega))
    rw [Nat.div_eq_of_lt h1, Nat.div_eq_of_lt h2]
  · rw [mod_more]
    obtain ⟨c, hc⟩ : ∃ c, k = 8 * i + (8 + c) := ⟨k - 8 * i - 8, by omega⟩
    have e : 2 ^ k * (R / 2 ^ k % 2) = 2 ^ (8 * i) * (256 * (2 ^ c * (R / 2 ^ k % 2))) := by
      generalize R / 2 ^ k % 2 = b
      rw [hc, Nat.pow_add, Nat.pow_add 2 8 c, Nat.mul_assoc, Nat.mul_assoc]
    rw [e, Nat.add_mul_div_left _ _ (Nat.pow_pos (by decide)), Nat.add_mul_mod_self_left]
theorem byte_here (R k : Nat) : R % 2 ^ (k + 1) / 2 ^ (8 * (k / 8)) % 256 = R % 2 ^ k / 2 ^ (8 * (k / 8)) % 256 + 2 ^ (k % 8) * (R / 2 ^ k % 2) ∧ R % 2 ^ k / 2 ^ (8 * (k / 8)) % 256 < 2 ^ (k % 8) := by
  have hk : k = 8 * (k / 8) + k % 8 := by omega
  have hm : R % 2 ^ k < 2 ^ (8 * (k / 8)) * 2 ^ (k % 8) := by
    rw [← Nat.pow_add, ← hk]
    exact Nat.mod_lt _ (Nat.pow_pos (by decide))
  have hd : R % 2 ^ k / 2 ^ (8 * (k / 8)) < 2 ^ (k % 8) := Nat.div_lt_of_lt_mul hm
  have h8 : 2 ^ (k % 8) ≤ 128 := Nat.pow_le_pow_right (n := 2) (by decide) (show k % 8 ≤ 7 by omega)
  have e : 2 ^ k * (R / 2 ^ k % 2) = 2 ^ (8 * (k / 8)) * (2 ^ (k % 8) * (R / 2 ^ k % 2)) := by
    rw [← Nat.mul_assoc, ← Nat.pow_add, ← hk]
  have hb : 2 ^ (k % 8) * (R / 2 ^ k % 2) ≤ 2 ^ (k % 8) := by
    have : R / 2 ^ k % 2 ≤ 1 := by omega
    exact Nat.le_trans (Nat.mul_le_mul_left _ this) (by omega)
  rw [mod_more, e, Nat.add_mul_div_left _ _ (Nat.pow_pos (by decide))]
  generalize R % 2 ^ k / 2 ^ (8 * (k / 8)) = x at *
  generalize 2 ^ (k % 8) * (R / 2 ^ k % 2) = y at *
  generalize 2 ^ (k % 8) = z at *
  omega

theorem byt_getD (l : List UInt8) (i : Nat) : (l.getD i 0).toNat = byt l i := rfl
theorem bytes_ext {a b : List UInt8} (hl : a.length = b.length) (h : ∀ i, i < a.length → byt a i = byt b i) : a = b := by
  refine List.ext_getElem hl fun i h1 h2 => ?_
  have := h i h1
  unfold byt at this
  rw [List.getD, List.getD, List.getElem?_eq_getElem h1, List.getElem?_eq_getElem h2] at this
  exact UInt8.toNat_inj.1 this
/-- The next bit of a number's bytes. -/
theorem bytes_next (R k : Nat) : (bytesOf (R % 2 ^ k)).set (k / 8) ((bytesOf (R % 2 ^ (k + 1))).getD (k / 8) 0) = bytesOf (R % 2 ^ (k + 1)) := by
  refine bytes_ext (by rw [List.length_set, bytesOf_length, bytesOf_length]) fun i hi => ?_
  rw [List.length_set, bytesOf_length] at hi
  by_cases e : i = k / 8
  · subst e
    unfold byt
    simp [List.getD, bytesOf_length, hi]
  · have h1 : byt ((bytesOf (R % 2 ^ k)).set (k / 8) ((bytesOf (R % 2 ^ (k + 1))).getD (k / 8) 0)) i = byt (bytesOf (R % 2 ^ k)) i := by
      unfold byt
      rw [List.getD, List.getElem?_set_ne (Ne.symm e), ← List.getD]
    rw [h1, byt_bytes _ _ hi, byt_bytes _ _ hi, byte_other R k i e]
theorem bytes_same (R k : Nat) (h : R / 2 ^ k % 2 = 0) : bytesOf (R % 2 ^ (k + 1)) = bytesOf (R % 2 ^ k) := by
  rw [mod_more, h, Nat.mul_zero, Nat.add_zero]
theorem bytes_bit (R k : Nat) (hk : k < 255) (h : R / 2 ^ k % 2 = 1) : ((bytesOf (R % 2 ^ (k + 1))).getD (k / 8) 0).toNat = ((bytesOf (R % 2 ^ k)).getD (k / 8) 0).toNat ||| 2 ^ (k % 8) := by
  have hi : k / 8 < 32 := by omega
  obtain ⟨g1, g2⟩ := byte_here R k
  rw [byt_getD, byt_getD, byt_bytes _ _ hi, byt_bytes _ _ hi, g1, h, Nat.mul_one]
  have := or_add (R % 2 ^ k / 2 ^ (8 * (k / 8)) % 256) 1 (k % 8) g2
  rw [Nat.one_mul] at this
  exact this.symm
theorem limb_bit (R k : Nat) (hk : k < 255) : (lim R).getD (k / 51) 0 / 2 ^ (k % 51) % 2 = R / 2 ^ k % 2 := by
  rw [lim_at _ _ (by omega)]
  have e : (2251799813685248 : Nat) = 2 ^ (k % 51) * (2 * 2 ^ (50 - k % 51)) := by
    rw [← Nat.pow_succ', ← Nat.pow_add, show k % 51 + (50 - k % 51 + 1) = 51 by omega]
  rw [e, Nat.mod_mul_right_div_self, Nat.mod_mod_of_dvd _ (Nat.dvd_mul_right 2 _), Nat.div_div_eq_div_mul, ← Nat.pow_add, Nat.div_add_mod]

/-- 40 bytes of a text, bytes 0 behind it. -/
def pad40 (l : List UInt8) : List UInt8 := (l ++ List.replicate 40 0).take 40
theorem pad40_length (l : List UInt8) : (pad40 l).length = 40 := by simp [pad40]
theorem pad40_byt (l : List UInt8) (i : Nat) (h : i < 40) : byt (pad40 l) i = byt l i := by
  unfold byt pad40
  rw [List.getD, List.getElem?_take_of_lt h, List.getD]
  by_cases hl : i < l.length
  · rw [List.getElem?_append_left hl]
  · rw [List.getElem?_append_right (by omega), List.getElem?_eq_none (show l.length ≤ i by omega), List.getElem?_replicate]
    split <;> rfl
theorem lowN_same {a b : List UInt8} (k : Nat) (h : ∀ i, i < k → byt a i = byt b i) : lowN a k = lowN b k := by
  induction k with
  | zero => rfl
  | succ k ih => rw [lowN, lowN, ih fun i hi => h i (by omega), h k (by omega)]
theorem pad40_num (l : List UInt8) : num (pad40 l) = num l % 2 ^ (8 * 40) := by
  have h1 : num (pad40 l) = lowN l 40 := by
    unfold num
    rw [pad40_length]
    exact lowN_same 40 fun i hi => pad40_byt l i hi
  rw [h1]
  have h2 := lowN_lt l 40
  rcases Nat.lt_or_ge 40 l.length with h | h
  · have h3 := lowN_split l 40 (l.length - 40)
    rw [show 40 + (l.length - 40) = l.length by omega] at h3
    unfold num
    rw [h3]
    generalize 2 ^ (8 * 40) = M at *
    rw [Nat.add_mul_mod_self_left]
    exact (Nat.mod_eq_of_lt h2).symm
  · have h3 := lowN_out l (40 - l.length)
    rw [show l.length + (40 - l.length) = 40 by omega] at h3
    rw [← h3]
    generalize 2 ^ (8 * 40) = M at *
    exact (Nat.mod_eq_of_lt h2).symm
theorem read40 (l : List UInt8) (k f sh : Nat) (hk : k < 5) (hf : f ≤ 40) (hs : sh ≤ 13) (he : 51 * k = 8 * f + sh) : low ((pad40 l).drop f) / 2 ^ sh % 2251799813685248 = (lim (num l)).getD k 0 := by
  rw [lim_at _ _ hk, low_num, ← num_drop _ _ (by rw [pad40_length]; exact hf), pad40_num]
  have h64 : (18446744073709551616 : Nat) = 2 ^ sh * (2251799813685248 * 2 ^ (13 - sh)) := by
    rw [show (2251799813685248 : Nat) = 2 ^ 51 from rfl, ← Nat.pow_add, ← Nat.pow_add, show sh + (51 + (13 - sh)) = 64 by omega]
  rw [h64, Nat.mod_mul_right_div_self, Nat.mod_mod_of_dvd _ (Nat.dvd_mul_right _ _), Nat.div_div_eq_div_mul, ← Nat.pow_add, ← he]
  have h320 : (2 : Nat) ^ (8 * 40) = 2 ^ (51 * k) * (2251799813685248 * 2 ^ (269 - 51 * k)) := by
    rw [show (2251799813685248 : Nat) = 2 ^ 51 from rfl, ← Nat.pow_add, ← Nat.pow_add, show 51 * k + (51 + (269 - 51 * k)) = 8 * 40 by omega]
  rw [h320, Nat.mod_mul_right_div_self, Nat.mod_mod_of_dvd _ (Nat.dvd_mul_right _ _)]
end Go.Proofs.YtolmfimpaofefaaGreatDoor.RefLimb

namespace Go.Proofs.YtolmfimpaofefaaGreatDoor.RefLimb
open Go.RowKit Mur Lanes Limb Hold
set_option maxRecDepth 100000

def zeroV (n : Nat) : List Value := bytesV (List.replicate n 0)
theorem bytes_zero : bytesV (bytesOf 0) = zeroV 32 := by
  rw [show bytesOf 0 = List.replicate 32 0 by decide +kernel]
  rfl
set_option maxHeartbeats 3200000 in
theorem bytes_l {X : List Value} {N : Nat} (hX : LimL X N) (w0 : World) :
    Calls Tryz.prog 81 #[.agg X.toArray] w0 fun r w' => r = .returned (.string (numT (N % Prime.P))) ∧ Below w0.heap.size w0 w' := by
  have ra := fun u => carry_l hX u
  obtain ⟨R, hR⟩ : ∃ R, R = N % Prime.P := ⟨_, rfl⟩
  have hRl : R < 57896044618658097711785492504343953926634992332820282019728792003956564819968 := by rw [hR]; exact Nat.lt_trans (Nat.mod_lt _ P_pos) P_lt
  rw [← hR] at ra ⊢
  have hmk : ∀ u : World, (Instr.makeSlice 78 (.int .i64 32) (.int .i64 32)).run Tryz.prog u = .ok (.slice (some ⟨u.heap.size, 0, none⟩) 32 32) (u.alloc (.cells (zeroV 32).toArray 5)) := fun u => by
    have := make_u8 u 32 (by omega)
    rw [made_cells 32] at this
    exact this
  have RA := Lib.hid ra
  have HA := Lib.hid (show (limL R).length = 5 ∧ Single (limL R) from ⟨rfl, single_limL R⟩)
  have HMK := Lib.hid hmk
  have HRL := Lib.hid hRl
  have HX := Lib.hid (show X.length = 5 ∧ Single X from ⟨hX.len, hX.one⟩)
  have HM := Lib.hid (Hld.start w0)
  clear ra hR hX hmk hRl
  go_enter Tryz.func81, Tryz.ntmps81
  go_upto_region 3 with ((first
    | (with_reducible refine Hold.box HM.out rfl rfl rfl ?_; clear HM; intro b0 w HM; simp only [List.nil_append] at HM; replace HM := Lib.hid HM)
    | (with_reducible refine Hold.load HM.out 0 (cs := X) rfl rfl rfl rfl (Part.all _) (by rw [HX.out.1]; exact row_limbs) ?_)
    | (with_reducible refine (RA.out _).mono ?_; rintro e w ⟨rfl, hb⟩; replace HM := Lib.hid (HM.out.next hb); clear hb)
    | (with_reducible refine Hold.store HM.out 0 (v' := limL R) rfl rfl rfl rfl rfl (by rw [Nat.zero_add, HA.out.1, HX.out.1]; exact Nat.le_refl _) (lay_all (HX.out.1.trans HA.out.1.symm)) (HA.out.2) (by rw [HA.out.1]; exact row_limbs) ?_; clear HM; intro w HM; simp only [List.set_cons_zero] at HM; replace HM := Lib.hid HM)
    | (with_reducible refine Hold.make (vx := .int .i64 32) (vy := .int .i64 32) HM.out rfl rfl rfl rfl HMK.out ?_; clear HM; intro bs w HM; simp only [List.nil_append, List.cons_append] at HM; replace HM := Lib.hid HM)))
  go_wp2
  go_loopw [4, 8] (fun _ i wr => ∃ k : Nat, k ≤ 255 ∧ i = .int .i64 k ∧ Hld w0 [⟨b0, 69, numsV (lim R)⟩, ⟨bs, 5, bytesV (bytesOf (R % 2 ^ k))⟩] wr) (fun _ i _ => 255 - (intOf i).toNat)
  case atStart =>
    have e : R % 2 ^ 0 = 0 := by rw [Nat.pow_zero]; exact Nat.mod_one R
    exact ⟨0, by omega, rfl, by rw [e, bytes_zero]; exact HM.out⟩
  case round =>
    obtain ⟨k, hk, rfl, hm⟩ := hrel
    clear HM HX RA HA HMK
    have HM := Lib.hid hm
    clear hm
    by_cases hlk : k < 255
    · have hd : decide ((k : Int) < 255) = true := by simp; omega
      obtain ⟨l, hl⟩ : ∃ l, l = k / 51 := ⟨_, rfl⟩
      obtain ⟨sh, hsh⟩ : ∃ l, l = k % 51 := ⟨_, rfl⟩
      have hli : (k : Int) / 51 = (l : Int) := by omega
      have hsi : (k : Int) % 51 = (sh : Int) := by omega
      have il : (l : Int) < 5 := by omega
      have is : (sh : Int) < 51 := by omega
      have hbit := limb_bit R k hlk
      rw [← hl, ← hsh] at hbit
      have gx := nums_get (X := lim R) (i := l) (by rw [lim_length]; omega)
      have hxl := lim_get R l
      obtain ⟨x, hx⟩ : ∃ x, x = (lim R).getD l 0 := ⟨_, rfl⟩
      rw [← hx] at gx hbit hxl
      obtain ⟨v, hv⟩ : ∃ v, v = x / 2 ^ sh := ⟨_, rfl⟩
      rw [← hv] at hbit
      have hvl : v < 9223372036854775808 := by
        have := Nat.div_le_self x (2 ^ sh)
        omega
      have e1 : (x : Int) / 2 ^ sh = (v : Int) := by rw [hv, Int.natCast_ediv, Int.natCast_pow]; rfl
      obtain ⟨m, hmm⟩ : ∃ m, m = v % 2 := ⟨_, rfl⟩
      have e2 : bits .and .u64 (v : Int) 1 = (m : Int) := by
        have := bits_and_u64_nat v 1 (by omega) (by decide)
        rw [Nat.and_one_is_mod, ← hmm] at this
        exact this
      rw [← hmm] at hbit
      have GX := Lib.hid gx
      have hm2 : m < 2 := by omega
      by_cases h1 : m = 1
      · have t1 : ((m : Int) == 1) = true := by rw [h1]; rfl
        obtain ⟨j, hj⟩ : ∃ l, l = k / 8 := ⟨_, rfl⟩
        obtain ⟨r, hr⟩ : ∃ l, l = k % 8 := ⟨_, rfl⟩
        have hji : (k : Int) / 8 = (j : Int) := by omega
        have hri : (k : Int) % 8 = (r : Int) := by omega
        have ij : (j : Int) < 32 := by omega
        have ir : (r : Int) < 8 := by omega
        have hnext := bytes_next R k
        have hor := bytes_bit R k hlk (hbit.symm.trans h1)
        rw [← hj] at hnext hor
        rw [← hr] at hor
        have hjl : j < (bytesOf (R % 2 ^ k)).length := by rw [bytesOf_length]; omega
        obtain ⟨A, hA⟩ : ∃ A, A = bytesOf (R % 2 ^ k) := ⟨_, rfl⟩
        obtain ⟨B, hB⟩ : ∃ A, A = bytesOf (R % 2 ^ (k + 1)) := ⟨_, rfl⟩
        have hm := HM.out
        clear HM
        rw [← hA] at hnext hor hjl hm
        rw [← hB] at hnext hor
        obtain ⟨y, hy⟩ : ∃ y, y = A.getD j 0 := ⟨_, rfl⟩
        obtain ⟨z, hz⟩ : ∃ y, y = B.getD j 0 := ⟨_, rfl⟩
        rw [← hz] at hnext hor
        rw [← hy] at hor
        have gy : (bytesV A)[j]? = some (.int .u8 (y.toNat : Int)) := by
          rw [bytesV_at hjl, hy]
          simp [List.getD, hjl]
        have hrl : 2 ^ r < 256 := Nat.lt_of_le_of_lt (Nat.pow_le_pow_right (n := 2) (by decide) (show r ≤ 7 by omega)) (by decide)
        obtain ⟨pw, hpw⟩ : ∃ p, p = 2 ^ r := ⟨_, rfl⟩
        rw [← hpw] at hor hrl
        have hc : (2 : Int) ^ r = (pw : Int) := by rw [hpw, Int.natCast_pow]; rfl
        have e4 : IntKind.u8.wrap (pw : Int) = (pw : Int) := by rw [IntKind.wrap_u8]; omega
        have e3 : bits .or .u8 (y.toNat : Int) (pw : Int) = (z.toNat : Int) := by rw [u8_or_nat _ _ y.toNat_lt hrl, hor]
        have hset : (bytesV A).set j (.int .u8 (z.toNat : Int)) = bytesV B := by rw [bytesV_set, hnext]
        have hjv : j < (bytesV A).length := by rw [bytesV_length]; exact hjl
        have HM := Lib.hid hm
        have GY := Lib.hid gy
        have E3 := Lib.hid e3
        have E4 := Lib.hid e4
        have HC := Lib.hid hc
        have HSET := Lib.hid hset
        have HJV := Lib.hid hjv
        have HJI := Lib.hid hji
        have HRI := Lib.hid hri
        have HB := Lib.hid hB
        have RL := Lib.hid hrl
        clear hl hsh hbit gx hxl hx hv hvl hmm hm2 h1 hj hr hji hri hnext hor hjl hA hB hm hy hz gy e3 e4 hc hpw hset hjv hrl
        go_upto_region 7 with ((first
          | (with_reducible refine Hold.load1 HM.out 0 (c := .int .u64 (x : Int)) rfl rfl rfl rfl (GX.out) (cell_u64) ?_)))
        clear hli hsi e1 e2 t1
        have hji := HJI.out
        have hri := HRI.out
        have e3 := E3.out
        have e4 := E4.out
        have hc := HC.out
        go_upto_region 8 with ((first
          | (with_reducible refine Hold.load1 HM.out 1 (c := .int .u8 (y.toNat : Int)) rfl rfl rfl rfl (GY.out) (cell_u8) ?_)
          | (with_reducible refine Hold.store1 HM.out 1 (c := .int .u8 (z.toNat : Int)) (v' := bytesV B) rfl rfl rfl rfl rfl (HJV.out) (HSET.out) (Hold.cell_int _ _) (cell_u8) ?_; clear HM; intro w HM; simp only [List.set_cons_zero, List.set_cons_succ] at HM; replace HM := Lib.hid HM)))
        clear hji hri e3 e4 hc
        go_wp2
        go_roundw
        case rel => exact ⟨k + 1, by omega, by go_num, by rw [← HB.out]; exact HM.out⟩
        case measure => simp [intOf]; omega
      · have h0 : m = 0 := by omega
        have t1 : ((m : Int) == 1) = false := by rw [h0]; rfl
        have hB : bytesOf (R % 2 ^ (k + 1)) = bytesOf (R % 2 ^ k) := bytes_same R k (hbit.symm.trans h0)
        have HB := Lib.hid hB
        clear hl hsh hbit gx hxl hx hv hvl hmm hm2 h1 h0 hB
        go_wp2_with ((first
          | (with_reducible refine Hold.load1 HM.out 0 (c := .int .u64 (x : Int)) rfl rfl rfl rfl (GX.out) (cell_u64) ?_)))
        clear hli hsi e1 e2 t1
        go_roundw
        case rel => exact ⟨k + 1, by omega, by go_num, by rw [HB.out]; exact HM.out⟩
        case measure => simp [intOf]; omega
    · have hd : decide ((k : Int) < 255) = false := by simp; omega
      obtain rfl : k = 255 := by omega
      have hm := HM.out
      rw [Nat.mod_eq_of_lt (show R < 2 ^ 255 from HRL.out)] at hm
      have HM := Lib.hid hm
      clear hm
      have hback := string_row (P := Tryz.prog) (HM.out.at 1 rfl).row 78 5 9 Tryz.underlying78 Tryz.underlying5 Tryz.underlying9 32 32 (by rw [bytesOf_length])
      go_wp2
      go_ret
      exact ⟨rfl, HM.out.below⟩

def zero40 : ByteArray := ⟨(List.replicate 40 0).toArray⟩
set_option maxHeartbeats 3200000 in
theorem read_l (s : ByteArray) (w0 : World) (hs : s.size ≤ 140737488351232) :
    Calls Tryz.prog 84 #[.string s] w0 fun r w' => r = .returned (.agg (limL (num s.data.toList)).toArray) ∧ Below w0.heap.size w0 w' := by
  obtain ⟨Z, hZ⟩ : ∃ Z, Z = zero40 := ⟨_, rfl⟩
  obtain ⟨p, hp⟩ : ∃ p, p = (s ++ Z).extract 0 40 := ⟨_, rfl⟩
  have hpl : p.data.toList = pad40 s.data.toList := by
    rw [hp, hZ]
    simp [pad40, zero40, ByteArray.data_extract, Array.toList_extract, List.take_append]
  have hZs : Z.size = 40 := by rw [hZ]; rfl
  have hps : p.size = 40 := by
    have : p.data.toList.length = 40 := by rw [hpl]; exact pad40_length _
    exact this
  have hmk : ∀ u : World, (Instr.makeSlice 78 (.int .i64 40) (.int .i64 40)).run Tryz.prog u = .ok (.slice (some ⟨u.heap.size, 0, none⟩) 40 40) (u.alloc (.cells (zeroV 40).toArray 5)) := fun u => by
    have := make_u8 u 40 (by omega)
    rw [made_cells 40] at this
    exact this
  have hcv : ∀ u : World, (convert 78 9 (.slice (some ⟨u.heap.size, 0, none⟩) 40 40)).run Tryz.prog (u.alloc (.cells (zeroV 40).toArray 5)) = .ok (.string Z) (u.alloc (.cells (zeroV 40).toArray 5)) := fun u => by
    rw [hZ]
    exact string_row (P := Tryz.prog) (Whole.made u 5 (zeroV 40)).row 78 5 9 Tryz.underlying78 Tryz.underlying5 Tryz.underlying9 40 40 (by simp)
  have cat : ¬ 9223372036854775807 < s.size + Z.size := by omega
  have i40 : (40 : Int) ≤ ((s ++ Z).size : Int) := by rw [ByteArray.size_append]; omega
  obtain ⟨T, hT⟩ : ∃ T, T = lim (num s.data.toList) := ⟨_, rfl⟩
  have hT5 : T.length = 5 := by rw [hT]; rfl
  have hres : limL (num s.data.toList) = numsV T := by rw [hT]; rfl
  rw [hres]
  have lows : ∀ f sh k, k < 5 → f ≤ 40 → sh ≤ 13 → 51 * k = 8 * f + sh → ∃ L : Nat, L < 18446744073709551616 ∧ L / 2 ^ sh % 2251799813685248 = T.getD k 0 ∧ ∀ u, Calls Tryz.prog 114 #[.string (p.extract f p.size)] u fun e w' => e = .returned (.int .u64 (L : Int)) ∧ u = w' := fun f sh k hk hf hsh he => by
    refine ⟨low ((pad40 s.data.toList).drop f), ?_, by rw [hT]; exact read40 _ k f sh hk hf hsh he, fun u => ?_⟩
    · refine Nat.lt_of_lt_of_le (lowN_lt _ _) ?_
      exact Nat.pow_le_pow_right (by omega) (show 8 * min _ 8 ≤ 64 by omega)
    · have := RefOne.low_any (p.extract f p.size) u (by rw [ByteArray.size_extract]; omega)
      rw [extract_from, hpl] at this
      exact this
  obtain ⟨L0, l0, q0, r0⟩ := lows 0 0 0 (by decide) (by decide) (by decide) (by decide)
  obtain ⟨L1, l1, q1, r1⟩ := lows 6 3 1 (by decide) (by decide) (by decide) (by decide)
  obtain ⟨L2, l2, q2, r2⟩ := lows 12 6 2 (by decide) (by decide) (by decide) (by decide)
  obtain ⟨L3, l3, q3, r3⟩ := lows 19 1 3 (by decide) (by decide) (by decide) (by decide)
  obtain ⟨L4, l4, q4, r4⟩ := lows 24 12 4 (by decide) (by decide) (by decide) (by decide)
  rw [show p.extract 0 p.size = p by rw [ByteArray.extract_zero_size]] at r0
  obtain ⟨v0, hv0⟩ : ∃ v, v = T.getD 0 0 := ⟨_, rfl⟩
  rw [← hv0] at q0
  obtain ⟨v1, hv1⟩ : ∃ v, v = T.getD 1 0 := ⟨_, rfl⟩
  rw [← hv1] at q1
  obtain ⟨v2, hv2⟩ : ∃ v, v = T.getD 2 0 := ⟨_, rfl⟩
  rw [← hv2] at q2
  obtain ⟨v3, hv3⟩ : ∃ v, v = T.getD 3 0 := ⟨_, rfl⟩
  rw [← hv3] at q3
  obtain ⟨v4, hv4⟩ : ∃ v, v = T.getD 4 0 := ⟨_, rfl⟩
  rw [← hv4] at q4
  have m0 : bits .and .u64 (L0 : Int) 2251799813685247 = (v0 : Int) := by rw [mask51 _ l0, ← q0, Nat.pow_zero, Nat.div_one]
  have m1 : bits .and .u64 ((L1 : Int) / 8) 2251799813685247 = (v1 : Int) := by rw [show (L1 : Int) / 8 = ((L1 / 8 : Nat) : Int) by omega, mask51 _ (by omega), ← q1]
  have m2 : bits .and .u64 ((L2 : Int) / 64) 2251799813685247 = (v2 : Int) := by rw [show (L2 : Int) / 64 = ((L2 / 64 : Nat) : Int) by omega, mask51 _ (by omega), ← q2]
  have m3 : bits .and .u64 ((L3 : Int) / 2) 2251799813685247 = (v3 : Int) := by rw [show (L3 : Int) / 2 = ((L3 / 2 : Nat) : Int) by omega, mask51 _ (by omega), ← q3]
  have m4 : bits .and .u64 ((L4 : Int) / 4096) 2251799813685247 = (v4 : Int) := by rw [show (L4 : Int) / 4096 = ((L4 / 4096 : Nat) : Int) by omega, mask51 _ (by omega), ← q4]
  have s0 : (numsV (mixTo nulls T 0)).set 0 (.int .u64 (v0 : Int)) = numsV (mixTo nulls T 1) := by rw [numsV_set, hv0]; rfl
  have S0 := Lib.hid s0
  have R0 := Lib.hid r0
  have M0 := Lib.hid m0
  have s1 : (numsV (mixTo nulls T 1)).set 1 (.int .u64 (v1 : Int)) = numsV (mixTo nulls T 2) := by rw [numsV_set, hv1]; rfl
  have S1 := Lib.hid s1
  have R1 := Lib.hid r1
  have M1 := Lib.hid m1
  have s2 : (numsV (mixTo nulls T 2)).set 2 (.int .u64 (v2 : Int)) = numsV (mixTo nulls T 3) := by rw [numsV_set, hv2]; rfl
  have S2 := Lib.hid s2
  have R2 := Lib.hid r2
  have M2 := Lib.hid m2
  have s3 : (numsV (mixTo nulls T 3)).set 3 (.int .u64 (v3 : Int)) = numsV (mixTo nulls T 4) := by rw [numsV_set, hv3]; rfl
  have S3 := Lib.hid s3
  have R3 := Lib.hid r3
  have M3 := Lib.hid m3
  have s4 : (numsV (mixTo nulls T 4)).set 4 (.int .u64 (v4 : Int)) = numsV (mixTo nulls T 5) := by rw [numsV_set, hv4]; rfl
  have S4 := Lib.hid s4
  have R4 := Lib.hid r4
  have M4 := Lib.hid m4
  have hlen : ∀ k, (numsV (mixTo nulls T k)).length = 5 := fun k => by rw [numsV_length, mixTo_length]; rfl
  have hend : mixTo nulls T 5 = T := mixTo_end rfl hT5
  have HLEN := Lib.hid hlen
  have HEND := Lib.hid hend
  have HPS := Lib.hid (show (p.size : Int) = 40 by omega)
  have HP := Lib.hid hp
  have H0 := Lib.hid (show zeros5 = numsV (mixTo nulls T 0) from rfl)
  have HM := Lib.hid (Hld.start w0)
  clear hZ hp hpl hZs hps hT hT5 hres lows hlen hend hs l0 q0 r0 hv0 m0 s0 l1 q1 r1 hv1 m1 s1 l2 q2 r2 hv2 m2 s2 l3 q3 r3 hv3 m3 s3 l4 q4 r4 hv4 m4 s4
  go_enter Tryz.func84, Tryz.ntmps84
  go_upto_region 1 with ((first
    | (with_reducible refine Hold.alloc HM.out rfl rfl zeros5 zero_limbs5 ?_; clear HM; intro b w HM; simp only [List.nil_append] at HM; replace HM := Lib.hid HM)))
  go_upto_region 2 with (fail)
  clear hmk hcv cat i40
  rw [← HP.out]
  have hm := HM.out.next ((Below.refl _ _).alloc (Nat.le_refl _) (.cells (zeroV 40).toArray 5))
  generalize w.alloc (.cells (zeroV 40).toArray 5) = w2 at *
  clear HM
  have HM := Lib.hid hm
  clear hm
  have hps := HPS.out
  go_upto_region 3 with ((first
    | (with_reducible refine Hold.alloc HM.out rfl rfl zeros5 zero_limbs5 ?_; clear HM; intro b w HM; simp only [List.nil_append, List.cons_append] at HM; replace HM := Lib.hid HM)))
  rw [H0.out] at HM
  have m0 := M0.out
  go_upto_region 4 with ((first
    | (with_reducible refine (R0.out _).mono ?_; rintro e w ⟨rfl, rfl⟩)
    | (with_reducible refine Hold.store1 HM.out 1 (c := .int .u64 (v0 : Int)) (v' := numsV (mixTo nulls T 1)) rfl rfl rfl rfl rfl (by rw [HLEN.out]; decide) (S0.out) (Hold.cell_int _ _) (cell_u64) ?_; clear HM; intro w HM; simp only [List.set_cons_zero, List.set_cons_succ] at HM; replace HM := Lib.hid HM)))
  clear m0
  have m1 := M1.out
  go_upto_region 5 with ((first
    | (with_reducible refine (R1.out _).mono ?_; rintro e w ⟨rfl, rfl⟩)
    | (with_reducible refine Hold.store1 HM.out 1 (c := .int .u64 (v1 : Int)) (v' := numsV (mixTo nulls T 2)) rfl rfl rfl rfl rfl (by rw [HLEN.out]; decide) (S1.out) (Hold.cell_int _ _) (cell_u64) ?_; clear HM; intro w HM; simp only [List.set_cons_zero, List.set_cons_succ] at HM; replace HM := Lib.hid HM)))
  clear m1
  have m2 := M2.out
  go_upto_region 6 with ((first
    | (with_reducible refine (R2.out _).mono ?_; rintro e w ⟨rfl, rfl⟩)
    | (with_reducible refine Hold.store1 HM.out 1 (c := .int .u64 (v2 : Int)) (v' := numsV (mixTo nulls T 3)) rfl rfl rfl rfl rfl (by rw [HLEN.out]; decide) (S2.out) (Hold.cell_int _ _) (cell_u64) ?_; clear HM; intro w HM; simp only [List.set_cons_zero, List.set_cons_succ] at HM; replace HM := Lib.hid HM)))
  clear m2
  have m3 := M3.out
  go_upto_region 7 with ((first
    | (with_reducible refine (R3.out _).mono ?_; rintro e w ⟨rfl, rfl⟩)
    | (with_reducible refine Hold.store1 HM.out 1 (c := .int .u64 (v3 : Int)) (v' := numsV (mixTo nulls T 4)) rfl rfl rfl rfl rfl (by rw [HLEN.out]; decide) (S3.out) (Hold.cell_int _ _) (cell_u64) ?_; clear HM; intro w HM; simp only [List.set_cons_zero, List.set_cons_succ] at HM; replace HM := Lib.hid HM)))
  clear m3
  have m4 := M4.out
  go_upto_region 8 with ((first
    | (with_reducible refine (R4.out _).mono ?_; rintro e w ⟨rfl, rfl⟩)
    | (with_reducible refine Hold.store1 HM.out 1 (c := .int .u64 (v4 : Int)) (v' := numsV (mixTo nulls T 5)) rfl rfl rfl rfl rfl (by rw [HLEN.out]; decide) (S4.out) (Hold.cell_int _ _) (cell_u64) ?_; clear HM; intro w HM; simp only [List.set_cons_zero, List.set_cons_succ] at HM; replace HM := Lib.hid HM)))
  clear m4
  have hm := HM.out
  rw [HEND.out] at hm
  clear HM
  have HM := Lib.hid hm
  clear hm
  have hl5 := HLEN.out 5
  rw [HEND.out] at hl5
  have HL5 := Lib.hid hl5
  clear hl5
  go_wp2_with ((first
    | (with_reducible refine Hold.load HM.out 1 (cs := numsV T) rfl rfl rfl rfl (Part.all _) (by rw [HL5.out]; exact row_limbs) ?_)
    | (with_reducible refine Hold.store HM.out 0 (v' := numsV T) rfl rfl rfl rfl rfl (by rw [Nat.zero_add, HL5.out, zeros5_length]; exact Nat.le_refl _) (lay_all (zeros5_length.trans HL5.out.symm)) (single_nums _) (by rw [HL5.out]; exact row_limbs) ?_; clear HM; intro w HM; simp only [List.set_cons_zero] at HM; replace HM := Lib.hid HM)))
  exact bodyPost_ret (Hold.results1 HM.out 0 rfl _ rfl rfl (by rw [HL5.out]; exact row_limbs)) rfl ⟨rfl, HM.out.below⟩
end Go.Proofs.YtolmfimpaofefaaGreatDoor.RefLimb
