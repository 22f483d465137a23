/-
  The document's Power, exponent and Root of layer 5 answer what the plain mathematics says, and leave all memory that was there as it was. Conditions: words below 2^64, a text that takes no more than the reach of the form.
-/
import Derived.Test.YtcglobpklhkebaaRSum
import Derived.Test.YtcglobpklhkebaaRefBit
import Derived.Test.YtcglobpklhkebaaLmbRoot
namespace Go.Proofs.Ytcglobpklhkebaa.RefLimb
open Go.RowKit Mur Lanes Limb Hold
set_option maxRecDepth 100000

theorem one5_lim : one5 = limL (1 % Prime.P) := by kernel_rfl
theorem one5_l : LimL one5 1 := LimL.ofFive (a := 1) (b := 0) (c := 0) (d := 0) (e := 0) (by unfold Words5; omega)
set_option maxHeartbeats 3200000 in
theorem powers_l {X : List Value} {N : Nat} (hX : LimL X N) (s : ByteArray) (hs : s.size ≤ 140737488351232) (w0 : World) :
    Calls Try.prog 33 #[.agg X.toArray, .string s] w0 fun r w' => r = .returned (.agg (limL (N ^ num (s.data.toList.take 64) % Prime.P)).toArray) ∧ Below w0.heap.size w0 w' := by
  have ra := fun u => carry_l hX u
  obtain ⟨A, hA, lA⟩ : ∃ A, A = limL (N % Prime.P) ∧ LimL A (N % Prime.P) := ⟨_, rfl, LimL.ofMod _⟩
  rw [← hA] at ra
  obtain ⟨E, hE⟩ : ∃ E, E = num (s.data.toList.take 64) := ⟨_, rfl⟩
  rw [← hE]
  have hsl : s.data.toList.length = s.size := rfl
  obtain ⟨K, hK⟩ : ∃ K, K = 8 * min s.size 64 := ⟨_, rfl⟩
  have hEK : E < 2 ^ K := by
    rw [hE, hK]
    refine Nat.lt_of_lt_of_le (num_lt _) (Nat.pow_le_pow_right (by decide) ?_)
    simp
    omega
  have hbit : ∀ i, i < K → bit s.data.toList (i : Int) = E / 2 ^ i % 2 := fun i hi => by
    rw [hE]
    exact bit_num _ _ (by rw [hsl, ← hK]; exact hi)
  have hKi : 8 * min (s.size : Int) 64 = (K : Int) := by omega
  have hK5 : K ≤ 512 := by omega
  have RA := Lib.hid ra
  have LA := Lib.hid lA
  have HA := Lib.hid (show A.length = 5 ∧ Single A from ⟨lA.len, lA.one⟩)
  have HO := Lib.hid (show one5.length = 5 ∧ Single one5 from ⟨one5_l.len, one5_l.one⟩)
  have FO := Lib.hid (show one5 = limL (N ^ (E / 2 ^ (K - 0)) % Prime.P) by rw [Nat.sub_zero, Nat.div_eq_of_lt hEK, Nat.pow_zero]; exact one5_lim)
  have HBIT := Lib.hid hbit
  have HKI := Lib.hid hKi
  have HS := Lib.hid hs
  have HX := Lib.hid (show X.length = 5 ∧ Single X from ⟨hX.len, hX.one⟩)
  have HM := Lib.hid (Hld.start w0)
  clear hA lA ra hX hE hK hEK hbit hKi hsl hs
  go_enter Try.func33, Try.ntmps33
  go_upto_region 1 with ((first
    | (with_reducible refine Hold.box (m := []) HM.out rfl rfl rfl ?_; clear HM; intro b0 w HM; simp only [List.nil_append] at HM; replace HM := Lib.hid HM)
    | (with_reducible refine Hold.alloc HM.out rfl rfl zeros5 zero_limbs5 ?_; clear HM; intro br w HM; simp only [List.nil_append, List.cons_append] at HM; replace HM := Lib.hid HM)))
  go_upto_region 2 with ((first
    | (with_reducible refine Hold.load HM.out 0 (cs := X) rfl rfl rfl rfl (Part.all _) (by rw [HX.out.1]; exact row_limbs) ?_)
    | (with_reducible refine (RA.out _).mono ?_; rintro e w ⟨rfl, hb⟩; replace HM := Lib.hid (HM.out.next hb); clear hb)
    | (with_reducible refine Hold.store HM.out 0 (v' := A) rfl rfl rfl rfl rfl (by rw [Nat.zero_add, HA.out.1, HX.out.1]; exact Nat.le_refl _) (lay_all (HX.out.1.trans HA.out.1.symm)) (HA.out.2) (by rw [HA.out.1]; exact row_limbs) ?_; clear HM; intro w HM; simp only [List.set_cons_zero] at HM; replace HM := Lib.hid HM)))
  go_upto_region 3 with ((first
    | (with_reducible refine Hold.build (cs := one5) rfl rfl (by simp [Act.eval]; exact built_one) ?_)
    | (with_reducible refine Hold.alloc HM.out rfl rfl zeros5 zero_limbs5 ?_; clear HM; intro bo w HM; simp only [List.nil_append, List.cons_append] at HM; replace HM := Lib.hid HM)
    | (with_reducible refine Hold.store HM.out 2 (v' := one5) rfl rfl rfl rfl rfl (by rw [Nat.zero_add, HO.out.1, zeros5_length]; exact Nat.le_refl _) (lay_all (zeros5_length.trans HO.out.1.symm)) (HO.out.2) (by rw [HO.out.1]; exact row_limbs) ?_; clear HM; intro w HM; simp only [List.set_cons_zero, List.set_cons_succ] at HM; replace HM := Lib.hid HM)))
  go_upto_region 4 with (fail)
  rw [HKI.out]
  go_wp2
  go_loopw [6] (fun i wr => ∃ k : Nat, k ≤ K ∧ i = .int .i64 ((K : Int) - 1 - (k : Int)) ∧ ∃ Y, Y = limL (N ^ (E / 2 ^ (K - k)) % Prime.P) ∧ Hld w0 [⟨b0, 24, A⟩, ⟨br, 24, zeros5⟩, ⟨bo, 24, Y⟩] wr) (fun i _ => (intOf i + 1).toNat)
  case atStart => exact ⟨0, by omega, by simp, one5, FO.out, HM.out⟩
  case round =>
    obtain ⟨k, hkK, rfl, Y, hYE, hm⟩ := hrel
    have hY : LimL Y (N ^ (E / 2 ^ (K - k)) % Prime.P) := by rw [hYE]; exact LimL.ofMod _
    clear HM RA HX HO FO
    have HM := Lib.hid hm
    have HY := Lib.hid (show Y.length = 5 ∧ Single Y from ⟨hY.len, hY.one⟩)
    by_cases hlk : k < K
    · have hd2 : decide ((0 : Int) ≤ (K : Int) - 1 - (k : Int)) = true := by simp; omega
      have hkk : (k : Int) < (K : Int) := by omega
      obtain ⟨q, hq⟩ : ∃ q, q = E / 2 ^ (K - k) := ⟨_, rfl⟩
      obtain ⟨m, hmm⟩ : ∃ m, m = E / 2 ^ (K - 1 - k) % 2 := ⟨_, rfl⟩
      have hm2 : m < 2 := by omega
      have hstep := half_step E K k hlk
      rw [← hq, ← hmm] at hstep
      rw [← hq] at hY
      have hb := HBIT.out (K - 1 - k) (by omega)
      rw [← hmm] at hb
      have rc := fun u => prod_l hY hY u
      rw [pow_two] at rc
      obtain ⟨C, hC, lC⟩ : ∃ C, C = limL (N ^ (2 * q) % Prime.P) ∧ LimL C (N ^ (2 * q) % Prime.P) := ⟨_, rfl, LimL.ofMod _⟩
      rw [← hC] at rc
      have rb : ∀ u, Calls Try.prog 63 #[.string s, .int .i64 ((K : Int) - 1 - (k : Int))] u fun e w' => e = .returned (.int .i64 (m : Int)) ∧ u = w' := fun u => by
        have := RefOne.bit_any s ((K - 1 - k : Nat) : Int) u (by omega) (by omega) HS.out
        rw [hb, show ((K - 1 - k : Nat) : Int) = (K : Int) - 1 - (k : Int) by omega] at this
        exact this
      have RB := Lib.hid rb
      have RC := Lib.hid rc
      have HC := Lib.hid (show C.length = 5 ∧ Single C from ⟨lC.len, lC.one⟩)
      by_cases h1 : m = 1
      · have rd := fun u => prod_l lC LA.out u
        rw [show N ^ (2 * q) % Prime.P * (N % Prime.P) % Prime.P = N ^ (2 * q + m) % Prime.P by rw [← Nat.mul_mod, h1, Nat.pow_succ]] at rd
        rw [← hstep] at rd
        obtain ⟨D, hD, lD⟩ : ∃ D, D = limL (N ^ (E / 2 ^ (K - (k + 1))) % Prime.P) ∧ LimL D (N ^ (E / 2 ^ (K - (k + 1))) % Prime.P) := ⟨_, rfl, LimL.ofMod _⟩
        rw [← hD] at rd
        have RD := Lib.hid rd
        have HD := Lib.hid (show D.length = 5 ∧ Single D from ⟨lD.len, lD.one⟩)
        have LD := Lib.hid hD
        have t1 : ((m : Int) == 1) = true := by rw [h1]; rfl
        clear hm hY hYE hq hmm hstep hb rc hC lC rb rd lD h1 hD
        go_upto_region 7 with ((first
          | (with_reducible refine Hold.load HM.out 2 (cs := Y) rfl rfl rfl rfl (Part.all _) (by rw [HY.out.1]; exact row_limbs) ?_)
          | (with_reducible refine (RC.out _).mono ?_; rintro e w ⟨rfl, hb⟩; replace HM := Lib.hid (HM.out.next hb); clear hb)
          | (with_reducible refine Hold.store HM.out 2 (v' := C) rfl rfl rfl rfl rfl (by rw [Nat.zero_add, HC.out.1, HY.out.1]; exact Nat.le_refl _) (lay_all (HY.out.1.trans HC.out.1.symm)) (HC.out.2) (by rw [HC.out.1]; exact row_limbs) ?_; clear HM; intro w HM; simp only [List.set_cons_zero, List.set_cons_succ] at HM; replace HM := Lib.hid HM)))
        go_upto_region 8 with ((first
          | (with_reducible refine (RB.out _).mono ?_; rintro e w ⟨rfl, rfl⟩)))
        go_upto_region 5 with ((first
          | (with_reducible refine Hold.load HM.out 2 (cs := C) rfl rfl rfl rfl (Part.all _) (by rw [HC.out.1]; exact row_limbs) ?_)
          | (with_reducible refine Hold.load HM.out 0 (cs := A) rfl rfl rfl rfl (Part.all _) (by rw [HA.out.1]; exact row_limbs) ?_)
          | (with_reducible refine (RD.out _).mono ?_; rintro e w ⟨rfl, hb⟩; replace HM := Lib.hid (HM.out.next hb); clear hb)
          | (with_reducible refine Hold.store HM.out 2 (v' := D) rfl rfl rfl rfl rfl (by rw [Nat.zero_add, HD.out.1, HC.out.1]; exact Nat.le_refl _) (lay_all (HC.out.1.trans HD.out.1.symm)) (HD.out.2) (by rw [HD.out.1]; exact row_limbs) ?_; clear HM; intro w HM; simp only [List.set_cons_zero, List.set_cons_succ] at HM; replace HM := Lib.hid HM)))
        go_wp2
        go_roundw
        case rel => exact ⟨k + 1, by omega, by go_num, D, LD.out, HM.out⟩
        case measure => simp [intOf]; omega
      · obtain rfl : m = 0 := by omega
        rw [Nat.add_zero] at hstep
        have LC := Lib.hid (show C = limL (N ^ (E / 2 ^ (K - (k + 1))) % Prime.P) by rw [hstep]; exact hC)
        have t1 : (((0 : Nat) : Int) == 1) = false := rfl
        clear hm hY hYE hq hmm hstep hb rc hC lC rb
        go_upto_region 7 with ((first
          | (with_reducible refine Hold.load HM.out 2 (cs := Y) rfl rfl rfl rfl (Part.all _) (by rw [HY.out.1]; exact row_limbs) ?_)
          | (with_reducible refine (RC.out _).mono ?_; rintro e w ⟨rfl, hb⟩; replace HM := Lib.hid (HM.out.next hb); clear hb)
          | (with_reducible refine Hold.store HM.out 2 (v' := C) rfl rfl rfl rfl rfl (by rw [Nat.zero_add, HC.out.1, HY.out.1]; exact Nat.le_refl _) (lay_all (HY.out.1.trans HC.out.1.symm)) (HC.out.2) (by rw [HC.out.1]; exact row_limbs) ?_; clear HM; intro w HM; simp only [List.set_cons_zero, List.set_cons_succ] at HM; replace HM := Lib.hid HM)))
        go_wp2_with ((first
          | (with_reducible refine (RB.out _).mono ?_; rintro e w ⟨rfl, rfl⟩)))
        go_roundw
        case rel => exact ⟨k + 1, by omega, by go_num, C, LC.out, HM.out⟩
        case measure => simp [intOf]; omega
    · have hd2 : decide ((0 : Int) ≤ (K : Int) - 1 - (k : Int)) = false := by simp; omega
      obtain rfl : k = K := by omega
      rw [Nat.sub_self, Nat.pow_zero, Nat.div_one] at hYE
      have HYE := Lib.hid hYE
      clear hm hY hYE
      go_wp2_with ((first
        | (with_reducible refine Hold.load HM.out 2 (cs := Y) rfl rfl rfl rfl (Part.all _) (by rw [HY.out.1]; exact row_limbs) ?_)
        | (with_reducible refine Hold.store HM.out 1 (v' := Y) rfl rfl rfl rfl rfl (by rw [Nat.zero_add, HY.out.1, zeros5_length]; exact Nat.le_refl _) (lay_all (zeros5_length.trans HY.out.1.symm)) (HY.out.2) (by rw [HY.out.1]; exact row_limbs) ?_; clear HM; intro w HM; simp only [List.set_cons_zero, List.set_cons_succ] at HM; replace HM := Lib.hid HM)))
      exact bodyPost_ret (Hold.results1 HM.out 1 rfl _ rfl rfl (by rw [HY.out.1]; exact row_limbs)) rfl ⟨by rw [HYE.out], HM.out.below⟩

/-- 32 bytes, all ones but the first and the last one. -/
def expoL (f l : UInt8) : List UInt8 := f :: (List.replicate 30 255 ++ [l])
def expoT (f l : UInt8) : ByteArray := ⟨(expoL f l).toArray⟩
def fillB (k : Nat) : List UInt8 := List.replicate k 255 ++ List.replicate (32 - k) 0
theorem fillB_length (k : Nat) (h : k ≤ 32) : (fillB k).length = 32 := by simp [fillB]; omega
theorem fillB_next (k : Nat) (h : k < 32) : (fillB k).set k 255 = fillB (k + 1) := by
  unfold fillB
  obtain ⟨j, hj⟩ : ∃ j, 32 - k = j + 1 := ⟨31 - k, by omega⟩
  rw [hj, show 32 - (k + 1) = j by omega, List.replicate_succ, List.set_append_right _ _ (by simp), List.length_replicate, Nat.sub_self, List.set_cons_zero, List.replicate_succ', List.append_assoc]
  rfl
theorem fill_expo (f l : UInt8) : ((fillB 32).set 0 f).set 31 l = expoL f l := by rfl
theorem cell_u8 : TyCell Try.prog 5 := ⟨_, Try.underlying5, rfl, by kernel_rfl⟩
theorem made_cells (n : Nat) : madeCells #[.int .u8 0] n = (bytesV (List.replicate n 0)).toArray := by
  refine Array.ext (by simp [madeCells, bytesV]) fun i h1 h2 => ?_
  simp [madeCells, bytesV, u8, Nat.mod_one]
theorem made_cells32 : madeCells #[.int .u8 0] 32 = (bytesV (fillB 0)).toArray := made_cells 32
set_option maxHeartbeats 3200000 in
theorem exponents_any (f l : UInt8) (w0 : World) :
    Calls Try.prog 61 #[.int .u8 (f.toNat : Int), .int .u8 (l.toNat : Int)] w0 fun r w' => r = .returned (.string (expoT f l)) ∧ Below w0.heap.size w0 w' := by
  have hmk : ∀ u : World, (Instr.makeSlice 53 (.int .i64 32) (.int .i64 32)).run Try.prog u = .ok (.slice (some ⟨u.heap.size, 0, none⟩) 32 32) (u.alloc (.cells (bytesV (fillB 0)).toArray 5)) := fun u => by
    have := make_u8 u 32 (by omega)
    rw [made_cells32] at this
    exact this
  have HM0 := Lib.hid ((Hld.start w0).add 5 (bytesV (fillB 0)))
  go_enter Try.func61, Try.ntmps61
  go_upto_region 2 with (fail)
  clear hmk
  have HM := Lib.hid (show Hld w0 [⟨w0.heap.size, 5, bytesV (fillB 0)⟩] _ from HM0.out)
  clear HM0
  generalize w0.alloc (.cells (bytesV (fillB 0)).toArray 5) = w at *
  generalize w0.heap.size = b at *
  go_wp2
  go_loopw [6, 10] (fun _ i wr => ∃ k : Nat, k ≤ 32 ∧ i = .int .i64 k ∧ Hld w0 [⟨b, 5, bytesV (fillB k)⟩] wr) (fun _ i _ => 32 - (intOf i).toNat)
  case atStart => exact ⟨0, by omega, rfl, HM.out⟩
  case round =>
    obtain ⟨k, hk, rfl, hm⟩ := hrel
    clear HM
    have HM := Lib.hid hm
    clear hm
    by_cases hlk : k < 32
    · have hd : decide ((k : Int) < 32) = true := by simp; omega
      have ik : (k : Int) < 32 := by omega
      have lk : k < (bytesV (fillB k)).length := by rw [bytesV_length, fillB_length k hk]; exact hlk
      have hs : (bytesV (fillB k)).set k (.int .u8 255) = bytesV (fillB (k + 1)) := by
        rw [← fillB_next k hlk]
        exact bytesV_set (fillB k) k 255
      have LK := Lib.hid lk
      have HS := Lib.hid hs
      clear lk hs
      go_wp2_with ((first
        | (with_reducible refine Hold.store1 HM.out 0 (c := .int .u8 255) (v' := bytesV (fillB (k + 1))) rfl rfl rfl rfl rfl (LK.out) (HS.out) (Hold.cell_int _ _) (cell_u8) ?_; clear HM; intro w HM; simp only [List.set_cons_zero] at HM; replace HM := Lib.hid HM)))
      go_roundw
      case rel => exact ⟨k + 1, by omega, by go_num, HM.out⟩
      case measure => simp [intOf]; omega
    · have hd : decide ((k : Int) < 32) = false := by simp; omega
      obtain rfl : k = 32 := by omega
      have h0 : (bytesV (fillB 32)).set 0 (.int .u8 (f.toNat : Int)) = bytesV ((fillB 32).set 0 f) := bytesV_set _ _ _
      have h1 : (bytesV ((fillB 32).set 0 f)).set 31 (.int .u8 (l.toNat : Int)) = bytesV (expoL f l) := by rw [bytesV_set, fill_expo]
      have l0 : 0 < (bytesV (fillB 32)).length := by rw [bytesV_length, fillB_length 32 (by decide)]; decide
      have l1 : 31 < (bytesV ((fillB 32).set 0 f)).length := by rw [bytesV_length, List.length_set, fillB_length 32 (by decide)]; decide
      have H0 := Lib.hid h0
      have H1 := Lib.hid h1
      have L0 := Lib.hid l0
      have L1 := Lib.hid l1
      clear h0 h1 l0 l1
      go_upto_region 8 with ((first
        | (with_reducible refine Hold.store1 HM.out 0 (c := .int .u8 (f.toNat : Int)) (v' := bytesV ((fillB 32).set 0 f)) rfl rfl rfl rfl rfl (L0.out) (H0.out) (Hold.cell_int _ _) (cell_u8) ?_; clear HM; intro w HM; simp only [List.set_cons_zero] at HM; replace HM := Lib.hid HM)
        | (with_reducible refine Hold.store1 HM.out 0 (c := .int .u8 (l.toNat : Int)) (v' := bytesV (expoL f l)) rfl rfl rfl rfl rfl (L1.out) (H1.out) (Hold.cell_int _ _) (cell_u8) ?_; clear HM; intro w HM; simp only [List.set_cons_zero] at HM; replace HM := Lib.hid HM)))
      have hback := string_row (P := Try.prog) (HM.out.at 0 rfl).row 53 5 9 Try.underlying53 Try.underlying5 Try.underlying9 32 32 rfl
      go_wp2
      go_ret
      exact ⟨rfl, HM.out.below⟩
end Go.Proofs.Ytcglobpklhkebaa.RefLimb
