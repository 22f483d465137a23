/-
  exchanged of package ladder answers the two pairs, exchanged where the bit is odd, and leaves all memory that was there as it was. Conditions: limbs of words, a bit that is no less than 0.
-/
import Derived.Test.YtcglobpklhkebaaLimL
import Derived.Test.YtcglobpklhkebaaLad
namespace Go.Proofs.Ytcglobpklhkebaa.LadC
open Go.RowKit Mur Lanes Limb Hold
set_option maxRecDepth 100000

theorem row_pair : TyRow Try.prog 72 10 := ⟨_, Try.underlying72, rfl, by kernel_rfl⟩
def zeros10 : List Value := [.int .u64 0, .int .u64 0, .int .u64 0, .int .u64 0, .int .u64 0, .int .u64 0, .int .u64 0, .int .u64 0, .int .u64 0, .int .u64 0]
theorem zero_pair : (Try.prog.info? 72).map (fun i => (i.zero, i.size)) = some (some (.agg zeros10.toArray), zeros10.length) := by kernel_rfl

set_option maxHeartbeats 1600000 in
theorem exchanged_any {X Z X' Z' : List Value} {N1 N2 N3 N4 n : Nat} (h1 : LimL X N1) (h2 : LimL Z N2) (h3 : LimL X' N3) (h4 : LimL Z' N4) (hn : n < 9223372036854775808) (w : World) :
    Calls Try.prog 67 #[.agg (X ++ Z).toArray, .agg (X' ++ Z').toArray, .int .i64 n] w fun r w' => r = .returned (.tuple #[.agg (if n % 2 = 1 then X' ++ Z' else X ++ Z).toArray, .agg (if n % 2 = 1 then X ++ Z else X' ++ Z').toArray]) ∧ Below w.heap.size w w' := by
  obtain ⟨A, hA⟩ : ∃ A, A = if n % 2 = 1 then X' else X := ⟨_, rfl⟩
  obtain ⟨B, hB⟩ : ∃ A, A = if n % 2 = 1 then X else X' := ⟨_, rfl⟩
  obtain ⟨C, hC⟩ : ∃ A, A = if n % 2 = 1 then Z' else Z := ⟨_, rfl⟩
  obtain ⟨D, hD⟩ : ∃ A, A = if n % 2 = 1 then Z else Z' := ⟨_, rfl⟩
  have e1 : (if n % 2 = 1 then X' ++ Z' else X ++ Z) = A ++ C := by rw [hA, hC]; split <;> rfl
  have e2 : (if n % 2 = 1 then X ++ Z else X' ++ Z') = B ++ D := by rw [hB, hD]; split <;> rfl
  have r1 := fun u => swap_l h1 h3 hn u
  have r2 := fun u => swap_l h2 h4 hn u
  rw [← hA, ← hB] at r1
  rw [← hC, ← hD] at r2
  rw [e1, e2]
  have a5 : A.length = 5 ∧ Single A := by rw [hA]; split; exact ⟨h3.len, h3.one⟩; exact ⟨h1.len, h1.one⟩
  have b5 : B.length = 5 ∧ Single B := by rw [hB]; split; exact ⟨h1.len, h1.one⟩; exact ⟨h3.len, h3.one⟩
  have c5 : C.length = 5 ∧ Single C := by rw [hC]; split; exact ⟨h4.len, h4.one⟩; exact ⟨h2.len, h2.one⟩
  have d5 : D.length = 5 ∧ Single D := by rw [hD]; split; exact ⟨h2.len, h2.one⟩; exact ⟨h4.len, h4.one⟩
  have x5 := h1.len
  have z5 := h2.len
  have x5' := h3.len
  have z5' := h4.len
  have R1 := Lib.hid r1
  have R2 := Lib.hid r2
  have HA5 := Lib.hid a5
  have HB5 := Lib.hid b5
  have HC5 := Lib.hid c5
  have HD5 := Lib.hid d5
  have HX := Lib.hid x5
  have HZ := Lib.hid z5
  have HX' := Lib.hid x5'
  have HZ' := Lib.hid z5'
  have HM := Lib.hid (Hld.start w)
  clear hA hB hC hD e1 e2 r1 r2 a5 b5 c5 d5 h1 h2 h3 h4 x5 z5 x5' z5'
  go_enter Try.func67, Try.ntmps67
  go_upto_region 1 with ((first
    | (with_reducible refine Hold.box HM.out rfl rfl rfl ?_; clear HM; intro b w HM; simp only [List.nil_append, List.cons_append] at HM; replace HM := Lib.hid HM)
    | (with_reducible refine Hold.alloc HM.out rfl rfl zeros10 zero_pair ?_; clear HM; intro b w HM; simp only [List.nil_append, List.cons_append] at HM; replace HM := Lib.hid HM)))
  go_upto_region 2 with ((first
    | (with_reducible refine (R1.out _).mono ?_; rintro e w ⟨rfl, hb⟩; replace HM := Lib.hid (HM.out.next hb); clear hb)
    | (with_reducible refine Hold.load HM.out 0 (cs := X) rfl rfl rfl rfl (Part.left X Z) (by rw [HX.out]; exact row_limbs) ?_)
    | (with_reducible refine Hold.load HM.out 1 (cs := X') rfl rfl rfl rfl (Part.left X' Z') (by rw [HX'.out]; exact row_limbs) ?_)
    | (with_reducible refine Hold.store HM.out 0 (v' := A ++ Z) rfl rfl rfl rfl rfl (by simp [HX.out, HA5.out.1]) (lay_left (HX.out.trans HA5.out.1.symm)) HA5.out.2 (by rw [HA5.out.1]; exact row_limbs) ?_; clear HM; intro w HM; simp only [List.set_cons_zero] at HM; replace HM := Lib.hid HM)
    | (with_reducible refine Hold.store HM.out 1 (v' := B ++ Z') rfl rfl rfl rfl rfl (by simp [HX'.out, HB5.out.1]) (lay_left (HX'.out.trans HB5.out.1.symm)) HB5.out.2 (by rw [HB5.out.1]; exact row_limbs) ?_; clear HM; intro w HM; simp only [List.set_cons_zero, List.set_cons_succ] at HM; replace HM := Lib.hid HM)))
  go_upto_region 3 with ((first
    | (with_reducible refine (R2.out _).mono ?_; rintro e w ⟨rfl, hb⟩; replace HM := Lib.hid (HM.out.next hb); clear hb)
    | (with_reducible refine Hold.load HM.out 0 (cs := Z) rfl rfl rfl rfl (Part.right HA5.out.1) (by rw [HZ.out]; exact row_limbs) ?_)
    | (with_reducible refine Hold.load HM.out 1 (cs := Z') rfl rfl rfl rfl (Part.right HB5.out.1) (by rw [HZ'.out]; exact row_limbs) ?_)
    | (with_reducible refine Hold.store HM.out 0 (v' := A ++ C) rfl rfl rfl rfl rfl (by simp [HZ.out, HA5.out.1, HC5.out.1]) (lay_right HA5.out.1 (HZ.out.trans HC5.out.1.symm)) HC5.out.2 (by rw [HC5.out.1]; exact row_limbs) ?_; clear HM; intro w HM; simp only [List.set_cons_zero] at HM; replace HM := Lib.hid HM)
    | (with_reducible refine Hold.store HM.out 1 (v' := B ++ D) rfl rfl rfl rfl rfl (by simp [HZ'.out, HB5.out.1, HD5.out.1]) (lay_right HB5.out.1 (HZ'.out.trans HD5.out.1.symm)) HD5.out.2 (by rw [HD5.out.1]; exact row_limbs) ?_; clear HM; intro w HM; simp only [List.set_cons_zero, List.set_cons_succ] at HM; replace HM := Lib.hid HM)))
  have hAC : (A ++ C).length = 10 := by simp [HA5.out.1, HC5.out.1]
  have hBD : (B ++ D).length = 10 := by simp [HB5.out.1, HD5.out.1]
  have HAC := Lib.hid hAC
  have HBD := Lib.hid hBD
  clear hAC hBD
  refine Hold.pair_end (k0 := 0) (k1 := 1) (k2 := 2) (k3 := 3) HM.out (by kernel_rfl) (by kernel_rfl) (by kernel_rfl) (by kernel_rfl) (by kernel_rfl) (by kernel_rfl) (by kernel_rfl) (by kernel_rfl) rfl rfl rfl rfl rfl rfl rfl rfl rfl rfl rfl rfl rfl rfl rfl rfl (by decide) (by simp [Act.put]) (by simp [Act.put]) rfl rfl rfl rfl (by decide)
    (by rw [HAC.out]; exact row_pair) (by rw [HBD.out]; exact row_pair) (by rw [HAC.out]; exact row_pair) (by rw [HBD.out]; exact row_pair) (by rw [HAC.out]; rfl) (by rw [HBD.out]; rfl) (HA5.out.2.append HC5.out.2) (HB5.out.2.append HD5.out.2) ?_
  clear HM
  intro w HM
  simp only [List.set_cons_zero, List.set_cons_succ] at HM
  replace HM := Lib.hid HM
  go_wp2
  exact bodyPost_ret (Hold.results2 HM.out 2 3 rfl _ rfl rfl rfl rfl (by rw [HAC.out]; exact row_pair) (by rw [HBD.out]; exact row_pair)) rfl ⟨rfl, HM.out.below⟩
end Go.Proofs.Ytcglobpklhkebaa.LadC
