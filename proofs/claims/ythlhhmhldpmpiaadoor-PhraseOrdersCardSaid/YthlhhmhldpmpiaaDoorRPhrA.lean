/-
  What may be said, what stands first in a text and small letters, as the document's answer has them: what is answered is what the plain mathematics of the text Phr says; the world stays as it was. Conditions: that numbers fit.
-/
import Derived.Test.YthlhhmhldpmpiaaDoorChecked
import Derived.Test.YthlhhmhldpmpiaaDoorPhrD
import Derived.Lib.Hide
import Derived.BigQuiet
namespace Go.Proofs.YthlhhmhldpmpiaaDoor.RPhr
open Go.RowKit Mur Phr
set_option maxRecDepth 100000

set_option maxHeartbeats 3200000 in
theorem may_any (c : Nat) (w : World) (B : Bool) (hB : may c = B) :
    Calls Tryd.prog 59 #[.int .i32 (c : Int)] w fun e w' => e = .returned (.bool B) ∧ w' = w := by
  by_cases h31 : c ≤ 31
  · have hlo : 0 ≤ c := by omega
    have g32 : decide (32 ≤ (c : Int)) = false := decide_eq_false (by omega)
    have l126 : decide ((c : Int) ≤ 126) = true := decide_eq_true (by omega)
    have g161 : decide (161 ≤ (c : Int)) = false := decide_eq_false (by omega)
    have l591 : decide ((c : Int) ≤ 591) = true := decide_eq_true (by omega)
    have g913 : decide (913 ≤ (c : Int)) = false := decide_eq_false (by omega)
    have l969 : decide ((c : Int) ≤ 969) = true := decide_eq_true (by omega)
    have g1040 : decide (1040 ≤ (c : Int)) = false := decide_eq_false (by omega)
    have l1103 : decide ((c : Int) ≤ 1103) = true := decide_eq_true (by omega)
    have e173 : ((c : Int) != 173) = true := by simp; omega
    have e930 : ((c : Int) != 930) = true := by simp; omega
    obtain rfl : B = false := by rw [← hB, ← Bool.not_eq_true, may_iff]; omega
    clear hB
    clear hlo h31
    go_enter Tryd.func59, Tryd.ntmps59
    go_wp2
    go_ret
    exact ⟨rfl, rfl⟩
  by_cases h126 : c ≤ 126
  · have hlo : 32 ≤ c := by omega
    have g32 : decide (32 ≤ (c : Int)) = true := decide_eq_true (by omega)
    have l126 : decide ((c : Int) ≤ 126) = true := decide_eq_true (by omega)
    have g161 : decide (161 ≤ (c : Int)) = false := decide_eq_false (by omega)
    have l591 : decide ((c : Int) ≤ 591) = true := decide_eq_true (by omega)
    have g913 : decide (913 ≤ (c : Int)) = false := decide_eq_false (by omega)
    have l969 : decide ((c : Int) ≤ 969) = true := decide_eq_true (by omega)
    have g1040 : decide (1040 ≤ (c : Int)) = false := decide_eq_false (by omega)
    have l1103 : decide ((c : Int) ≤ 1103) = true := decide_eq_true (by omega)
    have e173 : ((c : Int) != 173) = true := by simp; omega
    have e930 : ((c : Int) != 930) = true := by simp; omega
    obtain rfl : B = true := by rw [← hB, may_iff]; omega
    clear hB
    clear hlo h31 h126
    go_enter Tryd.func59, Tryd.ntmps59
    go_wp2
    go_ret
    exact ⟨rfl, rfl⟩
  by_cases h160 : c ≤ 160
  · have hlo : 127 ≤ c := by omega
    have g32 : decide (32 ≤ (c : Int)) = true := decide_eq_true (by omega)
    have l126 : decide ((c : Int) ≤ 126) = false := decide_eq_false (by omega)
    have g161 : decide (161 ≤ (c : Int)) = false := decide_eq_false (by omega)
    have l591 : decide ((c : Int) ≤ 591) = true := decide_eq_true (by omega)
    have g913 : decide (913 ≤ (c : Int)) = false := decide_eq_false (by omega)
    have l969 : decide ((c : Int) ≤ 969) = true := decide_eq_true (by omega)
    have g1040 : decide (1040 ≤ (c : Int)) = false := decide_eq_false (by omega)
    have l1103 : decide ((c : Int) ≤ 1103) = true := decide_eq_true (by omega)
    have e173 : ((c : Int) != 173) = true := by simp; omega
    have e930 : ((c : Int) != 930) = true := by simp; omega
    obtain rfl : B = false := by rw [← hB, ← Bool.not_eq_true, may_iff]; omega
    clear hB
    clear hlo h31 h126 h160
    go_enter Tryd.func59, Tryd.ntmps59
    go_wp2
    go_ret
    exact ⟨rfl, rfl⟩
  by_cases h172 : c ≤ 172
  · have hlo : 161 ≤ c := by omega
    have g32 : decide (32 ≤ (c : Int)) = true := decide_eq_true (by omega)
    have l126 : decide ((c : Int) ≤ 126) = false := decide_eq_false (by omega)
    have g161 : decide (161 ≤ (c : Int)) = true := decide_eq_true (by omega)
    have l591 : decide ((c : Int) ≤ 591) = true := decide_eq_true (by omega)
    have g913 : decide (913 ≤ (c : Int)) = false := decide_eq_false (by omega)
    have l969 : decide ((c : Int) ≤ 969) = true := decide_eq_true (by omega)
    have g1040 : decide (1040 ≤ (c : Int)) = false := decide_eq_false (by omega)
    have l1103 : decide ((c : Int) ≤ 1103) = true := decide_eq_true (by omega)
    have e173 : ((c : Int) != 173) = true := by simp; omega
    have e930 : ((c : Int) != 930) = true := by simp; omega
    obtain rfl : B = true := by rw [← hB, may_iff]; omega
    clear hB
    clear hlo h31 h126 h160 h172
    go_enter Tryd.func59, Tryd.ntmps59
    go_wp2
    go_ret
    exact ⟨rfl, rfl⟩
  by_cases h173 : c ≤ 173
  · have hlo : 173 ≤ c := by omega
    obtain rfl : c = 173 := by omega
    obtain rfl : B = false := hB.symm
    clear hB
    clear hlo h31 h126 h160 h172 h173
    go_enter Tryd.func59, Tryd.ntmps59
    go_wp2
    go_ret
    exact ⟨rfl, rfl⟩
  by_cases h591 : c ≤ 591
  · have hlo : 174 ≤ c := by omega
    have g32 : decide (32 ≤ (c : Int)) = true := decide_eq_true (by omega)
    have l126 : decide ((c : Int) ≤ 126) = false := decide_eq_false (by omega)
    have g161 : decide (161 ≤ (c : Int)) = true := decide_eq_true (by omega)
    have l591 : decide ((c : Int) ≤ 591) = true := decide_eq_true (by omega)
    have g913 : decide (913 ≤ (c : Int)) = false := decide_eq_false (by omega)
    have l969 : decide ((c : Int) ≤ 969) = true := decide_eq_true (by omega)
    have g1040 : decide (1040 ≤ (c : Int)) = false := decide_eq_false (by omega)
    have l1103 : decide ((c : Int) ≤ 1103) = true := decide_eq_true (by omega)
    have e173 : ((c : Int) != 173) = true := by simp; omega
    have e930 : ((c : Int) != 930) = true := by simp; omega
    obtain rfl : B = true := by rw [← hB, may_iff]; omega
    clear hB
    clear hlo h31 h126 h160 h172 h173 h591
    go_enter Tryd.func59, Tryd.ntmps59
    go_wp2
    go_ret
    exact ⟨rfl, rfl⟩
  by_cases h912 : c ≤ 912
  · have hlo : 592 ≤ c := by omega
    have g32 : decide (32 ≤ (c : Int)) = true := decide_eq_true (by omega)
    have l126 : decide ((c : Int) ≤ 126) = false := decide_eq_false (by omega)
    have g161 : decide (161 ≤ (c : Int)) = true := decide_eq_true (by omega)
    have l591 : decide ((c : Int) ≤ 591) = false := decide_eq_false (by omega)
    have g913 : decide (913 ≤ (c : Int)) = false := decide_eq_false (by omega)
    have l969 : decide ((c : Int) ≤ 969) = true := decide_eq_true (by omega)
    have g1040 : decide (1040 ≤ (c : Int)) = false := decide_eq_false (by omega)
    have l1103 : decide ((c : Int) ≤ 1103) = true := decide_eq_true (by omega)
    have e173 : ((c : Int) != 173) = true := by simp; omega
    have e930 : ((c : Int) != 930) = true := by simp; omega
    obtain rfl : B = false := by rw [← hB, ← Bool.not_eq_true, may_iff]; omega
    clear hB
    clear hlo h31 h126 h160 h172 h173 h591 h912
    go_enter Tryd.func59, Tryd.ntmps59
    go_wp2
    go_ret
    exact ⟨rfl, rfl⟩
  by_cases h929 : c ≤ 929
  · have hlo : 913 ≤ c := by omega
    have g32 : decide (32 ≤ (c : Int)) = true := decide_eq_true (by omega)
    have l126 : decide ((c : Int) ≤ 126) = false := decide_eq_false (by omega)
    have g161 : decide (161 ≤ (c : Int)) = true := decide_eq_true (by omega)
    have l591 : decide ((c : Int) ≤ 591) = false := decide_eq_false (by omega)
    have g913 : decide (913 ≤ (c : Int)) = true := decide_eq_true (by omega)
    have l969 : decide ((c : Int) ≤ 969) = true := decide_eq_true (by omega)
    have g1040 : decide (1040 ≤ (c : Int)) = false := decide_eq_false (by omega)
    have l1103 : decide ((c : Int) ≤ 1103) = true := decide_eq_true (by omega)
    have e173 : ((c : Int) != 173) = true := by simp; omega
    have e930 : ((c : Int) != 930) = true := by simp; omega
    obtain rfl : B = true := by rw [← hB, may_iff]; omega
    clear hB
    clear hlo h31 h126 h160 h172 h173 h591 h912 h929
    go_enter Tryd.func59, Tryd.ntmps59
    go_wp2
    go_ret
    exact ⟨rfl, rfl⟩
  by_cases h930 : c ≤ 930
  · have hlo : 930 ≤ c := by omega
    obtain rfl : c = 930 := by omega
    obtain rfl : B = false := hB.symm
    clear hB
    clear hlo h31 h126 h160 h172 h173 h591 h912 h929 h930
    go_enter Tryd.func59, Tryd.ntmps59
    go_wp2
    go_ret
    exact ⟨rfl, rfl⟩
  by_cases h969 : c ≤ 969
  · have hlo : 931 ≤ c := by omega
    have g32 : decide (32 ≤ (c : Int)) = true := decide_eq_true (by omega)
    have l126 : decide ((c : Int) ≤ 126) = false := decide_eq_false (by omega)
    have g161 : decide (161 ≤ (c : Int)) = true := decide_eq_true (by omega)
    have l591 : decide ((c : Int) ≤ 591) = false := decide_eq_false (by omega)
    have g913 : decide (913 ≤ (c : Int)) = true := decide_eq_true (by omega)
    have l969 : decide ((c : Int) ≤ 969) = true := decide_eq_true (by omega)
    have g1040 : decide (1040 ≤ (c : Int)) = false := decide_eq_false (by omega)
    have l1103 : decide ((c : Int) ≤ 1103) = true := decide_eq_true (by omega)
    have e173 : ((c : Int) != 173) = true := by simp; omega
    have e930 : ((c : Int) != 930) = true := by simp; omega
    obtain rfl : B = true := by rw [← hB, may_iff]; omega
    clear hB
    clear hlo h31 h126 h160 h172 h173 h591 h912 h929 h930 h969
    go_enter Tryd.func59, Tryd.ntmps59
    go_wp2
    go_ret
    exact ⟨rfl, rfl⟩
  by_cases h1039 : c ≤ 1039
  · have hlo : 970 ≤ c := by omega
    have g32 : decide (32 ≤ (c : Int)) = true := decide_eq_true (by omega)
    have l126 : decide ((c : Int) ≤ 126) = false := decide_eq_false (by omega)
    have g161 : decide (161 ≤ (c : Int)) = true := decide_eq_true (by omega)
    have l591 : decide ((c : Int) ≤ 591) = false := decide_eq_false (by omega)
    have g913 : decide (913 ≤ (c : Int)) = true := decide_eq_true (by omega)
    have l969 : decide ((c : Int) ≤ 969) = false := decide_eq_false (by omega)
    have g1040 : decide (1040 ≤ (c : Int)) = false := decide_eq_false (by omega)
    have l1103 : decide ((c : Int) ≤ 1103) = true := decide_eq_true (by omega)
    have e173 : ((c : Int) != 173) = true := by simp; omega
    have e930 : ((c : Int) != 930) = true := by simp; omega
    obtain rfl : B = false := by rw [← hB, ← Bool.not_eq_true, may_iff]; omega
    clear hB
    clear hlo h31 h126 h160 h172 h173 h591 h912 h929 h930 h969 h1039
    go_enter Tryd.func59, Tryd.ntmps59
    go_wp2
    go_ret
    exact ⟨rfl, rfl⟩
  by_cases h1103 : c ≤ 1103
  · have hlo : 1040 ≤ c := by omega
    have g32 : decide (32 ≤ (c : Int)) = true := decide_eq_true (by omega)
    have l126 : decide ((c : Int) ≤ 126) = false := decide_eq_false (by omega)
    have g161 : decide (161 ≤ (c : Int)) = true := decide_eq_true (by omega)
    have l591 : decide ((c : Int) ≤ 591) = false := decide_eq_false (by omega)
    have g913 : decide (913 ≤ (c : Int)) = true := decide_eq_true (by omega)
    have l969 : decide ((c : Int) ≤ 969) = false := decide_eq_false (by omega)
    have g1040 : decide (1040 ≤ (c : Int)) = true := decide_eq_true (by omega)
    have l1103 : decide ((c : Int) ≤ 1103) = true := decide_eq_true (by omega)
    have e173 : ((c : Int) != 173) = true := by simp; omega
    have e930 : ((c : Int) != 930) = true := by simp; omega
    obtain rfl : B = true := by rw [← hB, may_iff]; omega
    clear hB
    clear hlo h31 h126 h160 h172 h173 h591 h912 h929 h930 h969 h1039 h1103
    go_enter Tryd.func59, Tryd.ntmps59
    go_wp2
    go_ret
    exact ⟨rfl, rfl⟩
  have hlo : 1104 ≤ c := by omega
  have g32 : decide (32 ≤ (c : Int)) = true := decide_eq_true (by omega)
  have l126 : decide ((c : Int) ≤ 126) = false := decide_eq_false (by omega)
  have g161 : decide (161 ≤ (c : Int)) = true := decide_eq_true (by omega)
  have l591 : decide ((c : Int) ≤ 591) = false := decide_eq_false (by omega)
  have g913 : decide (913 ≤ (c : Int)) = true := decide_eq_true (by omega)
  have l969 : decide ((c : Int) ≤ 969) = false := decide_eq_false (by omega)
  have g1040 : decide (1040 ≤ (c : Int)) = true := decide_eq_true (by omega)
  have l1103 : decide ((c : Int) ≤ 1103) = false := decide_eq_false (by omega)
  have e173 : ((c : Int) != 173) = true := by simp; omega
  have e930 : ((c : Int) != 930) = true := by simp; omega
  obtain rfl : B = false := by rw [← hB, ← Bool.not_eq_true, may_iff]; omega
  clear hB
  clear hlo h31 h126 h160 h172 h173 h591 h912 h929 h930 h969 h1039 h1103
  go_enter Tryd.func59, Tryd.ntmps59
  go_wp2
  go_ret
  exact ⟨rfl, rfl⟩

set_option maxHeartbeats 3200000 in
theorem small_any (c S : Nat) (w : World) (hS : S = small c) (hc : c < 0x800) :
    Calls Tryd.prog 47 #[.int .i32 (c : Int)] w fun e w' => e = .returned (.int .i32 (S : Int)) ∧ w' = w := by
  by_cases h64 : c ≤ 64
  · have hlo : 0 ≤ c := by omega
    have g65 : decide (65 ≤ (c : Int)) = false := decide_eq_false (by omega)
    have l90 : decide ((c : Int) ≤ 90) = true := decide_eq_true (by omega)
    have g192 : decide (192 ≤ (c : Int)) = false := decide_eq_false (by omega)
    have l222 : decide ((c : Int) ≤ 222) = true := decide_eq_true (by omega)
    have g913 : decide (913 ≤ (c : Int)) = false := decide_eq_false (by omega)
    have l937 : decide ((c : Int) ≤ 937) = true := decide_eq_true (by omega)
    have g1040 : decide (1040 ≤ (c : Int)) = false := decide_eq_false (by omega)
    have l1071 : decide ((c : Int) ≤ 1071) = true := decide_eq_true (by omega)
    have e215 : ((c : Int) != 215) = true := by simp; omega
    obtain rfl : S = c := by rw [hS, small]; split <;> omega
    clear hS
    clear hlo h64
    go_enter Tryd.func47, Tryd.ntmps47
    go_wp2
    go_ret
    exact ⟨rfl, rfl⟩
  by_cases h90 : c ≤ 90
  · have hlo : 65 ≤ c := by omega
    have g65 : decide (65 ≤ (c : Int)) = true := decide_eq_true (by omega)
    have l90 : decide ((c : Int) ≤ 90) = true := decide_eq_true (by omega)
    have g192 : decide (192 ≤ (c : Int)) = false := decide_eq_false (by omega)
    have l222 : decide ((c : Int) ≤ 222) = true := decide_eq_true (by omega)
    have g913 : decide (913 ≤ (c : Int)) = false := decide_eq_false (by omega)
    have l937 : decide ((c : Int) ≤ 937) = true := decide_eq_true (by omega)
    have g1040 : decide (1040 ≤ (c : Int)) = false := decide_eq_false (by omega)
    have l1071 : decide ((c : Int) ≤ 1071) = true := decide_eq_true (by omega)
    have e215 : ((c : Int) != 215) = true := by simp; omega
    obtain rfl : S = c + 32 := by rw [hS, small]; split <;> omega
    clear hS
    clear hlo h64 h90
    go_enter Tryd.func47, Tryd.ntmps47
    go_wp2
    go_ret
    exact ⟨rfl, rfl⟩
  by_cases h191 : c ≤ 191
  · have hlo : 91 ≤ c := by omega
    have g65 : decide (65 ≤ (c : Int)) = true := decide_eq_true (by omega)
    have l90 : decide ((c : Int) ≤ 90) = false := decide_eq_false (by omega)
    have g192 : decide (192 ≤ (c : Int)) = false := decide_eq_false (by omega)
    have l222 : decide ((c : Int) ≤ 222) = true := decide_eq_true (by omega)
    have g913 : decide (913 ≤ (c : Int)) = false := decide_eq_false (by omega)
    have l937 : decide ((c : Int) ≤ 937) = true := decide_eq_true (by omega)
    have g1040 : decide (1040 ≤ (c : Int)) = false := decide_eq_false (by omega)
    have l1071 : decide ((c : Int) ≤ 1071) = true := decide_eq_true (by omega)
    have e215 : ((c : Int) != 215) = true := by simp; omega
    obtain rfl : S = c := by rw [hS, small]; split <;> omega
    clear hS
    clear hlo h64 h90 h191
    go_enter Tryd.func47, Tryd.ntmps47
    go_wp2
    go_ret
    exact ⟨rfl, rfl⟩
  by_cases h214 : c ≤ 214
  · have hlo : 192 ≤ c := by omega
    have g65 : decide (65 ≤ (c : Int)) = true := decide_eq_true (by omega)
    have l90 : decide ((c : Int) ≤ 90) = false := decide_eq_false (by omega)
    have g192 : decide (192 ≤ (c : Int)) = true := decide_eq_true (by omega)
    have l222 : decide ((c : Int) ≤ 222) = true := decide_eq_true (by omega)
    have g913 : decide (913 ≤ (c : Int)) = false := decide_eq_false (by omega)
    have l937 : decide ((c : Int) ≤ 937) = true := decide_eq_true (by omega)
    have g1040 : decide (1040 ≤ (c : Int)) = false := decide_eq_false (by omega)
    have l1071 : decide ((c : Int) ≤ 1071) = true := decide_eq_true (by omega)
    have e215 : ((c : Int) != 215) = true := by simp; omega
    obtain rfl : S = c + 32 := by rw [hS, small]; split <;> omega
    clear hS
    clear hlo h64 h90 h191 h214
    go_enter Tryd.func47, Tryd.ntmps47
    go_wp2
    go_ret
    exact ⟨rfl, rfl⟩
  by_cases h215 : c ≤ 215
  · have hlo : 215 ≤ c := by omega
    obtain rfl : c = 215 := by omega
    obtain rfl : S = 215 := hS.trans rfl
    clear hS
    clear hlo h64 h90 h191 h214 h215
    go_enter Tryd.func47, Tryd.ntmps47
    go_wp2
    go_ret
    exact ⟨rfl, rfl⟩
  by_cases h222 : c ≤ 222
  · have hlo : 216 ≤ c := by omega
    have g65 : decide (65 ≤ (c : Int)) = true := decide_eq_true (by omega)
    have l90 : decide ((c : Int) ≤ 90) = false := decide_eq_false (by omega)
    have g192 : decide (192 ≤ (c : Int)) = true := decide_eq_true (by omega)
    have l222 : decide ((c : Int) ≤ 222) = true := decide_eq_true (by omega)
    have g913 : decide (913 ≤ (c : Int)) = false := decide_eq_false (by omega)
    have l937 : decide ((c : Int) ≤ 937) = true := decide_eq_true (by omega)
    have g1040 : decide (1040 ≤ (c : Int)) = false := decide_eq_false (by omega)
    have l1071 : decide ((c : Int) ≤ 1071) = true := decide_eq_true (by omega)
    have e215 : ((c : Int) != 215) = true := by simp; omega
    obtain rfl : S = c + 32 := by rw [hS, small]; split <;> omega
    clear hS
    clear hlo h64 h90 h191 h214 h215 h222
    go_enter Tryd.func47, Tryd.ntmps47
    go_wp2
    go_ret
    exact ⟨rfl, rfl⟩
  by_cases h912 : c ≤ 912
  · have hlo : 223 ≤ c := by omega
    have g65 : decide (65 ≤ (c : Int)) = true := decide_eq_true (by omega)
    have l90 : decide ((c : Int) ≤ 90) = false := decide_eq_false (by omega)
    have g192 : decide (192 ≤ (c : Int)) = true := decide_eq_true (by omega)
    have l222 : decide ((c : Int) ≤ 222) = false := decide_eq_false (by omega)
    have g913 : decide (913 ≤ (c : Int)) = false := decide_eq_false (by omega)
    have l937 : decide ((c : Int) ≤ 937) = true := decide_eq_true (by omega)
    have g1040 : decide (1040 ≤ (c : Int)) = false := decide_eq_false (by omega)
    have l1071 : decide ((c : Int) ≤ 1071) = true := decide_eq_true (by omega)
    have e215 : ((c : Int) != 215) = true := by simp; omega
    obtain rfl : S = c := by rw [hS, small]; split <;> omega
    clear hS
    clear hlo h64 h90 h191 h214 h215 h222 h912
    go_enter Tryd.func47, Tryd.ntmps47
    go_wp2
    go_ret
    exact ⟨rfl, rfl⟩
  by_cases h937 : c ≤ 937
  · have hlo : 913 ≤ c := by omega
    have g65 : decide (65 ≤ (c : Int)) = true := decide_eq_true (by omega)
    have l90 : decide ((c : Int) ≤ 90) = false := decide_eq_false (by omega)
    have g192 : decide (192 ≤ (c : Int)) = true := decide_eq_true (by omega)
    have l222 : decide ((c : Int) ≤ 222) = false := decide_eq_false (by omega)
    have g913 : decide (913 ≤ (c : Int)) = true := decide_eq_true (by omega)
    have l937 : decide ((c : Int) ≤ 937) = true := decide_eq_true (by omega)
    have g1040 : decide (1040 ≤ (c : Int)) = false := decide_eq_false (by omega)
    have l1071 : decide ((c : Int) ≤ 1071) = true := decide_eq_true (by omega)
    have e215 : ((c : Int) != 215) = true := by simp; omega
    obtain rfl : S = c + 32 := by rw [hS, small]; split <;> omega
    clear hS
    clear hlo h64 h90 h191 h214 h215 h222 h912 h937
    go_enter Tryd.func47, Tryd.ntmps47
    go_wp2
    go_ret
    exact ⟨rfl, rfl⟩
  by_cases h1039 : c ≤ 1039
  · have hlo : 938 ≤ c := by omega
    have g65 : decide (65 ≤ (c : Int)) = true := decide_eq_true (by omega)
    have l90 : decide ((c : Int) ≤ 90) = false := decide_eq_false (by omega)
    have g192 : decide (192 ≤ (c : Int)) = true := decide_eq_true (by omega)
    have l222 : decide ((c : Int) ≤ 222) = false := decide_eq_false (by omega)
    have g913 : decide (913 ≤ (c : Int)) = true := decide_eq_true (by omega)
    have l937 : decide ((c : Int) ≤ 937) = false := decide_eq_false (by omega)
    have g1040 : decide (1040 ≤ (c : Int)) = false := decide_eq_false (by omega)
    have l1071 : decide ((c : Int) ≤ 1071) = true := decide_eq_true (by omega)
    have e215 : ((c : Int) != 215) = true := by simp; omega
    obtain rfl : S = c := by rw [hS, small]; split <;> omega
    clear hS
    clear hlo h64 h90 h191 h214 h215 h222 h912 h937 h1039
    go_enter Tryd.func47, Tryd.ntmps47
    go_wp2
    go_ret
    exact ⟨rfl, rfl⟩
  by_cases h1071 : c ≤ 1071
  · have hlo : 1040 ≤ c := by omega
    have g65 : decide (65 ≤ (c : Int)) = true := decide_eq_true (by omega)
    have l90 : decide ((c : Int) ≤ 90) = false := decide_eq_false (by omega)
    have g192 : decide (192 ≤ (c : Int)) = true := decide_eq_true (by omega)
    have l222 : decide ((c : Int) ≤ 222) = false := decide_eq_false (by omega)
    have g913 : decide (913 ≤ (c : Int)) = true := decide_eq_true (by omega)
    have l937 : decide ((c : Int) ≤ 937) = false := decide_eq_false (by omega)
    have g1040 : decide (1040 ≤ (c : Int)) = true := decide_eq_true (by omega)
    have l1071 : decide ((c : Int) ≤ 1071) = true := decide_eq_true (by omega)
    have e215 : ((c : Int) != 215) = true := by simp; omega
    obtain rfl : S = c + 32 := by rw [hS, small]; split <;> omega
    clear hS
    clear hlo h64 h90 h191 h214 h215 h222 h912 h937 h1039 h1071
    go_enter Tryd.func47, Tryd.ntmps47
    go_wp2
    go_ret
    exact ⟨rfl, rfl⟩
  have hlo : 1072 ≤ c := by omega
  have g65 : decide (65 ≤ (c : Int)) = true := decide_eq_true (by omega)
  have l90 : decide ((c : Int) ≤ 90) = false := decide_eq_false (by omega)
  have g192 : decide (192 ≤ (c : Int)) = true := decide_eq_true (by omega)
  have l222 : decide ((c : Int) ≤ 222) = false := decide_eq_false (by omega)
  have g913 : decide (913 ≤ (c : Int)) = true := decide_eq_true (by omega)
  have l937 : decide ((c : Int) ≤ 937) = false := decide_eq_false (by omega)
  have g1040 : decide (1040 ≤ (c : Int)) = true := decide_eq_true (by omega)
  have l1071 : decide ((c : Int) ≤ 1071) = false := decide_eq_false (by omega)
  have e215 : ((c : Int) != 215) = true := by simp; omega
  obtain rfl : S = c := by rw [hS, small]; split <;> omega
  clear hS
  clear hlo h64 h90 h191 h214 h215 h222 h912 h937 h1039 h1071
  go_enter Tryd.func47, Tryd.ntmps47
  go_wp2
  go_ret
  exact ⟨rfl, rfl⟩
end Go.Proofs.YthlhhmhldpmpiaaDoor.RPhr
