/-
  The plain mathematics of package limbs: five limbs of 51 bits, carried, and reduced modulo 2^255 - 19. Nothing here speaks of a program: no condition but those that each lemma names.
-/
import Derived.Test.YtcglobpklhkebaaPrime
namespace Go.Proofs.Ytcglobpklhkebaa.Limb
open Prime

/-- The five limbs of a number. -/
def lim (n : Nat) : List Nat := [n % 2251799813685248, n / 2251799813685248 % 2251799813685248, n / 5070602400912917605986812821504 % 2251799813685248, n / 11417981541647679048466287755595961091061972992 % 2251799813685248, n / 25711008708143844408671393477458601640355247900524685364822016 % 2251799813685248]
/-- What limbs are worth. -/
def wor (a b c d e : Nat) : Nat := a + b * 2251799813685248 + c * 5070602400912917605986812821504 + d * 11417981541647679048466287755595961091061972992 + e * 25711008708143844408671393477458601640355247900524685364822016

theorem P_eq : P = 57896044618658097711785492504343953926634992332820282019728792003956564819949 := rfl

theorem lim_wor {a b c d e : Nat} (ha : a < 2251799813685248) (hb : b < 2251799813685248) (hc : c < 2251799813685248) (hd : d < 2251799813685248) (he : e < 2251799813685248) : lim (wor a b c d e) = [a, b, c, d, e] := by
  unfold lim wor
  congr 1
  · omega
  congr 1
  · omega
  congr 1
  · omega
  congr 1
  · omega
  congr 1
  omega
theorem wor_lim {n : Nat} (h : n < 57896044618658097711785492504343953926634992332820282019728792003956564819968) : wor (n % 2251799813685248) (n / 2251799813685248 % 2251799813685248) (n / 5070602400912917605986812821504 % 2251799813685248) (n / 11417981541647679048466287755595961091061972992 % 2251799813685248) (n / 25711008708143844408671393477458601640355247900524685364822016 % 2251799813685248) = n := by
  unfold wor
  omega

/-- A carry from limb to limb, the lowest first. -/
theorem carry_lim (a b c d e : Nat) : [a % 2251799813685248, (b + a / 2251799813685248) % 2251799813685248, (c + (b + a / 2251799813685248) / 2251799813685248) % 2251799813685248, (d + (c + (b + a / 2251799813685248) / 2251799813685248) / 2251799813685248) % 2251799813685248, (e + (d + (c + (b + a / 2251799813685248) / 2251799813685248) / 2251799813685248) / 2251799813685248) % 2251799813685248] = lim (wor a b c d e) := by
  unfold lim wor
  congr 1
  · omega
  congr 1
  · omega
  congr 1
  · omega
  congr 1
  · omega
  congr 1
  omega
theorem over_eq (a b c d e : Nat) : (e + (d + (c + (b + a / 2251799813685248) / 2251799813685248) / 2251799813685248) / 2251799813685248) / 2251799813685248 = wor a b c d e / 57896044618658097711785492504343953926634992332820282019728792003956564819968 := by
  unfold wor
  omega

/-- Limbs that have room: below 2^51 + 2^18. -/
def Roomy (a b c d e : Nat) : Prop := a < 2251799813947392 ∧ b < 2251799813947392 ∧ c < 2251799813947392 ∧ d < 2251799813947392 ∧ e < 2251799813947392
/-- Five words. -/
def Words5 (a b c d e : Nat) : Prop := a < 18446744073709551616 ∧ b < 18446744073709551616 ∧ c < 18446744073709551616 ∧ d < 18446744073709551616 ∧ e < 18446744073709551616
theorem eased_roomy {a b c d e : Nat} (h : Words5 a b c d e) : Roomy (a % 2251799813685248 + e / 2251799813685248 * 19) (b % 2251799813685248 + a / 2251799813685248) (c % 2251799813685248 + b / 2251799813685248) (d % 2251799813685248 + c / 2251799813685248) (e % 2251799813685248 + d / 2251799813685248) := by
  unfold Words5 at h
  unfold Roomy
  omega
theorem eased_wor (a b c d e : Nat) : wor (a % 2251799813685248 + e / 2251799813685248 * 19) (b % 2251799813685248 + a / 2251799813685248) (c % 2251799813685248 + b / 2251799813685248) (d % 2251799813685248 + c / 2251799813685248) (e % 2251799813685248 + d / 2251799813685248) + P * (e / 2251799813685248) = wor a b c d e := by
  unfold wor
  rw [P_eq]
  omega
theorem eased_mod (a b c d e : Nat) : wor (a % 2251799813685248 + e / 2251799813685248 * 19) (b % 2251799813685248 + a / 2251799813685248) (c % 2251799813685248 + b / 2251799813685248) (d % 2251799813685248 + c / 2251799813685248) (e % 2251799813685248 + d / 2251799813685248) % P = wor a b c d e % P := by
  rw [← eased_wor a b c d e, Nat.add_mul_mod_self_left]
theorem lim_add (n k : Nat) : lim (n + 57896044618658097711785492504343953926634992332820282019728792003956564819968 * k) = lim n := by
  unfold lim
  congr 1
  · omega
  congr 1
  · omega
  congr 1
  · omega
  congr 1
  · omega
  congr 1
  omega
theorem wor_add (a b c d e k : Nat) : wor (a + k) b c d e = wor a b c d e + k := by
  unfold wor
  omega
/-- What is reduced of limbs that have room. -/
theorem reduce {a b c d e q : Nat} (h : Roomy a b c d e) (hq : q = (e + (d + (c + (b + (a + 19) / 2251799813685248) / 2251799813685248) / 2251799813685248) / 2251799813685248) / 2251799813685248) :
    q ≤ 1 ∧ [(a + 19 * q) % 2251799813685248, (b + (a + 19 * q) / 2251799813685248) % 2251799813685248, (c + (b + (a + 19 * q) / 2251799813685248) / 2251799813685248) % 2251799813685248, (d + (c + (b + (a + 19 * q) / 2251799813685248) / 2251799813685248) / 2251799813685248) % 2251799813685248, (e + (d + (c + (b + (a + 19 * q) / 2251799813685248) / 2251799813685248) / 2251799813685248) / 2251799813685248) % 2251799813685248] = lim (wor a b c d e % P) := by
  rw [over_eq (a + 19) b c d e, wor_add] at hq
  have hb : wor a b c d e < 57896044618658097711785492504343953926634992332820282019728792003956564819968 + 13479973333575319897333507543509815336818572211270286240551805124608 := by
    unfold Roomy at h
    unfold wor
    omega
  have hq1 : q ≤ 1 := by omega
  refine ⟨hq1, ?_⟩
  rw [carry_lim, wor_add]
  generalize wor a b c d e = W at *
  have hP := P_eq
  by_cases h0 : q = 0
  · rw [h0, Nat.mul_zero, Nat.add_zero, Nat.mod_eq_of_lt (by omega)]
  · obtain rfl : q = 1 := by omega
    have e1 : W + 19 * 1 = W % P + 57896044618658097711785492504343953926634992332820282019728792003956564819968 * 1 := by
      rw [Nat.mod_eq_sub_mod (by omega), Nat.mod_eq_of_lt (by omega)]
      omega
    rw [e1, lim_add]
end Go.Proofs.Ytcglobpklhkebaa.Limb
