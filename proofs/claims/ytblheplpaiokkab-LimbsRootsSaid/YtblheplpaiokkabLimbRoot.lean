/-
  Plain mathematics: each square modulo 2^255 - 19 has a root, and what Root tells as one is one. Nothing here speaks of a program: no condition but those that each lemma names.
-/
import Derived.Test.YtblheplpaiokkabLmbRoot
namespace Go.Proofs.Ytblheplpaiokkab.Limb
open Go.RowKit Mur Lanes
set_option maxRecDepth 100000

theorem same_square {p a x : Nat} (hp : Prime.IsPrime p) (ha : a < p) (hx : x < p) (h : a * a % p = x * x % p) : a = x ∨ (a + x) % p = 0 := by
  rcases Nat.le_total a x with hax | hax
  · have hd := Prime.sub_dvd (Nat.mul_le_mul hax hax) h
    rw [Nat.mul_self_sub_mul_self_eq] at hd
    rcases hp.dvd_mul hd with hd | hd
    · right
      rw [Nat.add_comm]
      exact Nat.mod_eq_zero_of_dvd hd
    · left
      rcases Nat.eq_zero_or_pos (x - a) with e | e
      · omega
      · exact absurd hd (Prime.IsPrime.not_dvd e (by omega))
  · have hd := Prime.sub_dvd (Nat.mul_le_mul hax hax) h.symm
    rw [Nat.mul_self_sub_mul_self_eq] at hd
    rcases hp.dvd_mul hd with hd | hd
    · right
      exact Nat.mod_eq_zero_of_dvd hd
    · left
      rcases Nat.eq_zero_or_pos (a - x) with e | e
      · omega
      · exact absurd hd (Prime.IsPrime.not_dvd e (by omega))

theorem root_gen {p N e h i : Nat} (hp : Prime.IsPrime p) (h2 : 2 * h = p - 1) (he : 4 * e = h + 2) (hi : i * i % p = p - 1) :
    ((N ^ 2 % p) ^ e % p) ^ 2 % p = N ^ 2 % p ∨ ((N ^ 2 % p) ^ e % p * i % p) ^ 2 % p = N ^ 2 % p := by
  have hp2 := hp.1
  obtain ⟨X, hX⟩ : ∃ X, X = N ^ 2 % p := ⟨_, rfl⟩
  have hXl : X < p := by rw [hX]; exact Nat.mod_lt _ (by omega)
  obtain ⟨A, hA⟩ : ∃ A, A = X ^ e % p := ⟨_, rfl⟩
  rw [← hX, ← hA]
  have hal : A * A % p < p := Nat.mod_lt _ (by omega)
  have hsq : (A * A % p) * (A * A % p) % p = X * X % p := by
    by_cases hd : p ∣ N
    · have hX0 : X = 0 := by
        rw [hX, Nat.pow_two]
        exact Nat.mod_eq_zero_of_dvd (Nat.dvd_mul_right_of_dvd hd N)
      have hA0 : A = 0 := by
        rw [hA, hX0, Nat.zero_pow (by omega), Nat.zero_mod]
      rw [hA0, hX0]
      simp
    · have e1 : (A * A % p) * (A * A % p) % p = X ^ (4 * e) % p := by
        have e0 : A * A * (A * A) = A ^ 4 := by grind
        rw [← Nat.mul_mod, e0, hA, ← Nat.pow_mod, ← Nat.pow_mul, Nat.mul_comm]
      have e2 : X ^ h % p = 1 := by
        rw [hX, ← Nat.pow_mod, ← Nat.pow_mul, h2]
        exact Prime.fermat hp hd
      rw [e1, he, Nat.pow_add, Nat.mul_mod, e2, Nat.one_mul, Nat.mod_mod, Nat.pow_two]
  rcases same_square hp hal hXl hsq with h3 | h3
  · left
    rw [Nat.pow_two]
    exact h3
  · by_cases ha0 : A * A % p = 0
    · left
      rw [Nat.pow_two, ha0]
      rw [ha0, Nat.zero_add, Nat.mod_eq_of_lt hXl] at h3
      exact h3.symm
    · right
      have e3 : (A * i % p) ^ 2 % p = A * A % p * (p - 1) % p := by
        rw [Nat.pow_two, ← Nat.mul_mod, Nat.mul_mul_mul_comm, Nat.mul_mod, hi]
      rw [e3]
      generalize A * A % p = a at *
      have hxp : X = p - a := by
        have hd := Nat.dvd_of_mod_eq_zero h3
        obtain ⟨k, hk⟩ := hd
        have : k = 1 := by
          rcases Nat.lt_trichotomy k 1 with hk1 | hk1 | hk1
          · have : k = 0 := by omega
            subst this
            omega
          · exact hk1
          · have := Nat.mul_le_mul_left p (show 2 ≤ k from hk1)
            omega
        subst this
        omega
      have e4 : a * (p - 1) = (a - 1) * p + (p - a) := by
        have : a * (p - 1) + a = (a - 1) * p + p := by
          rw [← Nat.mul_succ, show (p - 1).succ = p by omega, ← Nat.succ_mul, show (a - 1).succ = a by omega]
        omega
      rw [e4, Nat.mul_comm, Nat.mul_add_mod, hxp]
      exact Nat.mod_eq_of_lt (by omega)

theorem inv_four (e : Nat) (he : e = 2 ^ 253 - 5) : 2 ^ e % Prime.P * (2 ^ e % Prime.P) % Prime.P = Prime.P - 1 := by
  rw [← Prime.pm_eq Prime.P 255 2 e (by rw [he]; decide), he]
  decide +kernel
theorem P_half : 2 * (2 ^ 254 - 10) = Prime.P - 1 := by decide
theorem P_quarter : 4 * (2 ^ 252 - 2) = 2 ^ 254 - 10 + 2 := by decide
theorem square_roots (N : Nat) : rootA (N ^ 2 % Prime.P) ^ 2 % Prime.P = N ^ 2 % Prime.P ∨ rootB (N ^ 2 % Prime.P) ^ 2 % Prime.P = N ^ 2 % Prime.P := by
  obtain ⟨e, he⟩ : ∃ e, e = 2 ^ 252 - 2 := ⟨_, rfl⟩
  obtain ⟨f, hf⟩ : ∃ f, f = 2 ^ 253 - 5 := ⟨_, rfl⟩
  have hi := inv_four f hf
  have h4 := P_quarter
  rw [← he] at h4
  unfold rootB rootA
  rw [← he, ← hf]
  exact root_gen Prime.prime P_half h4 hi
theorem rootIs_square (N : Nat) : rootIs (N ^ 2 % Prime.P) = true := by
  unfold rootIs
  rcases square_roots N with h | h
  · rw [decide_eq_true h, Bool.true_or]
  · rw [decide_eq_true h, Bool.or_true]
theorem root_true {x : Nat} (h : rootIs x = true) : ∃ r, rootV x = limV r ∧ r < Prime.P ∧ r ^ 2 % Prime.P = x := by
  unfold rootIs at h
  unfold rootV
  by_cases h1 : rootA x ^ 2 % Prime.P = x
  · exact ⟨rootA x, by rw [if_pos h1], rootA_lt x, h1⟩
  · rw [decide_eq_false h1, Bool.false_or, decide_eq_true_eq] at h
    exact ⟨rootB x, by rw [if_neg h1, if_pos h], rootB_lt x, h⟩
theorem root_five (x : Nat) : ∃ a b c d e : Nat, rootV x = five a b c d e := by
  unfold rootV
  split
  · exact limV_five _
  · split
    · exact limV_five _
    · exact ⟨0, 0, 0, 0, 0, rfl⟩
end Go.Proofs.Ytblheplpaiokkab.Limb
