/-
  Several texts as one (Prime, Limb, LmbOne, LmbTwo, LmbMul, LmbVal, LmbSq). Plain mathematics: 2^255 - 19 is a prime, with what follows of it (powers, inverses, roots). Nothing here speaks of a program: no condition but those that each lemma names. The plain mathematics of package limbs: five limbs of 51 bits, carried, and reduced modulo 2^255 - 19. Nothing here speaks of a program: no condition but those that each lemma names. The small functions of package limbs (eased, plus, over, limb, reduced) answer what the plain mathematics of the text Limb says, and leave all memory that was there as it was. Conditions: words below 2^64, sums below 2^128. Carry, Add and Sub of package limbs answer the reduced limbs of the worth, of the sum and of the difference modulo 2^255 - 19, and leave all memory that was there as it was. Condition: words below 2^64. Times of package limbs answers the reduced limbs of the product modulo 2^255 - 19, and leaves all memory that was there as it was. Condition: words below 2^64. Limbs as values, with the number that they are worth; sums, differences and products of such values; '==' of limbs. Nothing here has a condition but those that each lemma names. Swap, Scale and Square of package limbs answer what the plain mathematics says, and leave all memory that was there as it was. Conditions: words below 2^64, a bit that is no less than 0.
-/
import Derived.WalkKit
import Derived.Test.YtolmfimpaofefaaGreatDoorChecked
import Derived.Test.YtolmfimpaofefaaGreatDoorMWk
import Derived.Test.YtolmfimpaofefaaGreatDoorMLn
import Derived.Test.YtolmfimpaofefaaGreatDoorShelf
import Derived.Laws.Externs
import Derived.BigQuiet
import Derived.Deep.QuietTactic
import Derived.Deep.CutBlock
import Derived.Laws.StructEq
namespace Go.Proofs.YtolmfimpaofefaaGreatDoor.Prime

/-- A number with no divisor but 1 and itself. -/
def IsPrime (p : Nat) : Prop := 2 ≤ p ∧ ∀ m, m ∣ p → m = 1 ∨ m = p

theorem IsPrime.coprime {p a : Nat} (h : IsPrime p) (ha : ¬ p ∣ a) : Nat.Coprime p a := by
  rcases h.2 _ (Nat.gcd_dvd_left p a) with e | e
  · exact e
  · exact absurd (e ▸ Nat.gcd_dvd_right p a) ha
theorem IsPrime.dvd_mul {p a b : Nat} (h : IsPrime p) (hd : p ∣ a * b) : p ∣ a ∨ p ∣ b := by
  by_cases ha : p ∣ a
  · exact .inl ha
  · exact .inr ((h.coprime ha).dvd_of_dvd_mul_left hd)
theorem IsPrime.not_dvd {p k : Nat} (h1 : 0 < k) (h2 : k < p) : ¬ p ∣ k := fun hd => absurd (Nat.le_of_dvd h1 hd) (by omega)

theorem sub_dvd {p a b : Nat} (_ : a ≤ b) (h : a % p = b % p) : p ∣ b - a := Nat.dvd_of_mod_eq_zero (Nat.sub_mod_eq_zero_of_mod_eq h.symm)
theorem mod_of_sub {p a b : Nat} (hab : a ≤ b) (h : p ∣ b - a) : a % p = b % p := by
  obtain ⟨k, hk⟩ := h
  rw [show b = a + p * k by omega, Nat.add_mul_mod_self_left]

/-- Two lists of the same numbers, each once. -/
theorem perm_of : ∀ (l m : List Nat), l.Nodup → (∀ x ∈ l, x ∈ m) → m.length ≤ l.length → l.Perm m
  | [], m, _, _, hl => by
    obtain rfl := List.eq_nil_of_length_eq_zero (Nat.le_zero.1 hl)
    exact .nil
  | x :: l, m, hn, hs, hl => by
    have hx : x ∈ m := hs x (by simp)
    have hm := List.perm_cons_erase hx
    obtain ⟨h1, h2⟩ := List.nodup_cons.1 hn
    refine ((perm_of l (m.erase x) h2 (fun y hy => ?_) ?_).cons x).trans hm.symm
    · exact (List.mem_erase_of_ne (fun e => h1 (by rw [← e]; exact hy))).2 (hs y (by simp [hy]))
    · rw [List.length_erase_of_mem hx]
      simp only [List.length_cons] at hl
      omega

def prod : List Nat → Nat
  | [] => 1
  | x :: l => x * prod l
theorem prod_perm {l m : List Nat} (h : l.Perm m) : prod l = prod m := by
  induction h with
  | nil => rfl
  | cons x _ ih => simp [prod, ih]
  | swap x y l => simp [prod, Nat.mul_left_comm]
  | trans _ _ a b => exact a.trans b
theorem prod_map (a p : Nat) (l : List Nat) : prod (l.map fun i => a * i % p) % p = a ^ l.length * prod l % p := by
  induction l with
  | nil => rfl
  | cons x l ih =>
    simp only [List.map_cons, prod, List.length_cons]
    rw [Nat.mul_mod, ih, Nat.mod_mod, ← Nat.mul_mod, show a ^ (l.length + 1) * (x * prod l) = a * x * (a ^ l.length * prod l) by rw [Nat.pow_succ]; simp only [Nat.mul_comm, Nat.mul_left_comm, Nat.mul_assoc]]
theorem prod_coprime {p : Nat} (h : IsPrime p) : ∀ l : List Nat, (∀ x ∈ l, ¬ p ∣ x) → ¬ p ∣ prod l
  | [], _ => fun hd => by
    have := Nat.le_of_dvd (by decide) hd
    have := h.1
    simp only [prod] at *
    omega
  | x :: l, hl => fun hd => by
    rcases h.dvd_mul hd with hd | hd
    · exact hl x (by simp) hd
    · exact prod_coprime h l (fun y hy => hl y (by simp [hy])) hd

/-- What Fermat found. -/
theorem fermat {p a : Nat} (h : IsPrime p) (ha : ¬ p ∣ a) : a ^ (p - 1) % p = 1 := by
  have hp := h.1
  obtain ⟨l, hl⟩ : ∃ l, l = List.range' 1 (p - 1) := ⟨_, rfl⟩
  have hlen : l.length = p - 1 := by rw [hl]; simp
  have hmem : ∀ x, x ∈ l ↔ 1 ≤ x ∧ x < p := fun x => by
    rw [hl, List.mem_range'_1]
    omega
  have hno : ∀ x ∈ l, ¬ p ∣ x := fun x hx => by
    obtain ⟨h1, h2⟩ := (hmem x).1 hx
    exact IsPrime.not_dvd h1 h2
  have hnd : (l.map fun i => a * i % p).Nodup := by
    unfold List.Nodup
    rw [List.pairwise_map]
    have hlt : l.Pairwise (· < ·) := by rw [hl]; exact List.pairwise_lt_range'
    refine hlt.imp_of_mem (fun {x y} hx hy hxy e => ?_)
    have hd := sub_dvd (Nat.mul_le_mul_left a (Nat.le_of_lt hxy)) e
    rw [← Nat.mul_sub] at hd
    rcases h.dvd_mul hd with hd | hd
    · exact ha hd
    · exact IsPrime.not_dvd (by omega) (by have := ((hmem y).1 hy).2; omega) hd
  have hperm : (l.map fun i => a * i % p).Perm l := by
    refine perm_of _ _ hnd (fun x hx => ?_) (by simp)
    obtain ⟨i, hi, rfl⟩ := List.mem_map.1 hx
    rw [hmem]
    refine ⟨?_, Nat.mod_lt _ (by omega)⟩
    rcases Nat.eq_zero_or_pos (a * i % p) with e | e
    · rcases h.dvd_mul (Nat.dvd_of_mod_eq_zero e) with hd | hd
      · exact absurd hd ha
      · exact absurd hd (hno i hi)
    · exact e
  have he := prod_map a p l
  rw [prod_perm hperm, hlen] at he
  have hpos : 0 < a ^ (p - 1) := Nat.pow_pos (Nat.pos_of_ne_zero fun e => ha (e ▸ Nat.dvd_zero p))
  have hd := sub_dvd (Nat.le_mul_of_pos_left (prod l) hpos) he
  rw [← Nat.sub_one_mul] at hd
  rcases h.dvd_mul hd with hd | hd
  · have := mod_of_sub (p := p) hpos hd
    rw [← this]
    exact Nat.mod_eq_of_lt (by omega)
  · exact absurd hd (prod_coprime h l hno)

theorem pow_one {b p k : Nat} (h : b % p = 1 % p) : b ^ k % p = 1 % p := by
  rw [Nat.pow_mod, h, ← Nat.pow_mod, Nat.one_pow]
theorem pow_gcd (b p m n : Nat) : b ^ m % p = 1 % p → b ^ n % p = 1 % p → b ^ Nat.gcd m n % p = 1 % p := by
  refine Nat.gcd.induction m n (fun n _ h => by simpa using h) (fun m n _ ih h1 h2 => ?_)
  rw [Nat.gcd_rec]
  refine ih ?_ h1
  have e : b ^ n = (b ^ m) ^ (n / m) * b ^ (n % m) := by rw [← Nat.pow_mul, ← Nat.pow_add, Nat.div_add_mod]
  rw [e, Nat.mul_mod, pow_one h1, ← Nat.mul_mod, Nat.one_mul] at h2
  exact h2
theorem order {p q b : Nat} (hp : IsPrime p) (hq : IsPrime q) (h1 : b ^ q % p = 1 % p) (h2 : b % p ≠ 1 % p) : q ∣ p - 1 := by
  have hp2 := hp.1
  have hq2 := hq.1
  have hb : ¬ p ∣ b := fun hd => by
    have h3 : p ∣ b ^ q := by
      obtain ⟨k, rfl⟩ : ∃ k, q = k + 1 := ⟨q - 1, by omega⟩
      rw [Nat.pow_succ]
      exact Nat.dvd_mul_left_of_dvd hd _
    rw [Nat.mod_eq_zero_of_dvd h3, Nat.mod_eq_of_lt (by omega)] at h1
    cases h1
  by_cases hd : q ∣ p - 1
  · exact hd
  · have := pow_gcd b p q (p - 1) h1 (by rw [fermat hp hb, Nat.mod_eq_of_lt (by omega)])
    rw [hq.coprime hd, Nat.pow_one] at this
    exact absurd this h2

/-- Each number from 2 on has a prime in it. -/
theorem has_prime : ∀ n : Nat, 2 ≤ n → ∃ p, IsPrime p ∧ p ∣ n := by
  intro n
  induction n using Nat.strongRecOn with
  | ind n ih =>
    intro hn
    by_cases hp : IsPrime n
    · exact ⟨n, hp, Nat.dvd_refl _⟩
    · have : ∃ m, m ∣ n ∧ m ≠ 1 ∧ m ≠ n := Classical.byContradiction fun hc => hp ⟨hn, fun m hm => Classical.byContradiction fun hc2 => hc ⟨m, hm, fun e => hc2 (.inl e), fun e => hc2 (.inr e)⟩⟩
      obtain ⟨m, hm, h1, h2⟩ := this
      have h3 := Nat.le_of_dvd (by omega) hm
      have h4 : m ≠ 0 := fun e => by
        subst e
        obtain ⟨k, hk⟩ := hm
        omega
      obtain ⟨p, hp, hd⟩ := ih m (by omega) (by omega)
      exact ⟨p, hp, Nat.dvd_trans hd hm⟩
theorem prime_of {n : Nat} (hn : 2 ≤ n) (h : ∀ p, IsPrime p → p ∣ n → n < p * p) : IsPrime n := by
  refine ⟨hn, fun m hm => ?_⟩
  obtain ⟨k, hk⟩ := hm
  by_cases h1 : m = 1
  · exact .inl h1
  by_cases h2 : k = 1
  · right
    rw [hk, h2, Nat.mul_one]
  exfalso
  have m0 : m ≠ 0 := fun e => by
    subst e
    omega
  have k0 : k ≠ 0 := fun e => by
    subst e
    omega
  obtain ⟨p, hp, hd⟩ := has_prime m (by omega)
  obtain ⟨q, hq, he⟩ := has_prime k (by omega)
  have g1 := h p hp (hk ▸ Nat.dvd_mul_right_of_dvd hd k)
  have g2 := h q hq (hk ▸ Nat.dvd_mul_left_of_dvd he m)
  have l1 := Nat.le_of_dvd (by omega) hd
  have l2 := Nat.le_of_dvd (by omega) he
  have g3 : p * p * (q * q) ≤ n * n := by
    have := Nat.mul_le_mul l1 l2
    rw [← hk] at this
    have := Nat.mul_le_mul this this
    rwa [Nat.mul_mul_mul_comm] at this
  have g4 : n * n < p * p * (q * q) := Nat.mul_lt_mul_of_lt_of_lt g1 g2
  omega

/-- b to the power e, modulo m, reckoned by squares. -/
def pm (m : Nat) : Nat → Nat → Nat → Nat
  | 0, _, _ => 1 % m
  | f + 1, b, e => if e % 2 = 1 then b * pm m f (b * b % m) (e / 2) % m else pm m f (b * b % m) (e / 2)
theorem pm_eq (m : Nat) : ∀ (f b e : Nat), e < 2 ^ f → pm m f b e = b ^ e % m
  | 0, b, e, h => by
    obtain rfl : e = 0 := by omega
    rfl
  | f + 1, b, e, h => by
    have ih := pm_eq m f (b * b % m) (e / 2) (by rw [Nat.pow_succ] at h; omega)
    have hs : (b * b % m) ^ (e / 2) % m = b ^ (2 * (e / 2)) % m := by
      rw [← Nat.pow_mod, Nat.pow_mul, Nat.pow_two]
    unfold pm
    rw [ih, hs]
    by_cases h1 : e % 2 = 1
    · rw [if_pos h1, Nat.mul_mod, Nat.mod_mod, ← Nat.mul_mod, Nat.mul_comm, ← Nat.pow_succ]
      congr 2
      omega
    · rw [if_neg h1]
      congr 2
      omega

theorem step {N q r a f : Nat} (hq : IsPrime q) (hN : 2 ≤ N) (hr : N - 1 = r * q) (hf : N < 2 ^ f) (h1 : pm N f a (N - 1) = 1) (h2 : Nat.gcd (pm N f a r + N - 1) N = 1) {p : Nat} (hp : IsPrime p) (hd : p ∣ N) : q ∣ p - 1 := by
  have hp2 := hp.1
  have hq2 := hq.1
  have hrl : r < 2 ^ f := by
    have : r * 1 ≤ r * q := Nat.mul_le_mul_left r (by omega)
    omega
  rw [pm_eq N f a (N - 1) (by omega)] at h1
  rw [pm_eq N f a r hrl] at h2
  refine order hp hq (b := a ^ r) ?_ (fun e => ?_)
  · rw [← Nat.pow_mul, ← hr, ← Nat.mod_mod_of_dvd _ hd, h1]
  · have h3 : a ^ r % N % p = 1 % p := by rw [Nat.mod_mod_of_dvd _ hd, e]
    have h4 : p ∣ a ^ r % N + N - 1 := by
      obtain ⟨k, rfl⟩ := hd
      refine sub_dvd (by omega) ?_
      rw [Nat.add_mul_mod_self_left, h3]
    have h5 := Nat.dvd_gcd h4 hd
    rw [h2] at h5
    have := Nat.le_of_dvd (by decide) h5
    omega
theorem both {q r p : Nat} (hq : IsPrime q) (hr : ¬ q ∣ r) (h1 : q ∣ p - 1) (h2 : r ∣ p - 1) (hp : IsPrime p) : q * r < p := by
  have hp2 := hp.1
  have := Nat.le_of_dvd (by omega) ((hq.coprime hr).mul_dvd_of_dvd_of_dvd h1 h2)
  omega

/-- Has n no divisor from 2 to k? -/
def none (n : Nat) : Nat → Bool
  | 0 => true
  | k + 1 => (decide (k + 1 < 2) || n % (k + 1) != 0) && none n k
theorem none_spec {n k : Nat} (h : none n k = true) : ∀ d, 2 ≤ d → d ≤ k → ¬ d ∣ n := by
  induction k with
  | zero => intro d h1 h2; omega
  | succ k ih =>
    intro d h1 h2 hd
    unfold none at h
    rw [Bool.and_eq_true] at h
    by_cases e : d = k + 1
    · subst e
      have h3 := h.1
      rw [Nat.mod_eq_zero_of_dvd hd] at h3
      simp at h3
      omega
    · exact ih h.2 d h1 (by omega) hd
theorem prime_small {n : Nat} (k : Nat) (hn : 2 ≤ n) (h : none n k = true) (hk : n < (k + 1) * (k + 1)) : IsPrime n := by
  refine prime_of hn (fun p hp hd => ?_)
  have h1 : k + 1 ≤ p := by
    rcases Nat.lt_or_ge k p with e | e
    · exact e
    · exact absurd hd (none_spec h p hp.1 e)
  exact Nat.lt_of_lt_of_le hk (Nat.mul_le_mul h1 h1)

set_option maxRecDepth 100000
theorem p127 : IsPrime 127 := prime_small 12 (by decide) (by decide +kernel) (by decide)
theorem p75707 : IsPrime 75707 := prime_small 280 (by decide) (by decide +kernel) (by decide)
theorem p132049 : IsPrime 132049 := prime_small 370 (by decide) (by decide +kernel) (by decide)
theorem p8574133 : IsPrime 8574133 := prime_small 2930 (by decide) (by decide +kernel) (by decide)

theorem pThree : IsPrime 1919519569386763 := by
  refine prime_of (by decide) (fun p hp hd => ?_)
  have h1 := step (a := 2) (f := 51) (r := 223873314) p8574133 (by decide) (by decide) (by decide) (by decide +kernel) (by decide +kernel) hp hd
  have h2 := step (a := 2) (f := 51) (r := 15114327318006) p127 (by decide) (by decide) (by decide) (by decide +kernel) (by decide +kernel) hp hd
  have h3 := both p8574133 (by decide) h1 h2 hp
  exact Nat.lt_of_lt_of_le (by decide) (Nat.mul_le_mul (Nat.le_of_lt h3) (Nat.le_of_lt h3))
theorem pTwo : IsPrime 75445702479781427272750846543864801 := by
  refine prime_of (by decide) (fun p hp hd => ?_)
  have h1 := step (a := 2) (f := 116) (r := 39304471641247389600) pThree (by decide) (by decide) (by decide) (by decide +kernel) (by decide +kernel) hp hd
  have h2 := step (a := 2) (f := 116) (r := 996548568557483816196003626400) p75707 (by decide) (by decide) (by decide) (by decide +kernel) (by decide +kernel) hp hd
  have h3 := both pThree (by decide) h1 h2 hp
  exact Nat.lt_of_lt_of_le (by decide) (Nat.mul_le_mul (Nat.le_of_lt h3) (Nat.le_of_lt h3))
theorem pOne : IsPrime 74058212732561358302231226437062788676166966415465897661863160754340907 := by
  refine prime_of (by decide) (fun p hp hd => ?_)
  have h1 := step (a := 2) (f := 236) (r := 981609426360740691344999861639072106) pTwo (by decide) (by decide) (by decide) (by decide +kernel) (by decide +kernel) hp hd
  have h2 := step (a := 2) (f := 236) (r := 560838875966961948233089432233964578877287722099113947563882806794) p132049 (by decide) (by decide) (by decide) (by decide +kernel) (by decide +kernel) hp hd
  have h3 := both pTwo (by decide) h1 h2 hp
  exact Nat.lt_of_lt_of_le (by decide) (Nat.mul_le_mul (Nat.le_of_lt h3) (Nat.le_of_lt h3))

/-- 2^255 - 19. -/
def P : Nat := 57896044618658097711785492504343953926634992332820282019728792003956564819949
theorem prime : IsPrime P := by
  refine prime_of (by decide) (fun p hp hd => ?_)
  have h1 := step (a := 2) (f := 255) (r := 781764) pOne (by decide) (by decide) (by decide) (by decide +kernel) (by decide +kernel) hp hd
  have hp2 := hp.1
  have h2 := Nat.le_trans (Nat.le_of_dvd (by omega) h1) (Nat.sub_le _ _)
  exact Nat.lt_of_lt_of_le (by decide) (Nat.mul_le_mul h2 h2)
end Go.Proofs.YtolmfimpaofefaaGreatDoor.Prime

namespace Go.Proofs.YtolmfimpaofefaaGreatDoor.Limb
open Prime

/-- The five limbs of a number. -/
def lim (n : Nat) : List Nat := [n % 2251799813685248, n / 2251799813685248 % 2251799813685248, n / 5070602400912917605986812821504 % 2251799813685248, n / 11417981541647679048466287755595961091061972992 % 2251799813685248, n / 25711008708143844408671393477458601640355247900524685364822016 % 2251799813685248]
/-- What limbs are worth. -/
def wor (a b c d e : Nat) : Nat := a + b * 2251799813685248 + c * 5070602400912917605986812821504 + d * 11417981541647679048466287755595961091061972992 + e * 25711008708143844408671393477458601640355247900524685364822016

theorem P_eq : P = 57896044618658097711785492504343953926634992332820282019728792003956564819949 := rfl

theorem wor_lim {n : Nat} (h : n < 57896044618658097711785492504343953926634992332820282019728792003956564819968) : wor (n % 2251799813685248) (n / 2251799813685248 % 2251799813685248) (n / 5070602400912917605986812821504 % 2251799813685248) (n / 11417981541647679048466287755595961091061972992 % 2251799813685248) (n / 25711008708143844408671393477458601640355247900524685364822016 % 2251799813685248) = n := by
  unfold wor
  omega

/-- A carry from limb to limb, the lowest first. -/
theorem carry_lim (a b c d e : Nat) : [a % 2251799813685248, (b + a / 2251799813685248) % 2251799813685248, (c + (b + a / 2251799813685248) / 2251799813685248) % 2251799813685248, (d + (c + (b + a / 2251799813685248) / 2251799813685248) / 2251799813685248) % 2251799813685248, (e + (d + (c + (b + a / 2251799813685248) / 2251799813685248) / 2251799813685248) / 2251799813685248) % 2251799813685248] = lim (wor a b c d e) := by
  unfold lim wor
  congr 1
  · omega
  congr 1
  · omega
  congr 1
  · omega
  congr 1
  · omega
  congr 1
  omega
theorem over_eq (a b c d e : Nat) : (e + (d + (c + (b + a / 2251799813685248) / 2251799813685248) / 2251799813685248) / 2251799813685248) / 2251799813685248 = wor a b c d e / 57896044618658097711785492504343953926634992332820282019728792003956564819968 := by
  unfold wor
  omega

/-- Limbs that have room: below 2^51 + 2^18. -/
def Roomy (a b c d e : Nat) : Prop := a < 2251799813947392 ∧ b < 2251799813947392 ∧ c < 2251799813947392 ∧ d < 2251799813947392 ∧ e < 2251799813947392
/-- Five words. -/
def Words5 (a b c d e : Nat) : Prop := a < 18446744073709551616 ∧ b < 18446744073709551616 ∧ c < 18446744073709551616 ∧ d < 18446744073709551616 ∧ e < 18446744073709551616
theorem eased_roomy {a b c d e : Nat} (h : Words5 a b c d e) : Roomy (a % 2251799813685248 + e / 2251799813685248 * 19) (b % 2251799813685248 + a / 2251799813685248) (c % 2251799813685248 + b / 2251799813685248) (d % 2251799813685248 + c / 2251799813685248) (e % 2251799813685248 + d / 2251799813685248) := by
  unfold Words5 at h
  unfold Roomy
  omega
theorem eased_wor (a b c d e : Nat) : wor (a % 2251799813685248 + e / 2251799813685248 * 19) (b % 2251799813685248 + a / 2251799813685248) (c % 2251799813685248 + b / 2251799813685248) (d % 2251799813685248 + c / 2251799813685248) (e % 2251799813685248 + d / 2251799813685248) + P * (e / 2251799813685248) = wor a b c d e := by
  unfold wor
  rw [P_eq]
  omega
theorem eased_mod (a b c d e : Nat) : wor (a % 2251799813685248 + e / 2251799813685248 * 19) (b % 2251799813685248 + a / 2251799813685248) (c % 2251799813685248 + b / 2251799813685248) (d % 2251799813685248 + c / 2251799813685248) (e % 2251799813685248 + d / 2251799813685248) % P = wor a b c d e % P := by
  rw [← eased_wor a b c d e, Nat.add_mul_mod_self_left]
theorem lim_add (n k : Nat) : lim (n + 57896044618658097711785492504343953926634992332820282019728792003956564819968 * k) = lim n := by
  unfold lim
  congr 1
  · omega
  congr 1
  · omega
  congr 1
  · omega
  congr 1
  · omega
  congr 1
  omega
theorem wor_add (a b c d e k : Nat) : wor (a + k) b c d e = wor a b c d e + k := by
  unfold wor
  omega
/-- What is reduced of limbs that have room. -/
theorem reduce {a b c d e q : Nat} (h : Roomy a b c d e) (hq : q = (e + (d + (c + (b + (a + 19) / 2251799813685248) / 2251799813685248) / 2251799813685248) / 2251799813685248) / 2251799813685248) :
    q ≤ 1 ∧ [(a + 19 * q) % 2251799813685248, (b + (a + 19 * q) / 2251799813685248) % 2251799813685248, (c + (b + (a + 19 * q) / 2251799813685248) / 2251799813685248) % 2251799813685248, (d + (c + (b + (a + 19 * q) / 2251799813685248) / 2251799813685248) / 2251799813685248) % 2251799813685248, (e + (d + (c + (b + (a + 19 * q) / 2251799813685248) / 2251799813685248) / 2251799813685248) / 2251799813685248) % 2251799813685248] = lim (wor a b c d e % P) := by
  rw [over_eq (a + 19) b c d e, wor_add] at hq
  have hb : wor a b c d e < 57896044618658097711785492504343953926634992332820282019728792003956564819968 + 13479973333575319897333507543509815336818572211270286240551805124608 := by
    unfold Roomy at h
    unfold wor
    omega
  have hq1 : q ≤ 1 := by omega
  refine ⟨hq1, ?_⟩
  rw [carry_lim, wor_add]
  generalize wor a b c d e = W at *
  have hP := P_eq
  by_cases h0 : q = 0
  · rw [h0, Nat.mul_zero, Nat.add_zero, Nat.mod_eq_of_lt (by omega)]
  · obtain rfl : q = 1 := by omega
    have e1 : W + 19 * 1 = W % P + 57896044618658097711785492504343953926634992332820282019728792003956564819968 * 1 := by
      rw [Nat.mod_eq_sub_mod (by omega), Nat.mod_eq_of_lt (by omega)]
      omega
    rw [e1, lim_add]
end Go.Proofs.YtolmfimpaofefaaGreatDoor.Limb

namespace Go.Proofs.YtolmfimpaofefaaGreatDoor.Limb
open Go.RowKit Mur Lanes
set_option maxRecDepth 100000

theorem mask51 (a : Nat) (ha : a < 18446744073709551616) : bits .and .u64 (a : Int) 2251799813685247 = ((a % 2251799813685248 : Nat) : Int) := by
  have h := bits_and_u64_nat a 2251799813685247 ha (by omega)
  have e : a &&& 2251799813685247 = a % 2251799813685248 := Nat.and_two_pow_sub_one_eq_mod a 51
  rw [e] at h
  exact h
theorem div51 (a : Nat) : (a : Int) / 2251799813685248 = ((a / 2251799813685248 : Nat) : Int) := by omega
theorem mulN (a b : Nat) : (a : Int) * (b : Int) = ((a * b : Nat) : Int) := (Int.natCast_mul a b).symm
theorem addN (a b : Nat) : (a : Int) + (b : Int) = ((a + b : Nat) : Int) := (Int.natCast_add a b).symm
theorem add19 (a : Nat) : (a : Int) + 19 = ((a + 19 : Nat) : Int) := by omega
theorem mul19 (a : Nat) : (a : Int) * 19 = ((a * 19 : Nat) : Int) := by omega
theorem mul19' (a : Nat) : 19 * (a : Int) = ((19 * a : Nat) : Int) := by omega
theorem wrapN (a : Nat) (ha : a < 18446744073709551616) : IntKind.u64.wrap (a : Int) = (a : Int) := by rw [IntKind.wrap_u64]; omega

set_option maxHeartbeats 800000 in
theorem eased_any (a b c d e : Nat) (w : World) (h : Words5 a b c d e) :
    Calls Tryz.prog 129 #[.int .u64 a, .int .u64 b, .int .u64 c, .int .u64 d, .int .u64 e] w fun r w' => r = .returned (.tuple #[.int .u64 ((a % 2251799813685248 + e / 2251799813685248 * 19 : Nat) : Int), .int .u64 ((b % 2251799813685248 + a / 2251799813685248 : Nat) : Int), .int .u64 ((c % 2251799813685248 + b / 2251799813685248 : Nat) : Int), .int .u64 ((d % 2251799813685248 + c / 2251799813685248 : Nat) : Int), .int .u64 ((e % 2251799813685248 + d / 2251799813685248 : Nat) : Int)]) ∧ w = w' := by
  obtain ⟨ha, hb, hc, hd, he⟩ := h
  go_enter Tryz.func129, Tryz.ntmps129
  go_wp2
  have h1 : a % 2251799813685248 + e / 2251799813685248 * 19 < 18446744073709551616 := by omega
  have h2 : b % 2251799813685248 + a / 2251799813685248 < 18446744073709551616 := by omega
  have h3 : c % 2251799813685248 + b / 2251799813685248 < 18446744073709551616 := by omega
  have h4 : d % 2251799813685248 + c / 2251799813685248 < 18446744073709551616 := by omega
  have h5 : e % 2251799813685248 + d / 2251799813685248 < 18446744073709551616 := by omega
  simp only [mask51 _ ha, mask51 _ hb, mask51 _ hc, mask51 _ hd, mask51 _ he, div51, mul19, addN, wrapN _ h1, wrapN _ h2, wrapN _ h3, wrapN _ h4, wrapN _ h5]
  exact bodyPost_ret (v := .tuple #[.int .u64 ((a % 2251799813685248 + e / 2251799813685248 * 19 : Nat) : Int), .int .u64 ((b % 2251799813685248 + a / 2251799813685248 : Nat) : Int), .int .u64 ((c % 2251799813685248 + b / 2251799813685248 : Nat) : Int), .int .u64 ((d % 2251799813685248 + c / 2251799813685248 : Nat) : Int), .int .u64 ((e % 2251799813685248 + d / 2251799813685248 : Nat) : Int)]) (by simp [results, Tryz.results129, go_sem]) rfl ⟨rfl, rfl⟩

theorem mul64_run (x y : Nat) (hx : x < 18446744073709551616) (hy : y < 18446744073709551616) (w : World) :
    Calls Tryz.prog 155 #[.int .u64 x, .int .u64 y] w fun e w' => e = .returned (.tuple #[.int .u64 ((x * y / 18446744073709551616 : Nat) : Int), .int .u64 ((x * y % 18446744073709551616 : Nat) : Int)]) ∧ w = w' :=
  (Any.bits_Mul64 Tryz.lays264 x y hx hy w).mono fun _ _ h => ⟨h.1, h.2.symm⟩
theorem add64_run (x y c : Nat) (hx : x < 18446744073709551616) (hy : y < 18446744073709551616) (hc : c ≤ 1) (w : World) :
    (callFunc 156 #[.int .u64 x, .int .u64 y, .int .u64 c]).run Tryz.prog w =
      .ok (.value (.tuple #[.int .u64 (((x + y + c) % 18446744073709551616 : Nat) : Int), .int .u64 (((x + y + c) / 18446744073709551616 : Nat) : Int)])) w := by
  rw [run_callFunc_extern Tryz.func156 (by kernel_rfl) (by kernel_rfl) (by kernel_rfl) (e := add64Entry) (by kernel_rfl), run_add64 x y c (by omega) (by omega) (by omega) (by omega)]
  simp only [Result.andThen]
  congr 5 <;> omega

/-- A number of 128 bits in two words. -/
theorem plus_eq (N x y : Nat) :
    (x * y / 18446744073709551616 + N / 18446744073709551616 + (x * y % 18446744073709551616 + N % 18446744073709551616) / 18446744073709551616 = (N + x * y) / 18446744073709551616) ∧ ((x * y % 18446744073709551616 + N % 18446744073709551616) % 18446744073709551616 = (N + x * y) % 18446744073709551616) := by
  generalize x * y = z at *
  omega

set_option maxHeartbeats 800000 in
theorem plus_any (N x y : Nat) (w : World) (hx : x < 18446744073709551616) (hy : y < 18446744073709551616) (hN : N + x * y < 340282366920938463463374607431768211456) :
    Calls Tryz.prog 130 #[.agg #[.int .u64 ((N / 18446744073709551616 : Nat) : Int), .int .u64 ((N % 18446744073709551616 : Nat) : Int)], .int .u64 x, .int .u64 y] w fun e w' => e = .returned (.agg #[.int .u64 (((N + x * y) / 18446744073709551616 : Nat) : Int), .int .u64 (((N + x * y) % 18446744073709551616 : Nat) : Int)]) ∧ Below w.heap.size w w' := by
  obtain ⟨e1, e2⟩ := plus_eq N x y
  have hh : (N + x * y) / 18446744073709551616 < 18446744073709551616 := by omega
  have R := Lib.hid (fun u => mul64_run x y hx hy u)
  generalize x * y / 18446744073709551616 = zh at *
  have zl : x * y % 18446744073709551616 < 18446744073709551616 := Nat.mod_lt _ (by decide)
  generalize x * y % 18446744073709551616 = zl' at *
  have Nl : N % 18446744073709551616 < 18446744073709551616 := Nat.mod_lt _ (by decide)
  generalize hNh : N / 18446744073709551616 = Nh at *
  generalize N % 18446744073709551616 = Nl' at *
  generalize (N + x * y) / 18446744073709551616 = Rh at *
  generalize (N + x * y) % 18446744073709551616 = Rl at *
  obtain ⟨c, hc⟩ : ∃ c, c = (zl' + Nl') / 18446744073709551616 := ⟨_, rfl⟩
  rw [← hc] at e1
  have A : ∀ u, (callFunc 156 #[.int .u64 (zl' : Int), .int .u64 (Nl' : Int), .int .u64 0]).run Tryz.prog u = .ok (.value (.tuple #[.int .u64 (Rl : Int), .int .u64 (c : Int)])) u := fun u => by
    have := add64_run zl' Nl' 0 zl Nl (by omega) u
    rw [Nat.add_zero, e2, ← hc] at this
    exact this
  have hs : IntKind.u64.wrap ((zh : Int) + (Nh : Int) + (c : Int)) = (Rh : Int) := by
    rw [addN, addN, wrapN _ (by omega), e1]
  have hs' : IntKind.u64.wrap ((zh : Int) + (Nh : Int)) = (zh : Int) + (Nh : Int) := by
    rw [addN, wrapN _ (by omega)]
  have H := Lib.hid hs
  clear e1 e2 hh hNh hN hs hc
  go_enter Tryz.func130, Tryz.ntmps130
  go_wp2_with fail
  refine (R.out _).mono ?_
  rintro e w1 ⟨rfl, rfl⟩
  go_wp2
  rw [H.out]
  exact bodyPost_ret (v := .agg #[.int .u64 (Rh : Int), .int .u64 (Rl : Int)]) (by simp [results, Tryz.results130, go_sem]) rfl ⟨rfl, ((Below.refl _ _).alloc (Nat.le_refl _) _).alloc (by simp) _⟩

theorem or13 (h l : Nat) (hh : h < 2251799813685248) (hl : l < 18446744073709551616) : bits .or .u64 (IntKind.u64.wrap ((h : Int) * 8192)) ((l : Int) / 2251799813685248) = ((h * 8192 + l / 2251799813685248 : Nat) : Int) := by
  have h1 : h * 2 ^ 13 ||| l / 2251799813685248 = h * 2 ^ 13 + l / 2251799813685248 := or_add' (l / 2251799813685248) h 13 (by omega)
  rw [show (h : Int) * 8192 = ((h * 2 ^ 13 : Nat) : Int) by omega, wrapN _ (by omega), show (l : Int) / 2251799813685248 = ((l / 2251799813685248 : Nat) : Int) by omega, bits_or_u64_nat _ _ (by omega) (by omega), h1]

set_option maxHeartbeats 800000 in
theorem over_any (N : Nat) (w : World) (hN : N < 41538374868278621028243970633760768) :
    Calls Tryz.prog 131 #[.agg #[.int .u64 ((N / 18446744073709551616 : Nat) : Int), .int .u64 ((N % 18446744073709551616 : Nat) : Int)]] w fun e w' => e = .returned (.agg #[.int .u64 ((N / 2251799813685248 / 18446744073709551616 : Nat) : Int), .int .u64 ((N / 2251799813685248 % 18446744073709551616 : Nat) : Int)]) ∧ Below w.heap.size w w' := by
  have h0 : N / 2251799813685248 / 18446744073709551616 = 0 := by omega
  have h1 : N / 2251799813685248 % 18446744073709551616 = N / 18446744073709551616 * 8192 + N % 18446744073709551616 / 2251799813685248 := by omega
  have h2 := or13 (N / 18446744073709551616) (N % 18446744073709551616) (by omega) (by omega)
  rw [← h1] at h2
  rw [h0]
  have hl : N % 18446744073709551616 < 18446744073709551616 := by omega
  have hh : N / 18446744073709551616 < 18446744073709551616 := by omega
  generalize N / 18446744073709551616 = h at *
  generalize N % 18446744073709551616 = l at *
  generalize N / 2251799813685248 % 18446744073709551616 = r at *
  have H := Lib.hid h2
  clear h0 h1 h2 hN
  go_enter Tryz.func131, Tryz.ntmps131
  go_wp2
  rw [H.out]
  exact bodyPost_ret (v := .agg #[.int .u64 ((0 : Nat) : Int), .int .u64 (r : Int)]) (by simp [results, Tryz.results131, go_sem]) rfl ⟨rfl, ((Below.refl _ _).alloc (Nat.le_refl _) _).alloc (by simp) _⟩

set_option maxHeartbeats 800000 in
theorem limb_any (N : Nat) (w : World) :
    Calls Tryz.prog 132 #[.agg #[.int .u64 ((N / 18446744073709551616 : Nat) : Int), .int .u64 ((N % 18446744073709551616 : Nat) : Int)]] w fun e w' => e = .returned (.int .u64 ((N % 2251799813685248 : Nat) : Int)) ∧ Below w.heap.size w w' := by
  have h0 : N % 2251799813685248 = N % 18446744073709551616 % 2251799813685248 := by omega
  have hl : N % 18446744073709551616 < 18446744073709551616 := by omega
  rw [h0]
  generalize N / 18446744073709551616 = h at *
  generalize N % 18446744073709551616 = l at *
  clear h0
  go_enter Tryz.func132, Tryz.ntmps132
  go_wp2
  rw [mask51 _ hl]
  go_ret
  exact ⟨rfl, (Below.refl _ _).alloc (Nat.le_refl _) _⟩

/-- Words of 64 bits, as the model has them. -/
def numsV (ns : List Nat) : List Value := ns.map fun (n : Nat) => Value.int .u64 (n : Int)

set_option maxHeartbeats 1600000 in
theorem reduced_any (a b c d e : Nat) (w : World) (h : Words5 a b c d e) :
    Calls Tryz.prog 101 #[.int .u64 a, .int .u64 b, .int .u64 c, .int .u64 d, .int .u64 e] w fun r w' => r = .returned (.agg (numsV (lim (wor a b c d e % Prime.P))).toArray) ∧ Below w.heap.size w w' := by
  have R := Lib.hid (fun u => eased_any a b c d e u h)
  have hr := eased_roomy h
  rw [← eased_mod a b c d e]
  clear h
  generalize a % 2251799813685248 + e / 2251799813685248 * 19 = a' at *
  generalize b % 2251799813685248 + a / 2251799813685248 = b' at *
  generalize c % 2251799813685248 + b / 2251799813685248 = c' at *
  generalize d % 2251799813685248 + c / 2251799813685248 = d' at *
  generalize e % 2251799813685248 + d / 2251799813685248 = e' at *
  have hq := fun q hq => reduce (q := q) hr hq
  unfold Roomy at hr
  obtain ⟨ha, hb, hc, hd, he⟩ := hr
  have HQ := Lib.hid hq
  clear hq
  go_enter Tryz.func101, Tryz.ntmps101
  go_wp2_with fail
  refine (R.out _).mono ?_
  rintro e w1 ⟨rfl, rfl⟩
  go_wp2
  simp only [add19, div51, addN, mul19']
  obtain ⟨q, hq⟩ : ∃ q, q = (e' + (d' + (c' + (b' + (a' + 19) / 2251799813685248) / 2251799813685248) / 2251799813685248) / 2251799813685248) / 2251799813685248 := ⟨_, rfl⟩
  obtain ⟨hq1, hL⟩ := HQ.out q hq
  rw [← hq]
  rw [← hL]
  clear HQ hL hq R
  have h1 : a' + 19 * q < 18446744073709551616 := by omega
  generalize a' + 19 * q = A at *
  have h2 : b' + A / 2251799813685248 < 18446744073709551616 := by omega
  generalize b' + A / 2251799813685248 = B at *
  have h3 : c' + B / 2251799813685248 < 18446744073709551616 := by omega
  generalize c' + B / 2251799813685248 = C at *
  have h4 : d' + C / 2251799813685248 < 18446744073709551616 := by omega
  generalize d' + C / 2251799813685248 = D at *
  have h5 : e' + D / 2251799813685248 < 18446744073709551616 := by omega
  generalize e' + D / 2251799813685248 = E at *
  simp only [mask51 _ h1, mask51 _ h2, mask51 _ h3, mask51 _ h4, mask51 _ h5]
  exact bodyPost_ret (v := .agg #[.int .u64 ((A % 2251799813685248 : Nat) : Int), .int .u64 ((B % 2251799813685248 : Nat) : Int), .int .u64 ((C % 2251799813685248 : Nat) : Int), .int .u64 ((D % 2251799813685248 : Nat) : Int), .int .u64 ((E % 2251799813685248 : Nat) : Int)]) (by simp [results, Tryz.results101, go_sem]) rfl ⟨rfl, (Below.refl _ _).alloc (Nat.le_refl _) _⟩
end Go.Proofs.YtolmfimpaofefaaGreatDoor.Limb

namespace Go.Proofs.YtolmfimpaofefaaGreatDoor.Limb
open Go.RowKit Mur Lanes
set_option maxRecDepth 100000

/-- Limbs as the model has them: five cells. -/
abbrev five (a b c d e : Nat) : Value := .agg #[.int .u64 (a : Int), .int .u64 (b : Int), .int .u64 (c : Int), .int .u64 (d : Int), .int .u64 (e : Int)]
/-- The limbs of a number, so. -/
def limV (n : Nat) : Value := .agg (numsV (lim n)).toArray
theorem limV_five (n : Nat) : ∃ a b c d e : Nat, limV n = five a b c d e := ⟨_, _, _, _, _, rfl⟩

theorem bcell {W w1 : World} (hb : Below W.heap.size W w1) : (∀ b o, b < W.heap.size → w1.cell? ⟨b, o, none⟩ = W.cell? ⟨b, o, none⟩) ∧ (∀ b o, b < W.heap.size → w1.frozen? ⟨b, o, none⟩ = W.frozen? ⟨b, o, none⟩) :=
  ⟨fun b o h => hb.cell (p := ⟨b, o, none⟩) h, fun b o h => hb.frozen (p := ⟨b, o, none⟩) h⟩

theorem set5 {k b : Nat} {w w' : World} (h : Below k w w') (hb : k ≤ b) (v0 v1 v2 v3 v4 : Value) : Below k w (((((w'.setCell ⟨b, 0, none⟩ v0).setCell ⟨b, 1, none⟩ v1).setCell ⟨b, 2, none⟩ v2).setCell ⟨b, 3, none⟩ v3).setCell ⟨b, 4, none⟩ v4) :=
  ((((h.setCell (p := ⟨b, 0, none⟩) hb _).setCell (p := ⟨b, 1, none⟩) hb _).setCell (p := ⟨b, 2, none⟩) hb _).setCell (p := ⟨b, 3, none⟩) hb _).setCell (p := ⟨b, 4, none⟩) hb _

set_option maxHeartbeats 1600000 in
theorem carry_any (a b c d e : Nat) (w : World) (h : Words5 a b c d e) :
    Calls Tryz.prog 73 #[five a b c d e] w fun r w' => r = .returned (limV (wor a b c d e % Prime.P)) ∧ Below w.heap.size w w' := by
  have R := fun u => reduced_any a b c d e u h
  change ∀ u, Calls _ _ _ u fun r w' => r = .returned (limV (wor a b c d e % Prime.P)) ∧ Below u.heap.size u w' at R
  obtain ⟨r0, r1, r2, r3, r4, hr⟩ := limV_five (wor a b c d e % Prime.P)
  rw [hr] at R ⊢
  have R1 := Lib.hid R
  clear hr h R
  go_enter Tryz.func73, Tryz.ntmps73
  go_wp2_with fail
  refine (R1.out _).mono ?_
  rintro e w1 ⟨rfl, hb⟩
  obtain ⟨hc, hf⟩ := bcell hb
  have hz : w.heap.size + 1 < w1.heap.size := by have := hb.size; simp at this; omega
  have HB := Lib.hid hb
  clear hb
  go_wp2
  exact bodyPost_ret (v := five r0 r1 r2 r3 r4) (by simp [results, Tryz.results73, go_sem, hc]) rfl ⟨rfl, set5 (((((Below.refl _ _).alloc (Nat.le_refl _) _).alloc (by simp) _).trans (HB.out.mono (by simp; omega)))) (by omega) _ _ _ _ _⟩

/-- What eased makes of limbs, under names. -/
theorem eased_some (a b c d e : Nat) (h : Words5 a b c d e) : ∃ A B C D E : Nat, Roomy A B C D E ∧ wor A B C D E % Prime.P = wor a b c d e % Prime.P ∧
    ∀ u, Calls Tryz.prog 129 #[.int .u64 a, .int .u64 b, .int .u64 c, .int .u64 d, .int .u64 e] u fun r w' => r = .returned (.tuple #[.int .u64 A, .int .u64 B, .int .u64 C, .int .u64 D, .int .u64 E]) ∧ u = w' :=
  ⟨_, _, _, _, _, eased_roomy h, eased_mod a b c d e, fun u => eased_any a b c d e u h⟩

/-- The difference modulo 2^255 - 19. -/
def subP (x y : Nat) : Nat := (x + (Prime.P - y % Prime.P)) % Prime.P
theorem sub_mod {S A B x y : Nat} (h : S + B = A + 2 * Prime.P) (hA : A % Prime.P = x % Prime.P) (hB : B % Prime.P = y % Prime.P) : S % Prime.P = subP x y := by
  unfold subP
  have hP := P_eq
  generalize Prime.P = p at *
  subst hP
  omega
theorem wor_sum (a b c d e A B C D E : Nat) : wor (a + A) (b + B) (c + C) (d + D) (e + E) = wor a b c d e + wor A B C D E := by
  unfold wor
  omega

set_option maxHeartbeats 1600000 in
theorem add_any (a b c d e a' b' c' d' e' : Nat) (w : World) (h : Words5 a b c d e) (h' : Words5 a' b' c' d' e') :
    Calls Tryz.prog 125 #[five a b c d e, five a' b' c' d' e'] w fun r w' => r = .returned (limV ((wor a b c d e + wor a' b' c' d' e') % Prime.P)) ∧ Below w.heap.size w w' := by
  obtain ⟨A, B, C, D, E, hA, mA, rA⟩ := eased_some a b c d e h
  obtain ⟨A', B', C', D', E', hA', mA', rA'⟩ := eased_some a' b' c' d' e' h'
  have R := fun u => reduced_any (A + A') (B + B') (C + C') (D + D') (E + E') u (by unfold Roomy at hA hA'; unfold Words5; omega)
  rw [wor_sum, Nat.add_mod, mA, mA', ← Nat.add_mod] at R
  change ∀ u, Calls _ _ _ u fun r w' => r = .returned (limV ((wor a b c d e + wor a' b' c' d' e') % Prime.P)) ∧ Below u.heap.size u w' at R
  obtain ⟨r0, r1, r2, r3, r4, hr⟩ := limV_five ((wor a b c d e + wor a' b' c' d' e') % Prime.P)
  rw [hr] at R ⊢
  simp only [Int.natCast_add] at R
  unfold Roomy at hA hA'
  obtain ⟨hA, hB, hC, hD, hE⟩ := hA
  obtain ⟨hA', hB', hC', hD', hE'⟩ := hA'
  have R1 := Lib.hid R
  have R2 := Lib.hid rA
  have R3 := Lib.hid rA'
  clear hr h h' R rA rA' mA mA'
  go_enter Tryz.func125, Tryz.ntmps125
  go_wp2_with fail
  refine (R2.out _).mono ?_
  rintro e w1 ⟨rfl, rfl⟩
  go_wp2_with fail
  refine (R3.out _).mono ?_
  rintro e w1 ⟨rfl, rfl⟩
  go_wp2_with fail
  refine (R1.out _).mono ?_
  rintro e w1 ⟨rfl, hb⟩
  obtain ⟨hc, hf⟩ := bcell hb
  have hz : w.heap.size + 1 + 1 < w1.heap.size := by have := hb.size; simp at this; omega
  have HB := Lib.hid hb
  clear hb
  go_wp2
  exact bodyPost_ret (v := five r0 r1 r2 r3 r4) (by simp [results, Tryz.results125, go_sem, hc]) rfl ⟨rfl, set5 ((((((Below.refl _ _).alloc (Nat.le_refl _) _).alloc (by simp) _).alloc (by simp; omega) _).trans (HB.out.mono (by simp; omega)))) (by omega) _ _ _ _ _⟩

set_option maxHeartbeats 1600000 in
theorem sub_any (a b c d e a' b' c' d' e' : Nat) (w : World) (h : Words5 a b c d e) (h' : Words5 a' b' c' d' e') :
    Calls Tryz.prog 126 #[five a b c d e, five a' b' c' d' e'] w fun r w' => r = .returned (limV (subP (wor a b c d e) (wor a' b' c' d' e'))) ∧ Below w.heap.size w w' := by
  obtain ⟨A, B, C, D, E, hA, mA, rA⟩ := eased_some a b c d e h
  obtain ⟨A', B', C', D', E', hA', mA', rA'⟩ := eased_some a' b' c' d' e' h'
  unfold Roomy at hA hA'
  obtain ⟨hA, hB, hC, hD, hE⟩ := hA
  obtain ⟨hA', hB', hC', hD', hE'⟩ := hA'
  obtain ⟨s0, hs0⟩ : ∃ s : Nat, s = A + 4503599627370458 - A' := ⟨_, rfl⟩
  obtain ⟨s1, hs1⟩ : ∃ s : Nat, s = B + 4503599627370494 - B' := ⟨_, rfl⟩
  obtain ⟨s2, hs2⟩ : ∃ s : Nat, s = C + 4503599627370494 - C' := ⟨_, rfl⟩
  obtain ⟨s3, hs3⟩ : ∃ s : Nat, s = D + 4503599627370494 - D' := ⟨_, rfl⟩
  obtain ⟨s4, hs4⟩ : ∃ s : Nat, s = E + 4503599627370494 - E' := ⟨_, rfl⟩
  have R := fun u => reduced_any s0 s1 s2 s3 s4 u (by unfold Words5; omega)
  have hsum : wor s0 s1 s2 s3 s4 + wor A' B' C' D' E' = wor A B C D E + 2 * Prime.P := by
    rw [P_eq]
    unfold wor
    omega
  rw [sub_mod hsum mA mA'] at R
  change ∀ u, Calls _ _ _ u fun r w' => r = .returned (limV (subP (wor a b c d e) (wor a' b' c' d' e'))) ∧ Below u.heap.size u w' at R
  obtain ⟨r0, r1, r2, r3, r4, hr⟩ := limV_five (subP (wor a b c d e) (wor a' b' c' d' e'))
  rw [hr] at R ⊢
  rw [show (s0 : Int) = A + 4503599627370458 - A' by omega, show (s1 : Int) = B + 4503599627370494 - B' by omega, show (s2 : Int) = C + 4503599627370494 - C' by omega, show (s3 : Int) = D + 4503599627370494 - D' by omega, show (s4 : Int) = E + 4503599627370494 - E' by omega] at R
  have R1 := Lib.hid R
  have R2 := Lib.hid rA
  have R3 := Lib.hid rA'
  clear hr h h' R rA rA' mA mA' hs0 hs1 hs2 hs3 hs4 hsum
  go_enter Tryz.func126, Tryz.ntmps126
  go_wp2_with fail
  refine (R2.out _).mono ?_
  rintro e w1 ⟨rfl, rfl⟩
  go_wp2_with fail
  refine (R3.out _).mono ?_
  rintro e w1 ⟨rfl, rfl⟩
  go_wp2_with fail
  refine (R1.out _).mono ?_
  rintro e w1 ⟨rfl, hb⟩
  obtain ⟨hc, hf⟩ := bcell hb
  have hz : w.heap.size + 1 + 1 < w1.heap.size := by have := hb.size; simp at this; omega
  have HB := Lib.hid hb
  clear hb
  go_wp2
  exact bodyPost_ret (v := five r0 r1 r2 r3 r4) (by simp [results, Tryz.results126, go_sem, hc]) rfl ⟨rfl, set5 ((((((Below.refl _ _).alloc (Nat.le_refl _) _).alloc (by simp) _).alloc (by simp; omega) _).trans (HB.out.mono (by simp; omega)))) (by omega) _ _ _ _ _⟩
end Go.Proofs.YtolmfimpaofefaaGreatDoor.Limb

namespace Go.Proofs.YtolmfimpaofefaaGreatDoor.Limb
open Go.RowKit Mur Lanes
set_option maxRecDepth 100000

/-- A number of 128 bits in two words. -/
def Dbl (N h l : Nat) : Prop := h = N / 18446744073709551616 ∧ l = N % 18446744073709551616
abbrev dbl (h l : Nat) : Value := .agg #[.int .u64 (h : Int), .int .u64 (l : Int)]

theorem plus_some (N h l x y B : Nat) (hd : Dbl N h l) (hN : N ≤ B) (hx : x < 2251799813947392) (hy : y ≤ 19 * 2251799813947392) (hB : B + 96341445639776675308685928431616 < 340282366920938463463374607431768211456) :
    ∃ h' l', Dbl (N + x * y) h' l' ∧ N + x * y ≤ B + 96341445639776675308685928431616 ∧ Hid (∀ u, Calls Tryz.prog 130 #[dbl h l, .int .u64 x, .int .u64 y] u fun r w' => r = .returned (dbl h' l') ∧ Below u.heap.size u w') := by
  have h1 : x * y ≤ 96341445639776675308685928431616 := Nat.le_trans (Nat.mul_le_mul (Nat.le_of_lt hx) hy) (by decide)
  obtain ⟨rfl, rfl⟩ := hd
  exact ⟨_, _, ⟨rfl, rfl⟩, by omega, Lib.hid fun u => plus_any N x y u (by omega) (by omega) (by omega)⟩
theorem over_some (N h l B : Nat) (hd : Dbl N h l) (hN : N ≤ B) (hB : B < 41538374868278621028243970633760768) :
    ∃ h' l', Dbl (N / 2251799813685248) h' l' ∧ Hid (∀ u, Calls Tryz.prog 131 #[dbl h l] u fun r w' => r = .returned (dbl h' l') ∧ Below u.heap.size u w') := by
  obtain ⟨rfl, rfl⟩ := hd
  exact ⟨_, _, ⟨rfl, rfl⟩, Lib.hid fun u => over_any N u (by omega)⟩
theorem limb_some (N h l : Nat) (hd : Dbl N h l) :
    ∃ x, x = N % 2251799813685248 ∧ Hid (∀ u, Calls Tryz.prog 132 #[dbl h l] u fun r w' => r = .returned (.int .u64 x) ∧ Below u.heap.size u w') := by
  obtain ⟨rfl, rfl⟩ := hd
  exact ⟨_, rfl, Lib.hid fun u => limb_any N u⟩

/-- What is carried of the sums of products, and what they are worth. -/
theorem sums_wor {p0 p1 p2 p3 p4 s0 s1 s2 s3 s4 : Nat} (h0 : s0 = p0) (h1 : s1 = s0 / 2251799813685248 + p1) (h2 : s2 = s1 / 2251799813685248 + p2) (h3 : s3 = s2 / 2251799813685248 + p3) (h4 : s4 = s3 / 2251799813685248 + p4) :
    wor (s0 % 2251799813685248 + 19 * (s4 / 2251799813685248)) (s1 % 2251799813685248) (s2 % 2251799813685248) (s3 % 2251799813685248) (s4 % 2251799813685248) + Prime.P * (s4 / 2251799813685248) = wor p0 p1 p2 p3 p4 := by
  unfold wor
  rw [P_eq]
  omega

/-- The product of two numbers, limb by limb. -/
theorem mul_wor (a0 a1 a2 a3 a4 b0 b1 b2 b3 b4 : Nat) :
    wor (a0 * b0 + a1 * (19 * b4) + a2 * (19 * b3) + a3 * (19 * b2) + a4 * (19 * b1)) (a0 * b1 + a1 * b0 + a2 * (19 * b4) + a3 * (19 * b3) + a4 * (19 * b2)) (a0 * b2 + a1 * b1 + a2 * b0 + a3 * (19 * b4) + a4 * (19 * b3)) (a0 * b3 + a1 * b2 + a2 * b1 + a3 * b0 + a4 * (19 * b4)) (a0 * b4 + a1 * b3 + a2 * b2 + a3 * b1 + a4 * b0) + Prime.P * (a1 * b4 * 1 + a2 * b3 * 1 + a2 * b4 * 2251799813685248 + a3 * b2 * 1 + a3 * b3 * 2251799813685248 + a3 * b4 * 5070602400912917605986812821504 + a4 * b1 * 1 + a4 * b2 * 2251799813685248 + a4 * b3 * 5070602400912917605986812821504 + a4 * b4 * 11417981541647679048466287755595961091061972992) = wor a0 a1 a2 a3 a4 * wor b0 b1 b2 b3 b4 := by
  unfold wor
  rw [P_eq]
  grind

theorem field_low (h l : Int) (u : World) : (Instr.field 141 (.agg #[.int .u64 h, .int .u64 l]) 1).run Tryz.prog u = .ok (.int .u64 l) u := by
  unfold Instr.field
  simp only [Sem.run_bind, run_underlying Tryz.underlying141, Result.andThen_ok]
  simp [part, asAgg, go_sem]

/-- The worlds of the walk: what was made is kept. -/
structure Tm (w0 : World) (b0 : Nat) (fs : List (Nat × Nat × Nat)) (w : World) : Prop where
  below : Below w0.heap.size w0 w
  old : w0.heap.size ≤ b0
  z : Whole w b0 69 [.int .u64 0, .int .u64 0, .int .u64 0, .int .u64 0, .int .u64 0]
  f : ∀ x ∈ fs, x.1 < w.heap.size ∧ w.cell? ⟨x.1, 0, none⟩ = some (.int .u64 (x.2.1 : Int)) ∧ w.cell? ⟨x.1, 1, none⟩ = some (.int .u64 (x.2.2 : Int))
theorem Tm.next {w0 w w' : World} {b0 : Nat} {fs : List (Nat × Nat × Nat)} (h : Tm w0 b0 fs w) (q : Below w.heap.size w w') : Tm w0 b0 fs w' :=
  ⟨h.below.trans (q.mono h.below.size), h.old, h.z.below h.z.lt q, fun x hx => ⟨Nat.lt_of_lt_of_le (h.f x hx).1 q.size, (q.cell (p := ⟨x.1, 0, none⟩) (h.f x hx).1).trans (h.f x hx).2.1, (q.cell (p := ⟨x.1, 1, none⟩) (h.f x hx).1).trans (h.f x hx).2.2⟩⟩
theorem Tm.add {w0 w : World} {b0 : Nat} {fs : List (Nat × Nat × Nat)} (h : Tm w0 b0 fs w) (x y : Nat) : Tm w0 b0 ((w.heap.size, x, y) :: fs) (w.alloc (.cells #[.int .u64 (x : Int), .int .u64 (y : Int)] 141)) := by
  refine ⟨h.below.alloc h.below.size _, h.old, h.z.alloc _, fun z hz => ?_⟩
  rcases List.mem_cons.1 hz with rfl | hz
  · exact ⟨by simp, by simp, by simp⟩
  · have := h.f z hz
    refine ⟨by have := this.1; simp; omega, ?_, ?_⟩
    · rw [World.cell?_alloc_old _ _ _ (Nat.ne_of_lt this.1)]
      exact this.2.1
    · rw [World.cell?_alloc_old _ _ _ (Nat.ne_of_lt this.1)]
      exact this.2.2
theorem Tm.drew {w0 w : World} {b0 : Nat} {fs : List (Nat × Nat × Nat)} (h : Tm w0 b0 fs w) : Tm w0 b0 fs w.drew := ⟨h.below.drew, h.old, h.z.drew, h.f⟩
theorem Tm.cells {w0 w : World} {b0 : Nat} {fs : List (Nat × Nat × Nat)} (h : Tm w0 b0 fs w) {p x y : Nat} (hm : (p, x, y) ∈ fs) : w.cell? ⟨p, 0, none⟩ = some (.int .u64 (x : Int)) ∧ w.cell? ⟨p, 1, none⟩ = some (.int .u64 (y : Int)) := (h.f _ hm).2

set_option maxHeartbeats 8000000 in
theorem times_any (a b c d e a' b' c' d' e' : Nat) (w : World) (h : Words5 a b c d e) (h' : Words5 a' b' c' d' e') :
    Calls Tryz.prog 98 #[five a b c d e, five a' b' c' d' e'] w fun r w' => r = .returned (limV (wor a b c d e * wor a' b' c' d' e' % Prime.P)) ∧ Below w.heap.size w w' := by
  obtain ⟨a0, a1, a2, a3, a4, hA, mA, rA⟩ := eased_some a b c d e h
  obtain ⟨b0, b1, b2, b3, b4, hB, mB, rB⟩ := eased_some a' b' c' d' e' h'
  have hmul := mul_wor a0 a1 a2 a3 a4 b0 b1 b2 b3 b4
  have hmod : wor a0 a1 a2 a3 a4 * wor b0 b1 b2 b3 b4 % Prime.P = wor a b c d e * wor a' b' c' d' e' % Prime.P := by rw [Nat.mul_mod, mA, mB, ← Nat.mul_mod]
  rw [← hmod, ← hmul, Nat.add_mul_mod_self_left]
  unfold Roomy at hA hB
  obtain ⟨hA0, hA1, hA2, hA3, hA4⟩ := hA
  obtain ⟨hB0, hB1, hB2, hB3, hB4⟩ := hB
  obtain ⟨c1, hc1⟩ : ∃ c, c = 19 * b1 := ⟨_, rfl⟩
  obtain ⟨c2, hc2⟩ : ∃ c, c = 19 * b2 := ⟨_, rfl⟩
  obtain ⟨c3, hc3⟩ : ∃ c, c = 19 * b3 := ⟨_, rfl⟩
  obtain ⟨c4, hc4⟩ : ∃ c, c = 19 * b4 := ⟨_, rfl⟩
  have d0 : Dbl 0 0 0 := ⟨rfl, rfl⟩
  have n0 : 0 ≤ 0 := Nat.le_refl 0
  obtain ⟨h1, l1, d1, n1, R1⟩ := plus_some _ _ _ a0 b0 0 d0 n0 (by omega) (by omega) (by decide)
  rw [show 0 + 96341445639776675308685928431616 = 96341445639776675308685928431616 by decide] at n1
  obtain ⟨h2, l2, d2, n2, R2⟩ := plus_some _ _ _ a1 c4 96341445639776675308685928431616 d1 n1 (by omega) (by omega) (by decide)
  rw [show 96341445639776675308685928431616 + 96341445639776675308685928431616 = 192682891279553350617371856863232 by decide] at n2
  obtain ⟨h3, l3, d3, n3, R3⟩ := plus_some _ _ _ a2 c3 192682891279553350617371856863232 d2 n2 (by omega) (by omega) (by decide)
  rw [show 192682891279553350617371856863232 + 96341445639776675308685928431616 = 289024336919330025926057785294848 by decide] at n3
  obtain ⟨h4, l4, d4, n4, R4⟩ := plus_some _ _ _ a3 c2 289024336919330025926057785294848 d3 n3 (by omega) (by omega) (by decide)
  rw [show 289024336919330025926057785294848 + 96341445639776675308685928431616 = 385365782559106701234743713726464 by decide] at n4
  obtain ⟨h5, l5, d5, n5, R5⟩ := plus_some _ _ _ a4 c1 385365782559106701234743713726464 d4 n4 (by omega) (by omega) (by decide)
  rw [show 385365782559106701234743713726464 + 96341445639776675308685928431616 = 481707228198883376543429642158080 by decide] at n5
  obtain ⟨ho1, lo1, do1, Q1⟩ := over_some _ _ _ 481707228198883376543429642158080 d5 n5 (by decide)
  have no1 := Nat.div_le_div_right (c := 2251799813685248) n5
  rw [show 481707228198883376543429642158080 / 2251799813685248 = 213920982349905920 by decide] at no1
  obtain ⟨h6, l6, d6, n6, R6⟩ := plus_some _ _ _ a0 b1 213920982349905920 do1 no1 (by omega) (by omega) (by decide)
  rw [show 213920982349905920 + 96341445639776675308685928431616 = 96341445639776889229668278337536 by decide] at n6
  obtain ⟨h7, l7, d7, n7, R7⟩ := plus_some _ _ _ a1 b0 96341445639776889229668278337536 d6 n6 (by omega) (by omega) (by decide)
  rw [show 96341445639776889229668278337536 + 96341445639776675308685928431616 = 192682891279553564538354206769152 by decide] at n7
  obtain ⟨h8, l8, d8, n8, R8⟩ := plus_some _ _ _ a2 c4 192682891279553564538354206769152 d7 n7 (by omega) (by omega) (by decide)
  rw [show 192682891279553564538354206769152 + 96341445639776675308685928431616 = 289024336919330239847040135200768 by decide] at n8
  obtain ⟨h9, l9, d9, n9, R9⟩ := plus_some _ _ _ a3 c3 289024336919330239847040135200768 d8 n8 (by omega) (by omega) (by decide)
  rw [show 289024336919330239847040135200768 + 96341445639776675308685928431616 = 385365782559106915155726063632384 by decide] at n9
  obtain ⟨h10, l10, d10, n10, R10⟩ := plus_some _ _ _ a4 c2 385365782559106915155726063632384 d9 n9 (by omega) (by omega) (by decide)
  rw [show 385365782559106915155726063632384 + 96341445639776675308685928431616 = 481707228198883590464411992064000 by decide] at n10
  obtain ⟨ho2, lo2, do2, Q2⟩ := over_some _ _ _ 481707228198883590464411992064000 d10 n10 (by decide)
  have no2 := Nat.div_le_div_right (c := 2251799813685248) n10
  rw [show 481707228198883590464411992064000 / 2251799813685248 = 213920982349906015 by decide] at no2
  obtain ⟨h11, l11, d11, n11, R11⟩ := plus_some _ _ _ a0 b2 213920982349906015 do2 no2 (by omega) (by omega) (by decide)
  rw [show 213920982349906015 + 96341445639776675308685928431616 = 96341445639776889229668278337631 by decide] at n11
  obtain ⟨h12, l12, d12, n12, R12⟩ := plus_some _ _ _ a1 b1 96341445639776889229668278337631 d11 n11 (by omega) (by omega) (by decide)
  rw [show 96341445639776889229668278337631 + 96341445639776675308685928431616 = 192682891279553564538354206769247 by decide] at n12
  obtain ⟨h13, l13, d13, n13, R13⟩ := plus_some _ _ _ a2 b0 192682891279553564538354206769247 d12 n12 (by omega) (by omega) (by decide)
  rw [show 192682891279553564538354206769247 + 96341445639776675308685928431616 = 289024336919330239847040135200863 by decide] at n13
  obtain ⟨h14, l14, d14, n14, R14⟩ := plus_some _ _ _ a3 c4 289024336919330239847040135200863 d13 n13 (by omega) (by omega) (by decide)
  rw [show 289024336919330239847040135200863 + 96341445639776675308685928431616 = 385365782559106915155726063632479 by decide] at n14
  obtain ⟨h15, l15, d15, n15, R15⟩ := plus_some _ _ _ a4 c3 385365782559106915155726063632479 d14 n14 (by omega) (by omega) (by decide)
  rw [show 385365782559106915155726063632479 + 96341445639776675308685928431616 = 481707228198883590464411992064095 by decide] at n15
  obtain ⟨ho3, lo3, do3, Q3⟩ := over_some _ _ _ 481707228198883590464411992064095 d15 n15 (by decide)
  have no3 := Nat.div_le_div_right (c := 2251799813685248) n15
  rw [show 481707228198883590464411992064095 / 2251799813685248 = 213920982349906015 by decide] at no3
  obtain ⟨h16, l16, d16, n16, R16⟩ := plus_some _ _ _ a0 b3 213920982349906015 do3 no3 (by omega) (by omega) (by decide)
  rw [show 213920982349906015 + 96341445639776675308685928431616 = 96341445639776889229668278337631 by decide] at n16
  obtain ⟨h17, l17, d17, n17, R17⟩ := plus_some _ _ _ a1 b2 96341445639776889229668278337631 d16 n16 (by omega) (by omega) (by decide)
  rw [show 96341445639776889229668278337631 + 96341445639776675308685928431616 = 192682891279553564538354206769247 by decide] at n17
  obtain ⟨h18, l18, d18, n18, R18⟩ := plus_some _ _ _ a2 b1 192682891279553564538354206769247 d17 n17 (by omega) (by omega) (by decide)
  rw [show 192682891279553564538354206769247 + 96341445639776675308685928431616 = 289024336919330239847040135200863 by decide] at n18
  obtain ⟨h19, l19, d19, n19, R19⟩ := plus_some _ _ _ a3 b0 289024336919330239847040135200863 d18 n18 (by omega) (by omega) (by decide)
  rw [show 289024336919330239847040135200863 + 96341445639776675308685928431616 = 385365782559106915155726063632479 by decide] at n19
  obtain ⟨h20, l20, d20, n20, R20⟩ := plus_some _ _ _ a4 c4 385365782559106915155726063632479 d19 n19 (by omega) (by omega) (by decide)
  rw [show 385365782559106915155726063632479 + 96341445639776675308685928431616 = 481707228198883590464411992064095 by decide] at n20
  obtain ⟨ho4, lo4, do4, Q4⟩ := over_some _ _ _ 481707228198883590464411992064095 d20 n20 (by decide)
  have no4 := Nat.div_le_div_right (c := 2251799813685248) n20
  rw [show 481707228198883590464411992064095 / 2251799813685248 = 213920982349906015 by decide] at no4
  obtain ⟨h21, l21, d21, n21, R21⟩ := plus_some _ _ _ a0 b4 213920982349906015 do4 no4 (by omega) (by omega) (by decide)
  rw [show 213920982349906015 + 96341445639776675308685928431616 = 96341445639776889229668278337631 by decide] at n21
  obtain ⟨h22, l22, d22, n22, R22⟩ := plus_some _ _ _ a1 b3 96341445639776889229668278337631 d21 n21 (by omega) (by omega) (by decide)
  rw [show 96341445639776889229668278337631 + 96341445639776675308685928431616 = 192682891279553564538354206769247 by decide] at n22
  obtain ⟨h23, l23, d23, n23, R23⟩ := plus_some _ _ _ a2 b2 192682891279553564538354206769247 d22 n22 (by omega) (by omega) (by decide)
  rw [show 192682891279553564538354206769247 + 96341445639776675308685928431616 = 289024336919330239847040135200863 by decide] at n23
  obtain ⟨h24, l24, d24, n24, R24⟩ := plus_some _ _ _ a3 b1 289024336919330239847040135200863 d23 n23 (by omega) (by omega) (by decide)
  rw [show 289024336919330239847040135200863 + 96341445639776675308685928431616 = 385365782559106915155726063632479 by decide] at n24
  obtain ⟨h25, l25, d25, n25, R25⟩ := plus_some _ _ _ a4 b0 385365782559106915155726063632479 d24 n24 (by omega) (by omega) (by decide)
  rw [show 385365782559106915155726063632479 + 96341445639776675308685928431616 = 481707228198883590464411992064095 by decide] at n25
  obtain ⟨ho5, lo5, do5, Q5⟩ := over_some _ _ _ 481707228198883590464411992064095 d25 n25 (by decide)
  obtain ⟨x0, hx0, X0⟩ := limb_some _ _ _ d5
  obtain ⟨x1, hx1, X1⟩ := limb_some _ _ _ d10
  obtain ⟨x2, hx2, X2⟩ := limb_some _ _ _ d15
  obtain ⟨x3, hx3, X3⟩ := limb_some _ _ _ d20
  obtain ⟨x4, hx4, X4⟩ := limb_some _ _ _ d25
  generalize hs0 : 0 + a0 * b0 + a1 * c4 + a2 * c3 + a3 * c2 + a4 * c1 = s0 at *
  generalize hs1 : s0 / 2251799813685248 + a0 * b1 + a1 * b0 + a2 * c4 + a3 * c3 + a4 * c2 = s1 at *
  generalize hs2 : s1 / 2251799813685248 + a0 * b2 + a1 * b1 + a2 * b0 + a3 * c4 + a4 * c3 = s2 at *
  generalize hs3 : s2 / 2251799813685248 + a0 * b3 + a1 * b2 + a2 * b1 + a3 * b0 + a4 * c4 = s3 at *
  generalize hs4 : s3 / 2251799813685248 + a0 * b4 + a1 * b3 + a2 * b2 + a3 * b1 + a4 * b0 = s4 at *
  have hw := sums_wor (p0 := a0 * b0 + a1 * c4 + a2 * c3 + a3 * c2 + a4 * c1) (p1 := a0 * b1 + a1 * b0 + a2 * c4 + a3 * c3 + a4 * c2) (p2 := a0 * b2 + a1 * b1 + a2 * b0 + a3 * c4 + a4 * c3) (p3 := a0 * b3 + a1 * b2 + a2 * b1 + a3 * b0 + a4 * c4) (p4 := a0 * b4 + a1 * b3 + a2 * b2 + a3 * b1 + a4 * b0) (s0 := s0) (s1 := s1) (s2 := s2) (s3 := s3) (s4 := s4) (by rw [← hs0, Nat.zero_add]) (by rw [← hs1]; simp only [Nat.add_assoc]) (by rw [← hs2]; simp only [Nat.add_assoc]) (by rw [← hs3]; simp only [Nat.add_assoc]) (by rw [← hs4]; simp only [Nat.add_assoc])
  rw [← hc1, ← hc2, ← hc3, ← hc4, ← hw, Nat.add_mul_mod_self_left]
  have hlo : lo5 = s4 / 2251799813685248 := by
    rw [do5.2]
    exact Nat.mod_eq_of_lt (by omega)
  rw [← hlo]
  have R := fun u => reduced_any (x0 + 19 * lo5) x1 x2 x3 x4 u (by unfold Words5; omega)
  rw [hx0, hx1, hx2, hx3, hx4] at R
  change ∀ u, Calls _ _ _ u fun r w' => r = .returned (limV (wor (s0 % 2251799813685248 + 19 * lo5) (s1 % 2251799813685248) (s2 % 2251799813685248) (s3 % 2251799813685248) (s4 % 2251799813685248) % Prime.P)) ∧ Below u.heap.size u w' at R
  obtain ⟨r0, r1, r2, r3, r4, hr⟩ := limV_five (wor (s0 % 2251799813685248 + 19 * lo5) (s1 % 2251799813685248) (s2 % 2251799813685248) (s3 % 2251799813685248) (s4 % 2251799813685248) % Prime.P)
  rw [hr, ← hx0, ← hx1, ← hx2, ← hx3, ← hx4] at R
  rw [hr]
  have bx0 : x0 < 2251799813685248 := by rw [hx0]; exact Nat.mod_lt _ (by decide)
  have bl5 : lo5 < 288230376151711744 := by omega
  have e1 := Lib.hid (show 19 * (b1 : Int) = (c1 : Int) by omega)
  have e2 := Lib.hid (show 19 * (b2 : Int) = (c2 : Int) by omega)
  have e3 := Lib.hid (show 19 * (b3 : Int) = (c3 : Int) by omega)
  have e4 := Lib.hid (show 19 * (b4 : Int) = (c4 : Int) by omega)
  rw [show ((x0 + 19 * lo5 : Nat) : Int) = (x0 : Int) + 19 * (lo5 : Int) by omega] at R
  have RR := Lib.hid R
  have RA := Lib.hid rA
  have RB := Lib.hid rB
  have T0 := Lib.hid (show Tm w (w.heap.size + 1 + 1) [] (((w.alloc (.cells #[.int .u64 a, .int .u64 b, .int .u64 c, .int .u64 d, .int .u64 e] 69)).alloc (.cells #[.int .u64 a', .int .u64 b', .int .u64 c', .int .u64 d', .int .u64 e'] 69)).alloc (.cells #[.int .u64 0, .int .u64 0, .int .u64 0, .int .u64 0, .int .u64 0] 69)) from
    ⟨(((Below.refl _ _).alloc (Nat.le_refl _) _).alloc (by simp) _).alloc (by simp; omega) _, by omega, Whole.made' _ _ _ _ (by simp), fun x hx => by cases hx⟩)
  clear h h' mA mB hmul hmod hc1 hc2 hc3 hc4 d0 n0 hs0 hs1 hs2 hs3 hs4 hw hlo R rA rB hr hx0 hx1 hx2 hx3 hx4 d1 d2 d3 d4 d5 d6 d7 d8 d9 d10 d11 d12 d13 d14 d15 d16 d17 d18 d19 d20 d21 d22 d23 d24 d25 n1 n2 n3 n4 n5 n6 n7 n8 n9 n10 n11 n12 n13 n14 n15 n16 n17 n18 n19 n20 n21 n22 n23 n24 n25 do1 do2 do3 do4 do5 no1 no2 no3 no4
  go_enter Tryz.func98, Tryz.ntmps98
  go_wp2_with fail
  refine (RA.out _).mono ?_
  rintro e w1 ⟨rfl, rfl⟩
  go_wp2_with fail
  refine (RB.out _).mono ?_
  rintro e w1 ⟨rfl, rfl⟩
  go_upto_region 4 with (fail)
  rw [e1.out, e2.out, e3.out, e4.out]
  have R1 := Lib.hid (show ∀ u, Calls Tryz.prog 130 #[.agg #[.int .u64 0, .int .u64 0], .int .u64 (a0 : Int), .int .u64 (b0 : Int)] u fun r w' => r = .returned (dbl h1 l1) ∧ Below u.heap.size u w' from R1.out)
  go_wp2_with fail
  refine (R1.out _).mono ?_
  rintro e v1 ⟨rfl, hb⟩
  have T1 := Lib.hid ((T0.out).next hb)
  clear hb
  go_wp2_with fail
  refine (R2.out _).mono ?_
  rintro e v2 ⟨rfl, hb⟩
  have T2 := Lib.hid ((T1.out).next hb)
  clear hb
  go_wp2_with fail
  refine (R3.out _).mono ?_
  rintro e v3 ⟨rfl, hb⟩
  have T3 := Lib.hid ((T2.out).next hb)
  clear hb
  go_wp2_with fail
  refine (R4.out _).mono ?_
  rintro e v4 ⟨rfl, hb⟩
  have T4 := Lib.hid ((T3.out).next hb)
  clear hb
  go_wp2_with fail
  refine (R5.out _).mono ?_
  rintro e v5 ⟨rfl, hb⟩
  have T5 := Lib.hid ((T4.out).next hb)
  clear hb
  go_wp2_with fail
  refine (Q1.out _).mono ?_
  rintro e v6 ⟨rfl, hb⟩
  have T6 := Lib.hid ((T5.out.add h5 l5).next hb)
  clear hb
  go_wp2_with fail
  refine (R6.out _).mono ?_
  rintro e v7 ⟨rfl, hb⟩
  have T7 := Lib.hid ((T6.out).next hb)
  clear hb
  go_wp2_with fail
  refine (R7.out _).mono ?_
  rintro e v8 ⟨rfl, hb⟩
  have T8 := Lib.hid ((T7.out).next hb)
  clear hb
  go_wp2_with fail
  refine (R8.out _).mono ?_
  rintro e v9 ⟨rfl, hb⟩
  have T9 := Lib.hid ((T8.out).next hb)
  clear hb
  go_wp2_with fail
  refine (R9.out _).mono ?_
  rintro e v10 ⟨rfl, hb⟩
  have T10 := Lib.hid ((T9.out).next hb)
  clear hb
  go_wp2_with fail
  refine (R10.out _).mono ?_
  rintro e v11 ⟨rfl, hb⟩
  have T11 := Lib.hid ((T10.out).next hb)
  clear hb
  go_wp2_with fail
  refine (Q2.out _).mono ?_
  rintro e v12 ⟨rfl, hb⟩
  have T12 := Lib.hid ((T11.out.add h10 l10).next hb)
  clear hb
  go_wp2_with fail
  refine (R11.out _).mono ?_
  rintro e v13 ⟨rfl, hb⟩
  have T13 := Lib.hid ((T12.out).next hb)
  clear hb
  go_wp2_with fail
  refine (R12.out _).mono ?_
  rintro e v14 ⟨rfl, hb⟩
  have T14 := Lib.hid ((T13.out).next hb)
  clear hb
  go_wp2_with fail
  refine (R13.out _).mono ?_
  rintro e v15 ⟨rfl, hb⟩
  have T15 := Lib.hid ((T14.out).next hb)
  clear hb
  go_wp2_with fail
  refine (R14.out _).mono ?_
  rintro e v16 ⟨rfl, hb⟩
  have T16 := Lib.hid ((T15.out).next hb)
  clear hb
  go_wp2_with fail
  refine (R15.out _).mono ?_
  rintro e v17 ⟨rfl, hb⟩
  have T17 := Lib.hid ((T16.out).next hb)
  clear hb
  go_wp2_with fail
  refine (Q3.out _).mono ?_
  rintro e v18 ⟨rfl, hb⟩
  have T18 := Lib.hid ((T17.out.add h15 l15).next hb)
  clear hb
  go_wp2_with fail
  refine (R16.out _).mono ?_
  rintro e v19 ⟨rfl, hb⟩
  have T19 := Lib.hid ((T18.out).next hb)
  clear hb
  go_wp2_with fail
  refine (R17.out _).mono ?_
  rintro e v20 ⟨rfl, hb⟩
  have T20 := Lib.hid ((T19.out).next hb)
  clear hb
  go_wp2_with fail
  refine (R18.out _).mono ?_
  rintro e v21 ⟨rfl, hb⟩
  have T21 := Lib.hid ((T20.out).next hb)
  clear hb
  go_wp2_with fail
  refine (R19.out _).mono ?_
  rintro e v22 ⟨rfl, hb⟩
  have T22 := Lib.hid ((T21.out).next hb)
  clear hb
  go_wp2_with fail
  refine (R20.out _).mono ?_
  rintro e v23 ⟨rfl, hb⟩
  have T23 := Lib.hid ((T22.out).next hb)
  clear hb
  go_wp2_with fail
  refine (Q4.out _).mono ?_
  rintro e v24 ⟨rfl, hb⟩
  have T24 := Lib.hid ((T23.out.add h20 l20).next hb)
  clear hb
  go_wp2_with fail
  refine (R21.out _).mono ?_
  rintro e v25 ⟨rfl, hb⟩
  have T25 := Lib.hid ((T24.out).next hb)
  clear hb
  go_wp2_with fail
  refine (R22.out _).mono ?_
  rintro e v26 ⟨rfl, hb⟩
  have T26 := Lib.hid ((T25.out).next hb)
  clear hb
  go_wp2_with fail
  refine (R23.out _).mono ?_
  rintro e v27 ⟨rfl, hb⟩
  have T27 := Lib.hid ((T26.out).next hb)
  clear hb
  go_wp2_with fail
  refine (R24.out _).mono ?_
  rintro e v28 ⟨rfl, hb⟩
  have T28 := Lib.hid ((T27.out).next hb)
  clear hb
  go_wp2_with fail
  refine (R25.out _).mono ?_
  rintro e v29 ⟨rfl, hb⟩
  have T29 := Lib.hid ((T28.out).next hb)
  clear hb
  go_upto_region 9 with (fail)
  have TD := Lib.hid (Tm.drew (T29.out.add h25 l25))
  clear T29
  generalize v29.alloc (.cells #[.int .u64 (h25 : Int), .int .u64 (l25 : Int)] 141) = wz at *
  refine Steady.region 16 (by kernel_rfl) (by kernel_rfl) (fun u => Below wz.drew.heap.size wz.drew u) (Below.refl _ _) ?_
  simp only [List.take_succ_cons, List.take_zero, List.drop_succ_cons, List.drop_zero]
  refine Steady.take ?_ rfl (by intro u hu; obtain ⟨g0, g1⟩ := (TD.out.next hu).cells (p := v5.heap.size) (x := h5) (y := l5) (by simp); go_simp; with_reducible rfl) ?_
  simp only [Act.put, List.setIfInBounds_toArray, List.set_cons_zero, List.set_cons_succ]
  refine Steady.call _ _ _ rfl ?_ (Steady.kept X0.out) ?_
  · intro u
    go_simp
  simp only [Act.put, List.setIfInBounds_toArray, List.set_cons_zero, List.set_cons_succ]
  refine Steady.take ?_ rfl (by intro u hu; obtain ⟨g0, g1⟩ := (TD.out.next hu).cells (p := v29.heap.size) (x := h25) (y := l25) (by simp); go_simp; with_reducible rfl) ?_
  simp only [Act.put, List.setIfInBounds_toArray, List.set_cons_zero, List.set_cons_succ]
  refine Steady.call _ _ _ rfl ?_ (Steady.kept Q5.out) ?_
  · intro u
    go_simp
  simp only [Act.put, List.setIfInBounds_toArray, List.set_cons_zero, List.set_cons_succ]
  simp only [dbl]
  have hfl := fun u => field_low ho5 lo5 u
  refine Steady.take ?_ rfl (by intro u hu; go_simp; with_reducible rfl) ?_
  simp only [Act.put, List.setIfInBounds_toArray, List.set_cons_zero, List.set_cons_succ]
  clear hfl
  refine Steady.take ?_ rfl (by intro u hu; go_simp; with_reducible rfl) ?_
  simp only [Act.put, List.setIfInBounds_toArray, List.set_cons_zero, List.set_cons_succ]
  refine Steady.take ?_ rfl (by intro u hu; go_simp; with_reducible rfl) ?_
  simp only [Act.put, List.setIfInBounds_toArray, List.set_cons_zero, List.set_cons_succ]
  refine Steady.take ?_ rfl (by intro u hu; obtain ⟨g0, g1⟩ := (TD.out.next hu).cells (p := v11.heap.size) (x := h10) (y := l10) (by simp); go_simp; with_reducible rfl) ?_
  simp only [Act.put, List.setIfInBounds_toArray, List.set_cons_zero, List.set_cons_succ]
  refine Steady.call _ _ _ rfl ?_ (Steady.kept X1.out) ?_
  · intro u
    go_simp
  simp only [Act.put, List.setIfInBounds_toArray, List.set_cons_zero, List.set_cons_succ]
  refine Steady.take ?_ rfl (by intro u hu; obtain ⟨g0, g1⟩ := (TD.out.next hu).cells (p := v17.heap.size) (x := h15) (y := l15) (by simp); go_simp; with_reducible rfl) ?_
  simp only [Act.put, List.setIfInBounds_toArray, List.set_cons_zero, List.set_cons_succ]
  refine Steady.call _ _ _ rfl ?_ (Steady.kept X2.out) ?_
  · intro u
    go_simp
  simp only [Act.put, List.setIfInBounds_toArray, List.set_cons_zero, List.set_cons_succ]
  refine Steady.take ?_ rfl (by intro u hu; obtain ⟨g0, g1⟩ := (TD.out.next hu).cells (p := v23.heap.size) (x := h20) (y := l20) (by simp); go_simp; with_reducible rfl) ?_
  simp only [Act.put, List.setIfInBounds_toArray, List.set_cons_zero, List.set_cons_succ]
  refine Steady.call _ _ _ rfl ?_ (Steady.kept X3.out) ?_
  · intro u
    go_simp
  simp only [Act.put, List.setIfInBounds_toArray, List.set_cons_zero, List.set_cons_succ]
  refine Steady.take ?_ rfl (by intro u hu; obtain ⟨g0, g1⟩ := (TD.out.next hu).cells (p := v29.heap.size) (x := h25) (y := l25) (by simp); go_simp; with_reducible rfl) ?_
  simp only [Act.put, List.setIfInBounds_toArray, List.set_cons_zero, List.set_cons_succ]
  refine Steady.call _ _ _ rfl ?_ (Steady.kept X4.out) ?_
  · intro u
    go_simp
  simp only [Act.put, List.setIfInBounds_toArray, List.set_cons_zero, List.set_cons_succ]
  refine Steady.call _ _ _ rfl ?_ (Steady.kept RR.out) ?_
  · intro u
    go_simp
    rw [mul19', wrapN _ (by omega), addN, wrapN _ (by omega)]
  simp only [Act.put, List.setIfInBounds_toArray, List.set_cons_zero, List.set_cons_succ]
  refine Steady.nil ?_
  intro w9 h9
  have T9 := TD.out.next h9
  have c0 := T9.z.row.cell (i := 0) rfl
  have c1' := T9.z.row.cell (i := 1) rfl
  have c2' := T9.z.row.cell (i := 2) rfl
  have c3' := T9.z.row.cell (i := 3) rfl
  have c4' := T9.z.row.cell (i := 4) rfl
  have f0 := T9.z.row.free (i := 0) (by decide)
  have f1 := T9.z.row.free (i := 1) (by decide)
  have f2 := T9.z.row.free (i := 2) (by decide)
  have f3 := T9.z.row.free (i := 3) (by decide)
  have f4 := T9.z.row.free (i := 4) (by decide)
  have HB := Lib.hid T9.below
  clear T9 h9 TD
  go_wp2
  exact bodyPost_ret (v := five r0 r1 r2 r3 r4) (by simp [results, Tryz.results98, go_sem, c0, c1', c2', c3', c4']) rfl ⟨rfl, set5 HB.out (by omega) _ _ _ _ _⟩
end Go.Proofs.YtolmfimpaofefaaGreatDoor.Limb

namespace Go.Proofs.YtolmfimpaofefaaGreatDoor.Limb
open Go.RowKit Mur Lanes
set_option maxRecDepth 100000

/-- v is five limbs that are worth N. -/
def Lims (v : Value) (N : Nat) : Prop := ∃ a b c d e : Nat, v = five a b c d e ∧ Words5 a b c d e ∧ wor a b c d e = N
theorem P_lt : Prime.P < 57896044618658097711785492504343953926634992332820282019728792003956564819968 := by decide
theorem P_pos : 0 < Prime.P := by decide
theorem lims_lim {N : Nat} (h : N < 57896044618658097711785492504343953926634992332820282019728792003956564819968) : Lims (limV N) N :=
  ⟨_, _, _, _, _, rfl, ⟨by omega, by omega, by omega, by omega, by omega⟩, wor_lim h⟩
theorem lims_mod (N : Nat) : Lims (limV (N % Prime.P)) (N % Prime.P) := lims_lim (Nat.lt_trans (Nat.mod_lt _ P_pos) P_lt)
theorem subP_lt (x y : Nat) : subP x y < Prime.P := Nat.mod_lt _ P_pos
theorem lims_sub (x y : Nat) : Lims (limV (subP x y)) (subP x y) := lims_lim (Nat.lt_trans (subP_lt x y) P_lt)
theorem lims_five {a b c d e : Nat} (h : Words5 a b c d e) : Lims (five a b c d e) (wor a b c d e) := ⟨a, b, c, d, e, rfl, h, rfl⟩

theorem carry_val {v : Value} {N : Nat} (h : Lims v N) (u : World) : Calls Tryz.prog 73 #[v] u fun r w' => r = .returned (limV (N % Prime.P)) ∧ Below u.heap.size u w' := by
  obtain ⟨a, b, c, d, e, rfl, h1, rfl⟩ := h
  exact carry_any a b c d e u h1
theorem add_val {v v' : Value} {N N' : Nat} (h : Lims v N) (h' : Lims v' N') (u : World) : Calls Tryz.prog 125 #[v, v'] u fun r w' => r = .returned (limV ((N + N') % Prime.P)) ∧ Below u.heap.size u w' := by
  obtain ⟨a, b, c, d, e, rfl, h1, rfl⟩ := h
  obtain ⟨a', b', c', d', e', rfl, h2, rfl⟩ := h'
  exact add_any a b c d e a' b' c' d' e' u h1 h2
theorem sub_val {v v' : Value} {N N' : Nat} (h : Lims v N) (h' : Lims v' N') (u : World) : Calls Tryz.prog 126 #[v, v'] u fun r w' => r = .returned (limV (subP N N')) ∧ Below u.heap.size u w' := by
  obtain ⟨a, b, c, d, e, rfl, h1, rfl⟩ := h
  obtain ⟨a', b', c', d', e', rfl, h2, rfl⟩ := h'
  exact sub_any a b c d e a' b' c' d' e' u h1 h2
theorem times_val {v v' : Value} {N N' : Nat} (h : Lims v N) (h' : Lims v' N') (u : World) : Calls Tryz.prog 98 #[v, v'] u fun r w' => r = .returned (limV (N * N' % Prime.P)) ∧ Below u.heap.size u w' := by
  obtain ⟨a, b, c, d, e, rfl, h1, rfl⟩ := h
  obtain ⟨a', b', c', d', e', rfl, h2, rfl⟩ := h'
  exact times_any a b c d e a' b' c' d' e' u h1 h2

/-- '==' of limbs. -/
theorem eq_five (a b c d e a' b' c' d' e' : Int) (w : World) : (Op.equalIn 10000 69 (.agg #[.int .u64 a, .int .u64 b, .int .u64 c, .int .u64 d, .int .u64 e]) (.agg #[.int .u64 a', .int .u64 b', .int .u64 c', .int .u64 d', .int .u64 e'])).run Tryz.prog w =
    .ok (decide (a = a' ∧ b = b' ∧ c = c' ∧ d = d' ∧ e = e')) w := by
  have u22 := Tryz.underlying45
  have a22 := Tryz.isAgg45
  have z22 := Tryz.sizeOf45
  rw [show (10000 : Nat) = 9999 + 1 from rfl, Op.equalIn]
  simp only [Sem.run_bind, run_underlying Tryz.underlying69, Result.andThen_ok]
  simp only [Std.Legacy.Range.forIn_eq_forIn_range', Std.Legacy.Range.size, Nat.sub_zero, Nat.add_sub_cancel, Nat.div_one, List.range'_succ, List.range'_zero, List.forIn_cons, List.forIn_nil]
  by_cases h1 : a = a'
  · by_cases h2 : b = b'
    · by_cases h3 : c = c'
      · by_cases h4 : d = d'
        · by_cases h5 : e = e'
          · subst h1 h2 h3 h4 h5
            go_simp
          · have g5 : (e == e') = false := by simpa using h5
            subst h1 h2 h3 h4
            go_simp
        · have g4 : (d == d') = false := by simpa using h4
          subst h1 h2 h3
          go_simp
      · have g3 : (c == c') = false := by simpa using h3
        subst h1 h2
        go_simp
    · have g2 : (b == b') = false := by simpa using h2
      subst h1
      go_simp
  · have g1 : (a == a') = false := by simpa using h1
    go_simp
theorem eq_lim {m n : Nat} (hm : m < 57896044618658097711785492504343953926634992332820282019728792003956564819968) (hn : n < 57896044618658097711785492504343953926634992332820282019728792003956564819968) (w : World) :
    (Op.equalIn 10000 69 (limV m) (limV n)).run Tryz.prog w = .ok (decide (m = n)) w := by
  refine (eq_five _ _ _ _ _ _ _ _ _ _ w).trans ?_
  congr 1
  have h1 := wor_lim hm
  have h2 := wor_lim hn
  refine decide_eq_decide.2 ⟨fun h => ?_, fun h => by subst h; exact ⟨rfl, rfl, rfl, rfl, rfl⟩⟩
  obtain ⟨e1, e2, e3, e4, e5⟩ := h
  rw [Int.ofNat_inj.1 e1, Int.ofNat_inj.1 e2, Int.ofNat_inj.1 e3, Int.ofNat_inj.1 e4, Int.ofNat_inj.1 e5] at h1
  exact h1.symm.trans h2
end Go.Proofs.YtolmfimpaofefaaGreatDoor.Limb

namespace Go.Proofs.YtolmfimpaofefaaGreatDoor.Limb
open Go.RowKit Mur Lanes
set_option maxRecDepth 100000

abbrev fiveL (a b c d e : Nat) : List Value := [.int .u64 (a : Int), .int .u64 (b : Int), .int .u64 (c : Int), .int .u64 (d : Int), .int .u64 (e : Int)]

set_option maxHeartbeats 1600000 in
theorem scale_any (a b c d e n : Nat) (w : World) (h : Words5 a b c d e) (hn : n < 18446744073709551616) :
    Calls Tryz.prog 127 #[five a b c d e, .int .u64 n] w fun r w' => r = .returned (limV (wor a b c d e * n % Prime.P)) ∧ Below w.heap.size w w' := by
  have R := fun u => times_any a b c d e n 0 0 0 0 u h ⟨hn, by decide, by decide, by decide, by decide⟩
  have hw : wor n 0 0 0 0 = n := by unfold wor; omega
  rw [hw] at R
  obtain ⟨r0, r1, r2, r3, r4, hr⟩ := limV_five (wor a b c d e * n % Prime.P)
  rw [hr] at R ⊢
  have R1 := Lib.hid (show ∀ u, Calls Tryz.prog 98 #[five a b c d e, .agg #[.int .u64 (n : Int), .int .u64 0, .int .u64 0, .int .u64 0, .int .u64 0]] u fun r w' => r = .returned (five r0 r1 r2 r3 r4) ∧ Below u.heap.size u w' from R)
  clear hr h R hw
  go_enter Tryz.func127, Tryz.ntmps127
  go_wp2_with fail
  refine (R1.out _).mono ?_
  rintro e w1 ⟨rfl, hb⟩
  obtain ⟨hc, hf⟩ := bcell hb
  have hz : w.heap.size + 1 < w1.heap.size := by have := hb.size; simp at this; omega
  have HB := Lib.hid hb
  clear hb
  go_wp2
  exact bodyPost_ret (v := five r0 r1 r2 r3 r4) (by simp [results, Tryz.results127, go_sem, hc]) rfl ⟨rfl, set5 (((((Below.refl _ _).alloc (Nat.le_refl _) _).alloc (by simp) _).trans (HB.out.mono (by simp; omega)))) (by omega) _ _ _ _ _⟩
theorem scale_val {v : Value} {N n : Nat} (h : Lims v N) (hn : n < 18446744073709551616) (u : World) : Calls Tryz.prog 127 #[v, .int .u64 n] u fun r w' => r = .returned (limV (N * n % Prime.P)) ∧ Below u.heap.size u w' := by
  obtain ⟨a, b, c, d, e, rfl, h1, rfl⟩ := h
  exact scale_any a b c d e n u h1 hn

/-- The limbs below k are those of the other. -/
def mixTo (a b : List Nat) : Nat → List Nat
  | 0 => a
  | k + 1 => (mixTo a b k).set k (b.getD k 0)
theorem mixTo_length (a b : List Nat) (k : Nat) : (mixTo a b k).length = a.length := by
  induction k with
  | zero => rfl
  | succ k ih => rw [mixTo, List.length_set, ih]
theorem mixTo_get (a b : List Nat) (k i : Nat) (hi : i < a.length) : (mixTo a b k).getD i 0 = if i < k then b.getD i 0 else a.getD i 0 := by
  induction k with
  | zero => rfl
  | succ k ih =>
    rw [mixTo]
    by_cases e : k = i
    · subst e
      rw [if_pos (by omega)]
      simp [List.getD, mixTo_length, hi]
    · rw [List.getD, List.getElem?_set_ne e, ← List.getD, ih]
      by_cases h : i < k
      · rw [if_pos h, if_pos (by omega)]
      · rw [if_neg h, if_neg (by omega)]
theorem mixTo_end {a b : List Nat} (ha : a.length = 5) (hb : b.length = 5) : mixTo a b 5 = b := by
  refine List.ext_getElem (by rw [mixTo_length, ha, hb]) fun i h1 h2 => ?_
  have := mixTo_get a b 5 i (by omega)
  rw [if_pos (by omega)] at this
  simpa [List.getD, h1, h2] using this

theorem numsV_length (ns : List Nat) : (numsV ns).length = ns.length := by simp [numsV]
theorem numsV_at {ns : List Nat} {i : Nat} (h : i < ns.length) : (numsV ns)[i]? = some (.int .u64 (ns[i] : Int)) := by simp [numsV, h]
theorem numsV_set (ns : List Nat) (i n : Nat) : (numsV ns).set i (.int .u64 (n : Int)) = numsV (ns.set i n) := by simp [numsV, List.map_set]
theorem num_cell {w : World} {b : Nat} {t : TypeId} {s : List Nat} (h : Whole w b t (numsV s)) {i : Nat} (hi : i < s.length) : w.cell? ⟨b, i, none⟩ = some (.int .u64 ((s.getD i 0 : Nat) : Int)) := by
  rw [h.row.cell (numsV_at hi)]
  simp [List.getD, hi]
theorem num_free {w : World} {b : Nat} {t : TypeId} {s : List Nat} (h : Whole w b t (numsV s)) {i : Nat} (hi : i < s.length) : w.frozen? ⟨b, i, none⟩ = false :=
  h.row.free (by rw [numsV_length]; exact hi)
theorem set_num {w : World} {b : Nat} {t : TypeId} {s : List Nat} (h : Whole w b t (numsV s)) (i x : Nat) : Whole (w.setCell ⟨b, i, none⟩ (.int .u64 (x : Int))) b t (numsV (s.set i x)) := by
  rw [← numsV_set]
  exact h.set i _

theorem one_and (n : Nat) (h : n < 9223372036854775808) : bits .and .i64 (n : Int) 1 = ((n % 2 : Nat) : Int) := by
  have := and_i64_nat n 1 h (by omega)
  rw [Nat.and_one_is_mod] at this
  exact this
/-- What the mask lets through. -/
theorem mask_xor (m x y : Nat) (hx : x < 18446744073709551616) (hy : y < 18446744073709551616) (hm : m < 2) :
    bits .and .u64 (IntKind.u64.wrap (-(m : Int))) (bits .xor .u64 (x : Int) (y : Int)) = (((if m = 1 then x ^^^ y else 0) : Nat) : Int) := by
  have hxy : x ^^^ y < 18446744073709551616 := Nat.xor_lt_two_pow (n := 64) hx hy
  rw [bits_xor_u64_nat _ _ hx hy]
  by_cases h : m = 1
  · subst h
    rw [if_pos rfl, IntKind.wrap_u64, show (-((1 : Nat) : Int)) % 18446744073709551616 = ((18446744073709551615 : Nat) : Int) by decide, bits_and_u64_nat _ _ (by decide) hxy, Nat.and_comm]
    exact congrArg _ ((Nat.and_two_pow_sub_one_eq_mod (x ^^^ y) 64).trans (Nat.mod_eq_of_lt hxy))
  · obtain rfl : m = 0 := by omega
    rw [if_neg (by decide), IntKind.wrap_u64, show (-((0 : Nat) : Int)) % 18446744073709551616 = ((0 : Nat) : Int) by decide, bits_and_u64_nat _ _ (by decide) hxy, Nat.zero_and]

theorem list_five {l : List Nat} (h : l.length = 5) : ∃ a b c d e, l = [a, b, c, d, e] := by
  match l, h with
  | [a, b, c, d, e], _ => exact ⟨a, b, c, d, e, rfl⟩

/-- Two rows of limbs in their boxes, the answers' places. -/
structure Sw (w0 : World) (x y : List Nat) (w : World) : Prop where
  x : Whole w w0.heap.size 69 (numsV x)
  y : Whole w (w0.heap.size + 1) 69 (numsV y)
  z : Whole w (w0.heap.size + 1 + 1) 69 (fiveL 0 0 0 0 0)
  z' : Whole w (w0.heap.size + 1 + 1 + 1) 69 (fiveL 0 0 0 0 0)
  below : Below w0.heap.size w0 w
theorem Sw.setX {w0 w : World} {x y : List Nat} (h : Sw w0 x y w) (i v : Nat) : Sw w0 (x.set i v) y (w.setCell ⟨w0.heap.size, i, none⟩ (.int .u64 (v : Int))) :=
  ⟨set_num h.x i v, h.y.other _ _ _ (by omega), h.z.other _ _ _ (by omega), h.z'.other _ _ _ (by omega), h.below.setCell (p := ⟨w0.heap.size, i, none⟩) (Nat.le_refl _) _⟩
theorem Sw.setY {w0 w : World} {x y : List Nat} (h : Sw w0 x y w) (i v : Nat) : Sw w0 x (y.set i v) (w.setCell ⟨w0.heap.size + 1, i, none⟩ (.int .u64 (v : Int))) :=
  ⟨h.x.other _ _ _ (by omega), set_num h.y i v, h.z.other _ _ _ (by omega), h.z'.other _ _ _ (by omega), h.below.setCell (p := ⟨w0.heap.size + 1, i, none⟩) (by show _ ≤ w0.heap.size + 1; omega) _⟩
theorem Sw.drewN {w0 w : World} {x y : List Nat} (h : Sw w0 x y w) (n : Nat) : Sw w0 x y (w.drewN n) := ⟨h.x, h.y, h.z, h.z', belowN h.below n⟩

set_option maxHeartbeats 1600000 in
theorem swap_any (a b : List Nat) (n : Nat) (w : World) (ha : a.length = 5) (hb : b.length = 5) (la : ∀ i, a.getD i 0 < 18446744073709551616) (lb : ∀ i, b.getD i 0 < 18446744073709551616) (hn : n < 9223372036854775808) :
    Calls Tryz.prog 124 #[.agg (numsV a).toArray, .agg (numsV b).toArray, .int .i64 n] w fun r w' => r = .returned (.tuple #[.agg (numsV (if n % 2 = 1 then b else a)).toArray, .agg (numsV (if n % 2 = 1 then a else b)).toArray]) ∧ Below w.heap.size w w' := by
  obtain ⟨A, hA⟩ : ∃ A, A = if n % 2 = 1 then b else a := ⟨_, rfl⟩
  obtain ⟨B, hB⟩ : ∃ B, B = if n % 2 = 1 then a else b := ⟨_, rfl⟩
  have hA5 : A.length = 5 := by rw [hA]; split <;> assumption
  have hB5 : B.length = 5 := by rw [hB]; split <;> assumption
  have hst : Sw w a b ((((w.alloc (.cells (numsV a).toArray 69)).alloc (.cells (numsV b).toArray 69)).alloc (.cells (fiveL 0 0 0 0 0).toArray 69)).alloc (.cells (fiveL 0 0 0 0 0).toArray 69)) :=
    ⟨(((Whole.made' w _ (numsV a).toArray _ rfl).alloc _).alloc _).alloc _, ((Whole.made' _ _ (numsV b).toArray _ (by simp)).alloc _).alloc _, (Whole.made' _ _ _ _ (by simp)).alloc _, Whole.made' _ _ _ _ (by simp), ((((Below.refl _ _).alloc (Nat.le_refl _) _).alloc (by simp) _).alloc (by simp; omega) _).alloc (by simp; omega) _⟩
  rw [← hA, ← hB]
  have hm := one_and n hn
  obtain ⟨m, hm2⟩ : ∃ m, m = n % 2 := ⟨_, rfl⟩
  have hml : m < 2 := by omega
  rw [← hm2] at hm hA hB
  have HT := Lib.hid hst
  have HA := Lib.hid hA
  have HB := Lib.hid hB
  have HM := Lib.hid hm
  have LA := Lib.hid la
  have LB := Lib.hid lb
  have A5 := Lib.hid hA5
  have B5 := Lib.hid hB5
  have a5 := Lib.hid ha
  have b5 := Lib.hid hb
  clear hst hA hB la lb hA5 hB5 ha hb hm hm2
  go_enter Tryz.func124, Tryz.ntmps124
  go_wp2
  rw [HM.out, wrapN m (by omega)]
  obtain ⟨K, hK⟩ : ∃ K : Int, K = IntKind.u64.wrap (-(m : Int)) := ⟨_, rfl⟩
  rw [← hK]
  have HK := Lib.hid hK
  clear hK HM
  go_loopw [9, 10, 15] (fun _ _ i wr => ∃ k : Nat, k ≤ 5 ∧ i = .int .i64 k ∧ Sw w (mixTo a A k) (mixTo b B k) wr) (fun _ _ i _ => 5 - (intOf i).toNat)
  case atStart => exact ⟨0, by omega, rfl, HT.out⟩
  case round =>
    obtain ⟨k, hk5, rfl, hk⟩ := hrel
    by_cases hlt : k < 5
    · have hd2 : decide ((k : Int) < 5) = true := by simp; omega
      have ik : (k : Int) < 5 := by omega
      have lX : k < (mixTo a A k).length := by rw [mixTo_length, a5.out]; exact hlt
      have lY : k < (mixTo b B k).length := by rw [mixTo_length, b5.out]; exact hlt
      have gX : (mixTo a A k).getD k 0 = a.getD k 0 := by rw [mixTo_get a A k k (by rw [a5.out]; exact hlt), if_neg (by omega)]
      have gY : (mixTo b B k).getD k 0 = b.getD k 0 := by rw [mixTo_get b B k k (by rw [b5.out]; exact hlt), if_neg (by omega)]
      have hX : mixTo a A (k + 1) = (mixTo a A k).set k (A.getD k 0) := rfl
      have hY : mixTo b B (k + 1) = (mixTo b B k).set k (B.getD k 0) := rfl
      have l1 := LA.out k
      have l2 := LB.out k
      have hmx := mask_xor m (a.getD k 0) (b.getD k 0) l1 l2 hml
      rw [← HK.out] at hmx
      obtain ⟨D, hD⟩ : ∃ D, D = if m = 1 then a.getD k 0 ^^^ b.getD k 0 else 0 := ⟨_, rfl⟩
      rw [← hD] at hmx
      have hDl : D < 18446744073709551616 := by
        rw [hD]
        split
        · exact Nat.xor_lt_two_pow (n := 64) l1 l2
        · decide
      have nX : a.getD k 0 ^^^ D = A.getD k 0 := by
        rw [hD, HA.out]
        split
        · rw [← Nat.xor_assoc, Nat.xor_self, Nat.zero_xor]
        · rw [Nat.xor_zero]
      have nY : b.getD k 0 ^^^ D = B.getD k 0 := by
        rw [hD, HB.out]
        split
        · rw [Nat.xor_comm (a.getD k 0), ← Nat.xor_assoc, Nat.xor_self, Nat.zero_xor]
        · rw [Nat.xor_zero]
      rw [← nX] at hX
      rw [← nY] at hY
      have bX := bits_xor_u64_nat (a.getD k 0) D l1 hDl
      have bY := bits_xor_u64_nat (b.getD k 0) D l2 hDl
      generalize mixTo a A k = X at *
      generalize mixTo b B k = Y at *
      generalize a.getD k 0 = x at *
      generalize b.getD k 0 = y at *
      have cx := fun n => num_cell (hk.drewN n).x lX
      have cy := fun n => num_cell (hk.drewN n).y lY
      rw [gX] at cx
      rw [gY] at cy
      have fx := fun n => num_free (hk.drewN n).x lX
      have h2 := fun n => (hk.drewN n).setX k (x ^^^ D)
      have cy2 := fun n => num_cell (h2 n).y lY
      rw [gY] at cy2
      have fy2 := fun n => num_free (h2 n).y lY
      have h3 := fun n => (h2 n).setY k (y ^^^ D)
      have HX := Lib.hid hX
      have HY := Lib.hid hY
      have H3 := Lib.hid h3
      have CX := Lib.hid cx
      have FX := Lib.hid fx
      have CY2 := Lib.hid cy2
      have FY2 := Lib.hid fy2
      have BX := Lib.hid bX
      have BY := Lib.hid bY
      have HMX := Lib.hid hmx
      have cx0 : wr.cell? ⟨w.heap.size, k, none⟩ = some (.int .u64 (x : Int)) := cx 0
      have cy0 : wr.cell? ⟨w.heap.size + 1, k, none⟩ = some (.int .u64 (y : Int)) := cy 0
      clear hk hX hY h2 h3 cx fx cy2 fy2 bX bY hmx gX gY lX lY nX nY hD HT cy
      go_upto_region 5 with (fail)
      go_quiet (fail)
      have cx := CX.out nq
      have fx := FX.out nq
      have hmx := HMX.out
      have bX := BX.out
      clear cx0 cy0
      go_upto_region 7 with (fail)
      have cy2 := CY2.out nq
      have fy2 := FY2.out nq
      have bY := BY.out
      go_wp2
      go_roundw
      case rel => exact ⟨k + 1, by omega, by go_num, by rw [HX.out, HY.out]; exact H3.out nq⟩
      case measure => simp [intOf]; omega
    · have hd2 : decide ((k : Int) < 5) = false := by simp; omega
      obtain rfl : k = 5 := by omega
      rw [mixTo_end a5.out A5.out, mixTo_end b5.out B5.out] at hk
      have HF := Lib.hid hk
      obtain ⟨r0, r1, r2, r3, r4, hr⟩ := list_five A5.out
      obtain ⟨s0, s1, s2, s3, s4, hs⟩ := list_five B5.out
      clear hk HA HB HT A5 B5 a5 b5 LA LB
      subst hr hs
      have hfx : Whole wr w.heap.size 69 (fiveL r0 r1 r2 r3 r4) := HF.out.x
      have hfy : Whole wr (w.heap.size + 1) 69 (fiveL s0 s1 s2 s3 s4) := HF.out.y
      have hz := HF.out.z
      have hz' := HF.out.z'
      have c0 := hfx.row.cell (i := 0) rfl
      have c1 := hfx.row.cell (i := 1) rfl
      have c2 := hfx.row.cell (i := 2) rfl
      have c3 := hfx.row.cell (i := 3) rfl
      have c4 := hfx.row.cell (i := 4) rfl
      have d0 := hfy.row.cell (i := 0) rfl
      have d1 := hfy.row.cell (i := 1) rfl
      have d2 := hfy.row.cell (i := 2) rfl
      have d3 := hfy.row.cell (i := 3) rfl
      have d4 := hfy.row.cell (i := 4) rfl
      have z0 := hz.row.cell (i := 0) rfl
      have z1 := hz.row.cell (i := 1) rfl
      have z2 := hz.row.cell (i := 2) rfl
      have z3 := hz.row.cell (i := 3) rfl
      have z4 := hz.row.cell (i := 4) rfl
      have y0 := hz'.row.cell (i := 0) rfl
      have y1 := hz'.row.cell (i := 1) rfl
      have y2 := hz'.row.cell (i := 2) rfl
      have y3 := hz'.row.cell (i := 3) rfl
      have y4 := hz'.row.cell (i := 4) rfl
      have f0 := hz.row.free (i := 0) (by decide)
      have f1 := hz.row.free (i := 1) (by decide)
      have f2 := hz.row.free (i := 2) (by decide)
      have f3 := hz.row.free (i := 3) (by decide)
      have f4 := hz.row.free (i := 4) (by decide)
      have g0 := hz'.row.free (i := 0) (by decide)
      have g1 := hz'.row.free (i := 1) (by decide)
      have g2 := hz'.row.free (i := 2) (by decide)
      have g3 := hz'.row.free (i := 3) (by decide)
      have g4 := hz'.row.free (i := 4) (by decide)
      clear hfx hfy hz hz'
      go_upto_region 9 with (fail)
      go_region
      all_goals go_wp2
      have HB := HF.out.below
      all_goals exact bodyPost_ret (v := .tuple #[five r0 r1 r2 r3 r4, five s0 s1 s2 s3 s4]) (by simp [results, Tryz.results124, go_sem, z0, z1, z2, z3, z4, y0, y1, y2, y3, y4]) rfl ⟨rfl, by first | exact (set5 (set5 HB (b := w.heap.size + 1 + 1) (by omega) _ _ _ _ _) (b := w.heap.size + 1 + 1 + 1) (by omega) _ _ _ _ _).drew | exact (set5 (set5 HB (b := w.heap.size + 1 + 1 + 1) (by omega) _ _ _ _ _) (b := w.heap.size + 1 + 1) (by omega) _ _ _ _ _).drew⟩

/-- How often Square squares. -/
def times (n : Int) : Nat := (min n 300).toNat
/-- A value in its box. -/
def Box (w0 : World) (v : Value) (w : World) : Prop := ∃ a b c d e : Nat, v = five a b c d e ∧ Whole w w0.heap.size 69 (fiveL a b c d e) ∧ Whole w (w0.heap.size + 1) 69 (fiveL 0 0 0 0 0) ∧ Below w0.heap.size w0 w
theorem set5_whole {w : World} {b : Nat} {t : TypeId} {vs : List Value} (h : Whole w b t vs) (hl : vs.length = 5) (v0 v1 v2 v3 v4 : Value) : Whole (((((w.setCell ⟨b, 0, none⟩ v0).setCell ⟨b, 1, none⟩ v1).setCell ⟨b, 2, none⟩ v2).setCell ⟨b, 3, none⟩ v3).setCell ⟨b, 4, none⟩ v4) b t [v0, v1, v2, v3, v4] := by
  have := ((((h.set 0 v0).set 1 v1).set 2 v2).set 3 v3).set 4 v4
  match vs, hl with
  | [a, b, c, d, e], _ => exact this
theorem set5_other {w : World} {b c : Nat} {t : TypeId} {vs : List Value} (h : Whole w b t vs) (hc : c ≠ b) (v0 v1 v2 v3 v4 : Value) : Whole (((((w.setCell ⟨c, 0, none⟩ v0).setCell ⟨c, 1, none⟩ v1).setCell ⟨c, 2, none⟩ v2).setCell ⟨c, 3, none⟩ v3).setCell ⟨c, 4, none⟩ v4) b t vs :=
  ((((h.other c 0 v0 hc).other c 1 v1 hc).other c 2 v2 hc).other c 3 v3 hc).other c 4 v4 hc

set_option maxHeartbeats 1600000 in
theorem square_any (a b c d e : Nat) (n : Int) (w : World) (h : Words5 a b c d e) (h1 : -9223372036854775808 ≤ n) (h2 : n ≤ 9223372036854775807) :
    Calls Tryz.prog 128 #[five a b c d e, .int .i64 n] w fun r w' => r = .returned (limV (wor a b c d e ^ 2 ^ times n % Prime.P)) ∧ Below w.heap.size w w' := by
  obtain ⟨N, hN⟩ : ∃ N, N = wor a b c d e := ⟨_, rfl⟩
  have hl : Lims (five a b c d e) N := ⟨a, b, c, d, e, rfl, h, hN.symm⟩
  have RC := Lib.hid (fun u => carry_val hl u)
  rw [← hN]
  obtain ⟨K, hK⟩ : ∃ K, K = times n := ⟨_, rfl⟩
  have hK3 : K ≤ 300 := by rw [hK]; unfold times; omega
  have hlt : ∀ k : Nat, decide ((k : Int) < min n 300) = decide (k < K) := fun k => decide_eq_decide.2 (by rw [hK]; unfold times; omega)
  have HL := Lib.hid hlt
  rw [← hK]
  obtain ⟨r0, r1, r2, r3, r4, hr⟩ := limV_five (N % Prime.P)
  have HR := Lib.hid hr
  rw [hr] at RC
  clear hN hK hl hlt hr h
  go_enter Tryz.func128, Tryz.ntmps128
  go_wp2_with fail
  refine (RC.out _).mono ?_
  rintro e w1 ⟨rfl, hb⟩
  obtain ⟨hc, hf⟩ := bcell hb
  have hz : w.heap.size + 1 < w1.heap.size := by have := hb.size; simp at this; omega
  have HB := Lib.hid hb
  clear hb
  go_wp2
  have hst : Box w (limV (N ^ 2 ^ 0 % Prime.P)) (((((w1.setCell ⟨w.heap.size, 0, none⟩ (.int .u64 (r0 : Int))).setCell ⟨w.heap.size, 1, none⟩ (.int .u64 (r1 : Int))).setCell ⟨w.heap.size, 2, none⟩ (.int .u64 (r2 : Int))).setCell ⟨w.heap.size, 3, none⟩ (.int .u64 (r3 : Int))).setCell ⟨w.heap.size, 4, none⟩ (.int .u64 (r4 : Int))) := by
    have g1 : Whole w1 w.heap.size 69 (fiveL a b c d e) := Whole.below (((Whole.made' w _ _ _ rfl).alloc _)) (by simp; omega) HB.out
    have g2 : Whole w1 (w.heap.size + 1) 69 (fiveL 0 0 0 0 0) := Whole.below (Whole.made' _ _ _ _ (by simp)) (by simp) HB.out
    refine ⟨r0, r1, r2, r3, r4, by rw [Nat.pow_zero, Nat.pow_one]; exact HR.out, set5_whole g1 rfl _ _ _ _ _, set5_other g2 (by omega) _ _ _ _ _, set5 ((((Below.refl _ _).alloc (Nat.le_refl _) _).alloc (by simp) _).trans (HB.out.mono (by simp; omega))) (Nat.le_refl _) _ _ _ _ _⟩
  have HT := Lib.hid hst
  clear hst HB hc hf hz HR RC
  go_loopw [9] (fun i wr => ∃ k : Nat, k ≤ K ∧ i = .int .i64 k ∧ Box w (limV (N ^ 2 ^ k % Prime.P)) wr) (fun i _ => 300 - (intOf i).toNat)
  case atStart => exact ⟨0, by omega, rfl, HT.out⟩
  case round =>
    obtain ⟨k, hk5, rfl, hk⟩ := hrel
    clear HT
    obtain ⟨x0, x1, x2, x3, x4, hx, hw, hw', hb⟩ := hk
    by_cases hlt : k < K
    · have hd2 : decide ((k : Int) < min n 300) = true := by rw [HL.out]; simpa using hlt
      have R := fun u => times_val (lims_mod (N ^ 2 ^ k)) (lims_mod (N ^ 2 ^ k)) u
      have hp : N ^ 2 ^ k % Prime.P * (N ^ 2 ^ k % Prime.P) % Prime.P = N ^ 2 ^ (k + 1) % Prime.P := by
        rw [← Nat.mul_mod, ← Nat.pow_add, Nat.pow_succ 2, Nat.mul_two]
      rw [hp, hx] at R
      clear hp hx
      obtain ⟨y0, y1, y2, y3, y4, hy⟩ := limV_five (N ^ 2 ^ (k + 1) % Prime.P)
      rw [hy] at R
      have R1 := Lib.hid R
      have HY := Lib.hid hy
      have HW := Lib.hid hw
      have HW' := Lib.hid hw'
      have HBB := Lib.hid hb
      have c0 := hw.row.cell (i := 0) rfl
      have c1 := hw.row.cell (i := 1) rfl
      have c2 := hw.row.cell (i := 2) rfl
      have c3 := hw.row.cell (i := 3) rfl
      have c4 := hw.row.cell (i := 4) rfl
      clear R hy hw hw' hb
      go_wp2_with fail
      refine (R1.out _).mono ?_
      rintro e w2 ⟨rfl, hb2⟩
      have hw2 := HW.out.below HW.out.lt hb2
      have hw2' := HW'.out.below HW'.out.lt hb2
      have HB2 := Lib.hid (HBB.out.trans (hb2.mono HBB.out.size))
      clear hb2 c0 c1 c2 c3 c4
      have c0 := hw2.row.cell (i := 0) rfl
      have c1 := hw2.row.cell (i := 1) rfl
      have c2 := hw2.row.cell (i := 2) rfl
      have c3 := hw2.row.cell (i := 3) rfl
      have c4 := hw2.row.cell (i := 4) rfl
      have f0 := hw2.row.free (i := 0) (by simp)
      have f1 := hw2.row.free (i := 1) (by simp)
      have f2 := hw2.row.free (i := 2) (by simp)
      have f3 := hw2.row.free (i := 3) (by simp)
      have f4 := hw2.row.free (i := 4) (by simp)
      have H2 := Lib.hid hw2
      have H2' := Lib.hid hw2'
      clear hw2 hw2'
      go_wp2
      go_roundw
      case rel => exact ⟨k + 1, by omega, by go_num, y0, y1, y2, y3, y4, HY.out, set5_whole H2.out rfl _ _ _ _ _, set5_other H2'.out (by omega) _ _ _ _ _, set5 HB2.out (Nat.le_refl _) _ _ _ _ _⟩
      case measure => simp [intOf]; omega
    · have hd2 : decide ((k : Int) < min n 300) = false := by rw [HL.out]; simpa using hlt
      obtain rfl : k = K := by omega
      have HX := Lib.hid hx
      have HBB := Lib.hid hb
      have c0 := hw.row.cell (i := 0) rfl
      have c1 := hw.row.cell (i := 1) rfl
      have c2 := hw.row.cell (i := 2) rfl
      have c3 := hw.row.cell (i := 3) rfl
      have c4 := hw.row.cell (i := 4) rfl
      have z0 := hw'.row.cell (i := 0) rfl
      have z1 := hw'.row.cell (i := 1) rfl
      have z2 := hw'.row.cell (i := 2) rfl
      have z3 := hw'.row.cell (i := 3) rfl
      have z4 := hw'.row.cell (i := 4) rfl
      have f0 := hw'.row.free (i := 0) (by simp)
      have f1 := hw'.row.free (i := 1) (by simp)
      have f2 := hw'.row.free (i := 2) (by simp)
      have f3 := hw'.row.free (i := 3) (by simp)
      have f4 := hw'.row.free (i := 4) (by simp)
      clear hx hw hw' hb
      go_wp2
      rw [HX.out]
      exact bodyPost_ret (v := five x0 x1 x2 x3 x4) (by simp [results, Tryz.results128, go_sem, z0, z1, z2, z3, z4]) rfl ⟨rfl, set5 HBB.out (by omega) _ _ _ _ _⟩
theorem square_val {v : Value} {N : Nat} (h : Lims v N) (n : Int) (h1 : -9223372036854775808 ≤ n) (h2 : n ≤ 9223372036854775807) (u : World) : Calls Tryz.prog 128 #[v, .int .i64 n] u fun r w' => r = .returned (limV (N ^ 2 ^ times n % Prime.P)) ∧ Below u.heap.size u w' := by
  obtain ⟨a, b, c, d, e, rfl, hw, rfl⟩ := h
  exact square_any a b c d e n u hw h1 h2
end Go.Proofs.YtolmfimpaofefaaGreatDoor.Limb
