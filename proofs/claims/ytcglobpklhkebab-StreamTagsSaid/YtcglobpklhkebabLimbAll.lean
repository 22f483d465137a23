/-
  Prime, Limb and LimbNum as one text: plain mathematics. No condition but those that each lemma names.
-/
import Derived.WalkKit
import Derived.Test.YtcglobpklhkebabLanesSpec
namespace Go.Proofs.Ytcglobpklhkebab.Prime

/-- A number with no divisor but 1 and itself. -/
def IsPrime (p : Nat) : Prop := 2 ≤ p ∧ ∀ m, m ∣ p → m = 1 ∨ m = p

theorem IsPrime.coprime {p a : Nat} (h : IsPrime p) (ha : ¬ p ∣ a) : Nat.Coprime p a := by
  rcases h.2 _ (Nat.gcd_dvd_left p a) with e | e
  · exact e
  · exact absurd (e ▸ Nat.gcd_dvd_right p a) ha
theorem IsPrime.dvd_mul {p a b : Nat} (h : IsPrime p) (hd : p ∣ a * b) : p ∣ a ∨ p ∣ b := by
  by_cases ha : p ∣ a
  · exact .inl ha
  · exact .inr ((h.coprime ha).dvd_of_dvd_mul_left hd)
theorem IsPrime.not_dvd {p k : Nat} (h1 : 0 < k) (h2 : k < p) : ¬ p ∣ k := fun hd => absurd (Nat.le_of_dvd h1 hd) (by omega)

theorem sub_dvd {p a b : Nat} (_ : a ≤ b) (h : a % p = b % p) : p ∣ b - a := Nat.dvd_of_mod_eq_zero (Nat.sub_mod_eq_zero_of_mod_eq h.symm)
theorem mod_of_sub {p a b : Nat} (hab : a ≤ b) (h : p ∣ b - a) : a % p = b % p := by
  obtain ⟨k, hk⟩ := h
  rw [show b = a + p * k by omega, Nat.add_mul_mod_self_left]

/-- Two lists of the same numbers, each once. -/
theorem perm_of : ∀ (l m : List Nat), l.Nodup → (∀ x ∈ l, x ∈ m) → m.length ≤ l.length → l.Perm m
  | [], m, _, _, hl => by
    obtain rfl := List.eq_nil_of_length_eq_zero (Nat.le_zero.1 hl)
    exact .nil
  | x :: l, m, hn, hs, hl => by
    have hx : x ∈ m := hs x (by simp)
    have hm := List.perm_cons_erase hx
    obtain ⟨h1, h2⟩ := List.nodup_cons.1 hn
    refine ((perm_of l (m.erase x) h2 (fun y hy => ?_) ?_).cons x).trans hm.symm
    · exact (List.mem_erase_of_ne (fun e => h1 (by rw [← e]; exact hy))).2 (hs y (by simp [hy]))
    · rw [List.length_erase_of_mem hx]
      simp only [List.length_cons] at hl
      omega

def prod : List Nat → Nat
  | [] => 1
  | x :: l => x * prod l
theorem prod_perm {l m : List Nat} (h : l.Perm m) : prod l = prod m := by
  induction h with
  | nil => rfl
  | cons x _ ih => simp [prod, ih]
  | swap x y l => simp [prod, Nat.mul_left_comm]
  | trans _ _ a b => exact a.trans b
theorem prod_map (a p : Nat) (l : List Nat) : prod (l.map fun i => a * i % p) % p = a ^ l.length * prod l % p := by
  induction l with
  | nil => rfl
  | cons x l ih =>
    simp only [List.map_cons, prod, List.length_cons]
    rw [Nat.mul_mod, ih, Nat.mod_mod, ← Nat.mul_mod, show a ^ (l.length + 1) * (x * prod l) = a * x * (a ^ l.length * prod l) by rw [Nat.pow_succ]; simp only [Nat.mul_comm, Nat.mul_left_comm, Nat.mul_assoc]]
theorem prod_coprime {p : Nat} (h : IsPrime p) : ∀ l : List Nat, (∀ x ∈ l, ¬ p ∣ x) → ¬ p ∣ prod l
  | [], _ => fun hd => by
    have := Nat.le_of_dvd (by decide) hd
    have := h.1
    simp only [prod] at *
    omega
  | x :: l, hl => fun hd => by
    rcases h.dvd_mul hd with hd | hd
    · exact hl x (by simp) hd
    · exact prod_coprime h l (fun y hy => hl y (by simp [hy])) hd

/-- What Fermat found. -/
theorem fermat {p a : Nat} (h : IsPrime p) (ha : ¬ p ∣ a) : a ^ (p - 1) % p = 1 := by
  have hp := h.1
  obtain ⟨l, hl⟩ : ∃ l, l = List.range' 1 (p - 1) := ⟨_, rfl⟩
  have hlen : l.length = p - 1 := by rw [hl]; simp
  have hmem : ∀ x, x ∈ l ↔ 1 ≤ x ∧ x < p := fun x => by
    rw [hl, List.mem_range'_1]
    omega
  have hno : ∀ x ∈ l, ¬ p ∣ x := fun x hx => by
    obtain ⟨h1, h2⟩ := (hmem x).1 hx
    exact IsPrime.not_dvd h1 h2
  have hnd : (l.map fun i => a * i % p).Nodup := by
    unfold List.Nodup
    rw [List.pairwise_map]
    have hlt : l.Pairwise (· < ·) := by rw [hl]; exact List.pairwise_lt_range'
    refine hlt.imp_of_mem (fun {x y} hx hy hxy e => ?_)
    have hd := sub_dvd (Nat.mul_le_mul_left a (Nat.le_of_lt hxy)) e
    rw [← Nat.mul_sub] at hd
    rcases h.dvd_mul hd with hd | hd
    · exact ha hd
    · exact IsPrime.not_dvd (by omega) (by have := ((hmem y).1 hy).2; omega) hd
  have hperm : (l.map fun i => a * i % p).Perm l := by
    refine perm_of _ _ hnd (fun x hx => ?_) (by simp)
    obtain ⟨i, hi, rfl⟩ := List.mem_map.1 hx
    rw [hmem]
    refine ⟨?_, Nat.mod_lt _ (by omega)⟩
    rcases Nat.eq_zero_or_pos (a * i % p) with e | e
    · rcases h.dvd_mul (Nat.dvd_of_mod_eq_zero e) with hd | hd
      · exact absurd hd ha
      · exact absurd hd (hno i hi)
    · exact e
  have he := prod_map a p l
  rw [prod_perm hperm, hlen] at he
  have hpos : 0 < a ^ (p - 1) := Nat.pow_pos (Nat.pos_of_ne_zero fun e => ha (e ▸ Nat.dvd_zero p))
  have hd := sub_dvd (Nat.le_mul_of_pos_left (prod l) hpos) he
  rw [← Nat.sub_one_mul] at hd
  rcases h.dvd_mul hd with hd | hd
  · have := mod_of_sub (p := p) hpos hd
    rw [← this]
    exact Nat.mod_eq_of_lt (by omega)
  · exact absurd hd (prod_coprime h l hno)

theorem pow_one {b p k : Nat} (h : b % p = 1 % p) : b ^ k % p = 1 % p := by
  rw [Nat.pow_mod, h, ← Nat.pow_mod, Nat.one_pow]
theorem pow_gcd (b p m n : Nat) : b ^ m % p = 1 % p → b ^ n % p = 1 % p → b ^ Nat.gcd m n % p = 1 % p := by
  refine Nat.gcd.induction m n (fun n _ h => by simpa using h) (fun m n _ ih h1 h2 => ?_)
  rw [Nat.gcd_rec]
  refine ih ?_ h1
  have e : b ^ n = (b ^ m) ^ (n / m) * b ^ (n % m) := by rw [← Nat.pow_mul, ← Nat.pow_add, Nat.div_add_mod]
  rw [e, Nat.mul_mod, pow_one h1, ← Nat.mul_mod, Nat.one_mul] at h2
  exact h2
theorem order {p q b : Nat} (hp : IsPrime p) (hq : IsPrime q) (h1 : b ^ q % p = 1 % p) (h2 : b % p ≠ 1 % p) : q ∣ p - 1 := by
  have hp2 := hp.1
  have hq2 := hq.1
  have hb : ¬ p ∣ b := fun hd => by
    have h3 : p ∣ b ^ q := by
      obtain ⟨k, rfl⟩ : ∃ k, q = k + 1 := ⟨q - 1, by omega⟩
      rw [Nat.pow_succ]
      exact Nat.dvd_mul_left_of_dvd hd _
    rw [Nat.mod_eq_zero_of_dvd h3, Nat.mod_eq_of_lt (by omega)] at h1
    cases h1
  by_cases hd : q ∣ p - 1
  · exact hd
  · have := pow_gcd b p q (p - 1) h1 (by rw [fermat hp hb, Nat.mod_eq_of_lt (by omega)])
    rw [hq.coprime hd, Nat.pow_one] at this
    exact absurd this h2

/-- Each number from 2 on has a prime in it. -/
theorem has_prime : ∀ n : Nat, 2 ≤ n → ∃ p, IsPrime p ∧ p ∣ n := by
  intro n
  induction n using Nat.strongRecOn with
  | ind n ih =>
    intro hn
    by_cases hp : IsPrime n
    · exact ⟨n, hp, Nat.dvd_refl _⟩
    · have : ∃ m, m ∣ n ∧ m ≠ 1 ∧ m ≠ n := Classical.byContradiction fun hc => hp ⟨hn, fun m hm => Classical.byContradiction fun hc2 => hc ⟨m, hm, fun e => hc2 (.inl e), fun e => hc2 (.inr e)⟩⟩
      obtain ⟨m, hm, h1, h2⟩ := this
      have h3 := Nat.le_of_dvd (by omega) hm
      have h4 : m ≠ 0 := fun e => by
        subst e
        obtain ⟨k, hk⟩ := hm
        omega
      obtain ⟨p, hp, hd⟩ := ih m (by omega) (by omega)
      exact ⟨p, hp, Nat.dvd_trans hd hm⟩
theorem prime_of {n : Nat} (hn : 2 ≤ n) (h : ∀ p, IsPrime p → p ∣ n → n < p * p) : IsPrime n := by
  refine ⟨hn, fun m hm => ?_⟩
  obtain ⟨k, hk⟩ := hm
  by_cases h1 : m = 1
  · exact .inl h1
  by_cases h2 : k = 1
  · right
    rw [hk, h2, Nat.mul_one]
  exfalso
  have m0 : m ≠ 0 := fun e => by
    subst e
    omega
  have k0 : k ≠ 0 := fun e => by
    subst e
    omega
  obtain ⟨p, hp, hd⟩ := has_prime m (by omega)
  obtain ⟨q, hq, he⟩ := has_prime k (by omega)
  have g1 := h p hp (hk ▸ Nat.dvd_mul_right_of_dvd hd k)
  have g2 := h q hq (hk ▸ Nat.dvd_mul_left_of_dvd he m)
  have l1 := Nat.le_of_dvd (by omega) hd
  have l2 := Nat.le_of_dvd (by omega) he
  have g3 : p * p * (q * q) ≤ n * n := by
    have := Nat.mul_le_mul l1 l2
    rw [← hk] at this
    have := Nat.mul_le_mul this this
    rwa [Nat.mul_mul_mul_comm] at this
  have g4 : n * n < p * p * (q * q) := Nat.mul_lt_mul_of_lt_of_lt g1 g2
  omega

/-- b to the power e, modulo m, reckoned by squares. -/
def pm (m : Nat) : Nat → Nat → Nat → Nat
  | 0, _, _ => 1 % m
  | f + 1, b, e => if e % 2 = 1 then b * pm m f (b * b % m) (e / 2) % m else pm m f (b * b % m) (e / 2)
theorem pm_eq (m : Nat) : ∀ (f b e : Nat), e < 2 ^ f → pm m f b e = b ^ e % m
  | 0, b, e, h => by
    obtain rfl : e = 0 := by omega
    rfl
  | f + 1, b, e, h => by
    have ih := pm_eq m f (b * b % m) (e / 2) (by rw [Nat.pow_succ] at h; omega)
    have hs : (b * b % m) ^ (e / 2) % m = b ^ (2 * (e / 2)) % m := by
      rw [← Nat.pow_mod, Nat.pow_mul, Nat.pow_two]
    unfold pm
    rw [ih, hs]
    by_cases h1 : e % 2 = 1
    · rw [if_pos h1, Nat.mul_mod, Nat.mod_mod, ← Nat.mul_mod, Nat.mul_comm, ← Nat.pow_succ]
      congr 2
      omega
    · rw [if_neg h1]
      congr 2
      omega

theorem step {N q r a f : Nat} (hq : IsPrime q) (hN : 2 ≤ N) (hr : N - 1 = r * q) (hf : N < 2 ^ f) (h1 : pm N f a (N - 1) = 1) (h2 : Nat.gcd (pm N f a r + N - 1) N = 1) {p : Nat} (hp : IsPrime p) (hd : p ∣ N) : q ∣ p - 1 := by
  have hp2 := hp.1
  have hq2 := hq.1
  have hrl : r < 2 ^ f := by
    have : r * 1 ≤ r * q := Nat.mul_le_mul_left r (by omega)
    omega
  rw [pm_eq N f a (N - 1) (by omega)] at h1
  rw [pm_eq N f a r hrl] at h2
  refine order hp hq (b := a ^ r) ?_ (fun e => ?_)
  · rw [← Nat.pow_mul, ← hr, ← Nat.mod_mod_of_dvd _ hd, h1]
  · have h3 : a ^ r % N % p = 1 % p := by rw [Nat.mod_mod_of_dvd _ hd, e]
    have h4 : p ∣ a ^ r % N + N - 1 := by
      obtain ⟨k, rfl⟩ := hd
      refine sub_dvd (by omega) ?_
      rw [Nat.add_mul_mod_self_left, h3]
    have h5 := Nat.dvd_gcd h4 hd
    rw [h2] at h5
    have := Nat.le_of_dvd (by decide) h5
    omega
theorem both {q r p : Nat} (hq : IsPrime q) (hr : ¬ q ∣ r) (h1 : q ∣ p - 1) (h2 : r ∣ p - 1) (hp : IsPrime p) : q * r < p := by
  have hp2 := hp.1
  have := Nat.le_of_dvd (by omega) ((hq.coprime hr).mul_dvd_of_dvd_of_dvd h1 h2)
  omega

/-- Has n no divisor from 2 to k? -/
def none (n : Nat) : Nat → Bool
  | 0 => true
  | k + 1 => (decide (k + 1 < 2) || n % (k + 1) != 0) && none n k
theorem none_spec {n k : Nat} (h : none n k = true) : ∀ d, 2 ≤ d → d ≤ k → ¬ d ∣ n := by
  induction k with
  | zero => intro d h1 h2; omega
  | succ k ih =>
    intro d h1 h2 hd
    unfold none at h
    rw [Bool.and_eq_true] at h
    by_cases e : d = k + 1
    · subst e
      have h3 := h.1
      rw [Nat.mod_eq_zero_of_dvd hd] at h3
      simp at h3
      omega
    · exact ih h.2 d h1 (by omega) hd
theorem prime_small {n : Nat} (k : Nat) (hn : 2 ≤ n) (h : none n k = true) (hk : n < (k + 1) * (k + 1)) : IsPrime n := by
  refine prime_of hn (fun p hp hd => ?_)
  have h1 : k + 1 ≤ p := by
    rcases Nat.lt_or_ge k p with e | e
    · exact e
    · exact absurd hd (none_spec h p hp.1 e)
  exact Nat.lt_of_lt_of_le hk (Nat.mul_le_mul h1 h1)

set_option maxRecDepth 100000
theorem p127 : IsPrime 127 := prime_small 12 (by decide) (by decide +kernel) (by decide)
theorem p75707 : IsPrime 75707 := prime_small 280 (by decide) (by decide +kernel) (by decide)
theorem p132049 : IsPrime 132049 := prime_small 370 (by decide) (by decide +kernel) (by decide)
theorem p8574133 : IsPrime 8574133 := prime_small 2930 (by decide) (by decide +kernel) (by decide)

theorem pThree : IsPrime 1919519569386763 := by
  refine prime_of (by decide) (fun p hp hd => ?_)
  have h1 := step (a := 2) (f := 51) (r := 223873314) p8574133 (by decide) (by decide) (by decide) (by decide +kernel) (by decide +kernel) hp hd
  have h2 := step (a := 2) (f := 51) (r := 15114327318006) p127 (by decide) (by decide) (by decide) (by decide +kernel) (by decide +kernel) hp hd
  have h3 := both p8574133 (by decide) h1 h2 hp
  exact Nat.lt_of_lt_of_le (by decide) (Nat.mul_le_mul (Nat.le_of_lt h3) (Nat.le_of_lt h3))
theorem pTwo : IsPrime 75445702479781427272750846543864801 := by
  refine prime_of (by decide) (fun p hp hd => ?_)
  have h1 := step (a := 2) (f := 116) (r := 39304471641247389600) pThree (by decide) (by decide) (by decide) (by decide +kernel) (by decide +kernel) hp hd
  have h2 := step (a := 2) (f := 116) (r := 996548568557483816196003626400) p75707 (by decide) (by decide) (by decide) (by decide +kernel) (by decide +kernel) hp hd
  have h3 := both pThree (by decide) h1 h2 hp
  exact Nat.lt_of_lt_of_le (by decide) (Nat.mul_le_mul (Nat.le_of_lt h3) (Nat.le_of_lt h3))
theorem pOne : IsPrime 74058212732561358302231226437062788676166966415465897661863160754340907 := by
  refine prime_of (by decide) (fun p hp hd => ?_)
  have h1 := step (a := 2) (f := 236) (r := 981609426360740691344999861639072106) pTwo (by decide) (by decide) (by decide) (by decide +kernel) (by decide +kernel) hp hd
  have h2 := step (a := 2) (f := 236) (r := 560838875966961948233089432233964578877287722099113947563882806794) p132049 (by decide) (by decide) (by decide) (by decide +kernel) (by decide +kernel) hp hd
  have h3 := both pTwo (by decide) h1 h2 hp
  exact Nat.lt_of_lt_of_le (by decide) (Nat.mul_le_mul (Nat.le_of_lt h3) (Nat.le_of_lt h3))

/-- 2^255 - 19. -/
def P : Nat := 57896044618658097711785492504343953926634992332820282019728792003956564819949
theorem prime : IsPrime P := by
  refine prime_of (by decide) (fun p hp hd => ?_)
  have h1 := step (a := 2) (f := 255) (r := 781764) pOne (by decide) (by decide) (by decide) (by decide +kernel) (by decide +kernel) hp hd
  have hp2 := hp.1
  have h2 := Nat.le_trans (Nat.le_of_dvd (by omega) h1) (Nat.sub_le _ _)
  exact Nat.lt_of_lt_of_le (by decide) (Nat.mul_le_mul h2 h2)
end Go.Proofs.Ytcglobpklhkebab.Prime

namespace Go.Proofs.Ytcglobpklhkebab.Limb
open Prime

/-- The five limbs of a number. -/
def lim (n : Nat) : List Nat := [n % 2251799813685248, n / 2251799813685248 % 2251799813685248, n / 5070602400912917605986812821504 % 2251799813685248, n / 11417981541647679048466287755595961091061972992 % 2251799813685248, n / 25711008708143844408671393477458601640355247900524685364822016 % 2251799813685248]
/-- What limbs are worth. -/
def wor (a b c d e : Nat) : Nat := a + b * 2251799813685248 + c * 5070602400912917605986812821504 + d * 11417981541647679048466287755595961091061972992 + e * 25711008708143844408671393477458601640355247900524685364822016

theorem P_eq : P = 57896044618658097711785492504343953926634992332820282019728792003956564819949 := rfl

theorem lim_wor {a b c d e : Nat} (ha : a < 2251799813685248) (hb : b < 2251799813685248) (hc : c < 2251799813685248) (hd : d < 2251799813685248) (he : e < 2251799813685248) : lim (wor a b c d e) = [a, b, c, d, e] := by
  unfold lim wor
  congr 1
  · omega
  congr 1
  · omega
  congr 1
  · omega
  congr 1
  · omega
  congr 1
  omega
theorem wor_lim {n : Nat} (h : n < 57896044618658097711785492504343953926634992332820282019728792003956564819968) : wor (n % 2251799813685248) (n / 2251799813685248 % 2251799813685248) (n / 5070602400912917605986812821504 % 2251799813685248) (n / 11417981541647679048466287755595961091061972992 % 2251799813685248) (n / 25711008708143844408671393477458601640355247900524685364822016 % 2251799813685248) = n := by
  unfold wor
  omega

/-- A carry from limb to limb, the lowest first. -/
theorem carry_lim (a b c d e : Nat) : [a % 2251799813685248, (b + a / 2251799813685248) % 2251799813685248, (c + (b + a / 2251799813685248) / 2251799813685248) % 2251799813685248, (d + (c + (b + a / 2251799813685248) / 2251799813685248) / 2251799813685248) % 2251799813685248, (e + (d + (c + (b + a / 2251799813685248) / 2251799813685248) / 2251799813685248) / 2251799813685248) % 2251799813685248] = lim (wor a b c d e) := by
  unfold lim wor
  congr 1
  · omega
  congr 1
  · omega
  congr 1
  · omega
  congr 1
  · omega
  congr 1
  omega
theorem over_eq (a b c d e : Nat) : (e + (d + (c + (b + a / 2251799813685248) / 2251799813685248) / 2251799813685248) / 2251799813685248) / 2251799813685248 = wor a b c d e / 57896044618658097711785492504343953926634992332820282019728792003956564819968 := by
  unfold wor
  omega

/-- Limbs that have room: below 2^51 + 2^18. -/
def Roomy (a b c d e : Nat) : Prop := a < 2251799813947392 ∧ b < 2251799813947392 ∧ c < 2251799813947392 ∧ d < 2251799813947392 ∧ e < 2251799813947392
/-- Five words. -/
def Words5 (a b c d e : Nat) : Prop := a < 18446744073709551616 ∧ b < 18446744073709551616 ∧ c < 18446744073709551616 ∧ d < 18446744073709551616 ∧ e < 18446744073709551616
theorem eased_roomy {a b c d e : Nat} (h : Words5 a b c d e) : Roomy (a % 2251799813685248 + e / 2251799813685248 * 19) (b % 2251799813685248 + a / 2251799813685248) (c % 2251799813685248 + b / 2251799813685248) (d % 2251799813685248 + c / 2251799813685248) (e % 2251799813685248 + d / 2251799813685248) := by
  unfold Words5 at h
  unfold Roomy
  omega
theorem eased_wor (a b c d e : Nat) : wor (a % 2251799813685248 + e / 2251799813685248 * 19) (b % 2251799813685248 + a / 2251799813685248) (c % 2251799813685248 + b / 2251799813685248) (d % 2251799813685248 + c / 2251799813685248) (e % 2251799813685248 + d / 2251799813685248) + P * (e / 2251799813685248) = wor a b c d e := by
  unfold wor
  rw [P_eq]
  omega
theorem eased_mod (a b c d e : Nat) : wor (a % 2251799813685248 + e / 2251799813685248 * 19) (b % 2251799813685248 + a / 2251799813685248) (c % 2251799813685248 + b / 2251799813685248) (d % 2251799813685248 + c / 2251799813685248) (e % 2251799813685248 + d / 2251799813685248) % P = wor a b c d e % P := by
  rw [← eased_wor a b c d e, Nat.add_mul_mod_self_left]
theorem lim_add (n k : Nat) : lim (n + 57896044618658097711785492504343953926634992332820282019728792003956564819968 * k) = lim n := by
  unfold lim
  congr 1
  · omega
  congr 1
  · omega
  congr 1
  · omega
  congr 1
  · omega
  congr 1
  omega
theorem wor_add (a b c d e k : Nat) : wor (a + k) b c d e = wor a b c d e + k := by
  unfold wor
  omega
/-- What is reduced of limbs that have room. -/
theorem reduce {a b c d e q : Nat} (h : Roomy a b c d e) (hq : q = (e + (d + (c + (b + (a + 19) / 2251799813685248) / 2251799813685248) / 2251799813685248) / 2251799813685248) / 2251799813685248) :
    q ≤ 1 ∧ [(a + 19 * q) % 2251799813685248, (b + (a + 19 * q) / 2251799813685248) % 2251799813685248, (c + (b + (a + 19 * q) / 2251799813685248) / 2251799813685248) % 2251799813685248, (d + (c + (b + (a + 19 * q) / 2251799813685248) / 2251799813685248) / 2251799813685248) % 2251799813685248, (e + (d + (c + (b + (a + 19 * q) / 2251799813685248) / 2251799813685248) / 2251799813685248) / 2251799813685248) % 2251799813685248] = lim (wor a b c d e % P) := by
  rw [over_eq (a + 19) b c d e, wor_add] at hq
  have hb : wor a b c d e < 57896044618658097711785492504343953926634992332820282019728792003956564819968 + 13479973333575319897333507543509815336818572211270286240551805124608 := by
    unfold Roomy at h
    unfold wor
    omega
  have hq1 : q ≤ 1 := by omega
  refine ⟨hq1, ?_⟩
  rw [carry_lim, wor_add]
  generalize wor a b c d e = W at *
  have hP := P_eq
  by_cases h0 : q = 0
  · rw [h0, Nat.mul_zero, Nat.add_zero, Nat.mod_eq_of_lt (by omega)]
  · obtain rfl : q = 1 := by omega
    have e1 : W + 19 * 1 = W % P + 57896044618658097711785492504343953926634992332820282019728792003956564819968 * 1 := by
      rw [Nat.mod_eq_sub_mod (by omega), Nat.mod_eq_of_lt (by omega)]
      omega
    rw [e1, lim_add]
end Go.Proofs.Ytcglobpklhkebab.Limb

namespace Go.Proofs.Ytcglobpklhkebab.Limb
open Go.RowKit Mur Lanes

/-- The number that a text's bytes are, the lowest first. -/
def num (l : List UInt8) : Nat := lowN l l.length
theorem byt_out (l : List UInt8) (i : Nat) (h : l.length ≤ i) : byt l i = 0 := by
  unfold byt
  rw [List.getD, List.getElem?_eq_none h]
  rfl
theorem byt_drop (l : List UInt8) (f i : Nat) : byt (l.drop f) i = byt l (f + i) := by
  unfold byt
  simp [List.getD]
theorem lowN_out (l : List UInt8) (k : Nat) : lowN l (l.length + k) = num l := by
  induction k with
  | zero => rfl
  | succ k ih =>
    rw [← Nat.add_assoc, lowN, ih, byt_out l _ (by omega), Nat.zero_mul, Nat.add_zero]
theorem lowN_split (l : List UInt8) (f m : Nat) : lowN l (f + m) = lowN l f + 2 ^ (8 * f) * lowN (l.drop f) m := by
  induction m with
  | zero => simp [lowN]
  | succ m ih =>
    rw [← Nat.add_assoc, lowN, ih, lowN, byt_drop, Nat.mul_add, Nat.mul_add, Nat.pow_add, Nat.add_assoc, Nat.mul_left_comm (2 ^ (8 * f)) (byt l (f + m))]
theorem num_lt (l : List UInt8) : num l < 2 ^ (8 * l.length) := lowN_lt l _
theorem num_drop (l : List UInt8) (f : Nat) (h : f ≤ l.length) : num l / 2 ^ (8 * f) = num (l.drop f) := by
  have h1 := lowN_split l f (l.length - f)
  rw [show f + (l.length - f) = l.length by omega] at h1
  have h2 := lowN_lt l f
  have h3 : num l = lowN l f + 2 ^ (8 * f) * num (l.drop f) := by
    unfold num
    rw [h1, List.length_drop]
  rw [h3, Nat.add_mul_div_left _ _ (Nat.pow_pos (by decide)), Nat.div_eq_of_lt h2, Nat.zero_add]
theorem low_num (l : List UInt8) : low l = num l % 18446744073709551616 := by
  unfold low
  rcases Nat.lt_or_ge 8 l.length with h | h
  · rw [Nat.min_eq_right (by omega)]
    have h1 := lowN_split l 8 (l.length - 8)
    rw [show 8 + (l.length - 8) = l.length by omega] at h1
    unfold num
    rw [h1, show (2 : Nat) ^ (8 * 8) = 18446744073709551616 by decide, Nat.add_mul_mod_self_left]
    exact (Nat.mod_eq_of_lt (lowN_lt l 8)).symm
  · rw [Nat.min_eq_left h]
    refine (Nat.mod_eq_of_lt (Nat.lt_of_lt_of_le (lowN_lt l _) ?_)).symm
    exact Nat.pow_le_pow_right (by decide) (show 8 * l.length ≤ 64 by omega)

theorem lim_at (n k : Nat) (h : k < 5) : (lim n).getD k 0 = n / 2 ^ (51 * k) % 2251799813685248 := by
  have : k = 0 ∨ k = 1 ∨ k = 2 ∨ k = 3 ∨ k = 4 := by omega
  rcases this with rfl | rfl | rfl | rfl | rfl
  · show n % 2251799813685248 = n / 1 % 2251799813685248
    rw [Nat.div_one]
  all_goals rfl

/-- A limb that is read. -/
theorem read_at (l : List UInt8) (k : Nat) (h : k < 5) : low (l.drop (min (51 * k / 8) l.length)) / 2 ^ (51 * k % 8) % 2251799813685248 = (lim (num l)).getD k 0 := by
  rw [lim_at _ _ h, low_num]
  rcases Nat.lt_or_ge l.length (51 * k / 8) with h1 | h1
  · rw [Nat.min_eq_right (by omega), List.drop_length]
    have h2 : num l / 2 ^ (51 * k) = 0 := Nat.div_eq_of_lt (Nat.lt_of_lt_of_le (num_lt l) (Nat.pow_le_pow_right (by decide) (by omega)))
    rw [h2]
    show 0 % _ / _ % _ = _
    rw [Nat.zero_mod, Nat.zero_div]
  · rw [Nat.min_eq_left h1, ← num_drop l _ h1]
    obtain ⟨s, hs⟩ : ∃ s, s = 51 * k % 8 := ⟨_, rfl⟩
    have h3 : num l / 2 ^ (51 * k) = num l / 2 ^ (8 * (51 * k / 8)) / 2 ^ s := by
      rw [Nat.div_div_eq_div_mul, ← Nat.pow_add, hs, Nat.div_add_mod]
    rw [h3, ← hs]
    generalize num l / 2 ^ (8 * (51 * k / 8)) = X
    have hs8 : s < 8 := by omega
    have h4 : (18446744073709551616 : Nat) = 2 ^ s * 2 ^ (64 - s) := by
      rw [← Nat.pow_add, show s + (64 - s) = 64 by omega]
    rw [h4, Nat.mod_mul_right_div_self, Nat.mod_mod_of_dvd]
    exact (show (2251799813685248 : Nat) = 2 ^ 51 from rfl) ▸ Nat.pow_dvd_pow 2 (by omega)

/-- The words of a number's bytes. -/
def wordsOf (n : Nat) : List Nat := (List.range 8).map fun i => n / 2 ^ (32 * i) % 4294967296
/-- The bytes of a number, the lowest first. -/
def bytesOf (n : Nat) : List UInt8 := text (wordsOf n) false
theorem bytesOf_length (n : Nat) : (bytesOf n).length = 32 := by
  unfold bytesOf
  rw [text_length]
  rfl
theorem word_at (n i : Nat) (h : i < 8) : (wordsOf n).getD i 0 = n / 2 ^ (32 * i) % 4294967296 := by
  unfold wordsOf
  simp [List.getD, h]
theorem byt_bytes (n i : Nat) (h : i < 32) : byt (bytesOf n) i = n / 2 ^ (8 * i) % 256 := by
  have h1 : byt (bytesOf n) i = (wordsOf n).getD (i / 4) 0 / 2 ^ (8 * (i % 4)) % 256 := by
    have hl : i < 4 * (wordsOf n).length := by simp [wordsOf]; omega
    unfold byt bytesOf text
    simp [List.getD, hl, shiftN]
  rw [h1, word_at _ _ (by omega)]
  have e : (4294967296 : Nat) = 2 ^ (8 * (i % 4)) * 2 ^ (32 - 8 * (i % 4)) := by
    rw [← Nat.pow_add, show 8 * (i % 4) + (32 - 8 * (i % 4)) = 32 by omega]
  rw [e, Nat.mod_mul_right_div_self, Nat.mod_mod_of_dvd _ ((show (256 : Nat) = 2 ^ 8 from rfl) ▸ Nat.pow_dvd_pow 2 (by omega)), Nat.div_div_eq_div_mul, ← Nat.pow_add]
  congr 3
  omega
theorem lowN_bytes (n k : Nat) (h : k ≤ 32) : lowN (bytesOf n) k = n % 2 ^ (8 * k) := by
  induction k with
  | zero => simp [lowN, Nat.mod_one]
  | succ k ih =>
    rw [lowN, ih (by omega), byt_bytes _ _ (by omega), Nat.mul_add, Nat.pow_add, Nat.mod_mul, Nat.mul_comm (2 ^ (8 * k))]
theorem num_bytes (n : Nat) (h : n < 2 ^ 256) : num (bytesOf n) = n := by
  unfold num
  rw [bytesOf_length, lowN_bytes n 32 (Nat.le_refl _)]
  exact Nat.mod_eq_of_lt h

/-- A word, as it is put together of two limbs. -/
def wordOf (x : List Nat) (i : Nat) : Nat := if 32 * i / 51 + 1 < 5 then x.getD (32 * i / 51) 0 / 2 ^ (32 * i % 51) % 4294967296 ||| x.getD (32 * i / 51 + 1) 0 * 2 ^ (51 - 32 * i % 51) % 18446744073709551616 % 4294967296 else x.getD (32 * i / 51) 0 / 2 ^ (32 * i % 51) % 4294967296
theorem glue (a b s t k : Nat) (ha : a < 2 ^ t) (hk : t + k = 32) (hs : b * 2 ^ t % 18446744073709551616 % 4294967296 = s) : a % 4294967296 ||| s = a + b % 2 ^ k * 2 ^ t := by
  have e : (4294967296 : Nat) = 2 ^ k * 2 ^ t := by
    rw [← Nat.pow_add, show k + t = 32 by omega]
  have h1 : a % 4294967296 = a := Nat.mod_eq_of_lt (Nat.lt_of_lt_of_le ha (Nat.pow_le_pow_right (n := 2) (by decide) (show t ≤ 32 by omega)))
  have h2 : s = b % 2 ^ k * 2 ^ t := by
    rw [← hs, Nat.mod_mod_of_dvd _ (by decide), e, Nat.mul_mod_mul_right]
  rw [h1, h2, or_add _ _ _ ha]
theorem word_of (n i : Nat) (hn : n < 57896044618658097711785492504343953926634992332820282019728792003956564819968) (h : i < 8) : wordOf (lim n) i = (wordsOf n).getD i 0 := by
  rw [word_at _ _ h]
  have : i = 0 ∨ i = 1 ∨ i = 2 ∨ i = 3 ∨ i = 4 ∨ i = 5 ∨ i = 6 ∨ i = 7 := by omega
  rcases this with rfl | rfl | rfl | rfl | rfl | rfl | rfl | rfl
  · show n % 2251799813685248 / 1 % 4294967296 ||| n / 2251799813685248 % 2251799813685248 * 2251799813685248 % 18446744073709551616 % 4294967296 = n / 1 % 4294967296
    rw [show n / 2251799813685248 % 2251799813685248 * 2251799813685248 % 18446744073709551616 % 4294967296 = 0 by omega, Nat.or_zero]
    omega
  · refine (glue _ _ _ 19 13 ?_ rfl rfl).trans ?_
    · show n % 2251799813685248 / 4294967296 < 524288
      omega
    · show n % 2251799813685248 / 4294967296 + n / 2251799813685248 % 2251799813685248 % 8192 * 524288 = n / 4294967296 % 4294967296
      omega
  · show n / 2251799813685248 % 2251799813685248 / 8192 % 4294967296 ||| n / 5070602400912917605986812821504 % 2251799813685248 * 274877906944 % 18446744073709551616 % 4294967296 = n / 18446744073709551616 % 4294967296
    rw [show n / 5070602400912917605986812821504 % 2251799813685248 * 274877906944 % 18446744073709551616 % 4294967296 = 0 by omega, Nat.or_zero]
    omega
  · refine (glue _ _ _ 6 26 ?_ rfl rfl).trans ?_
    · show n / 2251799813685248 % 2251799813685248 / 35184372088832 < 64
      omega
    · show n / 2251799813685248 % 2251799813685248 / 35184372088832 + n / 5070602400912917605986812821504 % 2251799813685248 % 67108864 * 64 = n / 79228162514264337593543950336 % 4294967296
      omega
  · refine (glue _ _ _ 25 7 ?_ rfl rfl).trans ?_
    · show n / 5070602400912917605986812821504 % 2251799813685248 / 67108864 < 33554432
      omega
    · show n / 5070602400912917605986812821504 % 2251799813685248 / 67108864 + n / 11417981541647679048466287755595961091061972992 % 2251799813685248 % 128 * 33554432 = n / 340282366920938463463374607431768211456 % 4294967296
      omega
  · show n / 11417981541647679048466287755595961091061972992 % 2251799813685248 / 128 % 4294967296 ||| n / 25711008708143844408671393477458601640355247900524685364822016 % 2251799813685248 * 17592186044416 % 18446744073709551616 % 4294967296 = n / 1461501637330902918203684832716283019655932542976 % 4294967296
    rw [show n / 25711008708143844408671393477458601640355247900524685364822016 % 2251799813685248 * 17592186044416 % 18446744073709551616 % 4294967296 = 0 by omega, Nat.or_zero]
    omega
  · refine (glue _ _ _ 12 20 ?_ rfl rfl).trans ?_
    · show n / 11417981541647679048466287755595961091061972992 % 2251799813685248 / 549755813888 < 4096
      omega
    · show n / 11417981541647679048466287755595961091061972992 % 2251799813685248 / 549755813888 + n / 25711008708143844408671393477458601640355247900524685364822016 % 2251799813685248 % 1048576 * 4096 = n / 6277101735386680763835789423207666416102355444464034512896 % 4294967296
      omega
  · show n / 25711008708143844408671393477458601640355247900524685364822016 % 2251799813685248 / 1048576 % 4294967296 = n / 26959946667150639794667015087019630673637144422540572481103610249216 % 4294967296
    omega
end Go.Proofs.Ytcglobpklhkebab.Limb
