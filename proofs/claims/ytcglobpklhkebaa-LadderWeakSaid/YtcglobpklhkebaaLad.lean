/-
  The plain mathematics of X25519: rungs of the ladder modulo 2^255 - 19, pairs that are exchanged, and what comes of the number 0. Nothing here speaks of a program: no condition but those that each lemma names.
-/
import Derived.Test.YtcglobpklhkebaaLmbVal
namespace Go.Proofs.Ytcglobpklhkebaa.Lad
open Prime Limb

/-- Two pairs of numbers. -/
structure St where
  a : Nat
  b : Nat
  c : Nat
  d : Nat
deriving DecidableEq

/-- A rung. -/
def rungE (s : St) : Nat := subP ((s.a + s.b) % P * ((s.a + s.b) % P) % P) (subP s.a s.b * subP s.a s.b % P)
def rungD (s : St) : Nat := subP s.c s.d * ((s.a + s.b) % P) % P
def rungC (s : St) : Nat := (s.c + s.d) % P * subP s.a s.b % P
def rungN (x : Nat) (s : St) : St :=
  ⟨(s.a + s.b) % P * ((s.a + s.b) % P) % P * (subP s.a s.b * subP s.a s.b % P) % P,
   rungE s * (((s.a + s.b) % P * ((s.a + s.b) % P) % P + rungE s * 121665 % P) % P) % P,
   (rungD s + rungC s) % P * ((rungD s + rungC s) % P) % P,
   x * (subP (rungD s) (rungC s) * subP (rungD s) (rungC s) % P) % P⟩
/-- Exchanged where the bit is 1. -/
def exch (b : Nat) (s : St) : St := if b % 2 = 1 then ⟨s.c, s.d, s.a, s.b⟩ else s
theorem exch_exch (b : Nat) (s : St) : exch b (exch b s) = s := by
  unfold exch
  split <;> rfl
theorem exch_xor (b c : Nat) (hb : b < 2) (hc : c < 2) (s : St) : exch (b ^^^ c) (exch b s) = exch c s := by
  have h1 : b = 0 ∨ b = 1 := by omega
  have h2 : c = 0 ∨ c = 1 := by omega
  rcases h1 with rfl | rfl <;> rcases h2 with rfl | rfl <;> rfl
/-- After so many bits, the first that is gone through is that of 254. -/
def ladN (bit : Nat → Nat) (x : Nat) : Nat → St
  | 0 => ⟨1, 0, x, 1⟩
  | k + 1 => exch (bit (254 - k)) (rungN x (exch (bit (254 - k)) (ladN bit x k)))
/-- The ladder. -/
def ladder (bit : Nat → Nat) (x : Nat) : Nat := (ladN bit x 255).a * ((ladN bit x 255).b ^ (P - 2) % P) % P

theorem sub_self' (x : Nat) : subP x x = 0 := by
  unfold subP
  have h := Nat.mod_lt x P_pos
  have e : x + (P - x % P) = P * (x / P + 1) := by
    have := Nat.div_add_mod x P
    rw [Nat.mul_add, Nat.mul_one]
    omega
  rw [e, Nat.mul_mod_right]
theorem neg_sq (x : Nat) : subP 0 x * subP 0 x % P = x % P * (x % P) % P := by
  unfold subP
  have h := Nat.mod_lt x P_pos
  generalize x % P = y at *
  rw [Nat.zero_add, ← Nat.mul_mod]
  obtain ⟨z, hz⟩ : ∃ z, z = P - y := ⟨_, rfl⟩
  have e : y + z = P := by omega
  rw [← hz]
  have e2 : z * z + P * (2 * y) = y * y + P * P := by
    rw [← e]
    grind
  have e3 := congrArg (· % P) e2
  simp only [Nat.add_mul_mod_self_left] at e3
  exact e3
theorem sub_zero' (x : Nat) : subP x 0 = x % P := by
  unfold subP
  rw [Nat.zero_mod, Nat.sub_zero, Nat.add_mod_right]
theorem rung_zero (s : St) (h : s.a = 0 ∨ s.b = 0) : (rungN 0 s).b = 0 ∧ (rungN 0 s).d = 0 := by
  have he : rungE s = 0 := by
    unfold rungE
    rcases h with h | h
    · rw [h, neg_sq, Nat.zero_add]
      exact sub_self' _
    · rw [h, sub_zero', Nat.add_zero]
      exact sub_self' _
  refine ⟨?_, ?_⟩
  · show rungE s * _ % P = 0
    rw [he, Nat.zero_mul, Nat.zero_mod]
  · show 0 * _ % P = 0
    rw [Nat.zero_mul, Nat.zero_mod]
theorem lad_zero (bit : Nat → Nat) (k : Nat) : ((ladN bit 0 k).a = 0 ∨ (ladN bit 0 k).b = 0) ∧ ((ladN bit 0 k).c = 0 ∨ (ladN bit 0 k).d = 0) ∧ (0 < k → (ladN bit 0 k).b = 0) := by
  induction k with
  | zero => exact ⟨.inr rfl, .inl rfl, fun h => absurd h (by omega)⟩
  | succ k ih =>
    obtain ⟨h1, h2, -⟩ := ih
    have h3 : (exch (bit (254 - k)) (ladN bit 0 k)).a = 0 ∨ (exch (bit (254 - k)) (ladN bit 0 k)).b = 0 := by
      unfold exch
      split
      · exact h2
      · exact h1
    obtain ⟨g1, g2⟩ := rung_zero _ h3
    rw [ladN]
    generalize rungN 0 (exch (bit (254 - k)) (ladN bit 0 k)) = r at *
    unfold exch
    split
    · exact ⟨.inr g2, .inr g1, fun _ => g2⟩
    · exact ⟨.inr g1, .inr g2, fun _ => g1⟩
theorem ladder_zero (bit : Nat → Nat) : ladder bit 0 = 0 := by
  unfold ladder
  rw [(lad_zero bit 255).2.2 (by omega)]
  have : (0 : Nat) ^ (P - 2) = 0 := Nat.zero_pow (by decide)
  rw [this, Nat.zero_mod, Nat.mul_zero, Nat.zero_mod]

theorem rung_lt (x : Nat) (s : St) : (rungN x s).a < P ∧ (rungN x s).b < P ∧ (rungN x s).c < P ∧ (rungN x s).d < P :=
  ⟨Nat.mod_lt _ P_pos, Nat.mod_lt _ P_pos, Nat.mod_lt _ P_pos, Nat.mod_lt _ P_pos⟩
theorem ladder_lt (bit : Nat → Nat) (x : Nat) : ladder bit x < P := Nat.mod_lt _ P_pos
end Go.Proofs.Ytcglobpklhkebaa.Lad
