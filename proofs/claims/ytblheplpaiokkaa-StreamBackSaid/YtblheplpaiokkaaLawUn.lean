/-
  What the statements of layer 4 bring back of a quarter is what the plain mathematics of the text Cha says, and all memory that was there stays. Conditions: each word is below 2^32.
-/
import Derived.Test.YtblheplpaiokkaaChaQ
namespace Go.Proofs.Ytblheplpaiokkaa.Cha
open Go.RowKit Mur Lanes
set_option maxRecDepth 100000

theorem spin_or (x n : Nat) (p q : Int) (hx : x < 4294967296) (hp : p = ((2 ^ (32 - n) : Nat) : Int)) (hq : q = ((2 ^ n : Nat) : Int)) : bits .or .u32 ((x : Int) / p) ((x : Int) * q % 4294967296) = ((spin x n : Nat) : Int) := by
  subst hp hq
  have e1 : (x : Int) * ((2 ^ n : Nat) : Int) % 4294967296 = ((x * 2 ^ n % 4294967296 : Nat) : Int) := by rw [Int.natCast_emod, Int.natCast_mul]; rfl
  have e2 : (x : Int) / ((2 ^ (32 - n) : Nat) : Int) = ((x / 2 ^ (32 - n) : Nat) : Int) := by rw [Int.natCast_ediv]
  rw [e1, e2, u32_or_nat _ _ (Nat.lt_of_le_of_lt (Nat.div_le_self _ _) hx) (Nat.mod_lt _ (by decide)), Nat.or_comm]
  rfl
theorem spin_xor (x n y : Nat) (p q : Int) (hx : x < 4294967296) (hy : y < 4294967296) (hp : p = ((2 ^ (32 - n) : Nat) : Int)) (hq : q = ((2 ^ n : Nat) : Int)) : bits .xor .u32 (bits .or .u32 ((x : Int) / p) ((x : Int) * q % 4294967296)) (y : Int) = ((spin x n ^^^ y : Nat) : Int) := by
  rw [spin_or x n p q hx hp hq, u32_xor_nat _ _ (spin_lt _ _ hx) hy]

set_option maxHeartbeats 800000 in
theorem back_any (a b c d : Nat) (Q : Q4) (w : World) (h : (⟨a, b, c, d⟩ : Q4).Ok) (hQ : Q = back ⟨a, b, c, d⟩) :
    Calls Try.prog 20 #[.agg #[.int .u32 a, .int .u32 b, .int .u32 c, .int .u32 d]] w fun e w' => e = .returned (.agg #[.int .u32 (Q.a : Int), .int .u32 (Q.b : Int), .int .u32 (Q.c : Int), .int .u32 (Q.d : Int)]) ∧ Below w.heap.size w w' := by
  obtain ⟨h1, h2, h3, h4⟩ := h
  dsimp only at h1 h2 h3 h4
  obtain ⟨B, hB⟩ : ∃ B, B = spin b 25 ^^^ c := ⟨_, rfl⟩
  have lB : B < 4294967296 := by rw [hB]; exact xor_lt (spin_lt _ _ h2) h3
  obtain ⟨C, hC⟩ : ∃ C, C = (c + 4294967296 - d) % 4294967296 := ⟨_, rfl⟩
  have lC : C < 4294967296 := by omega
  have hC' : ((c : Int) - (d : Int)) % 4294967296 = (C : Int) := by omega
  obtain ⟨D, hD⟩ : ∃ D, D = spin d 24 ^^^ a := ⟨_, rfl⟩
  have lD : D < 4294967296 := by rw [hD]; exact xor_lt (spin_lt _ _ h4) h1
  obtain ⟨A, hA⟩ : ∃ A, A = (a + 4294967296 - B) % 4294967296 := ⟨_, rfl⟩
  have lA : A < 4294967296 := by omega
  have hA' : ((a : Int) - (B : Int)) % 4294967296 = (A : Int) := by omega
  obtain ⟨B2, hB2⟩ : ∃ B2, B2 = spin B 20 ^^^ C := ⟨_, rfl⟩
  have lB2 : B2 < 4294967296 := by rw [hB2]; exact xor_lt (spin_lt _ _ lB) lC
  obtain ⟨C2, hC2⟩ : ∃ C2, C2 = (C + 4294967296 - D) % 4294967296 := ⟨_, rfl⟩
  have hC2' : ((C : Int) - (D : Int)) % 4294967296 = (C2 : Int) := by omega
  obtain ⟨D2, hD2⟩ : ∃ D2, D2 = spin D 16 ^^^ A := ⟨_, rfl⟩
  obtain ⟨A2, hA2⟩ : ∃ A2, A2 = (A + 4294967296 - B2) % 4294967296 := ⟨_, rfl⟩
  have hA2' : ((A : Int) - (B2 : Int)) % 4294967296 = (A2 : Int) := by omega
  have x1 := spin_xor b 25 c 128 33554432 h2 h3 rfl rfl
  have x2 := spin_xor d 24 a 256 16777216 h4 h1 rfl rfl
  have x3 := spin_xor B 20 C 4096 1048576 lB lC rfl rfl
  have x4 := spin_xor D 16 A 65536 65536 lD lA rfl rfl
  rw [← hB] at x1
  rw [← hD] at x2
  rw [← hB2] at x3
  rw [← hD2] at x4
  have hE : Q = ⟨A2, B2, C2, D2⟩ := by
    rw [hQ, hD2, hA2, hB2, hC2, hA, hC, hD, hB]
    rfl
  subst hE
  clear hQ hA hD hC hB hA2 hB2 hC2 hD2
  go_enter Try.func20, Try.ntmps20
  go_wp2
  go_quiet (fail)
  go_wp2
  refine bodyPost_ret (v := .agg #[.int .u32 (A2 : Int), .int .u32 (B2 : Int), .int .u32 (C2 : Int), .int .u32 (D2 : Int)]) (by simp [results, Try.results20, go_sem]) rfl ⟨rfl, ?_⟩
  exact ((((belowN (((Below.refl _ _).alloc (Nat.le_refl _) _).alloc (by simp) _) _).setCell (by simp) _).setCell (by simp) _).setCell (by simp) _).setCell (by simp) _
end Go.Proofs.Ytblheplpaiokkaa.Cha
