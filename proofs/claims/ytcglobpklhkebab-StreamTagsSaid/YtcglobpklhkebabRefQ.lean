/-
  The document's own answer for a quarter is what the plain mathematics of the text Cha says, and all memory that was there stays. Conditions: each word is below 2^32.
-/
import Derived.Test.YtcglobpklhkebabChaQ
namespace Go.Proofs.Ytcglobpklhkebab.RefCha
open Go.RowKit Mur Lanes Cha
set_option maxRecDepth 100000

set_option maxHeartbeats 800000 in
theorem spin_any (x n : Nat) (w : World) (hx : x < 4294967296) (h1 : 1 ≤ n) (h2 : n ≤ 31) :
    Calls Try.prog 71 #[.int .u32 x, .int .u64 n] w fun e w' => e = .returned (.int .u32 (spin x n : Nat)) ∧ w = w' := by
  go_enter Try.func71, Try.ntmps71
  go_wp2
  go_ret
  exact ⟨Lanes.ret_int (spin_int x n hx), rfl⟩

set_option maxHeartbeats 800000 in
theorem pub_any (a b c d : Nat) (Q : Q4) (w : World) (h : (⟨a, b, c, d⟩ : Q4).Ok) (hQ : Q = quarter ⟨a, b, c, d⟩) :
    Calls Try.prog 68 #[.agg #[.int .u32 a, .int .u32 b, .int .u32 c, .int .u32 d]] w fun e w' => e = .returned (.agg #[.int .u32 (Q.a : Int), .int .u32 (Q.b : Int), .int .u32 (Q.c : Int), .int .u32 (Q.d : Int)]) ∧ Below w.heap.size w w' := by
  obtain ⟨h1, h2, h3, h4⟩ := h
  dsimp only at h1 h2 h3 h4
  obtain ⟨A, hA⟩ : ∃ A, A = (a + b) % 4294967296 := ⟨_, rfl⟩
  have hA' : ((a : Int) + (b : Int)) % 4294967296 = (A : Int) := by omega
  have lA : A < 4294967296 := by omega
  obtain ⟨D, hD⟩ : ∃ D, D = spin (d ^^^ A) 16 := ⟨_, rfl⟩
  have lD : D < 4294967296 := by rw [hD]; exact spin_lt _ _ (xor_lt h4 lA)
  obtain ⟨C, hC⟩ : ∃ C, C = (c + D) % 4294967296 := ⟨_, rfl⟩
  have hC' : ((c : Int) + (D : Int)) % 4294967296 = (C : Int) := by omega
  have lC : C < 4294967296 := by omega
  obtain ⟨B, hB⟩ : ∃ B, B = spin (b ^^^ C) 12 := ⟨_, rfl⟩
  have lB : B < 4294967296 := by rw [hB]; exact spin_lt _ _ (xor_lt h2 lC)
  obtain ⟨A2, hA2⟩ : ∃ A2, A2 = (A + B) % 4294967296 := ⟨_, rfl⟩
  have hA2' : ((A : Int) + (B : Int)) % 4294967296 = (A2 : Int) := by omega
  have lA2 : A2 < 4294967296 := by omega
  obtain ⟨D2, hD2⟩ : ∃ D2, D2 = spin (D ^^^ A2) 8 := ⟨_, rfl⟩
  have lD2 : D2 < 4294967296 := by rw [hD2]; exact spin_lt _ _ (xor_lt lD lA2)
  obtain ⟨C2, hC2⟩ : ∃ C2, C2 = (C + D2) % 4294967296 := ⟨_, rfl⟩
  have hC2' : ((C : Int) + (D2 : Int)) % 4294967296 = (C2 : Int) := by omega
  have lC2 : C2 < 4294967296 := by omega
  obtain ⟨B2, hB2⟩ : ∃ B2, B2 = spin (B ^^^ C2) 7 := ⟨_, rfl⟩
  have x1 : bits .xor .u32 (d : Int) (A : Int) = ((d ^^^ A : Nat) : Int) := u32_xor_nat _ _ h4 lA
  have x2 : bits .xor .u32 (b : Int) (C : Int) = ((b ^^^ C : Nat) : Int) := u32_xor_nat _ _ h2 lC
  have x3 : bits .xor .u32 (D : Int) (A2 : Int) = ((D ^^^ A2 : Nat) : Int) := u32_xor_nat _ _ lD lA2
  have x4 : bits .xor .u32 (B : Int) (C2 : Int) = ((B ^^^ C2 : Nat) : Int) := u32_xor_nat _ _ lB lC2
  have r1 := Lib.hid (fun u => spin_any (d ^^^ A) 16 u (xor_lt h4 lA) (by omega) (by omega))
  have r2 := Lib.hid (fun u => spin_any (b ^^^ C) 12 u (xor_lt h2 lC) (by omega) (by omega))
  have r3 := Lib.hid (fun u => spin_any (D ^^^ A2) 8 u (xor_lt lD lA2) (by omega) (by omega))
  have r4 := Lib.hid (fun u => spin_any (B ^^^ C2) 7 u (xor_lt lB lC2) (by omega) (by omega))
  rw [← hD] at r1
  rw [← hB] at r2
  rw [← hD2] at r3
  rw [← hB2] at r4
  have hE : Q = ⟨A2, B2, C2, D2⟩ := by
    rw [hQ, hB2, hC2, hD2, hA2, hB, hC, hD, hA]
    rfl
  subst hE
  clear hQ hA hD hC hB hA2 hB2 hC2 hD2
  go_enter Try.func68, Try.ntmps68
  go_wp2
  go_quiet (fail)
  go_wp2_with fail
  refine (r1.out _).mono ?_
  rintro e w' ⟨rfl, rfl⟩
  go_wp2_with fail
  refine (r2.out _).mono ?_
  rintro e w' ⟨rfl, rfl⟩
  go_wp2_with fail
  refine (r3.out _).mono ?_
  rintro e w' ⟨rfl, rfl⟩
  go_wp2_with fail
  refine (r4.out _).mono ?_
  rintro e w' ⟨rfl, rfl⟩
  go_wp2
  refine bodyPost_ret (v := .agg #[.int .u32 (A2 : Int), .int .u32 (B2 : Int), .int .u32 (C2 : Int), .int .u32 (D2 : Int)]) (by simp [results, Try.results68, go_sem]) rfl ⟨rfl, ?_⟩
  exact ((((belowN (((Below.refl _ _).alloc (Nat.le_refl _) _).alloc (by simp) _) _).setCell (by simp) _).setCell (by simp) _).setCell (by simp) _).setCell (by simp) _
end Go.Proofs.Ytcglobpklhkebab.RefCha
