/-
  The quarters of package stream, and what the statements bring back of one, answer what the plain mathematics of the text Cha says, and leave all memory that was there as it was. Conditions: each word is below 2^32.
-/
import Derived.Test.YtcglobpklhkebabChecked
import Derived.Test.YtcglobpklhkebabCha
import Derived.Test.YtcglobpklhkebabLnBase
import Derived.BigQuiet
import Derived.Deep.QuietTactic
namespace Go.Proofs.Ytcglobpklhkebab.Cha
open Go.RowKit Mur Lanes
set_option maxRecDepth 100000

theorem turn_bits (n : Nat) (h2 : n ≤ 31) : bits .and .u64 (n : Int) 31 = (n : Int) := by
  have h : ∀ m : Fin 32, bits .and .u64 (m.val : Int) 31 = (m.val : Int) := by decide
  exact h ⟨n, by omega⟩

theorem spin_int (x n : Nat) (hx : x < 4294967296) : bits .or .u32 ((x : Int) * 2 ^ n % 4294967296) ((x : Int) / 2 ^ (32 - n)) = ((spin x n : Nat) : Int) := by
  have e1 : (x : Int) * 2 ^ n % 4294967296 = ((x * 2 ^ n % 4294967296 : Nat) : Int) := by rw [Int.natCast_emod, Int.natCast_mul, Int.natCast_pow]; rfl
  have e2 : (x : Int) / 2 ^ (32 - n) = ((x / 2 ^ (32 - n) : Nat) : Int) := by rw [Int.natCast_ediv, Int.natCast_pow]; rfl
  rw [e1, e2, u32_or_nat _ _ (Nat.mod_lt _ (by decide)) (Nat.lt_of_le_of_lt (Nat.div_le_self _ _) hx)]
  rfl

set_option maxHeartbeats 800000 in
theorem rotate_any (x n : Nat) (w : World) (hx : x < 4294967296) (h1 : 1 ≤ n) (h2 : n ≤ 31) :
    Calls Try.prog 54 #[.int .u32 x, .int .i64 n] w fun e w' => e = .returned (.int .u32 (spin x n : Nat)) ∧ w = w' := by
  have hn := turn_bits n h2
  go_enter Try.func54, Try.ntmps54
  go_wp2
  go_ret
  exact ⟨Lanes.ret_int (spin_int x n hx), rfl⟩
theorem rotate_int (z : Int) (x n : Nat) (k : Int) (w : World) (hz : z = (x : Int)) (hk : k = (n : Int)) (hx : x < 4294967296) (h1 : 1 ≤ n) (h2 : n ≤ 31) :
    Calls Try.prog 54 #[.int .u32 z, .int .i64 k] w fun e w' => e = .returned (.int .u32 (spin x n : Nat)) ∧ w = w' := by
  subst hz hk
  exact rotate_any x n w hx h1 h2

abbrev t4 (q : Q4) : Value := .tuple #[.int .u32 (q.a : Int), .int .u32 (q.b : Int), .int .u32 (q.c : Int), .int .u32 (q.d : Int)]
set_option maxHeartbeats 800000 in
theorem half_any (a b c d x y : Nat) (H : Q4) (w : World) (h : (⟨a, b, c, d⟩ : Q4).Ok) (hx1 : 1 ≤ x) (hx2 : x ≤ 31) (hy1 : 1 ≤ y) (hy2 : y ≤ 31) (hH : H = half ⟨a, b, c, d⟩ x y) :
    Calls Try.prog 50 #[.int .u32 a, .int .u32 b, .int .u32 c, .int .u32 d, .int .i64 x, .int .i64 y] w fun e w' => e = .returned (.tuple #[.int .u32 (H.a : Int), .int .u32 (H.b : Int), .int .u32 (H.c : Int), .int .u32 (H.d : Int)]) ∧ w = w' := by
  obtain ⟨h1, h2, h3, h4⟩ := h
  dsimp only at h1 h2 h3 h4
  obtain ⟨A, hA⟩ : ∃ A, A = (a + b) % 4294967296 := ⟨_, rfl⟩
  have hA' : ((a : Int) + (b : Int)) % 4294967296 = (A : Int) := by omega
  have lA : A < 4294967296 := by omega
  obtain ⟨D, hD⟩ : ∃ D, D = spin (d ^^^ A) x := ⟨_, rfl⟩
  have lD : D < 4294967296 := by rw [hD]; exact spin_lt _ _ (xor_lt h4 lA)
  obtain ⟨C, hC⟩ : ∃ C, C = (c + D) % 4294967296 := ⟨_, rfl⟩
  have hC' : ((c : Int) + (D : Int)) % 4294967296 = (C : Int) := by omega
  have lC : C < 4294967296 := by omega
  obtain ⟨B, hB⟩ : ∃ B, B = spin (b ^^^ C) y := ⟨_, rfl⟩
  have hx : bits .xor .u32 (d : Int) (A : Int) = ((d ^^^ A : Nat) : Int) := u32_xor_nat _ _ h4 lA
  have hy : bits .xor .u32 (b : Int) (C : Int) = ((b ^^^ C : Nat) : Int) := u32_xor_nat _ _ h2 lC
  have r1 := Lib.hid (fun u => rotate_any (d ^^^ A) x u (xor_lt h4 lA) hx1 hx2)
  have r2 := Lib.hid (fun u => rotate_any (b ^^^ C) y u (xor_lt h2 lC) hy1 hy2)
  rw [← hD] at r1
  rw [← hB] at r2
  have hE : H = ⟨A, B, C, D⟩ := by
    rw [hH, hB, hC, hD, hA]
    rfl
  subst hE
  clear hH hA hD hC hB
  go_enter Try.func50, Try.ntmps50
  go_wp2_with fail
  simp only [hA']
  refine (r1.out _).mono ?_
  rintro e w' ⟨rfl, rfl⟩
  go_wp2_with fail
  simp only [hC']
  refine (r2.out _).mono ?_
  rintro e w' ⟨rfl, rfl⟩
  go_wp2
  refine bodyPost_ret (v := .tuple #[.int .u32 (A : Int), .int .u32 (B : Int), .int .u32 (C : Int), .int .u32 (D : Int)]) (by simp [results, Try.results50, go_sem]) rfl ⟨rfl, rfl⟩

set_option maxHeartbeats 800000 in
theorem quarter_any (a b c d : Nat) (Q : Q4) (w : World) (h : (⟨a, b, c, d⟩ : Q4).Ok) (hQ : Q = quarter ⟨a, b, c, d⟩) :
    Calls Try.prog 35 #[.int .u32 a, .int .u32 b, .int .u32 c, .int .u32 d] w fun e w' => e = .returned (.tuple #[.int .u32 (Q.a : Int), .int .u32 (Q.b : Int), .int .u32 (Q.c : Int), .int .u32 (Q.d : Int)]) ∧ w = w' := by
  obtain ⟨H, hH⟩ : ∃ H, H = half ⟨a, b, c, d⟩ 16 12 := ⟨_, rfl⟩
  have hok : H.Ok := by rw [hH]; exact half_ok _ _ _ h
  have hQ2 : Q = half H 8 7 := by rw [hQ, hH]; rfl
  have r1 := Lib.hid (show ∀ u, Calls Try.prog 50 #[.int .u32 a, .int .u32 b, .int .u32 c, .int .u32 d, .int .i64 16, .int .i64 12] u fun e w' => e = .returned (.tuple #[.int .u32 (H.a : Int), .int .u32 (H.b : Int), .int .u32 (H.c : Int), .int .u32 (H.d : Int)]) ∧ u = w' from fun u => half_any a b c d 16 12 H u h (by omega) (by omega) (by omega) (by omega) hH)
  have r2 := Lib.hid (show ∀ u, Calls Try.prog 50 #[.int .u32 H.a, .int .u32 H.b, .int .u32 H.c, .int .u32 H.d, .int .i64 8, .int .i64 7] u fun e w' => e = .returned (.tuple #[.int .u32 (Q.a : Int), .int .u32 (Q.b : Int), .int .u32 (Q.c : Int), .int .u32 (Q.d : Int)]) ∧ u = w' from fun u => half_any H.a H.b H.c H.d 8 7 Q u hok (by omega) (by omega) (by omega) (by omega) hQ2)
  clear hH hQ2 hQ hok h
  go_enter Try.func35, Try.ntmps35
  go_wp2_with fail
  refine (r1.out _).mono ?_
  rintro e w' ⟨rfl, rfl⟩
  go_wp2_with fail
  refine (r2.out _).mono ?_
  rintro e w' ⟨rfl, rfl⟩
  go_wp2
  refine bodyPost_ret (v := .tuple #[.int .u32 (Q.a : Int), .int .u32 (Q.b : Int), .int .u32 (Q.c : Int), .int .u32 (Q.d : Int)]) (by simp [results, Try.results35, go_sem]) rfl ⟨rfl, rfl⟩

abbrev a4 (q : Q4) : Value := .agg #[.int .u32 (q.a : Int), .int .u32 (q.b : Int), .int .u32 (q.c : Int), .int .u32 (q.d : Int)]
set_option maxHeartbeats 800000 in
theorem pub_any (a b c d : Nat) (Q : Q4) (w : World) (h : (⟨a, b, c, d⟩ : Q4).Ok) (hQ : Q = quarter ⟨a, b, c, d⟩) :
    Calls Try.prog 14 #[.agg #[.int .u32 a, .int .u32 b, .int .u32 c, .int .u32 d]] w fun e w' => e = .returned (.agg #[.int .u32 (Q.a : Int), .int .u32 (Q.b : Int), .int .u32 (Q.c : Int), .int .u32 (Q.d : Int)]) ∧ Below w.heap.size w w' := by
  have r1 := Lib.hid (fun u => quarter_any a b c d Q u h hQ)
  clear hQ h
  go_enter Try.func14, Try.ntmps14
  go_wp2_with fail
  refine (r1.out _).mono ?_
  rintro e w' ⟨rfl, rfl⟩
  go_wp2
  refine bodyPost_ret (v := .agg #[.int .u32 (Q.a : Int), .int .u32 (Q.b : Int), .int .u32 (Q.c : Int), .int .u32 (Q.d : Int)]) (by simp [results, Try.results14, go_sem]) rfl ⟨rfl, ?_⟩
  exact ((Below.refl _ _).alloc (Nat.le_refl _) _).alloc (by simp) _
end Go.Proofs.Ytcglobpklhkebab.Cha
