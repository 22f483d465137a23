/-
  The functions turn, lowSum, highSum and Round of package digest answer, for every input, what the plain mathematics of the text Sha says, and leave all memory that was there as it was. Conditions: a word is turned by 1 to 31 bits; each word is below 2^32.
-/
import Derived.Test.YtncafbejgidliaaDoorChecked
import Derived.Test.YtncafbejgidliaaDoorSha
import Derived.Test.YtncafbejgidliaaDoorLanesTwo
import Derived.BigQuiet
import Derived.Deep.QuietTactic
namespace Go.Proofs.YtncafbejgidliaaDoor.Sha
open Go.RowKit Mur
set_option maxRecDepth 100000

theorem neg_turn (n : Nat) (h1 : 1 ≤ n) (h2 : n ≤ 31) : bits .and .u64 (IntKind.u64.wrap (-(n : Int))) 31 = ((32 - n : Nat) : Int) := by
  have h : ∀ m : Fin 32, 1 ≤ m.val → bits .and .u64 (IntKind.u64.wrap (-(m.val : Int))) 31 = ((32 - m.val : Nat) : Int) := by decide
  exact h ⟨n, by omega⟩ h1

set_option maxHeartbeats 800000 in
theorem rotate_any (x n : Nat) (w : World) (hx : x < 4294967296) (h1 : 1 ≤ n) (h2 : n ≤ 31) :
    Calls Tryd.prog 85 #[.int .u32 x, .int .i64 (-(n : Int))] w fun e w' => e = .returned (.int .u32 (rot x n : Nat)) ∧ w = w' := by
  have hn := neg_turn n h1 h2
  go_enter Tryd.func85, Tryd.ntmps85
  go_wp2
  go_ret
  refine ⟨Lanes.ret_int ?_, rfl⟩
  have e1 : (x : Int) * 2 ^ (32 - n) % 4294967296 = ((x * 2 ^ (32 - n) % 4294967296 : Nat) : Int) := by rw [Int.natCast_emod, Int.natCast_mul, Int.natCast_pow]; rfl
  have e2 : (x : Int) / 2 ^ (32 - (32 - n)) = ((x / 2 ^ n : Nat) : Int) := by
    have : 32 - (32 - n) = n := by omega
    rw [this, Int.natCast_ediv, Int.natCast_pow]; rfl
  rw [e1, e2, u32_or_nat _ _ (Nat.mod_lt _ (by decide)) (Nat.lt_of_le_of_lt (Nat.div_le_self _ _) hx)]
  rfl

set_option maxHeartbeats 800000 in
theorem turn_any (x n : Nat) (w : World) (hx : x < 4294967296) (h1 : 1 ≤ n) (h2 : n ≤ 31) :
    Calls Tryd.prog 84 #[.int .u32 x, .int .i64 n] w fun e w' => e = .returned (.int .u32 (rot x n : Nat)) ∧ w = w' := by
  go_enter Tryd.func84, Tryd.ntmps84
  go_wp2_with fail
  refine (rotate_any _ _ _ hx h1 h2).mono ?_
  rintro e w' ⟨rfl, rfl⟩
  go_wp2
  go_ret
  exact ⟨rfl, rfl⟩

theorem xor_lt (a b : Nat) (ha : a < 4294967296) (hb : b < 4294967296) : a ^^^ b < 4294967296 := Nat.xor_lt_two_pow (n := 32) ha hb
theorem or_lt (a b : Nat) (ha : a < 4294967296) (hb : b < 4294967296) : a ||| b < 4294967296 := Nat.or_lt_two_pow (n := 32) ha hb
theorem and_lt (a b : Nat) (ha : a < 4294967296) : a &&& b < 4294967296 := Nat.lt_of_le_of_lt Nat.and_le_left ha

set_option maxHeartbeats 800000 in
theorem lowSum_any (a b c r : Nat) (w : World) (ha : a < 4294967296) (hb : b < 4294967296) (hc : c < 4294967296) :
    Calls Tryd.prog 78 #[.int .u32 a, .int .u32 b, .int .u32 c, .int .u32 r] w fun e w' => e = .returned (.int .u32 (lowS a b c r : Nat)) ∧ w = w' := by
  have r1 := rot_lt a 6 ha
  have r2 := rot_lt a 11 ha
  have r3 := rot_lt a 25 ha
  have t1 := fun w => turn_any a 6 w ha (by omega) (by omega)
  have t2 := fun w => turn_any a 11 w ha (by omega) (by omega)
  have t3 := fun w => turn_any a 25 w ha (by omega) (by omega)
  go_enter Tryd.func78, Tryd.ntmps78
  go_wp2_with fail
  refine (t1 _).mono ?_
  rintro e w' ⟨rfl, rfl⟩
  go_wp2_with fail
  refine (t2 _).mono ?_
  rintro e w' ⟨rfl, rfl⟩
  go_wp2_with fail
  refine (t3 _).mono ?_
  rintro e w' ⟨rfl, rfl⟩
  go_wp2
  go_ret
  refine ⟨Lanes.ret_int ?_, rfl⟩
  rw [u32_xor_nat _ _ r1 r2, u32_xor_nat _ _ (xor_lt _ _ r1 r2) r3, u32_xor_nat _ _ hb hc, u32_and_nat _ _ ha (xor_lt _ _ hb hc), u32_xor_nat _ _ hc (and_lt _ _ ha)]
  unfold lowS
  omega

set_option maxHeartbeats 800000 in
theorem highSum_any (a b c : Nat) (w : World) (ha : a < 4294967296) (hb : b < 4294967296) (hc : c < 4294967296) :
    Calls Tryd.prog 79 #[.int .u32 a, .int .u32 b, .int .u32 c] w fun e w' => e = .returned (.int .u32 (highS a b c : Nat)) ∧ w = w' := by
  have r1 := rot_lt a 2 ha
  have r2 := rot_lt a 13 ha
  have r3 := rot_lt a 22 ha
  have t1 := fun w => turn_any a 2 w ha (by omega) (by omega)
  have t2 := fun w => turn_any a 13 w ha (by omega) (by omega)
  have t3 := fun w => turn_any a 22 w ha (by omega) (by omega)
  go_enter Tryd.func79, Tryd.ntmps79
  go_wp2_with fail
  refine (t1 _).mono ?_
  rintro e w' ⟨rfl, rfl⟩
  go_wp2_with fail
  refine (t2 _).mono ?_
  rintro e w' ⟨rfl, rfl⟩
  go_wp2_with fail
  refine (t3 _).mono ?_
  rintro e w' ⟨rfl, rfl⟩
  go_wp2
  go_ret
  refine ⟨Lanes.ret_int ?_, rfl⟩
  rw [u32_xor_nat _ _ r1 r2, u32_xor_nat _ _ (xor_lt _ _ r1 r2) r3, u32_and_nat _ _ ha hb, u32_or_nat _ _ ha hb, u32_and_nat _ _ hc (or_lt _ _ ha hb), u32_or_nat _ _ (and_lt _ _ ha) (and_lt _ _ hc)]
  unfold highS
  omega

theorem lowSum_q (a b c r : Nat) (x : Int) (w : World) (ha : a < 4294967296) (hb : b < 4294967296) (hc : c < 4294967296) (hx : x = (r : Int)) :
    Calls Tryd.prog 78 #[.int .u32 a, .int .u32 b, .int .u32 c, .int .u32 x] w fun e w' => e = .returned (.int .u32 (lowS a b c r : Nat)) ∧ w' = w := by
  subst hx
  exact (lowSum_any a b c r w ha hb hc).mono fun _ _ h => ⟨h.1, h.2.symm⟩
theorem highSum_q (a b c : Nat) (w : World) (ha : a < 4294967296) (hb : b < 4294967296) (hc : c < 4294967296) :
    Calls Tryd.prog 79 #[.int .u32 a, .int .u32 b, .int .u32 c] w fun e w' => e = .returned (.int .u32 (highS a b c : Nat)) ∧ w' = w :=
  (highSum_any a b c w ha hb hc).mono fun _ _ h => ⟨h.1, h.2.symm⟩
theorem wrap_add (h k : Nat) : IntKind.u32.wrap ((h : Int) + (k : Int)) = (((h + k) % 4294967296 : Nat) : Int) := by rw [IntKind.wrap_u32]; omega

def S8.val (v : S8) : Value := .agg v.cells
theorem ret_s8 {a b c d e f g h : Int} {v : S8} (h1 : a = v.a) (h2 : b = v.b) (h3 : c = v.c) (h4 : d = v.d) (h5 : e = v.e) (h6 : f = v.f) (h7 : g = v.g) (h8 : h = v.h) :
    Ending.returned (.agg #[.int .u32 a, .int .u32 b, .int .u32 c, .int .u32 d, .int .u32 e, .int .u32 f, .int .u32 g, .int .u32 h]) = .returned v.val := by
  subst h1 h2 h3 h4 h5 h6 h7 h8; rfl

end Go.Proofs.YtncafbejgidliaaDoor.Sha
