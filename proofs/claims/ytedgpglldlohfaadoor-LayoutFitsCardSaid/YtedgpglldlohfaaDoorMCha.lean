/-
  Several texts as one (Cha, ChaQ, ChaMix, ChaBlk, ChaState, ChaBlock, ChaStream, ChaHide, ChaLong). The plain mathematics of package stream's first half (ChaCha20): quarters, mixed states, blocks and streams as functions on numbers and lists. Nothing here speaks of a program: no condition but those that each lemma names. The quarters of package stream, and what the statements bring back of one, answer what the plain mathematics of the text Cha says, and leave all memory that was there as it was. Conditions: each word is below 2^32. stream.Mixed answers what the plain mathematics of the text Cha says, and leaves all memory that was there as it was. Condition: the state has sixteen words below 2^32. stream.blockOf answers the words of a block as the plain mathematics of the text Cha has them, and leaves all memory that was there as it was. Conditions: the state has sixteen words below 2^32, the number is below 2^32. stream.stateOf answers the sixteen words that the plain mathematics of the text Cha has of a key and a nonce, with no error, or sixteen words 0 and ErrArg; and it leaves all memory that was there as it was. Conditions: the key and the nonce take no more than the reach of the form. stream.Block answers a block's 64 bytes as the plain mathematics of the text Cha has them, or ErrArg, and leaves all memory that was there as it was. Conditions: the number is below 2^32. stream.Stream answers the first bytes of the blocks from 0 on as the plain mathematics of the text Cha has them, or ErrArg, and leaves all memory that was there as it was. No condition but those that each theorem names. stream.hideBehind and stream.Hide answer a text exclusively or'ed with the stream from a byte on, or ErrArg, and leave all memory that was there as it was. No condition but those that each theorem names. Plain lemmas on streams: a longer one begins with a shorter one; what is hidden twice is as it was. Nothing here speaks of a program's run: no condition but those that each lemma names.
-/
import Derived.Test.YtedgpglldlohfaaDoorMDig
import Derived.Test.YtedgpglldlohfaaDoorMLn
import Derived.Test.YtedgpglldlohfaaDoorChecked
import Derived.BigQuiet
import Derived.Deep.QuietTactic
import Derived.Test.YtedgpglldlohfaaDoorMWk
import Derived.Deep.CutBlock
import Derived.Deep.RegionLaw
import Derived.Deep.Cut
import Derived.Deep.DeepCutAuto
import Derived.Test.YtedgpglldlohfaaDoorMRef
namespace Go.Proofs.YtedgpglldlohfaaDoor.Cha
open Go.RowKit Mur Lanes

/-- The word x turned by n to the left. -/
def spin (x n : Nat) : Nat := x * 2 ^ n % 4294967296 ||| x / 2 ^ (32 - n)
theorem spin_lt (x n : Nat) (h : x < 4294967296) : spin x n < 4294967296 :=
  Nat.or_lt_two_pow (n := 32) (Nat.mod_lt _ (by decide)) (Nat.lt_of_le_of_lt (Nat.div_le_self _ _) h)

structure Q4 where
  a : Nat
  b : Nat
  c : Nat
  d : Nat
deriving DecidableEq

def Q4.Ok (q : Q4) : Prop := q.a < 4294967296 ∧ q.b < 4294967296 ∧ q.c < 4294967296 ∧ q.d < 4294967296
def half (q : Q4) (x y : Nat) : Q4 :=
  ⟨(q.a + q.b) % 4294967296, spin (q.b ^^^ ((q.c + spin (q.d ^^^ ((q.a + q.b) % 4294967296)) x) % 4294967296)) y,
    (q.c + spin (q.d ^^^ ((q.a + q.b) % 4294967296)) x) % 4294967296, spin (q.d ^^^ ((q.a + q.b) % 4294967296)) x⟩
def quarter (q : Q4) : Q4 := half (half q 16 12) 8 7

theorem xor_lt {a b : Nat} (ha : a < 4294967296) (hb : b < 4294967296) : a ^^^ b < 4294967296 := Nat.xor_lt_two_pow (n := 32) ha hb
theorem half_ok (q : Q4) (x y : Nat) (h : q.Ok) : (half q x y).Ok := by
  obtain ⟨h1, h2, h3, h4⟩ := h
  exact ⟨Nat.mod_lt _ (by decide), spin_lt _ _ (xor_lt h2 (Nat.mod_lt _ (by decide))), Nat.mod_lt _ (by decide), spin_lt _ _ (xor_lt h4 (Nat.mod_lt _ (by decide)))⟩
theorem quarter_ok (q : Q4) (h : q.Ok) : (quarter q).Ok := half_ok _ _ _ (half_ok _ _ _ h)

theorem spin_sum (v n : Nat) (hv : v < 4294967296) (h1 : 1 ≤ n) (h2 : n ≤ 31) : spin v n = (v % 2 ^ (32 - n)) * 2 ^ n + v / 2 ^ (32 - n) := by
  have e : (2 : Nat) ^ (32 - n) * 2 ^ n = 4294967296 := by rw [← Nat.pow_add, show 32 - n + n = 32 by omega]
  have e1 : v * 2 ^ n % 4294967296 = (v % 2 ^ (32 - n)) * 2 ^ n := by rw [← e, Nat.mul_mod_mul_right]
  have e2 : v / 2 ^ (32 - n) < 2 ^ n := by
    rw [Nat.div_lt_iff_lt_mul (Nat.two_pow_pos _), Nat.mul_comm, e]
    exact hv
  unfold spin
  rw [e1, or_add' _ _ _ e2]
theorem spin_back (v n : Nat) (hv : v < 4294967296) (hn : n = 7 ∨ n = 8 ∨ n = 12 ∨ n = 16) : spin (spin v n) (32 - n) = v := by
  have h0 := spin_lt v n hv
  rcases hn with rfl | rfl | rfl | rfl
  all_goals
    rw [spin_sum _ (32 - _) h0 (by omega) (by omega)]
    rw [spin_sum v _ hv (by omega) (by omega)]
    simp only [Nat.reduceSub, Nat.reducePow]
    omega

/-- A half brought back. -/
def unhalf (q : Q4) (x y : Nat) : Q4 :=
  ⟨(q.a + 4294967296 - (spin q.b (32 - y) ^^^ q.c)) % 4294967296, spin q.b (32 - y) ^^^ q.c, (q.c + 4294967296 - q.d) % 4294967296, spin q.d (32 - x) ^^^ q.a⟩
def back (q : Q4) : Q4 := unhalf (unhalf q 8 7) 16 12
theorem unhalf_half (q : Q4) (x y : Nat) (h : q.Ok) (hx : x = 7 ∨ x = 8 ∨ x = 12 ∨ x = 16) (hy : y = 7 ∨ y = 8 ∨ y = 12 ∨ y = 16) : unhalf (half q x y) x y = q := by
  obtain ⟨a, b, c, d⟩ := q
  obtain ⟨h1, h2, h3, h4⟩ := h
  dsimp only at h1 h2 h3 h4
  have m1 : (a + b) % 4294967296 < 4294967296 := Nat.mod_lt _ (by decide)
  generalize hA : (a + b) % 4294967296 = A at m1
  have m2 : spin (d ^^^ A) x < 4294967296 := spin_lt _ _ (xor_lt h4 m1)
  have m3 : (c + spin (d ^^^ A) x) % 4294967296 < 4294967296 := Nat.mod_lt _ (by decide)
  simp only [unhalf, half, hA]
  rw [spin_back _ x (xor_lt h4 m1) hx, spin_back _ y (xor_lt h2 m3) hy, Nat.xor_assoc, Nat.xor_self, Nat.xor_zero, Nat.xor_assoc, Nat.xor_self, Nat.xor_zero]
  generalize spin (d ^^^ A) x = D at m2
  congr 1 <;> omega
theorem back_quarter (q : Q4) (h : q.Ok) : back (quarter q) = q := by
  unfold back quarter
  rw [unhalf_half _ 8 7 (half_ok _ _ _ h) (by omega) (by omega), unhalf_half _ 16 12 h (by omega) (by omega)]
theorem unhalf_ok (q : Q4) (x y : Nat) (h : q.Ok) : (unhalf q x y).Ok := by
  obtain ⟨h1, h2, h3, h4⟩ := h
  exact ⟨Nat.mod_lt _ (by decide), xor_lt (spin_lt _ _ h2) h3, Nat.mod_lt _ (by decide), xor_lt (spin_lt _ _ h4) h1⟩
theorem back_ok (q : Q4) (h : q.Ok) : (back q).Ok := unhalf_ok _ _ _ (unhalf_ok _ _ _ h)

/-- Four places of a state, by f. -/
def at4 (s : List Nat) (i j k l : Nat) : Q4 := ⟨s.getD i 0, s.getD j 0, s.getD k 0, s.getD l 0⟩
def put4 (s : List Nat) (i j k l : Nat) (q : Q4) : List Nat := (((s.set i q.a).set j q.b).set k q.c).set l q.d
def on (s : List Nat) (i j k l : Nat) : List Nat := put4 s i j k l (quarter (at4 s i j k l))
def unOn (s : List Nat) (i j k l : Nat) : List Nat := put4 s i j k l (back (at4 s i j k l))
/-- The places of the quarter i of a slant. -/
def pb (t i : Nat) : Nat := 4 + (i + t) % 4
def pc (t i : Nat) : Nat := 8 + (i + 2 * t) % 4
def pd (t i : Nat) : Nat := 12 + (i + 3 * t) % 4
def slant (s : List Nat) (t : Nat) : Nat → List Nat
  | 0 => s
  | i + 1 => on (slant s t i) i (pb t i) (pc t i) (pd t i)
def mixed (s : List Nat) : List Nat := slant (slant s 0 4) 1 4
def unslant (s : List Nat) (t : Nat) : Nat → List Nat
  | 0 => s
  | i + 1 => unOn (unslant s t i) i (pb t i) (pc t i) (pd t i)
def unmixed (s : List Nat) : List Nat := unslant (unslant s 1 4) 0 4

def Words16 (s : List Nat) : Prop := s.length = 16 ∧ ∀ x ∈ s, x < 4294967296
theorem Words16.at {s : List Nat} (h : Words16 s) (i : Nat) : s.getD i 0 < 4294967296 := by
  by_cases hi : i < s.length
  · rw [List.getD, List.getElem?_eq_getElem hi]
    exact h.2 _ (List.getElem_mem hi)
  · rw [List.getD, List.getElem?_eq_none (by omega)]
    decide
theorem Words16.at4 {s : List Nat} (h : Words16 s) (i j k l : Nat) : (at4 s i j k l).Ok := ⟨h.at i, h.at j, h.at k, h.at l⟩
theorem Words16.set {s : List Nat} (h : Words16 s) (i x : Nat) (hx : x < 4294967296) : Words16 (s.set i x) := by
  refine ⟨by rw [List.length_set]; exact h.1, fun y hy => ?_⟩
  rcases List.mem_or_eq_of_mem_set hy with hy | rfl
  · exact h.2 y hy
  · exact hx
theorem Words16.put4 {s : List Nat} (h : Words16 s) (i j k l : Nat) {q : Q4} (hq : q.Ok) : Words16 (put4 s i j k l q) :=
  (((h.set i _ hq.1).set j _ hq.2.1).set k _ hq.2.2.1).set l _ hq.2.2.2
theorem Words16.on {s : List Nat} (h : Words16 s) (i j k l : Nat) : Words16 (on s i j k l) := h.put4 _ _ _ _ (quarter_ok _ (h.at4 _ _ _ _))
theorem Words16.unOn {s : List Nat} (h : Words16 s) (i j k l : Nat) : Words16 (unOn s i j k l) := h.put4 _ _ _ _ (back_ok _ (h.at4 _ _ _ _))
theorem Words16.slant {s : List Nat} (h : Words16 s) (t i : Nat) : Words16 (slant s t i) := by
  induction i with
  | zero => exact h
  | succ i ih => exact ih.on _ _ _ _
theorem Words16.unslant {s : List Nat} (h : Words16 s) (t i : Nat) : Words16 (unslant s t i) := by
  induction i with
  | zero => exact h
  | succ i ih => exact ih.unOn _ _ _ _
theorem Words16.mixed {s : List Nat} (h : Words16 s) : Words16 (mixed s) := (h.slant 0 4).slant 1 4

theorem list16 {s : List Nat} (h : s.length = 16) : ∃ a b c d e f g i j k l m n o p q, s = [a, b, c, d, e, f, g, i, j, k, l, m, n, o, p, q] := by
  match s, h with
  | [a, b, c, d, e, f, g, i, j, k, l, m, n, o, p, q], _ => exact ⟨a, b, c, d, e, f, g, i, j, k, l, m, n, o, p, q, rfl⟩
/-- The quarters of a slant, side by side. -/
theorem slant_lit (a b c d e f g i j k l m n o p q : Nat) : slant [a, b, c, d, e, f, g, i, j, k, l, m, n, o, p, q] 0 4 =
    [(quarter ⟨a, e, j, n⟩).a, (quarter ⟨b, f, k, o⟩).a, (quarter ⟨c, g, l, p⟩).a, (quarter ⟨d, i, m, q⟩).a, (quarter ⟨a, e, j, n⟩).b, (quarter ⟨b, f, k, o⟩).b, (quarter ⟨c, g, l, p⟩).b, (quarter ⟨d, i, m, q⟩).b,
      (quarter ⟨a, e, j, n⟩).c, (quarter ⟨b, f, k, o⟩).c, (quarter ⟨c, g, l, p⟩).c, (quarter ⟨d, i, m, q⟩).c, (quarter ⟨a, e, j, n⟩).d, (quarter ⟨b, f, k, o⟩).d, (quarter ⟨c, g, l, p⟩).d, (quarter ⟨d, i, m, q⟩).d] := by
  simp only [slant, on, pb, pc, pd, put4, at4]
  simp
theorem slant_lit' (a b c d e f g i j k l m n o p q : Nat) : slant [a, b, c, d, e, f, g, i, j, k, l, m, n, o, p, q] 1 4 =
    [(quarter ⟨a, f, l, q⟩).a, (quarter ⟨b, g, m, n⟩).a, (quarter ⟨c, i, j, o⟩).a, (quarter ⟨d, e, k, p⟩).a, (quarter ⟨d, e, k, p⟩).b, (quarter ⟨a, f, l, q⟩).b, (quarter ⟨b, g, m, n⟩).b, (quarter ⟨c, i, j, o⟩).b,
      (quarter ⟨c, i, j, o⟩).c, (quarter ⟨d, e, k, p⟩).c, (quarter ⟨a, f, l, q⟩).c, (quarter ⟨b, g, m, n⟩).c, (quarter ⟨b, g, m, n⟩).d, (quarter ⟨c, i, j, o⟩).d, (quarter ⟨d, e, k, p⟩).d, (quarter ⟨a, f, l, q⟩).d] := by
  simp only [slant, on, pb, pc, pd, put4, at4]
  simp
theorem unslant_lit (a b c d e f g i j k l m n o p q : Nat) : unslant [a, b, c, d, e, f, g, i, j, k, l, m, n, o, p, q] 0 4 =
    [(back ⟨a, e, j, n⟩).a, (back ⟨b, f, k, o⟩).a, (back ⟨c, g, l, p⟩).a, (back ⟨d, i, m, q⟩).a, (back ⟨a, e, j, n⟩).b, (back ⟨b, f, k, o⟩).b, (back ⟨c, g, l, p⟩).b, (back ⟨d, i, m, q⟩).b,
      (back ⟨a, e, j, n⟩).c, (back ⟨b, f, k, o⟩).c, (back ⟨c, g, l, p⟩).c, (back ⟨d, i, m, q⟩).c, (back ⟨a, e, j, n⟩).d, (back ⟨b, f, k, o⟩).d, (back ⟨c, g, l, p⟩).d, (back ⟨d, i, m, q⟩).d] := by
  simp only [unslant, unOn, pb, pc, pd, put4, at4]
  simp
theorem unslant_lit' (a b c d e f g i j k l m n o p q : Nat) : unslant [a, b, c, d, e, f, g, i, j, k, l, m, n, o, p, q] 1 4 =
    [(back ⟨a, f, l, q⟩).a, (back ⟨b, g, m, n⟩).a, (back ⟨c, i, j, o⟩).a, (back ⟨d, e, k, p⟩).a, (back ⟨d, e, k, p⟩).b, (back ⟨a, f, l, q⟩).b, (back ⟨b, g, m, n⟩).b, (back ⟨c, i, j, o⟩).b,
      (back ⟨c, i, j, o⟩).c, (back ⟨d, e, k, p⟩).c, (back ⟨a, f, l, q⟩).c, (back ⟨b, g, m, n⟩).c, (back ⟨b, g, m, n⟩).d, (back ⟨c, i, j, o⟩).d, (back ⟨d, e, k, p⟩).d, (back ⟨a, f, l, q⟩).d] := by
  simp only [unslant, unOn, pb, pc, pd, put4, at4]
  simp
theorem eta4 (q : Q4) : (⟨q.a, q.b, q.c, q.d⟩ : Q4) = q := rfl
theorem unslant_slant {s : List Nat} (h : Words16 s) : unslant (slant s 0 4) 0 4 = s := by
  obtain ⟨a, b, c, d, e, f, g, i, j, k, l, m, n, o, p, q, rfl⟩ := list16 h.1
  rw [slant_lit, unslant_lit]
  simp only [eta4]
  have e0 : back (quarter ⟨a, e, j, n⟩) = ⟨a, e, j, n⟩ := back_quarter _ (h.at4 0 4 8 12)
  have e1 : back (quarter ⟨b, f, k, o⟩) = ⟨b, f, k, o⟩ := back_quarter _ (h.at4 1 5 9 13)
  have e2 : back (quarter ⟨c, g, l, p⟩) = ⟨c, g, l, p⟩ := back_quarter _ (h.at4 2 6 10 14)
  have e3 : back (quarter ⟨d, i, m, q⟩) = ⟨d, i, m, q⟩ := back_quarter _ (h.at4 3 7 11 15)
  rw [e0, e1, e2, e3]
theorem unslant_slant' {s : List Nat} (h : Words16 s) : unslant (slant s 1 4) 1 4 = s := by
  obtain ⟨a, b, c, d, e, f, g, i, j, k, l, m, n, o, p, q, rfl⟩ := list16 h.1
  rw [slant_lit', unslant_lit']
  simp only [eta4]
  have e0 : back (quarter ⟨a, f, l, q⟩) = ⟨a, f, l, q⟩ := back_quarter _ (h.at4 0 5 10 15)
  have e1 : back (quarter ⟨b, g, m, n⟩) = ⟨b, g, m, n⟩ := back_quarter _ (h.at4 1 6 11 12)
  have e2 : back (quarter ⟨c, i, j, o⟩) = ⟨c, i, j, o⟩ := back_quarter _ (h.at4 2 7 8 13)
  have e3 : back (quarter ⟨d, e, k, p⟩) = ⟨d, e, k, p⟩ := back_quarter _ (h.at4 3 4 9 14)
  rw [e0, e1, e2, e3]
theorem unmixed_mixed {s : List Nat} (h : Words16 s) : unmixed (mixed s) = s := by
  unfold unmixed mixed
  rw [unslant_slant' (h.slant 0 4), unslant_slant h]
end Go.Proofs.YtedgpglldlohfaaDoor.Cha

namespace Go.Proofs.YtedgpglldlohfaaDoor.Cha
open Go.RowKit Mur Lanes
set_option maxRecDepth 100000

theorem turn_bits (n : Nat) (h2 : n ≤ 31) : bits .and .u64 (n : Int) 31 = (n : Int) := by
  have h : ∀ m : Fin 32, bits .and .u64 (m.val : Int) 31 = (m.val : Int) := by decide
  exact h ⟨n, by omega⟩

theorem spin_int (x n : Nat) (hx : x < 4294967296) : bits .or .u32 ((x : Int) * 2 ^ n % 4294967296) ((x : Int) / 2 ^ (32 - n)) = ((spin x n : Nat) : Int) := by
  have e1 : (x : Int) * 2 ^ n % 4294967296 = ((x * 2 ^ n % 4294967296 : Nat) : Int) := by rw [Int.natCast_emod, Int.natCast_mul, Int.natCast_pow]; rfl
  have e2 : (x : Int) / 2 ^ (32 - n) = ((x / 2 ^ (32 - n) : Nat) : Int) := by rw [Int.natCast_ediv, Int.natCast_pow]; rfl
  rw [e1, e2, u32_or_nat _ _ (Nat.mod_lt _ (by decide)) (Nat.lt_of_le_of_lt (Nat.div_le_self _ _) hx)]
  rfl

set_option maxHeartbeats 800000 in
theorem rotate_any (x n : Nat) (w : World) (hx : x < 4294967296) (h1 : 1 ≤ n) (h2 : n ≤ 31) :
    Calls Tryd.prog 94 #[.int .u32 x, .int .i64 n] w fun e w' => e = .returned (.int .u32 (spin x n : Nat)) ∧ w = w' := by
  have hn := turn_bits n h2
  go_enter Tryd.func94, Tryd.ntmps94
  go_wp2
  go_ret
  exact ⟨Lanes.ret_int (spin_int x n hx), rfl⟩
theorem rotate_int (z : Int) (x n : Nat) (k : Int) (w : World) (hz : z = (x : Int)) (hk : k = (n : Int)) (hx : x < 4294967296) (h1 : 1 ≤ n) (h2 : n ≤ 31) :
    Calls Tryd.prog 94 #[.int .u32 z, .int .i64 k] w fun e w' => e = .returned (.int .u32 (spin x n : Nat)) ∧ w = w' := by
  subst hz hk
  exact rotate_any x n w hx h1 h2

abbrev t4 (q : Q4) : Value := .tuple #[.int .u32 (q.a : Int), .int .u32 (q.b : Int), .int .u32 (q.c : Int), .int .u32 (q.d : Int)]
set_option maxHeartbeats 800000 in
theorem half_any (a b c d x y : Nat) (H : Q4) (w : World) (h : (⟨a, b, c, d⟩ : Q4).Ok) (hx1 : 1 ≤ x) (hx2 : x ≤ 31) (hy1 : 1 ≤ y) (hy2 : y ≤ 31) (hH : H = half ⟨a, b, c, d⟩ x y) :
    Calls Tryd.prog 89 #[.int .u32 a, .int .u32 b, .int .u32 c, .int .u32 d, .int .i64 x, .int .i64 y] w fun e w' => e = .returned (.tuple #[.int .u32 (H.a : Int), .int .u32 (H.b : Int), .int .u32 (H.c : Int), .int .u32 (H.d : Int)]) ∧ w = w' := by
  obtain ⟨h1, h2, h3, h4⟩ := h
  dsimp only at h1 h2 h3 h4
  obtain ⟨A, hA⟩ : ∃ A, A = (a + b) % 4294967296 := ⟨_, rfl⟩
  have hA' : ((a : Int) + (b : Int)) % 4294967296 = (A : Int) := by omega
  have lA : A < 4294967296 := by omega
  obtain ⟨D, hD⟩ : ∃ D, D = spin (d ^^^ A) x := ⟨_, rfl⟩
  have lD : D < 4294967296 := by rw [hD]; exact spin_lt _ _ (xor_lt h4 lA)
  obtain ⟨C, hC⟩ : ∃ C, C = (c + D) % 4294967296 := ⟨_, rfl⟩
  have hC' : ((c : Int) + (D : Int)) % 4294967296 = (C : Int) := by omega
  have lC : C < 4294967296 := by omega
  obtain ⟨B, hB⟩ : ∃ B, B = spin (b ^^^ C) y := ⟨_, rfl⟩
  have hx : bits .xor .u32 (d : Int) (A : Int) = ((d ^^^ A : Nat) : Int) := u32_xor_nat _ _ h4 lA
  have hy : bits .xor .u32 (b : Int) (C : Int) = ((b ^^^ C : Nat) : Int) := u32_xor_nat _ _ h2 lC
  have r1 := Lib.hid (fun u => rotate_any (d ^^^ A) x u (xor_lt h4 lA) hx1 hx2)
  have r2 := Lib.hid (fun u => rotate_any (b ^^^ C) y u (xor_lt h2 lC) hy1 hy2)
  rw [← hD] at r1
  rw [← hB] at r2
  have hE : H = ⟨A, B, C, D⟩ := by
    rw [hH, hB, hC, hD, hA]
    rfl
  subst hE
  clear hH hA hD hC hB
  go_enter Tryd.func89, Tryd.ntmps89
  go_wp2_with fail
  simp only [hA']
  refine (r1.out _).mono ?_
  rintro e w' ⟨rfl, rfl⟩
  go_wp2_with fail
  simp only [hC']
  refine (r2.out _).mono ?_
  rintro e w' ⟨rfl, rfl⟩
  go_wp2
  refine bodyPost_ret (v := .tuple #[.int .u32 (A : Int), .int .u32 (B : Int), .int .u32 (C : Int), .int .u32 (D : Int)]) (by simp [results, Tryd.results89, go_sem]) rfl ⟨rfl, rfl⟩

set_option maxHeartbeats 800000 in
theorem quarter_any (a b c d : Nat) (Q : Q4) (w : World) (h : (⟨a, b, c, d⟩ : Q4).Ok) (hQ : Q = quarter ⟨a, b, c, d⟩) :
    Calls Tryd.prog 82 #[.int .u32 a, .int .u32 b, .int .u32 c, .int .u32 d] w fun e w' => e = .returned (.tuple #[.int .u32 (Q.a : Int), .int .u32 (Q.b : Int), .int .u32 (Q.c : Int), .int .u32 (Q.d : Int)]) ∧ w = w' := by
  obtain ⟨H, hH⟩ : ∃ H, H = half ⟨a, b, c, d⟩ 16 12 := ⟨_, rfl⟩
  have hok : H.Ok := by rw [hH]; exact half_ok _ _ _ h
  have hQ2 : Q = half H 8 7 := by rw [hQ, hH]; rfl
  have r1 := Lib.hid (show ∀ u, Calls Tryd.prog 89 #[.int .u32 a, .int .u32 b, .int .u32 c, .int .u32 d, .int .i64 16, .int .i64 12] u fun e w' => e = .returned (.tuple #[.int .u32 (H.a : Int), .int .u32 (H.b : Int), .int .u32 (H.c : Int), .int .u32 (H.d : Int)]) ∧ u = w' from fun u => half_any a b c d 16 12 H u h (by omega) (by omega) (by omega) (by omega) hH)
  have r2 := Lib.hid (show ∀ u, Calls Tryd.prog 89 #[.int .u32 H.a, .int .u32 H.b, .int .u32 H.c, .int .u32 H.d, .int .i64 8, .int .i64 7] u fun e w' => e = .returned (.tuple #[.int .u32 (Q.a : Int), .int .u32 (Q.b : Int), .int .u32 (Q.c : Int), .int .u32 (Q.d : Int)]) ∧ u = w' from fun u => half_any H.a H.b H.c H.d 8 7 Q u hok (by omega) (by omega) (by omega) (by omega) hQ2)
  clear hH hQ2 hQ hok h
  go_enter Tryd.func82, Tryd.ntmps82
  go_wp2_with fail
  refine (r1.out _).mono ?_
  rintro e w' ⟨rfl, rfl⟩
  go_wp2_with fail
  refine (r2.out _).mono ?_
  rintro e w' ⟨rfl, rfl⟩
  go_wp2
  refine bodyPost_ret (v := .tuple #[.int .u32 (Q.a : Int), .int .u32 (Q.b : Int), .int .u32 (Q.c : Int), .int .u32 (Q.d : Int)]) (by simp [results, Tryd.results82, go_sem]) rfl ⟨rfl, rfl⟩

abbrev a4 (q : Q4) : Value := .agg #[.int .u32 (q.a : Int), .int .u32 (q.b : Int), .int .u32 (q.c : Int), .int .u32 (q.d : Int)]
end Go.Proofs.YtedgpglldlohfaaDoor.Cha

namespace Go.Proofs.YtedgpglldlohfaaDoor.Cha
open Go.RowKit Mur Lanes
set_option maxRecDepth 100000

abbrev zeros16 : List Value := [.int .u32 0, .int .u32 0, .int .u32 0, .int .u32 0, .int .u32 0, .int .u32 0, .int .u32 0, .int .u32 0, .int .u32 0, .int .u32 0, .int .u32 0, .int .u32 0, .int .u32 0, .int .u32 0, .int .u32 0, .int .u32 0]
theorem size16 : (Tryd.prog.info? 88).map (·.size) = some 16 := by kernel_rfl
theorem info16 {s : List Nat} (h : s.length = 16) : (Tryd.prog.info? 88).map (·.size) = some (wordsV s).length := by rw [wordsV_length, h]; exact size16
theorem infoA16 {s : List Nat} (h : s.length = 16) : (Tryd.prog.info? 88).map (·.size) = some (wordsV s).toArray.size := by simp [wordsV_length, h, size16]
theorem long16 {s : List Nat} (h : s.length = 16) : zeros16.toArray.size = (wordsV s).toArray.size := by simp [wordsV_length, h]
theorem one16 (s : List Nat) : (wordsV s).toArray.all (·.oneCell') = true := by simp [wordsV, Value.oneCell']
/-- A cell of a row of words. -/
theorem word_cell {w : World} {b : Nat} {t : TypeId} {s : List Nat} (h : Whole w b t (wordsV s)) {i : Nat} (hi : i < s.length) : w.cell? ⟨b, i, none⟩ = some (.int .u32 ((s.getD i 0 : Nat) : Int)) := by
  rw [h.row.cell (wordsV_at hi)]
  simp [List.getD, hi]
theorem word_free {w : World} {b : Nat} {t : TypeId} {s : List Nat} (h : Whole w b t (wordsV s)) {i : Nat} (hi : i < s.length) : w.frozen? ⟨b, i, none⟩ = false :=
  h.row.free (by rw [wordsV_length]; exact hi)
theorem set_word {w : World} {b : Nat} {t : TypeId} {s : List Nat} (h : Whole w b t (wordsV s)) (i x : Nat) : Whole (w.setCell ⟨b, i, none⟩ (.int .u32 (x : Int))) b t (wordsV (s.set i x)) := by
  rw [← wordsV_set]
  exact h.set i _
theorem put_words {w : World} {b : Nat} {t : TypeId} {s : List Nat} (h : Whole w b t (wordsV s)) (i j k l : Nat) (q : Q4) :
    Whole ((((w.setCell ⟨b, i, none⟩ (.int .u32 (q.a : Int))).setCell ⟨b, j, none⟩ (.int .u32 (q.b : Int))).setCell ⟨b, k, none⟩ (.int .u32 (q.c : Int))).setCell ⟨b, l, none⟩ (.int .u32 (q.d : Int))) b t (wordsV (put4 s i j k l q)) :=
  set_word (set_word (set_word (set_word h i q.a) j q.b) k q.c) l q.d

/-- The slants below t. -/
def slants (s : List Nat) : Nat → List Nat
  | 0 => s
  | t + 1 => slant (slants s t) t 4
theorem Words16.slants {s : List Nat} (h : Words16 s) (t : Nat) : Words16 (slants s t) := by
  induction t with
  | zero => exact h
  | succ t ih => exact ih.slant _ _

def Two (w0 : World) (b : Nat) (s : List Nat) (w : World) : Prop := Whole w b 88 (wordsV s) ∧ Whole w (b + 1) 88 zeros16 ∧ Below w0.heap.size w0 w
theorem Two.drew {w0 w : World} {b : Nat} {s : List Nat} (h : Two w0 b s w) : Two w0 b s w.drew := ⟨h.1, h.2.1, h.2.2.drew⟩
theorem Two.put {w0 w : World} {b : Nat} {s : List Nat} (h : Two w0 b s w) (hb : w0.heap.size ≤ b) (i j k l : Nat) (q : Q4) :
    Two w0 b (put4 s i j k l q) ((((w.setCell ⟨b, i, none⟩ (.int .u32 (q.a : Int))).setCell ⟨b, j, none⟩ (.int .u32 (q.b : Int))).setCell ⟨b, k, none⟩ (.int .u32 (q.c : Int))).setCell ⟨b, l, none⟩ (.int .u32 (q.d : Int))) := by
  have n : b ≠ b + 1 := by omega
  exact ⟨put_words h.1 i j k l q, (((h.2.1.other _ _ _ n).other _ _ _ n).other _ _ _ n).other _ _ _ n, (((h.2.2.setCell hb _).setCell hb _).setCell hb _).setCell hb _⟩

set_option maxHeartbeats 1600000 in
theorem mixed_any (s M : List Nat) (w : World) (h : Words16 s) (hM : M = mixed s) :
    Calls Tryd.prog 72 #[.agg (wordsV s).toArray] w fun e w' => e = .returned (.agg (wordsV M).toArray) ∧ Below w.heap.size w w' := by
  have hM2 : M = slants s 2 := hM
  have HM := Lib.hid hM2
  have HS := Lib.hid h
  clear hM hM2 h
  have hst : Two w w.heap.size s ((w.alloc (.cells (wordsV s).toArray 88)).alloc (.cells zeros16.toArray 88)) :=
    ⟨(Whole.made' w _ (wordsV s).toArray _ rfl).alloc _, Whole.made' _ _ zeros16.toArray _ (by simp), ((Below.refl _ _).alloc (Nat.le_refl _) _).alloc (by simp) _⟩
  have HT := Lib.hid hst
  clear hst
  go_enter Tryd.func72, Tryd.ntmps72
  go_wp2
  go_loopw [8] (fun i wr => ∃ t : Nat, t ≤ 2 ∧ i = .int .i64 t ∧ Two w w.heap.size (slants s t) wr) (fun i _ => 2 - (intOf i).toNat)
  case atStart => exact ⟨0, by omega, rfl, HT.out⟩
  case round =>
    obtain ⟨t, ht2, rfl, hk⟩ := hrel
    by_cases hlt : t < 2
    · have hd2 : decide ((t : Int) < 2) = true := by simp; omega
      have hstep : slants s (t + 1) = slant (slants s t) t 4 := rfl
      have hok := HS.out.slants t
      generalize slants s t = X at *
      have HE := Lib.hid hk
      have HX := Lib.hid hok
      have HN := Lib.hid hstep
      clear hk hok hstep HT
      go_wp2
      obtain ⟨wo, rfl⟩ : ∃ wo : World, wo = wr := ⟨_, rfl⟩
      go_loopw [11] (fun i wr => ∃ k : Nat, k ≤ 4 ∧ i = .int .i64 k ∧ Two w w.heap.size (slant X t k) wr) (fun i _ => 4 - (intOf i).toNat)
      case atStart => exact ⟨0, by omega, rfl, HE.out⟩
      case round =>
        obtain ⟨k, hk4, rfl, hk⟩ := hrel
        by_cases hlk : k < 4
        · have hd4 : decide ((k : Int) < 4) = true := by simp; omega
          have hok := HX.out.slant t k
          have hnext : slant X t (k + 1) = put4 (slant X t k) k (pb t k) (pc t k) (pd t k) (quarter (at4 (slant X t k) k (pb t k) (pc t k) (pd t k))) := rfl
          generalize slant X t k = Y at *
          obtain ⟨b, hb⟩ : ∃ b, b = pb t k := ⟨_, rfl⟩
          obtain ⟨c, hc⟩ : ∃ c, c = pc t k := ⟨_, rfl⟩
          obtain ⟨d, hd⟩ : ∃ d, d = pd t k := ⟨_, rfl⟩
          rw [← hb, ← hc, ← hd] at hnext
          unfold pb at hb
          unfold pc at hc
          unfold pd at hd
          have qb : (4 : Int) + ((k : Int) + (t : Int)) % 4 = (b : Int) := by omega
          have qc : (8 : Int) + ((k : Int) + 2 * (t : Int)) % 4 = (c : Int) := by omega
          have qd : (12 : Int) + ((k : Int) + 3 * (t : Int)) % 4 = (d : Int) := by omega
          have lb : b < 16 := by omega
          have lc : c < 16 := by omega
          have ld : d < 16 := by omega
          clear hb hc hd
          have hY : Y.length = 16 := hok.1
          have ca := word_cell hk.1 (i := k) (by omega)
          have cb := word_cell hk.1 (i := b) (by omega)
          have cc := word_cell hk.1 (i := c) (by omega)
          have cd := word_cell hk.1 (i := d) (by omega)
          have fa := word_free hk.1 (i := k) (by omega)
          have fb := word_free hk.1 (i := b) (by omega)
          have fc := word_free hk.1 (i := c) (by omega)
          have fd := word_free hk.1 (i := d) (by omega)
          have o4 := hok.at4 k b c d
          obtain ⟨Q, hQ⟩ : ∃ Q, Q = quarter (at4 Y k b c d) := ⟨_, rfl⟩
          have h1 := set_word hk.1 k Q.a
          have h2 := set_word h1 b Q.b
          have h3 := set_word h2 c Q.c
          have cb1 := word_cell h1 (i := b) (by simp; omega)
          have cc1 := word_cell h2 (i := c) (by simp; omega)
          have cd1 := word_cell h3 (i := d) (by simp; omega)
          clear h1 h2 h3
          rw [← hQ] at hnext
          unfold at4 at hQ o4
          have R := Lib.hid (fun u => quarter_any _ _ _ _ Q u o4 hQ)
          have HP := Lib.hid (hk.put (Nat.le_refl _) k b c d Q).drew
          have HNX := Lib.hid hnext
          clear hk hok hnext hQ o4 hY HE HX
          go_upto_region 8 with (fail)
          have ia : (k : Int) < 16 := by omega
          have ib : (b : Int) < 16 := by omega
          have ic : (c : Int) < 16 := by omega
          have id' : (d : Int) < 16 := by omega
          clear qb qc qd
          refine wp_region_any (by kernel_rfl) ?_
          change wpAny _ _ _ _ _ _ _ (World.drew _)
          refine wpAny_take (i := 0) (v := .int .i64 (k : Int)) rfl (by kernel_rfl) (by kernel_rfl) (by kernel_rfl) (fun _ _ _ h => h) (Or.inl ⟨by rfl, fun u => by go_simp⟩) ?_
          try simp only [Act.put]
          refine wpAny_take (i := 1) (v := .int .i64 (b : Int)) rfl (by kernel_rfl) (by kernel_rfl) (by kernel_rfl) (fun _ _ _ h => h) (Or.inl ⟨by rfl, fun u => by go_simp⟩) ?_
          try simp only [Act.put]
          refine wpAny_take (i := 2) (v := .int .i64 (c : Int)) rfl (by kernel_rfl) (by kernel_rfl) (by kernel_rfl) (fun _ _ _ h => h) (Or.inl ⟨by rfl, fun u => by go_simp⟩) ?_
          try simp only [Act.put]
          refine wpAny_take (i := 3) (v := .int .i64 (d : Int)) rfl (by kernel_rfl) (by kernel_rfl) (by kernel_rfl) (fun _ _ _ h => h) (Or.inl ⟨by rfl, fun u => by go_simp⟩) ?_
          try simp only [Act.put]
          refine wpAny_take (i := 4) (v := .int .i64 (k : Int)) rfl (by kernel_rfl) (by kernel_rfl) (by kernel_rfl) (fun _ _ _ h => h) (Or.inl ⟨by rfl, fun u => by go_simp⟩) ?_
          try simp only [Act.put]
          refine wpAny_take (i := 5) (v := Value.pointer (some ⟨w.heap.size, k, none⟩)) rfl (by kernel_rfl) (by kernel_rfl) (by kernel_rfl) (fun _ _ _ h => h) (Or.inl ⟨by rfl, fun u => by go_simp⟩) ?_
          try simp only [Act.put]
          refine wpAny_take (i := 7) (v := .int .i64 (b : Int)) rfl (by kernel_rfl) (by kernel_rfl) (by kernel_rfl) (fun _ _ _ h => h) (Or.inl ⟨by rfl, fun u => by go_simp⟩) ?_
          try simp only [Act.put]
          refine wpAny_take (i := 8) (v := Value.pointer (some ⟨w.heap.size, b, none⟩)) rfl (by kernel_rfl) (by kernel_rfl) (by kernel_rfl) (fun _ _ _ h => h) (Or.inl ⟨by rfl, fun u => by go_simp⟩) ?_
          try simp only [Act.put]
          refine wpAny_take (i := 10) (v := .int .i64 (c : Int)) rfl (by kernel_rfl) (by kernel_rfl) (by kernel_rfl) (fun _ _ _ h => h) (Or.inl ⟨by rfl, fun u => by go_simp⟩) ?_
          try simp only [Act.put]
          refine wpAny_take (i := 11) (v := Value.pointer (some ⟨w.heap.size, c, none⟩)) rfl (by kernel_rfl) (by kernel_rfl) (by kernel_rfl) (fun _ _ _ h => h) (Or.inl ⟨by rfl, fun u => by go_simp⟩) ?_
          try simp only [Act.put]
          refine wpAny_take (i := 13) (v := .int .i64 (d : Int)) rfl (by kernel_rfl) (by kernel_rfl) (by kernel_rfl) (fun _ _ _ h => h) (Or.inl ⟨by rfl, fun u => by go_simp⟩) ?_
          try simp only [Act.put]
          refine wpAny_take (i := 14) (v := Value.pointer (some ⟨w.heap.size, d, none⟩)) rfl (by kernel_rfl) (by kernel_rfl) (by kernel_rfl) (fun _ _ _ h => h) (Or.inl ⟨by rfl, fun u => by go_simp⟩) ?_
          try simp only [Act.put]
          refine Reg.reads (fun i => if i = 6 then (some 38, .int .u32 ((Y.getD k 0 : Nat) : Int)) else if i = 9 then (some 41, .int .u32 ((Y.getD b 0 : Nat) : Int)) else if i = 12 then (some 44, .int .u32 ((Y.getD c 0 : Nat) : Int)) else (some 47, .int .u32 ((Y.getD d 0 : Nat) : Int))) (fuel := 14) 4 [6, 9, 12, 15] _ _ rfl (by decide) (by kernel_rfl) (by kernel_rfl) (by kernel_rfl) (fun i hi => ?_) ?_
          · simp only [List.mem_cons, List.not_mem_nil, or_false] at hi
            rcases hi with rfl | rfl | rfl | rfl <;> exact ⟨_, rfl, rfl, by go_simp⟩
          simp only [List.foldl, Nat.reduceEqDiff, if_true, if_false, Act.put]
          refine Reg.only (i := 16) rfl rfl (by kernel_rfl) (fun K hK => ?_)
          go_simp
          refine (R.out _).mono ?_
          rintro e u ⟨rfl, rfl⟩
          refine hK _ _ ?_
          clear hK K
          try simp only [Act.put]
          refine wpAny_take (i := 17) (v := .tuple #[.int .u32 (Q.a : Int), .int .u32 (Q.b : Int), .int .u32 (Q.c : Int), .int .u32 (Q.d : Int)]) rfl (by kernel_rfl) (by kernel_rfl) (by kernel_rfl) (fun _ _ _ h => h) (Or.inl ⟨by rfl, fun u => by go_simp⟩) ?_
          try simp only [Act.put]
          refine wpAny_take (i := 18) (v := .int .u32 (Q.a : Int)) rfl (by kernel_rfl) (by kernel_rfl) (by kernel_rfl) (fun _ _ _ h => h) (Or.inl ⟨by rfl, fun u => by go_simp⟩) ?_
          try simp only [Act.put]
          refine wpAny_take (i := 19) (v := .int .u32 (Q.b : Int)) rfl (by kernel_rfl) (by kernel_rfl) (by kernel_rfl) (fun _ _ _ h => h) (Or.inl ⟨by rfl, fun u => by go_simp⟩) ?_
          try simp only [Act.put]
          refine wpAny_take (i := 20) (v := .int .u32 (Q.c : Int)) rfl (by kernel_rfl) (by kernel_rfl) (by kernel_rfl) (fun _ _ _ h => h) (Or.inl ⟨by rfl, fun u => by go_simp⟩) ?_
          try simp only [Act.put]
          refine wpAny_take (i := 21) (v := .int .u32 (Q.d : Int)) rfl (by kernel_rfl) (by kernel_rfl) (by kernel_rfl) (fun _ _ _ h => h) (Or.inl ⟨by rfl, fun u => by go_simp⟩) ?_
          try simp only [Act.put]
          refine wpAny_take (i := 22) (v := Value.pointer (some ⟨w.heap.size, k, none⟩)) rfl (by kernel_rfl) (by kernel_rfl) (by kernel_rfl) (fun _ _ _ h => h) (Or.inl ⟨by rfl, fun u => by go_simp⟩) ?_
          try simp only [Act.put]
          refine Reg.only (i := 23) rfl rfl (by kernel_rfl) (fun K hK => ?_)
          go_simp
          refine hK _ _ ?_
          clear hK K
          try simp only [Act.put]
          refine wpAny_take (i := 24) (v := Value.pointer (some ⟨w.heap.size, b, none⟩)) rfl (by kernel_rfl) (by kernel_rfl) (by kernel_rfl) (fun _ _ _ h => h) (Or.inl ⟨by rfl, fun u => by go_simp⟩) ?_
          try simp only [Act.put]
          refine Reg.only (i := 25) rfl rfl (by kernel_rfl) (fun K hK => ?_)
          go_simp
          refine hK _ _ ?_
          clear hK K
          try simp only [Act.put]
          refine wpAny_take (i := 26) (v := Value.pointer (some ⟨w.heap.size, c, none⟩)) rfl (by kernel_rfl) (by kernel_rfl) (by kernel_rfl) (fun _ _ _ h => h) (Or.inl ⟨by rfl, fun u => by go_simp⟩) ?_
          try simp only [Act.put]
          refine Reg.only (i := 27) rfl rfl (by kernel_rfl) (fun K hK => ?_)
          go_simp
          refine hK _ _ ?_
          clear hK K
          try simp only [Act.put]
          refine wpAny_take (i := 28) (v := Value.pointer (some ⟨w.heap.size, d, none⟩)) rfl (by kernel_rfl) (by kernel_rfl) (by kernel_rfl) (fun _ _ _ h => h) (Or.inl ⟨by rfl, fun u => by go_simp⟩) ?_
          try simp only [Act.put]
          refine Reg.only (i := 29) rfl rfl (by kernel_rfl) (fun K hK => ?_)
          go_simp
          refine hK _ _ ?_
          clear hK K
          try simp only [Act.put]
          refine wpAny_done (by kernel_rfl) ?_ _
          go_wp2
          go_roundw
          case rel => exact ⟨k + 1, by omega, by go_num, by rw [HNX.out]; exact HP.out⟩
          case measure => simp [intOf]; omega
        · have hd4 : decide ((k : Int) < 4) = false := by simp; omega
          obtain rfl : k = 4 := by omega
          have HK := Lib.hid hk
          clear hk
          go_wp2
          go_roundw
          case rel => exact ⟨t + 1, by omega, by go_num, by rw [HN.out]; exact HK.out⟩
          case measure => simp [intOf]; omega
    · have hd2 : decide ((t : Int) < 2) = false := by simp; omega
      obtain rfl : t = 2 := by omega
      rw [← HM.out] at hk
      have hokM : Words16 M := by rw [HM.out]; exact HS.out.slants 2
      have HI := Lib.hid (info16 hokM.1)
      have HA := Lib.hid (infoA16 hokM.1)
      have HO := Lib.hid (long16 hokM.1)
      have H1 := Lib.hid (one16 M)
      have HB := Lib.hid hk
      have HB1 := Lib.hid hk.1
      have hA2 : wr.heap[w.heap.size + 1]? = some (.cells zeros16.toArray 88 (0, 0)) := hk.2.1
      have HA2 := Lib.hid hA2
      clear hk hA2 hokM
      go_wp2_with ((first
        | (with_reducible refine wpList_load_mid rfl 88 (.tmp 1) rfl w.heap.size 0 rfl (wordsV M) _ HB1.out.range Tryd.underlying88 rfl HI.out ?_)
        | (with_reducible refine wpList_store_row rfl 88 (.tmp 2) (.tmp 59) rfl (w.heap.size + 1) (wordsV M).toArray rfl rfl 88 zeros16.toArray HA2.out HA.out HO.out H1.out ?_)))
      refine bodyPost_ret (v := .agg (wordsV M).toArray) ?_ rfl ⟨rfl, below_setRow HB.out.2.2 (by omega) _⟩
      exact results_whole (ty := 88) Tryd.results72 _ _ (w.heap.size + 1) 88 (wordsV M) _ (by simp [Act.put]) (HB.out.2.1.setRow _) Tryd.underlying88 rfl HI.out
end Go.Proofs.YtedgpglldlohfaaDoor.Cha

namespace Go.Proofs.YtedgpglldlohfaaDoor.Cha
open Go.RowKit Mur Lanes
set_option maxRecDepth 100000

def mixes (s : List Nat) : Nat → List Nat
  | 0 => s
  | k + 1 => mixed (mixes s k)
theorem Words16.mixes {s : List Nat} (h : Words16 s) (k : Nat) : Words16 (mixes s k) := by
  induction k with
  | zero => exact h
  | succ k ih => exact ih.mixed
/-- The words below k have got their own. -/
def sumTo (m s : List Nat) (k : Nat) : List Nat := (List.range 16).map fun i => if i < k then (m.getD i 0 + s.getD i 0) % 4294967296 else m.getD i 0
theorem sumTo_zero {m s : List Nat} (h : m.length = 16) : sumTo m s 0 = m := by
  apply List.ext_getElem (by simp [sumTo, h])
  intro i h1 h2
  simp [sumTo, List.getD, h2]
theorem sumTo_succ (m s : List Nat) (k : Nat) : (sumTo m s k).set k ((m.getD k 0 + s.getD k 0) % 4294967296) = sumTo m s (k + 1) := by
  apply List.ext_getElem (by simp [sumTo])
  intro i h1 h2
  rw [List.getElem_set]
  by_cases e : k = i
  · subst e; simp [sumTo]
  · have e1 : (i < k + 1) = (i < k) := by simp; omega
    simp [sumTo, e, e1]
theorem sumTo_at (m s : List Nat) (k : Nat) (h : k < 16) : (sumTo m s k).getD k 0 = m.getD k 0 := by
  simp [sumTo, List.getD, h]
theorem sumTo_length (m s : List Nat) (k : Nat) : (sumTo m s k).length = 16 := by simp [sumTo]
theorem sumTo_ok {m s : List Nat} (h : Words16 m) (k : Nat) : Words16 (sumTo m s k) := by
  refine ⟨sumTo_length _ _ _, fun x hx => ?_⟩
  simp only [sumTo, List.mem_map] at hx
  obtain ⟨i, _, rfl⟩ := hx
  split
  · exact Nat.mod_lt _ (by decide)
  · exact h.at i
/-- The words of the block of a state. -/
def blockW (s : List Nat) : List Nat := sumTo (mixes s 10) s 16
theorem blockW_ok {s : List Nat} (h : Words16 s) : Words16 (blockW s) := sumTo_ok (h.mixes 10) 16

theorem zero16 : (Tryd.prog.info? 88).map (fun i => (i.zero, i.size)) = some (some (.agg zeros16.toArray), zeros16.length) := by kernel_rfl

/-- The state in its box, the answer's place, and the words under way. -/
def Three (w0 : World) (b c : Nat) (t x : List Nat) (w : World) : Prop := Whole w b 88 (wordsV t) ∧ Whole w (b + 1) 88 zeros16 ∧ Whole w c 88 (wordsV x) ∧ Below w0.heap.size w0 w
theorem Three.below {w0 w w' : World} {b c : Nat} {t x : List Nat} (h : Three w0 b c t x w) (k : Below w.heap.size w w') : Three w0 b c t x w' :=
  ⟨h.1.below h.1.lt k, h.2.1.below h.2.1.lt k, h.2.2.1.below h.2.2.1.lt k, h.2.2.2.trans (k.mono h.2.2.2.size)⟩
theorem Three.put {w0 w : World} {b c : Nat} {t x : List Nat} (h : Three w0 b c t x w) (y : List Nat) (h1 : b ≠ c) (h2 : b + 1 ≠ c) (h3 : w0.heap.size ≤ c) : Three w0 b c t y (w.setRow c (wordsV y).toArray) := by
  have o1 : (w.setRow c (wordsV y).toArray).heap[b]? = w.heap[b]? := by
    simp [World.setRow, Array.getElem?_modify, Ne.symm h1]
  have o2 : (w.setRow c (wordsV y).toArray).heap[b + 1]? = w.heap[b + 1]? := by
    simp [World.setRow, Array.getElem?_modify, Ne.symm h2]
  exact ⟨o1.trans h.1, o2.trans h.2.1, h.2.2.1.setRow _, below_setRow h.2.2.2 h3 _⟩
theorem Three.word {w0 w : World} {b c : Nat} {t x : List Nat} (h : Three w0 b c t x w) (i y : Nat) (h1 : b ≠ c) (h2 : b + 1 ≠ c) (h3 : w0.heap.size ≤ c) : Three w0 b c t (x.set i y) (w.setCell ⟨c, i, none⟩ (.int .u32 (y : Int))) :=
  ⟨h.1.other _ _ _ h1.symm, h.2.1.other _ _ _ h2.symm, set_word h.2.2.1 i y, h.2.2.2.setCell h3 _⟩
theorem Three.drew {w0 w : World} {b c : Nat} {t x : List Nat} (h : Three w0 b c t x w) : Three w0 b c t x w.drew := ⟨h.1, h.2.1, h.2.2.1, h.2.2.2.drew⟩

set_option maxHeartbeats 1600000 in
theorem blockOf_any (s B : List Nat) (n : Nat) (w : World) (h : Words16 s) (hn : n < 4294967296) (hB : B = blockW (s.set 12 n)) :
    Calls Tryd.prog 60 #[.agg (wordsV s).toArray, .int .u32 n] w fun e w' => e = .returned (.agg (wordsV B).toArray) ∧ Below w.heap.size w w' := by
  have c12 := word_cell ((Whole.made' w 88 (wordsV s).toArray _ rfl).alloc (.cells zeros16.toArray 88)) (i := 12) (by rw [h.1]; omega)
  have f12 := word_free ((Whole.made' w 88 (wordsV s).toArray _ rfl).alloc (.cells zeros16.toArray 88)) (i := 12) (by rw [h.1]; omega)
  have ht : Words16 (s.set 12 n) := h.set 12 n hn
  have hwt := wordsV_set s 12 n
  go_enter Tryd.func60, Tryd.ntmps60
  go_upto_region 2 with (fail)
  clear c12 f12 h
  try rw [hwt]
  clear hwt
  generalize s.set 12 n = t at *
  have hA : Whole ((w.alloc (.cells (wordsV t).toArray 88)).alloc (.cells zeros16.toArray 88)) w.heap.size 88 (wordsV t) := (Whole.made' w _ (wordsV t).toArray _ rfl).alloc _
  have hZ : Whole ((w.alloc (.cells (wordsV t).toArray 88)).alloc (.cells zeros16.toArray 88)) (w.heap.size + 1) 88 zeros16 := Whole.made' _ _ zeros16.toArray _ (by simp)
  have hBl : Below w.heap.size w ((w.alloc (.cells (wordsV t).toArray 88)).alloc (.cells zeros16.toArray 88)) := ((Below.refl _ _).alloc (Nat.le_refl _) _).alloc (by simp) _
  have hsz : w.heap.size + 2 = ((w.alloc (.cells (wordsV t).toArray 88)).alloc (.cells zeros16.toArray 88)).heap.size := by simp
  have HT := Lib.hid ht
  have HB := Lib.hid hB
  have HA := Lib.hid hA
  have HZ := Lib.hid hZ
  have HBl := Lib.hid hBl
  have HI := Lib.hid (info16 ht.1)
  have HO := Lib.hid (show zeros16.length = (wordsV t).length by rw [wordsV_length, ht.1]; rfl)
  have H1 := Lib.hid (one16 t)
  have HSZ := Lib.hid hsz
  clear ht hB hA hZ hBl hsz
  have HA' : Hid (Whole ((w.alloc (.cells (wordsV t).toArray 88)).alloc (.cells #[.int .u32 0, .int .u32 0, .int .u32 0, .int .u32 0, .int .u32 0, .int .u32 0, .int .u32 0, .int .u32 0, .int .u32 0, .int .u32 0, .int .u32 0, .int .u32 0, .int .u32 0, .int .u32 0, .int .u32 0, .int .u32 0] 88)) w.heap.size 88 (wordsV t)) := HA
  have HZ' : Hid (Whole ((w.alloc (.cells (wordsV t).toArray 88)).alloc (.cells #[.int .u32 0, .int .u32 0, .int .u32 0, .int .u32 0, .int .u32 0, .int .u32 0, .int .u32 0, .int .u32 0, .int .u32 0, .int .u32 0, .int .u32 0, .int .u32 0, .int .u32 0, .int .u32 0, .int .u32 0, .int .u32 0] 88)) (w.heap.size + 1) 88 zeros16) := HZ
  have HBl' : Hid (Below w.heap.size w ((w.alloc (.cells (wordsV t).toArray 88)).alloc (.cells #[.int .u32 0, .int .u32 0, .int .u32 0, .int .u32 0, .int .u32 0, .int .u32 0, .int .u32 0, .int .u32 0, .int .u32 0, .int .u32 0, .int .u32 0, .int .u32 0, .int .u32 0, .int .u32 0, .int .u32 0, .int .u32 0] 88))) := HBl
  have HSZ' : Hid (w.heap.size + 2 = ((w.alloc (.cells (wordsV t).toArray 88)).alloc (.cells #[.int .u32 0, .int .u32 0, .int .u32 0, .int .u32 0, .int .u32 0, .int .u32 0, .int .u32 0, .int .u32 0, .int .u32 0, .int .u32 0, .int .u32 0, .int .u32 0, .int .u32 0, .int .u32 0, .int .u32 0, .int .u32 0] 88)).heap.size) := HSZ
  clear HA HZ HBl HSZ
  generalize (w.alloc (.cells (wordsV t).toArray 88)).alloc (.cells #[.int .u32 0, .int .u32 0, .int .u32 0, .int .u32 0, .int .u32 0, .int .u32 0, .int .u32 0, .int .u32 0, .int .u32 0, .int .u32 0, .int .u32 0, .int .u32 0, .int .u32 0, .int .u32 0, .int .u32 0, .int .u32 0] 88) = wx at *
  go_upto_region 3 with ((first
    | (with_reducible refine wpList_load_mid rfl 88 (.tmp 2) rfl w.heap.size 0 rfl (wordsV t) _ HA'.out.range Tryd.underlying88 rfl HI.out ?_)
    | (with_reducible refine wpList_alloc_z rfl 88 rfl zeros16 zero16 ?_)
    | (with_reducible refine wpList_store_new rfl 88 _ _ rfl _ (wordsV t) zeros16 rfl rfl rfl HI.out HO.out H1.out ?_)))
  have h3 : Three w w.heap.size wx.heap.size t t (wx.alloc (.cells (wordsV t).toArray 88)) := ⟨HA'.out.alloc _, HZ'.out.alloc _, Whole.made _ _ _, HBl'.out.alloc HBl'.out.size _⟩
  have hnc : w.heap.size + 2 ≤ wx.heap.size := Nat.le_of_eq HSZ'.out
  have H3 := Lib.hid h3
  clear h3 HA' HZ' HBl' HSZ' HI HO H1
  generalize wx.alloc (.cells (wordsV t).toArray 88) = wy at *
  generalize wx.heap.size = nC at *
  have n1 : w.heap.size ≠ nC := by omega
  have n2 : w.heap.size + 1 ≠ nC := by omega
  have n3 : w.heap.size ≤ nC := by omega
  have N1 := Lib.hid n1
  have N2 := Lib.hid n2
  clear n1 n2 hnc
  go_wp2
  go_loopw [10] (fun i wr => ∃ k : Nat, k ≤ 10 ∧ i = .int .i64 k ∧ Three w w.heap.size nC t (mixes t k) wr) (fun i _ => 10 - (intOf i).toNat)
  case atStart => exact ⟨0, by omega, rfl, H3.out⟩
  case round =>
    obtain ⟨k, hk10, rfl, hk⟩ := hrel
    by_cases hlt : k < 10
    · have hd2 : decide ((k : Int) < 10) = true := by simp; omega
      have hstep : mixes t (k + 1) = mixed (mixes t k) := rfl
      have hok := HT.out.mixes k
      generalize mixes t k = X at *
      obtain ⟨M, hM⟩ : ∃ M, M = mixed X := ⟨_, rfl⟩
      have hokM : Words16 M := by rw [hM]; exact hok.mixed
      rw [← hM] at hstep
      have R := Lib.hid (fun u => mixed_any X M u hok hM)
      have HX1 := Lib.hid hk.2.2.1
      have HK := Lib.hid hk
      have HIX := Lib.hid (info16 hok.1)
      have HIM := Lib.hid (infoA16 hokM.1)
      have HOM := Lib.hid (show (wordsV X).toArray.size = (wordsV M).toArray.size by simp [wordsV_length, hok.1, hokM.1])
      have H1M := Lib.hid (one16 M)
      have HST := Lib.hid hstep
      clear hk hok hokM hM hstep H3
      go_wp2_with ((with_reducible refine wpList_load_mid rfl 88 (.tmp 5) rfl nC 0 rfl (wordsV X) _ HX1.out.range Tryd.underlying88 rfl HIX.out ?_))
      refine (R.out _).mono ?_
      rintro e w1 ⟨rfl, hb1⟩
      have hk2 := HK.out.below hb1
      have hx2 : w1.heap[nC]? = some (.cells (wordsV X).toArray 88 (0, 0)) := hk2.2.2.1
      have HK2 := Lib.hid hk2
      have HX2 := Lib.hid hx2
      clear hb1 hk2 hx2
      go_wp2_with ((with_reducible refine wpList_store_row rfl 88 (.tmp 5) (.tmp 13) rfl nC (wordsV M).toArray rfl rfl 88 (wordsV X).toArray HX2.out HIM.out HOM.out H1M.out ?_))
      go_roundw
      case rel => exact ⟨k + 1, by omega, by go_num, by rw [HST.out]; exact HK2.out.put M N1.out N2.out n3⟩
      case measure => simp [intOf]; omega
    · have hd2 : decide ((k : Int) < 10) = false := by simp; omega
      obtain rfl : k = 10 := by omega
      have hokX := HT.out.mixes 10
      have hB2 : B = sumTo (mixes t 10) t 16 := HB.out
      generalize mixes t 10 = X at *
      have HK := Lib.hid hk
      have HX := Lib.hid hokX
      have HB2 := Lib.hid hB2
      clear hk hokX hB2 HB H3
      go_wp2
      obtain ⟨wo, rfl⟩ : ∃ wo : World, wo = wr := ⟨_, rfl⟩
      go_loopw [15] (fun i wr => ∃ k : Nat, k ≤ 16 ∧ i = .int .i64 k ∧ Three w w.heap.size nC t (sumTo X t k) wr) (fun i _ => 16 - (intOf i).toNat)
      case atStart => exact ⟨0, by omega, rfl, by rw [sumTo_zero HX.out.1]; exact HK.out⟩
      case round =>
        obtain ⟨k, hk16, rfl, hk⟩ := hrel
        by_cases hlt : k < 16
        · have hd2 : decide ((k : Int) < 16) = true := by simp; omega
          have hnext := sumTo_succ X t k
          have hat := sumTo_at X t k hlt
          have hlen := sumTo_length X t k
          have hlx := HX.out.at k
          have hlt' := HT.out.at k
          generalize sumTo X t k = Y at *
          have cx := word_cell hk.2.2.1 (i := k) (by omega)
          have fx := word_free hk.2.2.1 (i := k) (by omega)
          have ct := word_cell hk.1 (i := k) (by rw [HT.out.1]; omega)
          rw [hat] at cx
          generalize X.getD k 0 = x at *
          generalize t.getD k 0 = y at *
          have HP := Lib.hid (hk.word k ((x + y) % 4294967296) N1.out N2.out n3).drew
          have hq : ((x : Int) + (y : Int)) % 4294967296 = (((x + y) % 4294967296 : Nat) : Int) := by omega
          have HQ := Lib.hid hq
          have HNX := Lib.hid hnext
          clear hk hat hnext hq hlen
          go_wp2
          go_region
          all_goals go_wp2
          all_goals go_roundw
          case rel => exact ⟨k + 1, by omega, by go_num, by rw [← HNX.out, HQ.out]; exact HP.out⟩
          case measure => simp [intOf]; omega
        · have hd2 : decide ((k : Int) < 16) = false := by simp; omega
          obtain rfl : k = 16 := by omega
          rw [← HB2.out] at hk
          have hokB : Words16 B := by rw [HB2.out]; exact sumTo_ok HX.out 16
          have HB1 := Lib.hid hk.2.2.1
          have HIM := Lib.hid (info16 hokB.1)
          have HIA := Lib.hid (infoA16 hokB.1)
          have HOM := Lib.hid (long16 hokB.1)
          have H1M := Lib.hid (one16 B)
          have hz2 : wr.heap[w.heap.size + 1]? = some (.cells zeros16.toArray 88 (0, 0)) := hk.2.1
          have HZ2 := Lib.hid hz2
          have HZW := Lib.hid hk.2.1
          have HBL := Lib.hid hk.2.2.2
          clear hk hz2 hokB HK HX
          go_wp2_with ((first
            | (with_reducible refine wpList_load_mid rfl 88 (.tmp 5) rfl nC 0 rfl (wordsV B) _ HB1.out.range Tryd.underlying88 rfl HIM.out ?_)
            | (with_reducible refine wpList_store_row rfl 88 (.tmp 4) (.tmp 27) rfl (w.heap.size + 1) (wordsV B).toArray rfl rfl 88 zeros16.toArray HZ2.out HIA.out HOM.out H1M.out ?_)))
          refine bodyPost_ret (v := .agg (wordsV B).toArray) ?_ rfl ⟨rfl, below_setRow HBL.out (by omega) _⟩
          exact results_whole (ty := 88) Tryd.results60 _ _ (w.heap.size + 1) 88 (wordsV B) _ (by simp [Act.put]) (HZW.out.setRow _) Tryd.underlying88 rfl HIM.out
end Go.Proofs.YtedgpglldlohfaaDoor.Cha

namespace Go.Proofs.YtedgpglldlohfaaDoor.Cha
open Go.RowKit Mur Lanes
set_option maxRecDepth 100000

def markL : List UInt8 := [101, 120, 112, 97, 110, 100, 32, 51, 50, 45, 98, 121, 116, 101, 32, 107]
/-- The words of a key and a nonce, the number being z. -/
def stateW (key z nonce : List UInt8) : List Nat := words (markL ++ key ++ z ++ nonce) false
theorem stateW_ok {key z nonce : List UInt8} (hk : key.length = 32) (hz : z.length = 4) (hn : nonce.length = 12) : Words16 (stateW key z nonce) := by
  refine ⟨?_, words_lt _ _⟩
  unfold stateW
  rw [words_length]
  simp [markL, hk, hz, hn]

theorem results_row_tmp {P : Program} {fn : Func} {p q : Tmp} {ty : TypeId} (h : fn.results = #[.cell p ty, .tmp q]) (tmps : Array Value) (w : World) (b : Nat) (t : TypeId) (vs : List Value) (x : Value) (d : TypeDesc)
    (hp : tmps.getD p undef = .pointer (some ⟨b, 0, none⟩)) (hq : tmps.getD q undef = x) (hg : Whole w b t vs) (hu : P.underlying ty = some d) (hd : (match d with | .struct _ | .array _ _ => true | _ => false) = true) (hi : (P.info? ty).map (·.size) = some vs.length) :
    (results fn tmps).run P w = .ok (.tuple #[.agg vs.toArray, x]) w := by
  have hp' : tmps[p]?.getD undef = .pointer (some ⟨b, 0, none⟩) := by simpa using hp
  have hq' : tmps[q]?.getD undef = x := by simpa using hq
  simp [results, h, hp', hq', asAddr, run_loadVar_row w b t ty vs.toArray (0, 0) d hg hu hd (by simpa using hi)]

def zerosN : List Nat := List.replicate 16 0
theorem zerosN_eq : wordsV zerosN = zeros16 := rfl
theorem info_z16 : (Tryd.prog.info? 88).map (·.size) = some zeros16.length := by kernel_rfl
theorem infoA_z16 : (Tryd.prog.info? 88).map (·.size) = some zeros16.toArray.size := by kernel_rfl
theorem one_z16 : zeros16.toArray.all (·.oneCell') = true := by kernel_rfl

set_option maxHeartbeats 800000 in
theorem state_none (key nonce : ByteArray) (w : World) (h : ¬ (key.size = 32 ∧ nonce.size = 12)) :
    Calls Tryd.prog 59 #[.string key, .string nonce] w fun e w' => e = .returned (.tuple #[.agg zeros16.toArray, .int .i64 1]) ∧ Below w.heap.size w w' := by
  have hd : ((key.size : Int) != 32) = true ∨ (((key.size : Int) != 32) = false ∧ ((nonce.size : Int) != 12) = true) := by
    by_cases e : key.size = 32
    · right
      refine ⟨by simp; omega, by simp; omega⟩
    · left
      simp; omega
  clear h
  rcases hd with h1 | ⟨h1, h2⟩
  all_goals
    go_enter Tryd.func59, Tryd.ntmps59
    go_upto_region 3 with (fail)
    have hZa : Whole ((w.alloc (.cells #[.int .u32 0, .int .u32 0, .int .u32 0, .int .u32 0, .int .u32 0, .int .u32 0, .int .u32 0, .int .u32 0, .int .u32 0, .int .u32 0, .int .u32 0, .int .u32 0, .int .u32 0, .int .u32 0, .int .u32 0, .int .u32 0] 88)).alloc (.cells #[.int .u32 0, .int .u32 0, .int .u32 0, .int .u32 0, .int .u32 0, .int .u32 0, .int .u32 0, .int .u32 0, .int .u32 0, .int .u32 0, .int .u32 0, .int .u32 0, .int .u32 0, .int .u32 0, .int .u32 0, .int .u32 0] 88)) w.heap.size 88 zeros16 := (Whole.made' w _ zeros16.toArray _ rfl).alloc _
    have hZb : Whole ((w.alloc (.cells #[.int .u32 0, .int .u32 0, .int .u32 0, .int .u32 0, .int .u32 0, .int .u32 0, .int .u32 0, .int .u32 0, .int .u32 0, .int .u32 0, .int .u32 0, .int .u32 0, .int .u32 0, .int .u32 0, .int .u32 0, .int .u32 0] 88)).alloc (.cells #[.int .u32 0, .int .u32 0, .int .u32 0, .int .u32 0, .int .u32 0, .int .u32 0, .int .u32 0, .int .u32 0, .int .u32 0, .int .u32 0, .int .u32 0, .int .u32 0, .int .u32 0, .int .u32 0, .int .u32 0, .int .u32 0] 88)) (w.heap.size + 1) 88 zeros16 := Whole.made' _ _ zeros16.toArray _ (by simp)
    have hBl : Below w.heap.size w ((w.alloc (.cells #[.int .u32 0, .int .u32 0, .int .u32 0, .int .u32 0, .int .u32 0, .int .u32 0, .int .u32 0, .int .u32 0, .int .u32 0, .int .u32 0, .int .u32 0, .int .u32 0, .int .u32 0, .int .u32 0, .int .u32 0, .int .u32 0] 88)).alloc (.cells #[.int .u32 0, .int .u32 0, .int .u32 0, .int .u32 0, .int .u32 0, .int .u32 0, .int .u32 0, .int .u32 0, .int .u32 0, .int .u32 0, .int .u32 0, .int .u32 0, .int .u32 0, .int .u32 0, .int .u32 0, .int .u32 0] 88)) := ((Below.refl _ _).alloc (Nat.le_refl _) _).alloc (by simp) _
    have HZa := Lib.hid hZa
    have HZb := Lib.hid hZb
    have HBl := Lib.hid hBl
    have hza2 : ((w.alloc (.cells #[.int .u32 0, .int .u32 0, .int .u32 0, .int .u32 0, .int .u32 0, .int .u32 0, .int .u32 0, .int .u32 0, .int .u32 0, .int .u32 0, .int .u32 0, .int .u32 0, .int .u32 0, .int .u32 0, .int .u32 0, .int .u32 0] 88)).alloc (.cells #[.int .u32 0, .int .u32 0, .int .u32 0, .int .u32 0, .int .u32 0, .int .u32 0, .int .u32 0, .int .u32 0, .int .u32 0, .int .u32 0, .int .u32 0, .int .u32 0, .int .u32 0, .int .u32 0, .int .u32 0, .int .u32 0] 88)).heap[w.heap.size]? = some (.cells zeros16.toArray 88 (0, 0)) := hZa
    have HZ2 := Lib.hid hza2
    clear hZa hZb hBl hza2
    generalize (w.alloc (.cells #[.int .u32 0, .int .u32 0, .int .u32 0, .int .u32 0, .int .u32 0, .int .u32 0, .int .u32 0, .int .u32 0, .int .u32 0, .int .u32 0, .int .u32 0, .int .u32 0, .int .u32 0, .int .u32 0, .int .u32 0, .int .u32 0] 88)).alloc (.cells #[.int .u32 0, .int .u32 0, .int .u32 0, .int .u32 0, .int .u32 0, .int .u32 0, .int .u32 0, .int .u32 0, .int .u32 0, .int .u32 0, .int .u32 0, .int .u32 0, .int .u32 0, .int .u32 0, .int .u32 0, .int .u32 0] 88) = wx at *
    have HIM := Lib.hid info_z16
    have HIA := Lib.hid infoA_z16
    have H1M := Lib.hid one_z16
    go_wp2_with ((first
      | (with_reducible refine wpList_load_mid rfl 88 (.tmp 6) rfl (w.heap.size + 1) 0 rfl zeros16 _ HZb.out.range Tryd.underlying88 rfl HIM.out ?_)
      | (with_reducible refine wpList_store_row rfl 88 (.tmp 4) (.tmp 16) rfl w.heap.size zeros16.toArray rfl rfl 88 zeros16.toArray HZ2.out HIA.out rfl H1M.out ?_)))
    refine bodyPost_ret (v := .tuple #[.agg zeros16.toArray, .int .i64 1]) ?_ rfl ⟨rfl, below_setRow HBl.out (Nat.le_refl _) _⟩
    exact results_row_tmp (ty := 88) Tryd.results59 _ _ w.heap.size 88 zeros16 _ _ (by simp) (by simp) (HZa.out.setRow _) Tryd.underlying88 rfl HIM.out

theorem splice_whole {S : List Nat} (h : S.length = 16) : splice zeros16 0 (wordsV S) = wordsV S := by
  have hl : (wordsV S).length = 16 := by rw [wordsV_length, h]
  unfold splice
  rw [hl]
  simp

set_option maxHeartbeats 1600000 in
theorem state_some (key nonce : ByteArray) (S : List Nat) (w : World) (hk : key.size = 32) (hn : nonce.size = 12) (hS : S = stateW key.data.toList [0, 0, 0, 0] nonce.data.toList) :
    Calls Tryd.prog 59 #[.string key, .string nonce] w fun e w' => e = .returned (.tuple #[.agg (wordsV S).toArray, .int .i64 0]) ∧ Below w.heap.size w w' := by
  obtain ⟨A, hA⟩ : ∃ A : ByteArray, A = (⟨#[101, 120, 112, 97, 110, 100, 32, 51, 50, 45, 98, 121, 116, 101, 32, 107]⟩ : ByteArray) ++ key ++ (⟨#[0, 0, 0, 0]⟩ : ByteArray) ++ nonce := ⟨_, rfl⟩
  have hAs : A.size = 64 := by rw [hA]; simp only [ByteArray.size_append, hk, hn]; rfl
  have hAe : A.data.toList = markL ++ key.data.toList ++ [0, 0, 0, 0] ++ nonce.data.toList := by
    rw [hA]
    simp only [ByteArray.data_append, Array.toList_append]
    rfl
  have hAl : words A.data.toList false = S := by
    rw [hS, hAe]
    rfl
  have hok : Words16 S := by rw [hS]; exact stateW_ok hk rfl hn
  have d1 : ((key.size : Int) != 32) = false := by simp; omega
  have d2 : ((nonce.size : Int) != 12) = false := by simp; omega
  have n1 : ¬ 9223372036854775807 < 16 + key.size := by omega
  have n2 : ¬ 9223372036854775807 < 16 + key.size + 4 := by omega
  have n3 : ¬ 9223372036854775807 < 16 + key.size + 4 + nonce.size := by omega
  have HA := Lib.hid hA
  have HAs := Lib.hid hAs
  have HAl := Lib.hid hAl
  have HK := Lib.hid hok
  clear hA hAs hAe hAl hok hk hn hS
  go_enter Tryd.func59, Tryd.ntmps59
  go_upto_region 4 with (fail)
  have hZa : Whole ((w.alloc (.cells #[.int .u32 0, .int .u32 0, .int .u32 0, .int .u32 0, .int .u32 0, .int .u32 0, .int .u32 0, .int .u32 0, .int .u32 0, .int .u32 0, .int .u32 0, .int .u32 0, .int .u32 0, .int .u32 0, .int .u32 0, .int .u32 0] 88)).alloc (.cells #[.int .u32 0, .int .u32 0, .int .u32 0, .int .u32 0, .int .u32 0, .int .u32 0, .int .u32 0, .int .u32 0, .int .u32 0, .int .u32 0, .int .u32 0, .int .u32 0, .int .u32 0, .int .u32 0, .int .u32 0, .int .u32 0] 88)) w.heap.size 88 zeros16 := (Whole.made' w _ zeros16.toArray _ rfl).alloc _
  have hZb : Whole ((w.alloc (.cells #[.int .u32 0, .int .u32 0, .int .u32 0, .int .u32 0, .int .u32 0, .int .u32 0, .int .u32 0, .int .u32 0, .int .u32 0, .int .u32 0, .int .u32 0, .int .u32 0, .int .u32 0, .int .u32 0, .int .u32 0, .int .u32 0] 88)).alloc (.cells #[.int .u32 0, .int .u32 0, .int .u32 0, .int .u32 0, .int .u32 0, .int .u32 0, .int .u32 0, .int .u32 0, .int .u32 0, .int .u32 0, .int .u32 0, .int .u32 0, .int .u32 0, .int .u32 0, .int .u32 0, .int .u32 0] 88)) (w.heap.size + 1) 88 zeros16 := Whole.made' _ _ zeros16.toArray _ (by simp)
  have hBl : Below w.heap.size w ((w.alloc (.cells #[.int .u32 0, .int .u32 0, .int .u32 0, .int .u32 0, .int .u32 0, .int .u32 0, .int .u32 0, .int .u32 0, .int .u32 0, .int .u32 0, .int .u32 0, .int .u32 0, .int .u32 0, .int .u32 0, .int .u32 0, .int .u32 0] 88)).alloc (.cells #[.int .u32 0, .int .u32 0, .int .u32 0, .int .u32 0, .int .u32 0, .int .u32 0, .int .u32 0, .int .u32 0, .int .u32 0, .int .u32 0, .int .u32 0, .int .u32 0, .int .u32 0, .int .u32 0, .int .u32 0, .int .u32 0] 88)) := ((Below.refl _ _).alloc (Nat.le_refl _) _).alloc (by simp) _
  have HZa := Lib.hid hZa
  have HZb := Lib.hid hZb
  have HBl := Lib.hid hBl
  clear hZa hZb hBl d1 d2
  generalize (w.alloc (.cells #[.int .u32 0, .int .u32 0, .int .u32 0, .int .u32 0, .int .u32 0, .int .u32 0, .int .u32 0, .int .u32 0, .int .u32 0, .int .u32 0, .int .u32 0, .int .u32 0, .int .u32 0, .int .u32 0, .int .u32 0, .int .u32 0] 88)).alloc (.cells #[.int .u32 0, .int .u32 0, .int .u32 0, .int .u32 0, .int .u32 0, .int .u32 0, .int .u32 0, .int .u32 0, .int .u32 0, .int .u32 0, .int .u32 0, .int .u32 0, .int .u32 0, .int .u32 0, .int .u32 0, .int .u32 0] 88) = wx at *
  have hAl2 : A.size ≤ 140737488351232 := by rw [HAs.out]; omega
  have hq : A.size / 4 = 16 := by rw [HAs.out]
  have HW := Lib.hid (show ∀ u, Calls Tryd.prog 71 #[.string A, .bool false] u fun e w' => e = .returned (.slice (some ⟨u.heap.size, 0, none⟩) 16 16) ∧ Row w' u.heap.size (wordsV S) ∧ Below u.heap.size u w' from fun u => by
    have := words_any A false u hAl2
    rw [hq, HAl.out] at this
    exact this)
  have hlen : (wordsV S).length = 16 := by rw [wordsV_length, HK.out.1]
  have HM := Lib.hid (show (wordsV S).length = Nat.min 16 16 by rw [hlen]; rfl)
  have HF := Lib.hid (show 0 + (wordsV S).length ≤ zeros16.length by rw [hlen]; decide)
  have HO := Lib.hid (show ∀ v ∈ wordsV S, v.oneCell' = true from fun v hv => by
    simp only [wordsV, List.mem_map] at hv
    obtain ⟨n, _, rfl⟩ := hv
    rfl)
  clear hAl2 hq hlen
  go_region_law ((first
    | (refine step_call rfl 71 Tryd.call71 #[.tmp 22, .const (.bool false)] #[9, 4] rfl #[.string A, .bool false] (by rw [HA.out]; simp [Act.eval, Act.put]) _ _ (HW.out _) ?_; rintro w1 ⟨hr1, hb1⟩; have HR1 := Lib.hid hr1; have HB1 := Lib.hid hb1; clear hr1 hb1)
    | (refine step_copy_splice rfl (.tmp 17) (.tmp 23) 91 91 rfl 87 Tryd.underlying91 (by kernel_rfl) (some ⟨w.heap.size + 1, 0, none⟩) (some ⟨wx.heap.size, 0, none⟩) 16 16 16 16 (by simp [Act.eval]) (by simp [Act.eval]) (w.heap.size + 1) 0 zeros16 88 (HZb.out.drew.below HZb.out.lt HB1.out) (wordsV S) HM.out (fun _ => ⟨rfl, _, rfl, fun j v hv => by rw [Addr.add_mid, Nat.zero_add]; exact HR1.out.cell hv⟩) HF.out HO.out (w.heap.size + 1) w1 (Below.refl _ _) (Nat.le_refl _) ?_; intro w2 hg2 hb2; have HG2 := hg2; have HB2 := Lib.hid hb2; clear hg2 hb2)))
  have hz3 : w2.heap[w.heap.size + 1]? = some (.cells (wordsV S).toArray 88 (0, 0)) := by
    have := HG2.out
    rwa [splice_whole HK.out.1] at this
  have ha2 : Whole w2 w.heap.size 88 zeros16 := (HZa.out.drew.below HZa.out.lt HB1.out).below (by have := HZa.out.lt; omega) HB2.out
  have HSr := Lib.hid (show Whole w2 (w.heap.size + 1) 88 (wordsV S) from hz3)
  have HSa := Lib.hid ha2
  have haa : w2.heap[w.heap.size]? = some (.cells zeros16.toArray 88 (0, 0)) := ha2
  have HSA := Lib.hid haa
  have HSB := Lib.hid (HBl.out.drew.trans ((HB1.out.mono (by have := HBl.out.size; simp; omega)).trans (HB2.out.mono (by omega))))
  have HIM := Lib.hid (info16 HK.out.1)
  have HIA := Lib.hid (infoA16 HK.out.1)
  have HOM := Lib.hid (long16 HK.out.1)
  have H1M := Lib.hid (one16 S)
  clear hz3 ha2 haa
  go_wp2_with ((first
    | (with_reducible refine wpList_load_mid rfl 88 (.tmp 6) rfl (w.heap.size + 1) 0 rfl (wordsV S) _ HSr.out.range Tryd.underlying88 rfl HIM.out ?_)
    | (with_reducible refine wpList_store_row rfl 88 (.tmp 4) (.tmp 25) rfl w.heap.size (wordsV S).toArray rfl rfl 88 zeros16.toArray HSA.out HIA.out HOM.out H1M.out ?_)))
  refine bodyPost_ret (v := .tuple #[.agg (wordsV S).toArray, .int .i64 0]) ?_ rfl ⟨rfl, below_setRow HSB.out (Nat.le_refl _) _⟩
  exact results_row_tmp (ty := 88) Tryd.results59 _ _ w.heap.size 88 (wordsV S) _ _ (by simp) (by simp) (HSa.out.setRow _) Tryd.underlying88 rfl HIM.out
end Go.Proofs.YtedgpglldlohfaaDoor.Cha

namespace Go.Proofs.YtedgpglldlohfaaDoor.Cha
open Go.RowKit Mur Lanes
set_option maxRecDepth 100000

/-- The state of a key and a nonce, the number still 0. -/
def stateZ (key nonce : List UInt8) : List Nat := stateW key [0, 0, 0, 0] nonce
def blockT (s : List Nat) (n : Nat) : List UInt8 := text (blockW (s.set 12 n)) false
theorem blockT_length {s : List Nat} (h : Words16 s) (n : Nat) (hn : n < 4294967296) : (blockT s n).length = 64 := by
  unfold blockT
  rw [text_length, (blockW_ok (h.set 12 n hn)).1]
theorem words_cells {w : World} {b : Nat} {t : TypeId} {s : List Nat} (h : Whole w b t (wordsV s)) : ∀ i (hi : i < s.length), w.cell? ⟨b, 0 + i, none⟩ = some (.int .u32 (s[i] : Int)) := fun i hi => by
  rw [Nat.zero_add]
  exact h.row.cell (wordsV_at hi)

end Go.Proofs.YtedgpglldlohfaaDoor.Cha

namespace Go.Proofs.YtedgpglldlohfaaDoor.Cha
open Go.RowKit Mur Lanes
set_option maxRecDepth 100000

/-- The words of the blocks below i. -/
def streamW (s : List Nat) : Nat → List Nat
  | 0 => []
  | i + 1 => streamW s i ++ blockW (s.set 12 i)
theorem streamW_length {s : List Nat} (c : Nat) : (streamW s c).length = 16 * c := by
  induction c with
  | zero => rfl
  | succ c ih =>
    rw [streamW, List.length_append, ih]
    show 16 * c + (sumTo _ _ 16).length = _
    rw [sumTo_length]
    omega
theorem streamW_lt {s : List Nat} (h : Words16 s) (c : Nat) (hc : c ≤ 4294967296) : ∀ x ∈ streamW s c, x < 4294967296 := by
  induction c with
  | zero => intro x hx; cases hx
  | succ c ih =>
    intro x hx
    rw [streamW, List.mem_append] at hx
    rcases hx with hx | hx
    · exact ih (by omega) x hx
    · exact (blockW_ok (h.set 12 c (by omega))).2 x hx
def blocks (n : Nat) : Nat := (n + 63) / 64
/-- The first n bytes of the stream of a state. -/
def streamT (s : List Nat) (n : Nat) : List UInt8 := (text (streamW s (blocks n)) false).take n
theorem streamT_length (s : List Nat) (n : Nat) : (streamT s n).length = n := by
  unfold streamT
  rw [List.length_take, text_length, streamW_length]
  unfold blocks
  omega

/-- A slice of its own stays what it is where nothing older is touched. -/
theorem own_keep {w w' : World} {base n size : Nat} {e : TypeId} {v : Value} {xs : List Value} (h : w.ownsRow base e size v n xs) (k : Below w.heap.size w w') : w'.ownsRow base e size v n xs := by
  refine ⟨h.1, ?_⟩
  rcases h.2 with h | ⟨g, cap, cur, h1, h2, h3, h4⟩
  · exact .inl h
  · refine .inr ⟨g, cap, cur, h1, h2, ?_, h4⟩
    rw [k.block g (Array.getElem?_eq_some_iff.1 h3).1]
    exact h3
theorem new_words (w : World) (B : List Nat) (t : TypeId) : ∀ (j : Nat) (u : Value), (wordsV B)[j]? = some u → (w.alloc (.cells (wordsV B).toArray t)).cell? ((⟨w.heap.size, 0, none⟩ : Addr).add j) = some u := fun j u hj => by
  rw [Addr.add_mid, Nat.zero_add]
  exact (Whole.made w t (wordsV B)).row.cell hj
theorem words_one (B : List Nat) : ∀ u ∈ wordsV B, u.oneCell' = true := fun v hv => by
  simp only [wordsV, List.mem_map] at hv
  obtain ⟨n, _, rfl⟩ := hv
  rfl

set_option maxHeartbeats 800000 in
theorem stream_none (key nonce : ByteArray) (n : Int) (w : World) (h : ¬ (key.size = 32 ∧ nonce.size = 12)) :
    Calls Tryd.prog 45 #[.string key, .string nonce, .int .i64 n] w fun e w' => e = .returned (.tuple #[.string ⟨#[]⟩, .int .i64 1]) ∧ Below w.heap.size w w' := by
  have r1 := Lib.hid (fun u => state_none key nonce u h)
  have HIM := Lib.hid info_z16
  have HO := Lib.hid (show zeros16.length = zeros16.length from rfl)
  have H1 := Lib.hid one_z16
  clear h
  go_enter Tryd.func45, Tryd.ntmps45
  go_wp2_with fail
  refine (r1.out _).mono ?_
  rintro e w1 ⟨rfl, hb1⟩
  go_wp2_with ((first
    | (with_reducible refine wpList_alloc_z rfl 88 rfl zeros16 zero16 ?_)
    | (with_reducible refine wpList_store_new rfl 88 _ _ rfl _ zeros16 zeros16 rfl rfl rfl HIM.out HO.out H1.out ?_)))
  refine bodyPost_ret (v := .tuple #[.string ⟨#[]⟩, .int .i64 1]) (by simp [results, Tryd.results45, go_sem]) rfl ⟨rfl, ?_⟩
  exact hb1.alloc hb1.size _

set_option maxHeartbeats 800000 in
theorem stream_far (key nonce : ByteArray) (n : Int) (w : World) (hk : key.size = 32) (hn : nonce.size = 12) (h : n < 0 ∨ 6000 < n) :
    Calls Tryd.prog 45 #[.string key, .string nonce, .int .i64 n] w fun e w' => e = .returned (.tuple #[.string ⟨#[]⟩, .int .i64 1]) ∧ Below w.heap.size w w' := by
  obtain ⟨S, hS⟩ : ∃ S, S = stateZ key.data.toList nonce.data.toList := ⟨_, rfl⟩
  have hokS : Words16 S := by rw [hS]; exact stateW_ok hk rfl hn
  have r1 := Lib.hid (fun u => state_some key nonce S u hk hn hS)
  have HIS := Lib.hid (info16 hokS.1)
  have HOS := Lib.hid (show zeros16.length = (wordsV S).length by rw [wordsV_length, hokS.1]; rfl)
  have H1S := Lib.hid (one16 S)
  clear hS hokS hk hn
  have hd : decide (n < 0) = true ∨ (decide (n < 0) = false ∧ decide (6000 < n) = true) := by
    by_cases e : n < 0
    · left; simpa using e
    · right; exact ⟨by simpa using e, by simp; omega⟩
  clear h
  rcases hd with h1 | ⟨h1, h2⟩
  all_goals
    go_enter Tryd.func45, Tryd.ntmps45
    go_wp2_with fail
    refine (r1.out _).mono ?_
    rintro e w1 ⟨rfl, hb1⟩
    go_wp2_with ((first
      | (with_reducible refine wpList_alloc_z rfl 88 rfl zeros16 zero16 ?_)
      | (with_reducible refine wpList_store_new rfl 88 _ _ rfl _ (wordsV S) zeros16 rfl rfl rfl HIS.out HOS.out H1S.out ?_)))
    refine bodyPost_ret (v := .tuple #[.string ⟨#[]⟩, .int .i64 1]) (by simp [results, Tryd.results45, go_sem]) rfl ⟨rfl, ?_⟩
    exact hb1.alloc hb1.size _

set_option maxHeartbeats 1600000 in
theorem stream_some (key nonce T : ByteArray) (n : Nat) (w : World) (hk : key.size = 32) (hn : nonce.size = 12) (hlt : n ≤ 6000) (hT : T = ⟨(streamT (stateZ key.data.toList nonce.data.toList) n).toArray⟩) :
    Calls Tryd.prog 45 #[.string key, .string nonce, .int .i64 n] w fun e w' => e = .returned (.tuple #[.string T, .int .i64 0]) ∧ Below w.heap.size w w' := by
  obtain ⟨S, hS⟩ : ∃ S, S = stateZ key.data.toList nonce.data.toList := ⟨_, rfl⟩
  have hokS : Words16 S := by rw [hS]; exact stateW_ok hk rfl hn
  rw [← hS] at hT
  obtain ⟨c, hc⟩ : ∃ c, c = blocks n := ⟨_, rfl⟩
  have hci : ((n : Int) + 64 - 1) / 64 = (c : Int) := by rw [hc]; unfold blocks; omega
  have hc94 : c ≤ 94 := by rw [hc]; unfold blocks; omega
  have hcn : n ≤ 64 * c := by rw [hc]; unfold blocks; omega
  have hTl : T = ⟨((text (streamW S c) false).take n).toArray⟩ := by rw [hT, hc]; rfl
  have r1 := Lib.hid (fun u => state_some key nonce S u hk hn hS)
  have HK := Lib.hid hokS
  have HT := Lib.hid hTl
  have HIS := Lib.hid (info16 hokS.1)
  have HOS := Lib.hid (show zeros16.length = (wordsV S).length by rw [wordsV_length, hokS.1]; rfl)
  have H1S := Lib.hid (one16 S)
  clear hS hokS hT hc hTl hk hn
  have hd1 : decide ((n : Int) < 0) = false := by simp
  have hd2 : decide (6000 < (n : Int)) = false := by simp; omega
  go_enter Tryd.func45, Tryd.ntmps45
  go_wp2_with fail
  refine (r1.out _).mono ?_
  rintro e w1 ⟨rfl, hb1⟩
  have HB1 := Lib.hid hb1
  clear hb1
  go_upto_region 6 with ((first
    | (with_reducible refine wpList_alloc_z rfl 88 rfl zeros16 zero16 ?_)
    | (with_reducible refine wpList_store_new rfl 88 _ _ rfl _ (wordsV S) zeros16 rfl rfl rfl HIS.out HOS.out H1S.out ?_)))
  have HW1 := Lib.hid (Whole.made w1 88 (wordsV S))
  have HB2 := Lib.hid (HB1.out.alloc HB1.out.size (.cells (wordsV S).toArray 88))
  have hn1 : w.heap.size ≤ w1.heap.size := HB1.out.size
  go_simp
  generalize w1.alloc (.cells (wordsV S).toArray 88) = w2 at *
  generalize w1.heap.size = nS at *
  clear hd1 hd2 r1 HIS HOS H1S HB1
  go_wp2
  simp only [hci]
  clear hci
  have hown : (w2.alloc (.cells #[] 87)).ownsRow w2.heap.size 87 1 (.slice (some ⟨w2.heap.size, 0, none⟩) 0 0) 0 (wordsV []) :=
    ⟨rfl, .inr ⟨w2.heap.size, 0, #[], rfl, Nat.le_refl _, _root_.Go.heap_alloc_new w2 _, Nat.le_refl _, by unfold maxLen; omega, rfl, rfl⟩⟩
  have hbel0 : Below w2.heap.size w2 (w2.alloc (.cells #[] 87)) := (Below.refl _ _).alloc (Nat.le_refl _) _
  have HOWN := Lib.hid hown
  have HBEL := Lib.hid hbel0
  clear hown hbel0
  obtain ⟨i0, hi, hz0, hz1, hz2⟩ := info_parts info_u32
  go_loopw [10, 33] (fun v i wr => ∃ k : Nat, k ≤ c ∧ i = .int .i64 k ∧ wr.ownsRow w2.heap.size 87 1 v (16 * k) (wordsV (streamW S k)) ∧ Below w2.heap.size w2 wr) (fun _ i _ => c - (intOf i).toNat)
  case atStart => exact ⟨0, by omega, rfl, HOWN.out, HBEL.out⟩
  case round =>
    obtain ⟨k, hkc, rfl, hown, hbel⟩ := hrel
    by_cases hlt2 : k < c
    · have hd3 : decide ((k : Int) < (c : Int)) = true := by simp; omega
      obtain ⟨B, hB⟩ : ∃ B, B = blockW (S.set 12 k) := ⟨_, rfl⟩
      have hokB : Words16 B := by rw [hB]; exact blockW_ok (HK.out.set 12 k (by omega))
      have hstep : streamW S (k + 1) = streamW S k ++ B := by rw [hB]; rfl
      have hws : wordsV (streamW S (k + 1)) = wordsV (streamW S k) ++ wordsV B := by rw [hstep]; simp [wordsV]
      have r2 := Lib.hid (fun u => blockOf_any S B k u HK.out (by omega) hB)
      have hwS := HW1.out.below HW1.out.lt hbel
      have HWS := Lib.hid hwS
      have HIS := Lib.hid (info16 HK.out.1)
      have HIB := Lib.hid (info16 hokB.1)
      have HOB := Lib.hid (show zeros16.length = (wordsV B).length by rw [wordsV_length, hokB.1]; rfl)
      have H1B := Lib.hid (one16 B)
      have HNB := Lib.hid (show (wordsV B).length = 16 * 1 by rw [wordsV_length, hokB.1])
      have HWV := Lib.hid hws
      have HOW := Lib.hid hown
      have HBL := Lib.hid hbel
      have nb1 : 16 * (k + 1) ≤ 1504 := by omega
      clear hB hokB hstep hws hwS hown hbel HOWN HBEL
      go_wp2_with ((with_reducible refine wpList_load_mid rfl 88 (.tmp 8) rfl nS 0 rfl (wordsV S) _ HWS.out.range Tryd.underlying88 rfl HIS.out ?_))
      refine (r2.out _).mono ?_
      rintro e w3 ⟨rfl, hb3⟩
      have HOW3 := Lib.hid (own_keep HOW.out hb3)
      have HBL3 := Lib.hid (HBL.out.trans (hb3.mono HBL.out.size))
      have HNW := Lib.hid (new_words w3 B 88)
      have HOB1 := Lib.hid (words_one B)
      clear hb3
      go_upto_region 11 with ((first
        | (with_reducible refine wpList_alloc_z rfl 88 rfl zeros16 zero16 ?_)
        | (with_reducible refine wpList_store_new rfl 88 _ _ rfl _ (wordsV B) zeros16 rfl rfl rfl HIB.out HOB.out H1B.out ?_)))
      go_simp
      go_wp2_with (at_builtin; refine wpList_append_own _ rfl _ _ 91 rfl w2.heap.size 87 i0 (.int .u32 0) 1 4 Tryd.underlying91 hi hz0 hz1 hz2 rfl (by decide) _ _ _ rfl (HOW3.out.alloc _) ⟨w3.heap.size, 0, none⟩ 16 16 (wordsV B) rfl HNB.out HNW.out HOB1.out ?c3 ?c4 ?c5 ?_)
      case c3 => unfold maxLen; omega
      case c4 => omega
      case c5 => exact Nat.le_trans HBL3.out.size (by simp)
      intro v' w4 hown4 hgrow4 _
      have hlast : w4.ownsRow w2.heap.size 87 1 v' (16 * (k + 1)) (wordsV (streamW S (k + 1))) := by
        rw [HWV.out]
        exact hown4
      have hbl4 := (HBL3.out.alloc HBL3.out.size (.cells (wordsV B).toArray 88)).grown hgrow4 (Nat.le_trans HBL3.out.size (by simp)) (fun j hj => (HOW3.out.lt j hj).1)
      have HL := Lib.hid hlast
      have HBF := Lib.hid hbl4
      clear hown4 hgrow4 hlast hbl4
      go_wp2
      go_roundw
      case rel => exact ⟨k + 1, by omega, by go_num, HL.out, HBF.out⟩
      case measure => simp [intOf]; omega
    · have hd3 : decide ((k : Int) < (c : Int)) = false := by simp; omega
      obtain rfl : k = c := by omega
      have hw32 := RefTwo.owns_words hown (streamW_lt HK.out k (by omega))
      obtain ⟨X, hX⟩ : ∃ X : ByteArray, X = ⟨(text (streamW S k) false).toArray⟩ := ⟨_, rfl⟩
      have hXs : X.size = 64 * k := by
        rw [hX]
        show (text (streamW S k) false).length = _
        rw [text_length, streamW_length]
        omega
      have r3 := Lib.hid (fun (u : World) (v : Value) (hu : Words32 u v (streamW S k)) => text_any (streamW S k) v false u (by rw [streamW_length]; omega) hu)
      rw [← hX] at r3
      have hTX : T = X.extract 0 n := by
        rw [HT.out, hX]
        apply ByteArray.ext
        simp [ByteArray.data_extract]
      have hxi : (n : Int) ≤ (X.size : Int) := by omega
      have hxi0 : (0 : Int) ≤ (n : Int) := by omega
      have HTX := Lib.hid hTX
      have HW32 := Lib.hid hw32
      have HBL := Lib.hid hbel
      have HBB := Lib.hid (HB2.out.trans (hbel.mono HB2.out.size))
      clear hX hXs hTX hw32 hbel hown HOWN HBEL HT
      go_wp2_with fail
      refine (r3.out _ _ HW32.out).mono ?_
      rintro e w3 ⟨rfl, hb3⟩
      have HFIN := Lib.hid (HBB.out.trans (hb3.mono HBB.out.size))
      clear hb3
      go_wp2
      rw [HTX.out]
      refine bodyPost_ret (v := .tuple #[.string (X.extract 0 n), .int .i64 0]) (by simp [results, Tryd.results45, go_sem]) rfl ⟨rfl, HFIN.out⟩
end Go.Proofs.YtedgpglldlohfaaDoor.Cha

namespace Go.Proofs.YtedgpglldlohfaaDoor.Cha
open Go.RowKit Mur Lanes
set_option maxRecDepth 100000

/-- Whether a stream of n bytes is given. -/
def Good (key nonce : ByteArray) (n : Nat) : Prop := (key.size = 32 ∧ nonce.size = 12) ∧ n ≤ 6000
theorem stream_err (key nonce : ByteArray) (n : Nat) (w : World) (h : ¬ Good key nonce n) :
    Calls Tryd.prog 45 #[.string key, .string nonce, .int .i64 n] w fun e w' => e = .returned (.tuple #[.string ⟨#[]⟩, .int .i64 1]) ∧ Below w.heap.size w w' := by
  by_cases h1 : key.size = 32 ∧ nonce.size = 12
  · exact stream_far key nonce n w h1.1 h1.2 (.inr (by unfold Good at h; omega))
  · exact stream_none key nonce n w h1
/-- The stream of n bytes, as a text. -/
def streamB (key nonce : ByteArray) (n : Nat) : ByteArray := ⟨(streamT (stateZ key.data.toList nonce.data.toList) n).toArray⟩
theorem streamB_size (key nonce : ByteArray) (n : Nat) : (streamB key nonce n).size = n := streamT_length _ _
theorem stream_ok (key nonce : ByteArray) (n : Nat) (w : World) (h : Good key nonce n) :
    Calls Tryd.prog 45 #[.string key, .string nonce, .int .i64 n] w fun e w' => e = .returned (.tuple #[.string (streamB key nonce n), .int .i64 0]) ∧ Below w.heap.size w w' :=
  stream_some key nonce _ n w h.1.1 h.1.2 h.2 rfl
/-- A text hidden by the stream from its byte at_ on. -/
def hidB (key nonce s : ByteArray) (at_ : Nat) : ByteArray := LanesXor.xorS s ((streamB key nonce (at_ + s.size)).extract at_ (at_ + s.size))
theorem hidB_size (key nonce s : ByteArray) (at_ : Nat) : (hidB key nonce s at_).size = s.size := by
  show (List.toArray _).size = _
  simp [LanesXor.xorL]

set_option maxHeartbeats 800000 in
theorem behind_err (key nonce s : ByteArray) (at_ : Nat) (w : World) (h : ¬ Good key nonce (at_ + s.size)) (ha : at_ ≤ 64) (hs : s.size ≤ 140737488351232) :
    Calls Tryd.prog 40 #[.string key, .string nonce, .string s, .int .i64 at_] w fun e w' => e = .returned (.tuple #[.string ⟨#[]⟩, .int .i64 1]) ∧ Below w.heap.size w w' := by
  have r1 := Lib.hid (show ∀ u, Calls Tryd.prog 45 #[.string key, .string nonce, .int .i64 ((at_ : Int) + (s.size : Int))] u fun e w' => e = .returned (.tuple #[.string ⟨#[]⟩, .int .i64 1]) ∧ Below u.heap.size u w' from fun u => stream_err key nonce (at_ + s.size) u h)
  clear h
  go_enter Tryd.func40, Tryd.ntmps40
  go_wp2_with fail
  refine (r1.out _).mono ?_
  rintro e w1 ⟨rfl, hb1⟩
  go_wp2
  refine bodyPost_ret (v := .tuple #[.string ⟨#[]⟩, .int .i64 1]) (by simp [results, Tryd.results40, go_sem]) rfl ⟨rfl, hb1⟩

set_option maxHeartbeats 800000 in
theorem behind_ok (key nonce s T : ByteArray) (at_ : Nat) (w : World) (h : Good key nonce (at_ + s.size)) (hT : T = hidB key nonce s at_) :
    Calls Tryd.prog 40 #[.string key, .string nonce, .string s, .int .i64 at_] w fun e w' => e = .returned (.tuple #[.string T, .int .i64 0]) ∧ Below w.heap.size w w' := by
  obtain ⟨X, hX⟩ : ∃ X, X = streamB key nonce (at_ + s.size) := ⟨_, rfl⟩
  have hXs : X.size = at_ + s.size := by rw [hX, streamB_size]
  have hsm : at_ + s.size ≤ 6000 := h.2
  have hT2 : LanesXor.xorS s (X.extract at_ X.size) = T := by rw [hT, hXs, hX]; rfl
  have r1 := Lib.hid (show ∀ u, Calls Tryd.prog 45 #[.string key, .string nonce, .int .i64 ((at_ : Int) + (s.size : Int))] u fun e w' => e = .returned (.tuple #[.string X, .int .i64 0]) ∧ Below u.heap.size u w' from fun u => by rw [hX]; exact stream_ok key nonce (at_ + s.size) u h)
  have r2 := Lib.hid (fun u => LanesXor.xor_any s (X.extract at_ X.size) u (by omega) (by rw [ByteArray.size_extract]; omega))
  rw [hT2] at r2
  have hi : (at_ : Int) ≤ (X.size : Int) := by omega
  clear hX hXs hT hT2 h
  go_enter Tryd.func40, Tryd.ntmps40
  go_wp2_with fail
  refine (r1.out _).mono ?_
  rintro e w1 ⟨rfl, hb1⟩
  have HB1 := Lib.hid hb1
  clear hb1
  go_wp2_with fail
  refine (r2.out _).mono ?_
  rintro e w2 ⟨rfl, hb2⟩
  go_wp2
  refine bodyPost_ret (v := .tuple #[.string T, .int .i64 0]) (by simp [results, Tryd.results40, go_sem]) rfl ⟨rfl, HB1.out.trans (hb2.mono HB1.out.size)⟩

set_option maxHeartbeats 800000 in
theorem hide_ok (key nonce s T : ByteArray) (w : World) (h : Good key nonce s.size) (hT : T = hidB key nonce s 0) :
    Calls Tryd.prog 35 #[.string key, .string nonce, .string s] w fun e w' => e = .returned (.tuple #[.string T, .int .i64 0]) ∧ Below w.heap.size w w' := by
  have r1 := Lib.hid (fun u => behind_ok key nonce s T 0 u (by rw [Nat.zero_add]; exact h) hT)
  clear h hT
  go_enter Tryd.func35, Tryd.ntmps35
  go_wp2_with fail
  refine (r1.out _).mono ?_
  rintro e w1 ⟨rfl, hb1⟩
  go_wp2
  refine bodyPost_ret (v := .tuple #[.string T, .int .i64 0]) (by simp [results, Tryd.results35, go_sem]) rfl ⟨rfl, hb1⟩
set_option maxHeartbeats 800000 in
theorem hide_err (key nonce s : ByteArray) (w : World) (h : ¬ Good key nonce s.size) (hs : s.size ≤ 140737488351232) :
    Calls Tryd.prog 35 #[.string key, .string nonce, .string s] w fun e w' => e = .returned (.tuple #[.string ⟨#[]⟩, .int .i64 1]) ∧ Below w.heap.size w w' := by
  have r1 := Lib.hid (fun u => behind_err key nonce s 0 u (by rw [Nat.zero_add]; exact h) (by omega) hs)
  clear h
  go_enter Tryd.func35, Tryd.ntmps35
  go_wp2_with fail
  refine (r1.out _).mono ?_
  rintro e w1 ⟨rfl, hb1⟩
  go_wp2
  refine bodyPost_ret (v := .tuple #[.string ⟨#[]⟩, .int .i64 1]) (by simp [results, Tryd.results35, go_sem]) rfl ⟨rfl, hb1⟩
end Go.Proofs.YtedgpglldlohfaaDoor.Cha

namespace Go.Proofs.YtedgpglldlohfaaDoor.Cha
open Go.RowKit Mur Lanes

theorem text_append (a b : List Nat) (big : Bool) : text (a ++ b) big = text a big ++ text b big := by
  apply List.ext_getElem
  · simp only [text_length, List.length_append]
    omega
  intro i h1 h2
  rw [text_length, List.length_append] at h1
  by_cases h : i < 4 * a.length
  · rw [List.getElem_append_left (by rw [text_length]; exact h)]
    have e : i / 4 < a.length := by omega
    have e2 : i / 4 < a.length + b.length := by omega
    simp [text, List.getD, List.getElem?_append_left e]
  · rw [List.getElem_append_right (by rw [text_length]; omega)]
    have e : a.length ≤ i / 4 := by omega
    have e2 : i / 4 - a.length = (i - 4 * a.length) / 4 := by omega
    have e3 : shiftN i big = shiftN (i - 4 * a.length) big := by
      unfold shiftN
      have : i % 4 = (i - 4 * a.length) % 4 := by omega
      rw [this]
    simp only [text, List.getElem_map, List.getElem_range, List.getD, List.getElem?_append_right e, e2, e3, List.length_map, List.length_range]
theorem streamW_prefix (s : List Nat) (c d : Nat) : ∃ r, streamW s (c + d) = streamW s c ++ r := by
  induction d with
  | zero => exact ⟨[], by simp⟩
  | succ d ih =>
    obtain ⟨r, hr⟩ := ih
    exact ⟨r ++ blockW (s.set 12 (c + d)), by rw [← List.append_assoc, ← hr]; rfl⟩
/-- A longer stream begins with a shorter one. -/
theorem streamT_take (s : List Nat) (m n : Nat) (h : m ≤ n) : (streamT s n).take m = streamT s m := by
  have hb : blocks m ≤ blocks n := by unfold blocks; omega
  obtain ⟨r, hr⟩ := streamW_prefix s (blocks m) (blocks n - blocks m)
  have e : blocks m + (blocks n - blocks m) = blocks n := by omega
  rw [e] at hr
  unfold streamT
  rw [List.take_take, hr, text_append, Nat.min_eq_left h]
  refine List.take_append_of_le_length ?_
  rw [text_length, streamW_length]
  unfold blocks
  omega
theorem streamT_block (s : List Nat) : streamT s 64 = blockT s 0 := by
  show (text ([] ++ blockW (s.set 12 0)) false).take 64 = _
  rw [List.nil_append]
  refine List.take_of_length_le ?_
  rw [text_length]
  show 4 * (sumTo _ _ 16).length ≤ 64
  rw [sumTo_length]
  omega
theorem extract_take (x : ByteArray) (n : Nat) : (x.extract 0 n).data.toList = x.data.toList.take n := by
  simp [ByteArray.data_extract]
theorem streamB_take (key nonce : ByteArray) (m n : Nat) (h : m ≤ n) : (streamB key nonce n).extract 0 m = streamB key nonce m := by
  apply ByteArray.ext
  apply Array.toList_inj.1
  rw [extract_take]
  show (streamT _ n).take m = streamT _ m
  exact streamT_take _ m n h

theorem xorL_getD (a b : List UInt8) (i : Nat) (h : i < a.length) : (LanesXor.xorL a b).getD i 0 = LanesXor.xorAt a b i := by simp [LanesXor.xorL, List.getD, h]
theorem xorL_back (a b : List UInt8) : LanesXor.xorL (LanesXor.xorL a b) b = a := by
  have hl : (LanesXor.xorL a b).length = a.length := by simp [LanesXor.xorL]
  apply List.ext_getElem (by simp [LanesXor.xorL])
  intro i h1 h2
  have e := xorL_getD a b i h2
  simp only [LanesXor.xorL, List.getElem_map, List.getElem_range] at *
  rw [LanesXor.xorAt]
  split
  · rename_i hb
    rw [e, LanesXor.xorAt, if_pos hb, UInt8.xor_assoc, UInt8.xor_self, UInt8.xor_zero]
    simp [List.getD, h2]
  · rename_i hb
    rw [e, LanesXor.xorAt, if_neg hb]
    simp [List.getD, h2]
theorem xorS_back (a b : ByteArray) : LanesXor.xorS (LanesXor.xorS a b) b = a := by
  show (⟨(LanesXor.xorL (LanesXor.xorL a.data.toList b.data.toList).toArray.toList b.data.toList).toArray⟩ : ByteArray) = a
  rw [List.toList_toArray, xorL_back]
/-- Hidden twice a text is as it was. -/
theorem hidB_back (key nonce s : ByteArray) (at_ : Nat) : hidB key nonce (hidB key nonce s at_) at_ = s := by
  unfold hidB
  rw [show (LanesXor.xorS s ((streamB key nonce (at_ + s.size)).extract at_ (at_ + s.size))).size = s.size from hidB_size key nonce s at_]
  exact xorS_back _ _
end Go.Proofs.YtedgpglldlohfaaDoor.Cha
