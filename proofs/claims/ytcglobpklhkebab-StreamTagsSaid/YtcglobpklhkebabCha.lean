/-
  The plain mathematics of package stream's first half (ChaCha20): quarters, mixed states, blocks and streams as functions on numbers and lists. Nothing here speaks of a program: no condition but those that each lemma names.
-/
import Derived.Test.YtcglobpklhkebabSha
import Derived.Test.YtcglobpklhkebabLanesXor
namespace Go.Proofs.Ytcglobpklhkebab.Cha
open Go.RowKit Mur Lanes

/-- The word x turned by n to the left. -/
def spin (x n : Nat) : Nat := x * 2 ^ n % 4294967296 ||| x / 2 ^ (32 - n)
theorem spin_lt (x n : Nat) (h : x < 4294967296) : spin x n < 4294967296 :=
  Nat.or_lt_two_pow (n := 32) (Nat.mod_lt _ (by decide)) (Nat.lt_of_le_of_lt (Nat.div_le_self _ _) h)

structure Q4 where
  a : Nat
  b : Nat
  c : Nat
  d : Nat
deriving DecidableEq

def Q4.Ok (q : Q4) : Prop := q.a < 4294967296 ∧ q.b < 4294967296 ∧ q.c < 4294967296 ∧ q.d < 4294967296
def half (q : Q4) (x y : Nat) : Q4 :=
  ⟨(q.a + q.b) % 4294967296, spin (q.b ^^^ ((q.c + spin (q.d ^^^ ((q.a + q.b) % 4294967296)) x) % 4294967296)) y,
    (q.c + spin (q.d ^^^ ((q.a + q.b) % 4294967296)) x) % 4294967296, spin (q.d ^^^ ((q.a + q.b) % 4294967296)) x⟩
def quarter (q : Q4) : Q4 := half (half q 16 12) 8 7

theorem xor_lt {a b : Nat} (ha : a < 4294967296) (hb : b < 4294967296) : a ^^^ b < 4294967296 := Nat.xor_lt_two_pow (n := 32) ha hb
theorem half_ok (q : Q4) (x y : Nat) (h : q.Ok) : (half q x y).Ok := by
  obtain ⟨h1, h2, h3, h4⟩ := h
  exact ⟨Nat.mod_lt _ (by decide), spin_lt _ _ (xor_lt h2 (Nat.mod_lt _ (by decide))), Nat.mod_lt _ (by decide), spin_lt _ _ (xor_lt h4 (Nat.mod_lt _ (by decide)))⟩
theorem quarter_ok (q : Q4) (h : q.Ok) : (quarter q).Ok := half_ok _ _ _ (half_ok _ _ _ h)

theorem spin_sum (v n : Nat) (hv : v < 4294967296) (h1 : 1 ≤ n) (h2 : n ≤ 31) : spin v n = (v % 2 ^ (32 - n)) * 2 ^ n + v / 2 ^ (32 - n) := by
  have e : (2 : Nat) ^ (32 - n) * 2 ^ n = 4294967296 := by rw [← Nat.pow_add, show 32 - n + n = 32 by omega]
  have e1 : v * 2 ^ n % 4294967296 = (v % 2 ^ (32 - n)) * 2 ^ n := by rw [← e, Nat.mul_mod_mul_right]
  have e2 : v / 2 ^ (32 - n) < 2 ^ n := by
    rw [Nat.div_lt_iff_lt_mul (Nat.two_pow_pos _), Nat.mul_comm, e]
    exact hv
  unfold spin
  rw [e1, or_add' _ _ _ e2]
theorem spin_back (v n : Nat) (hv : v < 4294967296) (hn : n = 7 ∨ n = 8 ∨ n = 12 ∨ n = 16) : spin (spin v n) (32 - n) = v := by
  have h0 := spin_lt v n hv
  rcases hn with rfl | rfl | rfl | rfl
  all_goals
    rw [spin_sum _ (32 - _) h0 (by omega) (by omega)]
    rw [spin_sum v _ hv (by omega) (by omega)]
    simp only [Nat.reduceSub, Nat.reducePow]
    omega

/-- A half brought back. -/
def unhalf (q : Q4) (x y : Nat) : Q4 :=
  ⟨(q.a + 4294967296 - (spin q.b (32 - y) ^^^ q.c)) % 4294967296, spin q.b (32 - y) ^^^ q.c, (q.c + 4294967296 - q.d) % 4294967296, spin q.d (32 - x) ^^^ q.a⟩
def back (q : Q4) : Q4 := unhalf (unhalf q 8 7) 16 12
theorem unhalf_half (q : Q4) (x y : Nat) (h : q.Ok) (hx : x = 7 ∨ x = 8 ∨ x = 12 ∨ x = 16) (hy : y = 7 ∨ y = 8 ∨ y = 12 ∨ y = 16) : unhalf (half q x y) x y = q := by
  obtain ⟨a, b, c, d⟩ := q
  obtain ⟨h1, h2, h3, h4⟩ := h
  dsimp only at h1 h2 h3 h4
  have m1 : (a + b) % 4294967296 < 4294967296 := Nat.mod_lt _ (by decide)
  generalize hA : (a + b) % 4294967296 = A at m1
  have m2 : spin (d ^^^ A) x < 4294967296 := spin_lt _ _ (xor_lt h4 m1)
  have m3 : (c + spin (d ^^^ A) x) % 4294967296 < 4294967296 := Nat.mod_lt _ (by decide)
  simp only [unhalf, half, hA]
  rw [spin_back _ x (xor_lt h4 m1) hx, spin_back _ y (xor_lt h2 m3) hy, Nat.xor_assoc, Nat.xor_self, Nat.xor_zero, Nat.xor_assoc, Nat.xor_self, Nat.xor_zero]
  generalize spin (d ^^^ A) x = D at m2
  congr 1 <;> omega
theorem back_quarter (q : Q4) (h : q.Ok) : back (quarter q) = q := by
  unfold back quarter
  rw [unhalf_half _ 8 7 (half_ok _ _ _ h) (by omega) (by omega), unhalf_half _ 16 12 h (by omega) (by omega)]
theorem unhalf_ok (q : Q4) (x y : Nat) (h : q.Ok) : (unhalf q x y).Ok := by
  obtain ⟨h1, h2, h3, h4⟩ := h
  exact ⟨Nat.mod_lt _ (by decide), xor_lt (spin_lt _ _ h2) h3, Nat.mod_lt _ (by decide), xor_lt (spin_lt _ _ h4) h1⟩
theorem back_ok (q : Q4) (h : q.Ok) : (back q).Ok := unhalf_ok _ _ _ (unhalf_ok _ _ _ h)

/-- Four places of a state, by f. -/
def at4 (s : List Nat) (i j k l : Nat) : Q4 := ⟨s.getD i 0, s.getD j 0, s.getD k 0, s.getD l 0⟩
def put4 (s : List Nat) (i j k l : Nat) (q : Q4) : List Nat := (((s.set i q.a).set j q.b).set k q.c).set l q.d
def on (s : List Nat) (i j k l : Nat) : List Nat := put4 s i j k l (quarter (at4 s i j k l))
def unOn (s : List Nat) (i j k l : Nat) : List Nat := put4 s i j k l (back (at4 s i j k l))
/-- The places of the quarter i of a slant. -/
def pb (t i : Nat) : Nat := 4 + (i + t) % 4
def pc (t i : Nat) : Nat := 8 + (i + 2 * t) % 4
def pd (t i : Nat) : Nat := 12 + (i + 3 * t) % 4
def slant (s : List Nat) (t : Nat) : Nat → List Nat
  | 0 => s
  | i + 1 => on (slant s t i) i (pb t i) (pc t i) (pd t i)
def mixed (s : List Nat) : List Nat := slant (slant s 0 4) 1 4
def unslant (s : List Nat) (t : Nat) : Nat → List Nat
  | 0 => s
  | i + 1 => unOn (unslant s t i) i (pb t i) (pc t i) (pd t i)
def unmixed (s : List Nat) : List Nat := unslant (unslant s 1 4) 0 4

def Words16 (s : List Nat) : Prop := s.length = 16 ∧ ∀ x ∈ s, x < 4294967296
theorem Words16.at {s : List Nat} (h : Words16 s) (i : Nat) : s.getD i 0 < 4294967296 := by
  by_cases hi : i < s.length
  · rw [List.getD, List.getElem?_eq_getElem hi]
    exact h.2 _ (List.getElem_mem hi)
  · rw [List.getD, List.getElem?_eq_none (by omega)]
    decide
theorem Words16.at4 {s : List Nat} (h : Words16 s) (i j k l : Nat) : (at4 s i j k l).Ok := ⟨h.at i, h.at j, h.at k, h.at l⟩
theorem Words16.set {s : List Nat} (h : Words16 s) (i x : Nat) (hx : x < 4294967296) : Words16 (s.set i x) := by
  refine ⟨by rw [List.length_set]; exact h.1, fun y hy => ?_⟩
  rcases List.mem_or_eq_of_mem_set hy with hy | rfl
  · exact h.2 y hy
  · exact hx
theorem Words16.put4 {s : List Nat} (h : Words16 s) (i j k l : Nat) {q : Q4} (hq : q.Ok) : Words16 (put4 s i j k l q) :=
  (((h.set i _ hq.1).set j _ hq.2.1).set k _ hq.2.2.1).set l _ hq.2.2.2
theorem Words16.on {s : List Nat} (h : Words16 s) (i j k l : Nat) : Words16 (on s i j k l) := h.put4 _ _ _ _ (quarter_ok _ (h.at4 _ _ _ _))
theorem Words16.unOn {s : List Nat} (h : Words16 s) (i j k l : Nat) : Words16 (unOn s i j k l) := h.put4 _ _ _ _ (back_ok _ (h.at4 _ _ _ _))
theorem Words16.slant {s : List Nat} (h : Words16 s) (t i : Nat) : Words16 (slant s t i) := by
  induction i with
  | zero => exact h
  | succ i ih => exact ih.on _ _ _ _
theorem Words16.unslant {s : List Nat} (h : Words16 s) (t i : Nat) : Words16 (unslant s t i) := by
  induction i with
  | zero => exact h
  | succ i ih => exact ih.unOn _ _ _ _
theorem Words16.mixed {s : List Nat} (h : Words16 s) : Words16 (mixed s) := (h.slant 0 4).slant 1 4

theorem list16 {s : List Nat} (h : s.length = 16) : ∃ a b c d e f g i j k l m n o p q, s = [a, b, c, d, e, f, g, i, j, k, l, m, n, o, p, q] := by
  match s, h with
  | [a, b, c, d, e, f, g, i, j, k, l, m, n, o, p, q], _ => exact ⟨a, b, c, d, e, f, g, i, j, k, l, m, n, o, p, q, rfl⟩
/-- The quarters of a slant, side by side. -/
theorem slant_lit (a b c d e f g i j k l m n o p q : Nat) : slant [a, b, c, d, e, f, g, i, j, k, l, m, n, o, p, q] 0 4 =
    [(quarter ⟨a, e, j, n⟩).a, (quarter ⟨b, f, k, o⟩).a, (quarter ⟨c, g, l, p⟩).a, (quarter ⟨d, i, m, q⟩).a, (quarter ⟨a, e, j, n⟩).b, (quarter ⟨b, f, k, o⟩).b, (quarter ⟨c, g, l, p⟩).b, (quarter ⟨d, i, m, q⟩).b,
      (quarter ⟨a, e, j, n⟩).c, (quarter ⟨b, f, k, o⟩).c, (quarter ⟨c, g, l, p⟩).c, (quarter ⟨d, i, m, q⟩).c, (quarter ⟨a, e, j, n⟩).d, (quarter ⟨b, f, k, o⟩).d, (quarter ⟨c, g, l, p⟩).d, (quarter ⟨d, i, m, q⟩).d] := by
  simp only [slant, on, pb, pc, pd, put4, at4]
  simp
theorem slant_lit' (a b c d e f g i j k l m n o p q : Nat) : slant [a, b, c, d, e, f, g, i, j, k, l, m, n, o, p, q] 1 4 =
    [(quarter ⟨a, f, l, q⟩).a, (quarter ⟨b, g, m, n⟩).a, (quarter ⟨c, i, j, o⟩).a, (quarter ⟨d, e, k, p⟩).a, (quarter ⟨d, e, k, p⟩).b, (quarter ⟨a, f, l, q⟩).b, (quarter ⟨b, g, m, n⟩).b, (quarter ⟨c, i, j, o⟩).b,
      (quarter ⟨c, i, j, o⟩).c, (quarter ⟨d, e, k, p⟩).c, (quarter ⟨a, f, l, q⟩).c, (quarter ⟨b, g, m, n⟩).c, (quarter ⟨b, g, m, n⟩).d, (quarter ⟨c, i, j, o⟩).d, (quarter ⟨d, e, k, p⟩).d, (quarter ⟨a, f, l, q⟩).d] := by
  simp only [slant, on, pb, pc, pd, put4, at4]
  simp
theorem unslant_lit (a b c d e f g i j k l m n o p q : Nat) : unslant [a, b, c, d, e, f, g, i, j, k, l, m, n, o, p, q] 0 4 =
    [(back ⟨a, e, j, n⟩).a, (back ⟨b, f, k, o⟩).a, (back ⟨c, g, l, p⟩).a, (back ⟨d, i, m, q⟩).a, (back ⟨a, e, j, n⟩).b, (back ⟨b, f, k, o⟩).b, (back ⟨c, g, l, p⟩).b, (back ⟨d, i, m, q⟩).b,
      (back ⟨a, e, j, n⟩).c, (back ⟨b, f, k, o⟩).c, (back ⟨c, g, l, p⟩).c, (back ⟨d, i, m, q⟩).c, (back ⟨a, e, j, n⟩).d, (back ⟨b, f, k, o⟩).d, (back ⟨c, g, l, p⟩).d, (back ⟨d, i, m, q⟩).d] := by
  simp only [unslant, unOn, pb, pc, pd, put4, at4]
  simp
theorem unslant_lit' (a b c d e f g i j k l m n o p q : Nat) : unslant [a, b, c, d, e, f, g, i, j, k, l, m, n, o, p, q] 1 4 =
    [(back ⟨a, f, l, q⟩).a, (back ⟨b, g, m, n⟩).a, (back ⟨c, i, j, o⟩).a, (back ⟨d, e, k, p⟩).a, (back ⟨d, e, k, p⟩).b, (back ⟨a, f, l, q⟩).b, (back ⟨b, g, m, n⟩).b, (back ⟨c, i, j, o⟩).b,
      (back ⟨c, i, j, o⟩).c, (back ⟨d, e, k, p⟩).c, (back ⟨a, f, l, q⟩).c, (back ⟨b, g, m, n⟩).c, (back ⟨b, g, m, n⟩).d, (back ⟨c, i, j, o⟩).d, (back ⟨d, e, k, p⟩).d, (back ⟨a, f, l, q⟩).d] := by
  simp only [unslant, unOn, pb, pc, pd, put4, at4]
  simp
theorem eta4 (q : Q4) : (⟨q.a, q.b, q.c, q.d⟩ : Q4) = q := rfl
theorem unslant_slant {s : List Nat} (h : Words16 s) : unslant (slant s 0 4) 0 4 = s := by
  obtain ⟨a, b, c, d, e, f, g, i, j, k, l, m, n, o, p, q, rfl⟩ := list16 h.1
  rw [slant_lit, unslant_lit]
  simp only [eta4]
  have e0 : back (quarter ⟨a, e, j, n⟩) = ⟨a, e, j, n⟩ := back_quarter _ (h.at4 0 4 8 12)
  have e1 : back (quarter ⟨b, f, k, o⟩) = ⟨b, f, k, o⟩ := back_quarter _ (h.at4 1 5 9 13)
  have e2 : back (quarter ⟨c, g, l, p⟩) = ⟨c, g, l, p⟩ := back_quarter _ (h.at4 2 6 10 14)
  have e3 : back (quarter ⟨d, i, m, q⟩) = ⟨d, i, m, q⟩ := back_quarter _ (h.at4 3 7 11 15)
  rw [e0, e1, e2, e3]
theorem unslant_slant' {s : List Nat} (h : Words16 s) : unslant (slant s 1 4) 1 4 = s := by
  obtain ⟨a, b, c, d, e, f, g, i, j, k, l, m, n, o, p, q, rfl⟩ := list16 h.1
  rw [slant_lit', unslant_lit']
  simp only [eta4]
  have e0 : back (quarter ⟨a, f, l, q⟩) = ⟨a, f, l, q⟩ := back_quarter _ (h.at4 0 5 10 15)
  have e1 : back (quarter ⟨b, g, m, n⟩) = ⟨b, g, m, n⟩ := back_quarter _ (h.at4 1 6 11 12)
  have e2 : back (quarter ⟨c, i, j, o⟩) = ⟨c, i, j, o⟩ := back_quarter _ (h.at4 2 7 8 13)
  have e3 : back (quarter ⟨d, e, k, p⟩) = ⟨d, e, k, p⟩ := back_quarter _ (h.at4 3 4 9 14)
  rw [e0, e1, e2, e3]
theorem unmixed_mixed {s : List Nat} (h : Words16 s) : unmixed (mixed s) = s := by
  unfold unmixed mixed
  rw [unslant_slant' (h.slant 0 4), unslant_slant h]
end Go.Proofs.Ytcglobpklhkebab.Cha
