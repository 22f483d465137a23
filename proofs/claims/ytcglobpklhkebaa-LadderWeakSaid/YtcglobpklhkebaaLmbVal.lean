/-
  Limbs as values, with the number that they are worth; sums, differences and products of such values; '==' of limbs. Nothing here has a condition but those that each lemma names.
-/
import Derived.Test.YtcglobpklhkebaaLmbMul
import Derived.Laws.StructEq
namespace Go.Proofs.Ytcglobpklhkebaa.Limb
open Go.RowKit Mur Lanes
set_option maxRecDepth 100000

/-- v is five limbs that are worth N. -/
def Lims (v : Value) (N : Nat) : Prop := ∃ a b c d e : Nat, v = five a b c d e ∧ Words5 a b c d e ∧ wor a b c d e = N
theorem P_lt : Prime.P < 57896044618658097711785492504343953926634992332820282019728792003956564819968 := by decide
theorem P_pos : 0 < Prime.P := by decide
theorem lims_lim {N : Nat} (h : N < 57896044618658097711785492504343953926634992332820282019728792003956564819968) : Lims (limV N) N :=
  ⟨_, _, _, _, _, rfl, ⟨by omega, by omega, by omega, by omega, by omega⟩, wor_lim h⟩
theorem lims_mod (N : Nat) : Lims (limV (N % Prime.P)) (N % Prime.P) := lims_lim (Nat.lt_trans (Nat.mod_lt _ P_pos) P_lt)
theorem subP_lt (x y : Nat) : subP x y < Prime.P := Nat.mod_lt _ P_pos
theorem lims_sub (x y : Nat) : Lims (limV (subP x y)) (subP x y) := lims_lim (Nat.lt_trans (subP_lt x y) P_lt)
theorem lims_five {a b c d e : Nat} (h : Words5 a b c d e) : Lims (five a b c d e) (wor a b c d e) := ⟨a, b, c, d, e, rfl, h, rfl⟩

theorem carry_val {v : Value} {N : Nat} (h : Lims v N) (u : World) : Calls Try.prog 14 #[v] u fun r w' => r = .returned (limV (N % Prime.P)) ∧ Below u.heap.size u w' := by
  obtain ⟨a, b, c, d, e, rfl, h1, rfl⟩ := h
  exact carry_any a b c d e u h1
theorem add_val {v v' : Value} {N N' : Nat} (h : Lims v N) (h' : Lims v' N') (u : World) : Calls Try.prog 18 #[v, v'] u fun r w' => r = .returned (limV ((N + N') % Prime.P)) ∧ Below u.heap.size u w' := by
  obtain ⟨a, b, c, d, e, rfl, h1, rfl⟩ := h
  obtain ⟨a', b', c', d', e', rfl, h2, rfl⟩ := h'
  exact add_any a b c d e a' b' c' d' e' u h1 h2
theorem sub_val {v v' : Value} {N N' : Nat} (h : Lims v N) (h' : Lims v' N') (u : World) : Calls Try.prog 20 #[v, v'] u fun r w' => r = .returned (limV (subP N N')) ∧ Below u.heap.size u w' := by
  obtain ⟨a, b, c, d, e, rfl, h1, rfl⟩ := h
  obtain ⟨a', b', c', d', e', rfl, h2, rfl⟩ := h'
  exact sub_any a b c d e a' b' c' d' e' u h1 h2
theorem times_val {v v' : Value} {N N' : Nat} (h : Lims v N) (h' : Lims v' N') (u : World) : Calls Try.prog 22 #[v, v'] u fun r w' => r = .returned (limV (N * N' % Prime.P)) ∧ Below u.heap.size u w' := by
  obtain ⟨a, b, c, d, e, rfl, h1, rfl⟩ := h
  obtain ⟨a', b', c', d', e', rfl, h2, rfl⟩ := h'
  exact times_any a b c d e a' b' c' d' e' u h1 h2

/-- '==' of limbs. -/
theorem eq_five (a b c d e a' b' c' d' e' : Int) (w : World) : (Op.equalIn 10000 24 (.agg #[.int .u64 a, .int .u64 b, .int .u64 c, .int .u64 d, .int .u64 e]) (.agg #[.int .u64 a', .int .u64 b', .int .u64 c', .int .u64 d', .int .u64 e'])).run Try.prog w =
    .ok (decide (a = a' ∧ b = b' ∧ c = c' ∧ d = d' ∧ e = e')) w := by
  have u22 := Try.underlying22
  have a22 := Try.isAgg22
  have z22 := Try.sizeOf22
  rw [show (10000 : Nat) = 9999 + 1 from rfl, Op.equalIn]
  simp only [Sem.run_bind, run_underlying Try.underlying24, Result.andThen_ok]
  simp only [Std.Legacy.Range.forIn_eq_forIn_range', Std.Legacy.Range.size, Nat.sub_zero, Nat.add_sub_cancel, Nat.div_one, List.range'_succ, List.range'_zero, List.forIn_cons, List.forIn_nil]
  by_cases h1 : a = a'
  · by_cases h2 : b = b'
    · by_cases h3 : c = c'
      · by_cases h4 : d = d'
        · by_cases h5 : e = e'
          · subst h1 h2 h3 h4 h5
            go_simp
          · have g5 : (e == e') = false := by simpa using h5
            subst h1 h2 h3 h4
            go_simp
        · have g4 : (d == d') = false := by simpa using h4
          subst h1 h2 h3
          go_simp
      · have g3 : (c == c') = false := by simpa using h3
        subst h1 h2
        go_simp
    · have g2 : (b == b') = false := by simpa using h2
      subst h1
      go_simp
  · have g1 : (a == a') = false := by simpa using h1
    go_simp
theorem eq_lim {m n : Nat} (hm : m < 57896044618658097711785492504343953926634992332820282019728792003956564819968) (hn : n < 57896044618658097711785492504343953926634992332820282019728792003956564819968) (w : World) :
    (Op.equalIn 10000 24 (limV m) (limV n)).run Try.prog w = .ok (decide (m = n)) w := by
  refine (eq_five _ _ _ _ _ _ _ _ _ _ w).trans ?_
  congr 1
  have h1 := wor_lim hm
  have h2 := wor_lim hn
  refine decide_eq_decide.2 ⟨fun h => ?_, fun h => by subst h; exact ⟨rfl, rfl, rfl, rfl, rfl⟩⟩
  obtain ⟨e1, e2, e3, e4, e5⟩ := h
  rw [Int.ofNat_inj.1 e1, Int.ofNat_inj.1 e2, Int.ofNat_inj.1 e3, Int.ofNat_inj.1 e4, Int.ofNat_inj.1 e5] at h1
  exact h1.symm.trans h2
end Go.Proofs.Ytcglobpklhkebaa.Limb
