/-
  Limbs as lists of five cells with the number that they are worth, for walks that keep what is in a block under a name; the contracts of package limbs in these words. No condition but those that each lemma names.
-/
import Derived.Test.YtcglobpklhkebaaHold
import Derived.Test.YtcglobpklhkebaaLmbPow
namespace Go.Proofs.Ytcglobpklhkebaa.Limb
open Go.RowKit Mur Lanes Hold
set_option maxRecDepth 100000

/-- Five cells that are worth N. -/
def LimL (X : List Value) (N : Nat) : Prop := Lims (.agg X.toArray) N
def limL (n : Nat) : List Value := numsV (lim n)
theorem limV_L (n : Nat) : limV n = .agg (limL n).toArray := rfl
theorem LimL.out {X : List Value} {N : Nat} (h : LimL X N) : ∃ a b c d e : Nat, X = fiveL a b c d e ∧ Words5 a b c d e ∧ wor a b c d e = N := by
  obtain ⟨a, b, c, d, e, h1, h2, h3⟩ := h
  exact ⟨a, b, c, d, e, by simpa [five] using h1, h2, h3⟩
theorem LimL.len {X : List Value} {N : Nat} (h : LimL X N) : X.length = 5 := by
  obtain ⟨a, b, c, d, e, rfl, -, -⟩ := h.out
  rfl
theorem LimL.one {X : List Value} {N : Nat} (h : LimL X N) : Single X := by
  obtain ⟨a, b, c, d, e, rfl, -, -⟩ := h.out
  unfold Single
  simp [Value.oneCell']
theorem LimL.ofLim {n : Nat} (h : n < 57896044618658097711785492504343953926634992332820282019728792003956564819968) : LimL (limL n) n := lims_lim h
theorem LimL.ofMod (n : Nat) : LimL (limL (n % Prime.P)) (n % Prime.P) := lims_mod n
theorem LimL.ofSub (x y : Nat) : LimL (limL (subP x y)) (subP x y) := lims_sub x y
theorem LimL.ofFive {a b c d e : Nat} (h : Words5 a b c d e) : LimL (fiveL a b c d e) (wor a b c d e) := lims_five h
theorem row_limbs : TyRow Try.prog 24 5 := ⟨_, Try.underlying24, rfl, by kernel_rfl⟩
def zeros5 : List Value := fiveL 0 0 0 0 0
theorem zero_limbs5 : (Try.prog.info? 24).map (fun i => (i.zero, i.size)) = some (some (.agg zeros5.toArray), zeros5.length) := by kernel_rfl
theorem zeros5_length : zeros5.length = 5 := rfl
theorem LimL.row {X : List Value} {N : Nat} (h : LimL X N) : TyRow Try.prog 24 X.length := by
  rw [h.len]
  exact row_limbs

theorem carry_l {X : List Value} {N : Nat} (h : LimL X N) (u : World) : Calls Try.prog 14 #[.agg X.toArray] u fun r w' => r = .returned (.agg (limL (N % Prime.P)).toArray) ∧ Below u.heap.size u w' := carry_val h u
theorem add_l {X Y : List Value} {N M : Nat} (h : LimL X N) (h' : LimL Y M) (u : World) : Calls Try.prog 18 #[.agg X.toArray, .agg Y.toArray] u fun r w' => r = .returned (.agg (limL ((N + M) % Prime.P)).toArray) ∧ Below u.heap.size u w' := add_val h h' u
theorem sub_l {X Y : List Value} {N M : Nat} (h : LimL X N) (h' : LimL Y M) (u : World) : Calls Try.prog 20 #[.agg X.toArray, .agg Y.toArray] u fun r w' => r = .returned (.agg (limL (subP N M)).toArray) ∧ Below u.heap.size u w' := sub_val h h' u
theorem times_l {X Y : List Value} {N M : Nat} (h : LimL X N) (h' : LimL Y M) (u : World) : Calls Try.prog 22 #[.agg X.toArray, .agg Y.toArray] u fun r w' => r = .returned (.agg (limL (N * M % Prime.P)).toArray) ∧ Below u.heap.size u w' := times_val h h' u
theorem scale_l {X : List Value} {N n : Nat} (h : LimL X N) (hn : n < 18446744073709551616) (u : World) : Calls Try.prog 24 #[.agg X.toArray, .int .u64 n] u fun r w' => r = .returned (.agg (limL (N * n % Prime.P)).toArray) ∧ Below u.heap.size u w' := scale_val h hn u
theorem square_l {X : List Value} {N : Nat} (h : LimL X N) (u : World) : Calls Try.prog 26 #[.agg X.toArray, .int .i64 1] u fun r w' => r = .returned (.agg (limL (N * N % Prime.P)).toArray) ∧ Below u.heap.size u w' := by
  have := square_val h 1 (by decide) (by decide) u
  rw [show times 1 = 1 by decide, Nat.pow_one, Nat.pow_two] at this
  exact this
theorem invert_l {X : List Value} {N : Nat} (h : LimL X N) (u : World) : Calls Try.prog 28 #[.agg X.toArray] u fun r w' => r = .returned (.agg (limL (N ^ (Prime.P - 2) % Prime.P)).toArray) ∧ Below u.heap.size u w' := invert_val h u
theorem swap_l {X Y : List Value} {N M n : Nat} (h : LimL X N) (h' : LimL Y M) (hn : n < 9223372036854775808) (u : World) : Calls Try.prog 10 #[.agg X.toArray, .agg Y.toArray, .int .i64 n] u fun r w' => r = .returned (.tuple #[.agg (if n % 2 = 1 then Y else X).toArray, .agg (if n % 2 = 1 then X else Y).toArray]) ∧ Below u.heap.size u w' := by
  have := swap_val h h' hn u
  by_cases e : n % 2 = 1
  · simp only [if_pos e] at this ⊢
    exact this
  · simp only [if_neg e] at this ⊢
    exact this
end Go.Proofs.Ytcglobpklhkebaa.Limb
