/-
  The small functions of package limbs (eased, plus, over, limb, reduced) answer what the plain mathematics of the text Limb says, and leave all memory that was there as it was. Conditions: words below 2^64, sums below 2^128.
-/
import Derived.Test.YtcglobpklhkebaaChecked
import Derived.Test.YtcglobpklhkebaaLimb
import Derived.Test.YtcglobpklhkebaaWhole
import Derived.Test.YtcglobpklhkebaaLnBase
import Derived.Test.YtcglobpklhkebaaShelf
import Derived.Laws.Externs
import Derived.BigQuiet
import Derived.Deep.QuietTactic
namespace Go.Proofs.Ytcglobpklhkebaa.Limb
open Go.RowKit Mur Lanes
set_option maxRecDepth 100000

theorem mask51 (a : Nat) (ha : a < 18446744073709551616) : bits .and .u64 (a : Int) 2251799813685247 = ((a % 2251799813685248 : Nat) : Int) := by
  have h := bits_and_u64_nat a 2251799813685247 ha (by omega)
  have e : a &&& 2251799813685247 = a % 2251799813685248 := Nat.and_two_pow_sub_one_eq_mod a 51
  rw [e] at h
  exact h
theorem div51 (a : Nat) : (a : Int) / 2251799813685248 = ((a / 2251799813685248 : Nat) : Int) := by omega
theorem mulN (a b : Nat) : (a : Int) * (b : Int) = ((a * b : Nat) : Int) := (Int.natCast_mul a b).symm
theorem addN (a b : Nat) : (a : Int) + (b : Int) = ((a + b : Nat) : Int) := (Int.natCast_add a b).symm
theorem add19 (a : Nat) : (a : Int) + 19 = ((a + 19 : Nat) : Int) := by omega
theorem mul19 (a : Nat) : (a : Int) * 19 = ((a * 19 : Nat) : Int) := by omega
theorem mul19' (a : Nat) : 19 * (a : Int) = ((19 * a : Nat) : Int) := by omega
theorem wrapN (a : Nat) (ha : a < 18446744073709551616) : IntKind.u64.wrap (a : Int) = (a : Int) := by rw [IntKind.wrap_u64]; omega

set_option maxHeartbeats 800000 in
theorem eased_any (a b c d e : Nat) (w : World) (h : Words5 a b c d e) :
    Calls Try.prog 55 #[.int .u64 a, .int .u64 b, .int .u64 c, .int .u64 d, .int .u64 e] w fun r w' => r = .returned (.tuple #[.int .u64 ((a % 2251799813685248 + e / 2251799813685248 * 19 : Nat) : Int), .int .u64 ((b % 2251799813685248 + a / 2251799813685248 : Nat) : Int), .int .u64 ((c % 2251799813685248 + b / 2251799813685248 : Nat) : Int), .int .u64 ((d % 2251799813685248 + c / 2251799813685248 : Nat) : Int), .int .u64 ((e % 2251799813685248 + d / 2251799813685248 : Nat) : Int)]) ∧ w = w' := by
  obtain ⟨ha, hb, hc, hd, he⟩ := h
  go_enter Try.func55, Try.ntmps55
  go_wp2
  have h1 : a % 2251799813685248 + e / 2251799813685248 * 19 < 18446744073709551616 := by omega
  have h2 : b % 2251799813685248 + a / 2251799813685248 < 18446744073709551616 := by omega
  have h3 : c % 2251799813685248 + b / 2251799813685248 < 18446744073709551616 := by omega
  have h4 : d % 2251799813685248 + c / 2251799813685248 < 18446744073709551616 := by omega
  have h5 : e % 2251799813685248 + d / 2251799813685248 < 18446744073709551616 := by omega
  simp only [mask51 _ ha, mask51 _ hb, mask51 _ hc, mask51 _ hd, mask51 _ he, div51, mul19, addN, wrapN _ h1, wrapN _ h2, wrapN _ h3, wrapN _ h4, wrapN _ h5]
  exact bodyPost_ret (v := .tuple #[.int .u64 ((a % 2251799813685248 + e / 2251799813685248 * 19 : Nat) : Int), .int .u64 ((b % 2251799813685248 + a / 2251799813685248 : Nat) : Int), .int .u64 ((c % 2251799813685248 + b / 2251799813685248 : Nat) : Int), .int .u64 ((d % 2251799813685248 + c / 2251799813685248 : Nat) : Int), .int .u64 ((e % 2251799813685248 + d / 2251799813685248 : Nat) : Int)]) (by simp [results, Try.results55, go_sem]) rfl ⟨rfl, rfl⟩

theorem mul64_run (x y : Nat) (hx : x < 18446744073709551616) (hy : y < 18446744073709551616) (w : World) :
    Calls Try.prog 71 #[.int .u64 x, .int .u64 y] w fun e w' => e = .returned (.tuple #[.int .u64 ((x * y / 18446744073709551616 : Nat) : Int), .int .u64 ((x * y % 18446744073709551616 : Nat) : Int)]) ∧ w = w' :=
  (Any.bits_Mul64 Try.lays264 x y hx hy w).mono fun _ _ h => ⟨h.1, h.2.symm⟩
theorem add64_run (x y c : Nat) (hx : x < 18446744073709551616) (hy : y < 18446744073709551616) (hc : c ≤ 1) (w : World) :
    (callFunc 72 #[.int .u64 x, .int .u64 y, .int .u64 c]).run Try.prog w =
      .ok (.value (.tuple #[.int .u64 (((x + y + c) % 18446744073709551616 : Nat) : Int), .int .u64 (((x + y + c) / 18446744073709551616 : Nat) : Int)])) w := by
  rw [run_callFunc_extern Try.func72 (by kernel_rfl) (by kernel_rfl) (by kernel_rfl) (e := add64Entry) (by kernel_rfl), run_add64 x y c (by omega) (by omega) (by omega) (by omega)]
  simp only [Result.andThen]
  congr 5 <;> omega

/-- A number of 128 bits in two words. -/
theorem plus_eq (N x y : Nat) :
    (x * y / 18446744073709551616 + N / 18446744073709551616 + (x * y % 18446744073709551616 + N % 18446744073709551616) / 18446744073709551616 = (N + x * y) / 18446744073709551616) ∧ ((x * y % 18446744073709551616 + N % 18446744073709551616) % 18446744073709551616 = (N + x * y) % 18446744073709551616) := by
  generalize x * y = z at *
  omega

set_option maxHeartbeats 800000 in
theorem plus_any (N x y : Nat) (w : World) (hx : x < 18446744073709551616) (hy : y < 18446744073709551616) (hN : N + x * y < 340282366920938463463374607431768211456) :
    Calls Try.prog 56 #[.agg #[.int .u64 ((N / 18446744073709551616 : Nat) : Int), .int .u64 ((N % 18446744073709551616 : Nat) : Int)], .int .u64 x, .int .u64 y] w fun e w' => e = .returned (.agg #[.int .u64 (((N + x * y) / 18446744073709551616 : Nat) : Int), .int .u64 (((N + x * y) % 18446744073709551616 : Nat) : Int)]) ∧ Below w.heap.size w w' := by
  obtain ⟨e1, e2⟩ := plus_eq N x y
  have hh : (N + x * y) / 18446744073709551616 < 18446744073709551616 := by omega
  have R := Lib.hid (fun u => mul64_run x y hx hy u)
  generalize x * y / 18446744073709551616 = zh at *
  have zl : x * y % 18446744073709551616 < 18446744073709551616 := Nat.mod_lt _ (by decide)
  generalize x * y % 18446744073709551616 = zl' at *
  have Nl : N % 18446744073709551616 < 18446744073709551616 := Nat.mod_lt _ (by decide)
  generalize hNh : N / 18446744073709551616 = Nh at *
  generalize N % 18446744073709551616 = Nl' at *
  generalize (N + x * y) / 18446744073709551616 = Rh at *
  generalize (N + x * y) % 18446744073709551616 = Rl at *
  obtain ⟨c, hc⟩ : ∃ c, c = (zl' + Nl') / 18446744073709551616 := ⟨_, rfl⟩
  rw [← hc] at e1
  have A : ∀ u, (callFunc 72 #[.int .u64 (zl' : Int), .int .u64 (Nl' : Int), .int .u64 0]).run Try.prog u = .ok (.value (.tuple #[.int .u64 (Rl : Int), .int .u64 (c : Int)])) u := fun u => by
    have := add64_run zl' Nl' 0 zl Nl (by omega) u
    rw [Nat.add_zero, e2, ← hc] at this
    exact this
  have hs : IntKind.u64.wrap ((zh : Int) + (Nh : Int) + (c : Int)) = (Rh : Int) := by
    rw [addN, addN, wrapN _ (by omega), e1]
  have hs' : IntKind.u64.wrap ((zh : Int) + (Nh : Int)) = (zh : Int) + (Nh : Int) := by
    rw [addN, wrapN _ (by omega)]
  have H := Lib.hid hs
  clear e1 e2 hh hNh hN hs hc
  go_enter Try.func56, Try.ntmps56
  go_wp2_with fail
  refine (R.out _).mono ?_
  rintro e w1 ⟨rfl, rfl⟩
  go_wp2
  rw [H.out]
  exact bodyPost_ret (v := .agg #[.int .u64 (Rh : Int), .int .u64 (Rl : Int)]) (by simp [results, Try.results56, go_sem]) rfl ⟨rfl, ((Below.refl _ _).alloc (Nat.le_refl _) _).alloc (by simp) _⟩

theorem or13 (h l : Nat) (hh : h < 2251799813685248) (hl : l < 18446744073709551616) : bits .or .u64 (IntKind.u64.wrap ((h : Int) * 8192)) ((l : Int) / 2251799813685248) = ((h * 8192 + l / 2251799813685248 : Nat) : Int) := by
  have h1 : h * 2 ^ 13 ||| l / 2251799813685248 = h * 2 ^ 13 + l / 2251799813685248 := or_add' (l / 2251799813685248) h 13 (by omega)
  rw [show (h : Int) * 8192 = ((h * 2 ^ 13 : Nat) : Int) by omega, wrapN _ (by omega), show (l : Int) / 2251799813685248 = ((l / 2251799813685248 : Nat) : Int) by omega, bits_or_u64_nat _ _ (by omega) (by omega), h1]

set_option maxHeartbeats 800000 in
theorem over_any (N : Nat) (w : World) (hN : N < 41538374868278621028243970633760768) :
    Calls Try.prog 57 #[.agg #[.int .u64 ((N / 18446744073709551616 : Nat) : Int), .int .u64 ((N % 18446744073709551616 : Nat) : Int)]] w fun e w' => e = .returned (.agg #[.int .u64 ((N / 2251799813685248 / 18446744073709551616 : Nat) : Int), .int .u64 ((N / 2251799813685248 % 18446744073709551616 : Nat) : Int)]) ∧ Below w.heap.size w w' := by
  have h0 : N / 2251799813685248 / 18446744073709551616 = 0 := by omega
  have h1 : N / 2251799813685248 % 18446744073709551616 = N / 18446744073709551616 * 8192 + N % 18446744073709551616 / 2251799813685248 := by omega
  have h2 := or13 (N / 18446744073709551616) (N % 18446744073709551616) (by omega) (by omega)
  rw [← h1] at h2
  rw [h0]
  have hl : N % 18446744073709551616 < 18446744073709551616 := by omega
  have hh : N / 18446744073709551616 < 18446744073709551616 := by omega
  generalize N / 18446744073709551616 = h at *
  generalize N % 18446744073709551616 = l at *
  generalize N / 2251799813685248 % 18446744073709551616 = r at *
  have H := Lib.hid h2
  clear h0 h1 h2 hN
  go_enter Try.func57, Try.ntmps57
  go_wp2
  rw [H.out]
  exact bodyPost_ret (v := .agg #[.int .u64 ((0 : Nat) : Int), .int .u64 (r : Int)]) (by simp [results, Try.results57, go_sem]) rfl ⟨rfl, ((Below.refl _ _).alloc (Nat.le_refl _) _).alloc (by simp) _⟩

set_option maxHeartbeats 800000 in
theorem limb_any (N : Nat) (w : World) :
    Calls Try.prog 58 #[.agg #[.int .u64 ((N / 18446744073709551616 : Nat) : Int), .int .u64 ((N % 18446744073709551616 : Nat) : Int)]] w fun e w' => e = .returned (.int .u64 ((N % 2251799813685248 : Nat) : Int)) ∧ Below w.heap.size w w' := by
  have h0 : N % 2251799813685248 = N % 18446744073709551616 % 2251799813685248 := by omega
  have hl : N % 18446744073709551616 < 18446744073709551616 := by omega
  rw [h0]
  generalize N / 18446744073709551616 = h at *
  generalize N % 18446744073709551616 = l at *
  clear h0
  go_enter Try.func58, Try.ntmps58
  go_wp2
  rw [mask51 _ hl]
  go_ret
  exact ⟨rfl, (Below.refl _ _).alloc (Nat.le_refl _) _⟩

/-- Words of 64 bits, as the model has them. -/
def numsV (ns : List Nat) : List Value := ns.map fun (n : Nat) => Value.int .u64 (n : Int)

set_option maxHeartbeats 1600000 in
theorem reduced_any (a b c d e : Nat) (w : World) (h : Words5 a b c d e) :
    Calls Try.prog 52 #[.int .u64 a, .int .u64 b, .int .u64 c, .int .u64 d, .int .u64 e] w fun r w' => r = .returned (.agg (numsV (lim (wor a b c d e % Prime.P))).toArray) ∧ Below w.heap.size w w' := by
  have R := Lib.hid (fun u => eased_any a b c d e u h)
  have hr := eased_roomy h
  rw [← eased_mod a b c d e]
  clear h
  generalize a % 2251799813685248 + e / 2251799813685248 * 19 = a' at *
  generalize b % 2251799813685248 + a / 2251799813685248 = b' at *
  generalize c % 2251799813685248 + b / 2251799813685248 = c' at *
  generalize d % 2251799813685248 + c / 2251799813685248 = d' at *
  generalize e % 2251799813685248 + d / 2251799813685248 = e' at *
  have hq := fun q hq => reduce (q := q) hr hq
  unfold Roomy at hr
  obtain ⟨ha, hb, hc, hd, he⟩ := hr
  have HQ := Lib.hid hq
  clear hq
  go_enter Try.func52, Try.ntmps52
  go_wp2_with fail
  refine (R.out _).mono ?_
  rintro e w1 ⟨rfl, rfl⟩
  go_wp2
  simp only [add19, div51, addN, mul19']
  obtain ⟨q, hq⟩ : ∃ q, q = (e' + (d' + (c' + (b' + (a' + 19) / 2251799813685248) / 2251799813685248) / 2251799813685248) / 2251799813685248) / 2251799813685248 := ⟨_, rfl⟩
  obtain ⟨hq1, hL⟩ := HQ.out q hq
  rw [← hq]
  rw [← hL]
  clear HQ hL hq R
  have h1 : a' + 19 * q < 18446744073709551616 := by omega
  generalize a' + 19 * q = A at *
  have h2 : b' + A / 2251799813685248 < 18446744073709551616 := by omega
  generalize b' + A / 2251799813685248 = B at *
  have h3 : c' + B / 2251799813685248 < 18446744073709551616 := by omega
  generalize c' + B / 2251799813685248 = C at *
  have h4 : d' + C / 2251799813685248 < 18446744073709551616 := by omega
  generalize d' + C / 2251799813685248 = D at *
  have h5 : e' + D / 2251799813685248 < 18446744073709551616 := by omega
  generalize e' + D / 2251799813685248 = E at *
  simp only [mask51 _ h1, mask51 _ h2, mask51 _ h3, mask51 _ h4, mask51 _ h5]
  exact bodyPost_ret (v := .agg #[.int .u64 ((A % 2251799813685248 : Nat) : Int), .int .u64 ((B % 2251799813685248 : Nat) : Int), .int .u64 ((C % 2251799813685248 : Nat) : Int), .int .u64 ((D % 2251799813685248 : Nat) : Int), .int .u64 ((E % 2251799813685248 : Nat) : Int)]) (by simp [results, Try.results52, go_sem]) rfl ⟨rfl, (Below.refl _ _).alloc (Nat.le_refl _) _⟩
end Go.Proofs.Ytcglobpklhkebaa.Limb
