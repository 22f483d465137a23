/-
  The closing sum of package stream's Poly1305 answers what the plain mathematics of the text Poly says, and leaves all memory that was there as it was. Conditions: five limbs below 2^64, sixteen bytes.
-/
import Derived.Test.YtcglobpklhkebabPolyNum
import Derived.Test.YtcglobpklhkebabLnText
import Derived.Laws.Externs
namespace Go.Proofs.Ytcglobpklhkebab.Poly
open Go.RowKit Mur Lanes
set_option maxRecDepth 100000

theorem add64_run (x y c : Nat) (hx : x < 18446744073709551616) (hy : y < 18446744073709551616) (hc : c ≤ 1) (w : World) :
    (callFunc 38 #[.int .u64 x, .int .u64 y, .int .u64 c]).run Try.prog w =
      .ok (.value (.tuple #[.int .u64 (((x + y + c) % 18446744073709551616 : Nat) : Int), .int .u64 (((x + y + c) / 18446744073709551616 : Nat) : Int)])) w := by
  rw [run_callFunc_extern Try.func38 (by kernel_rfl) (by kernel_rfl) (by kernel_rfl) (e := add64Entry) (by kernel_rfl), run_add64 x y c (by omega) (by omega) (by omega) (by omega)]
  simp only [Result.andThen]
  congr 5 <;> omega

theorem or_u64 (a b : Nat) (ha : a < 18446744073709551616) (hb : b < 18446744073709551616) : bits .or .u64 (a : Int) (b : Int) = ((a ||| b : Nat) : Int) := bits_or_u64_nat a b ha hb
theorem orl (a b : Nat) (ha : a < 18446744073709551616) (hb : b < 18446744073709551616) : a ||| b < 18446744073709551616 := Nat.or_lt_two_pow (n := 64) ha hb
theorem wrapmul (x c : Nat) : IntKind.u64.wrap ((x : Int) * (c : Int)) = ((x * c % 18446744073709551616 : Nat) : Int) := by
  rw [IntKind.wrap_u64, ← Int.natCast_mul]
  omega

theorem bel_drewN {k n : Nat} {w w' : World} (h : Below k w w') : Below k w (w'.drewN n) := ⟨h.os, h.tape, h.output, h.size, h.block⟩

set_option maxHeartbeats 1600000 in
theorem closing_any (n : List Nat) (s T : ByteArray) (w : World) (hn : Five n) (hs : s.size = 16) (hT : T = ⟨(closing n s.data.toList).toArray⟩) :
    Calls Try.prog 19 #[.agg (numsV n).toArray, .string s] w fun e w' => e = .returned (.string T) ∧ Below w.heap.size w w' := by
  have hw := Whole.made w 37 (numsV n)
  have c0 := num_cell hw (i := 0) (by rw [hn.1]; omega)
  have c1 := num_cell hw (i := 1) (by rw [hn.1]; omega)
  have c2 := num_cell hw (i := 2) (by rw [hn.1]; omega)
  have c3 := num_cell hw (i := 3) (by rw [hn.1]; omega)
  have c4 := num_cell hw (i := 4) (by rw [hn.1]; omega)
  have l0 := hn.at 0
  have l1 := hn.at 1
  have l2 := hn.at 2
  have l3 := hn.at 3
  have l4 := hn.at 4
  obtain ⟨L, hL⟩ : ∃ L, L = low s.data.toList := ⟨_, rfl⟩
  obtain ⟨H, hH⟩ : ∃ L, L = low (s.data.toList.drop 8) := ⟨_, rfl⟩
  have low_lt : ∀ l : List UInt8, low l < 18446744073709551616 := fun l => by
    refine Nat.lt_of_lt_of_le (lowN_lt _ _) ?_
    exact Nat.pow_le_pow_right (by omega) (show 8 * min _ 8 ≤ 64 by omega)
  have hLl : L < 18446744073709551616 := by rw [hL]; exact low_lt _
  have hHl : H < 18446744073709551616 := by rw [hH]; exact low_lt _
  obtain ⟨A, hA⟩ : ∃ A, A = lowW n := ⟨_, rfl⟩
  obtain ⟨B, hB⟩ : ∃ A, A = highW n := ⟨_, rfl⟩
  obtain ⟨P, hP⟩ : ∃ P, P = (A + L) % 18446744073709551616 := ⟨_, rfl⟩
  obtain ⟨c, hc⟩ : ∃ P, P = (A + L) / 18446744073709551616 := ⟨_, rfl⟩
  obtain ⟨R, hR⟩ : ∃ P, P = (B + H + c) % 18446744073709551616 := ⟨_, rfl⟩
  obtain ⟨d, hd⟩ : ∃ P, P = (B + H + c) / 18446744073709551616 := ⟨_, rfl⟩
  have hT2 : T = ⟨(text [P % 4294967296, P / 4294967296, R % 4294967296, R / 4294967296] false).toArray⟩ := by
    rw [hT, hP, hR, hc, hA, hB, hL, hH]
    rfl
  unfold lowW at hA
  unfold highW at hB
  generalize n.getD 0 0 = n0 at *
  generalize n.getD 1 0 = n1 at *
  generalize n.getD 2 0 = n2 at *
  generalize n.getD 3 0 = n3 at *
  generalize n.getD 4 0 = n4 at *
  obtain ⟨m1, hm1⟩ : ∃ m, m = n1 * 67108864 % 18446744073709551616 := ⟨_, rfl⟩
  obtain ⟨m2, hm2⟩ : ∃ m, m = n2 * 4503599627370496 % 18446744073709551616 := ⟨_, rfl⟩
  obtain ⟨m3, hm3⟩ : ∃ m, m = n3 * 16384 % 18446744073709551616 := ⟨_, rfl⟩
  obtain ⟨m4, hm4⟩ : ∃ m, m = n4 * 1099511627776 % 18446744073709551616 := ⟨_, rfl⟩
  obtain ⟨m5, hm5⟩ : ∃ m, m = n2 / 4096 := ⟨_, rfl⟩
  rw [← hm1, ← hm2] at hA
  rw [← hm3, ← hm4, ← hm5] at hB
  have b1 : m1 < 18446744073709551616 := by omega
  have b2 : m2 < 18446744073709551616 := by omega
  have b3 : m3 < 18446744073709551616 := by omega
  have b4 : m4 < 18446744073709551616 := by omega
  have b5 : m5 < 18446744073709551616 := by omega
  have e1 : IntKind.u64.wrap ((n1 : Int) * 67108864) = (m1 : Int) := by rw [hm1]; exact wrapmul n1 67108864
  have e2 : IntKind.u64.wrap ((n2 : Int) * 4503599627370496) = (m2 : Int) := by rw [hm2]; exact wrapmul n2 4503599627370496
  have e3 : IntKind.u64.wrap ((n3 : Int) * 16384) = (m3 : Int) := by rw [hm3]; exact wrapmul n3 16384
  have e4 : IntKind.u64.wrap ((n4 : Int) * 1099511627776) = (m4 : Int) := by rw [hm4]; exact wrapmul n4 1099511627776
  have e5 : (n2 : Int) / 4096 = (m5 : Int) := by omega
  have g1 : bits .or .u64 (n0 : Int) (m1 : Int) = ((n0 ||| m1 : Nat) : Int) := or_u64 _ _ l0 b1
  have g2 : bits .or .u64 (bits .or .u64 (n0 : Int) (m1 : Int)) (m2 : Int) = (A : Int) := by rw [g1, or_u64 _ _ (orl _ _ l0 b1) b2, hA]
  have g4 : bits .or .u64 (bits .or .u64 (m5 : Int) (m3 : Int)) (m4 : Int) = (B : Int) := by rw [or_u64 _ _ b5 b3, or_u64 _ _ (orl _ _ b5 b3) b4, hB]
  have hAl : A < 18446744073709551616 := by rw [hA]; exact orl _ _ (orl _ _ l0 b1) b2
  have hBl : B < 18446744073709551616 := by rw [hB]; exact orl _ _ (orl _ _ b5 b3) b4
  have hc1 : c ≤ 1 := by omega
  have hPl : P < 18446744073709551616 := by omega
  have hRl : R < 18446744073709551616 := by omega
  have a1 : ∀ u, (callFunc 38 #[.int .u64 (A : Int), .int .u64 (L : Int), .int .u64 0]).run Try.prog u = .ok (.value (.tuple #[.int .u64 (P : Int), .int .u64 (c : Int)])) u := fun u => by
    have := add64_run A L 0 hAl hLl (by omega) u
    rw [Nat.add_zero, ← hP, ← hc] at this
    exact this
  have a2 : ∀ u, (callFunc 38 #[.int .u64 (B : Int), .int .u64 (H : Int), .int .u64 (c : Int)]).run Try.prog u = .ok (.value (.tuple #[.int .u64 (R : Int), .int .u64 (d : Int)])) u := fun u => by
    have := add64_run B H c hBl hHl hc1 u
    rw [← hR, ← hd] at this
    exact this
  have LO := Lib.hid (show ∀ u, Calls Try.prog 36 #[.string s] u fun e w' => e = .returned (.int .u64 (L : Int)) ∧ w' = u from fun u => by
    have := low_any s u (by omega)
    rw [← hL] at this
    exact this.mono fun _ _ h => ⟨h.1, h.2.symm⟩)
  have HI := Lib.hid (show ∀ u, Calls Try.prog 36 #[.string (s.extract 8 s.size)] u fun e w' => e = .returned (.int .u64 (H : Int)) ∧ w' = u from fun u => by
    have := low_any (s.extract 8 s.size) u (by rw [ByteArray.size_extract]; omega)
    rw [extract_drop, ← hH] at this
    exact this.mono fun _ _ h => ⟨h.1, h.2.symm⟩)
  have TX := Lib.hid (show ∀ (u : World) (b : Nat), Whole u b 31 [.int .u32 ((P % 4294967296 : Nat) : Int), .int .u32 ((P / 4294967296 : Nat) : Int), .int .u32 ((R % 4294967296 : Nat) : Int), .int .u32 ((R / 4294967296 : Nat) : Int)] → Calls Try.prog 34 #[.slice (some ⟨b, 0, none⟩) 4 4, .bool false] u fun e w' => e = .returned (.string T) ∧ Below u.heap.size u w' from fun u b hb => by
    have hl : Whole u b 31 (wordsV [P % 4294967296, P / 4294967296, R % 4294967296, R / 4294967296]) := hb
    have := text_some [P % 4294967296, P / 4294967296, R % 4294967296, R / 4294967296] b 0 4 false u (by show 4 ≤ _; omega) (fun x hx => by
      simp only [List.mem_cons, List.not_mem_nil, or_false] at hx
      omega) hl.lt (fun i hi => by rw [Nat.zero_add]; exact hl.row.cell (wordsV_at hi))
    rw [← hT2] at this
    exact this)
  have i8 : (8 : Int) ≤ (s.size : Int) := by omega
  obtain ⟨p0, hp0⟩ : ∃ p, p = P % 4294967296 := ⟨_, rfl⟩
  obtain ⟨p1, hp1⟩ : ∃ p, p = P / 4294967296 := ⟨_, rfl⟩
  obtain ⟨r0, hr0⟩ : ∃ p, p = R % 4294967296 := ⟨_, rfl⟩
  obtain ⟨r1, hr1⟩ : ∃ p, p = R / 4294967296 := ⟨_, rfl⟩
  rw [← hp0, ← hp1, ← hr0, ← hr1] at TX
  have P0 := Lib.hid (show (P : Int) % 4294967296 = (p0 : Int) by omega)
  have P1 := Lib.hid (show (P : Int) / 4294967296 = (p1 : Int) by omega)
  have R0 := Lib.hid (show (R : Int) % 4294967296 = (r0 : Int) by omega)
  have R1 := Lib.hid (show (R : Int) / 4294967296 = (r1 : Int) by omega)
  clear hw hL hH hLl hHl hA hB hP hc hR hd hT hT2 hm1 hm2 hm3 hm4 hm5 g1 hAl hBl hp0 hp1 hr0 hr1 low_lt hs hn
  go_enter Try.func19, Try.ntmps19
  go_wp2
  go_quiet ((go_at_call 36; exact Calls.quiet_of_same (LO.out _)))
  go_wp2
  go_quiet ((refine (HI.out _).mono ?_; rintro e w' ⟨rfl, rfl⟩; exact ⟨rfl, _, rfl⟩))
  have p0' := P0.out
  have r0' := R0.out
  go_wp2_with fail
  rw [P1.out, R1.out]
  refine (TX.out _ _ ?_).mono ?_
  · exact Whole.made' _ _ _ _ (by simp)
  rintro e w1 ⟨rfl, hb⟩
  have hz : w.heap.size < (w.alloc (.cells (numsV n).toArray 37)).heap.size := by simp
  have HB := Lib.hid (((bel_drewN ((Below.refl w.heap.size w).alloc (Nat.le_refl _) _)).alloc (by show w.heap.size ≤ (w.alloc _).heap.size; omega) _).trans (hb.mono (by simp; omega)))
  clear hb
  go_wp2_with fail
  go_ret
  exact ⟨rfl, HB.out⟩
end Go.Proofs.Ytcglobpklhkebab.Poly
