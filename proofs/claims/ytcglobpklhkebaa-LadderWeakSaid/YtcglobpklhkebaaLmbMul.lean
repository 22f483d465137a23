/-
  Times of package limbs answers the reduced limbs of the product modulo 2^255 - 19, and leaves all memory that was there as it was. Condition: words below 2^64.
-/
import Derived.Test.YtcglobpklhkebaaLmbTwo
import Derived.Test.YtcglobpklhkebaaSteady
import Derived.Deep.CutBlock
namespace Go.Proofs.Ytcglobpklhkebaa.Limb
open Go.RowKit Mur Lanes
set_option maxRecDepth 100000

/-- A number of 128 bits in two words. -/
def Dbl (N h l : Nat) : Prop := h = N / 18446744073709551616 ∧ l = N % 18446744073709551616
abbrev dbl (h l : Nat) : Value := .agg #[.int .u64 (h : Int), .int .u64 (l : Int)]

theorem plus_some (N h l x y B : Nat) (hd : Dbl N h l) (hN : N ≤ B) (hx : x < 2251799813947392) (hy : y ≤ 19 * 2251799813947392) (hB : B + 96341445639776675308685928431616 < 340282366920938463463374607431768211456) :
    ∃ h' l', Dbl (N + x * y) h' l' ∧ N + x * y ≤ B + 96341445639776675308685928431616 ∧ Hid (∀ u, Calls Try.prog 56 #[dbl h l, .int .u64 x, .int .u64 y] u fun r w' => r = .returned (dbl h' l') ∧ Below u.heap.size u w') := by
  have h1 : x * y ≤ 96341445639776675308685928431616 := Nat.le_trans (Nat.mul_le_mul (Nat.le_of_lt hx) hy) (by decide)
  obtain ⟨rfl, rfl⟩ := hd
  exact ⟨_, _, ⟨rfl, rfl⟩, by omega, Lib.hid fun u => plus_any N x y u (by omega) (by omega) (by omega)⟩
theorem over_some (N h l B : Nat) (hd : Dbl N h l) (hN : N ≤ B) (hB : B < 41538374868278621028243970633760768) :
    ∃ h' l', Dbl (N / 2251799813685248) h' l' ∧ Hid (∀ u, Calls Try.prog 57 #[dbl h l] u fun r w' => r = .returned (dbl h' l') ∧ Below u.heap.size u w') := by
  obtain ⟨rfl, rfl⟩ := hd
  exact ⟨_, _, ⟨rfl, rfl⟩, Lib.hid fun u => over_any N u (by omega)⟩
theorem limb_some (N h l : Nat) (hd : Dbl N h l) :
    ∃ x, x = N % 2251799813685248 ∧ Hid (∀ u, Calls Try.prog 58 #[dbl h l] u fun r w' => r = .returned (.int .u64 x) ∧ Below u.heap.size u w') := by
  obtain ⟨rfl, rfl⟩ := hd
  exact ⟨_, rfl, Lib.hid fun u => limb_any N u⟩

/-- What is carried of the sums of products, and what they are worth. -/
theorem sums_wor {p0 p1 p2 p3 p4 s0 s1 s2 s3 s4 : Nat} (h0 : s0 = p0) (h1 : s1 = s0 / 2251799813685248 + p1) (h2 : s2 = s1 / 2251799813685248 + p2) (h3 : s3 = s2 / 2251799813685248 + p3) (h4 : s4 = s3 / 2251799813685248 + p4) :
    wor (s0 % 2251799813685248 + 19 * (s4 / 2251799813685248)) (s1 % 2251799813685248) (s2 % 2251799813685248) (s3 % 2251799813685248) (s4 % 2251799813685248) + Prime.P * (s4 / 2251799813685248) = wor p0 p1 p2 p3 p4 := by
  unfold wor
  rw [P_eq]
  omega

/-- The product of two numbers, limb by limb. -/
theorem mul_wor (a0 a1 a2 a3 a4 b0 b1 b2 b3 b4 : Nat) :
    wor (a0 * b0 + a1 * (19 * b4) + a2 * (19 * b3) + a3 * (19 * b2) + a4 * (19 * b1)) (a0 * b1 + a1 * b0 + a2 * (19 * b4) + a3 * (19 * b3) + a4 * (19 * b2)) (a0 * b2 + a1 * b1 + a2 * b0 + a3 * (19 * b4) + a4 * (19 * b3)) (a0 * b3 + a1 * b2 + a2 * b1 + a3 * b0 + a4 * (19 * b4)) (a0 * b4 + a1 * b3 + a2 * b2 + a3 * b1 + a4 * b0) + Prime.P * (a1 * b4 * 1 + a2 * b3 * 1 + a2 * b4 * 2251799813685248 + a3 * b2 * 1 + a3 * b3 * 2251799813685248 + a3 * b4 * 5070602400912917605986812821504 + a4 * b1 * 1 + a4 * b2 * 2251799813685248 + a4 * b3 * 5070602400912917605986812821504 + a4 * b4 * 11417981541647679048466287755595961091061972992) = wor a0 a1 a2 a3 a4 * wor b0 b1 b2 b3 b4 := by
  unfold wor
  rw [P_eq]
  grind

theorem field_low (h l : Int) (u : World) : (Instr.field 62 (.agg #[.int .u64 h, .int .u64 l]) 1).run Try.prog u = .ok (.int .u64 l) u := by
  unfold Instr.field
  simp only [Sem.run_bind, run_underlying Try.underlying62, Result.andThen_ok]
  simp [part, asAgg, go_sem]

/-- The worlds of the walk: what was made is kept. -/
structure Tm (w0 : World) (b0 : Nat) (fs : List (Nat × Nat × Nat)) (w : World) : Prop where
  below : Below w0.heap.size w0 w
  old : w0.heap.size ≤ b0
  z : Whole w b0 24 [.int .u64 0, .int .u64 0, .int .u64 0, .int .u64 0, .int .u64 0]
  f : ∀ x ∈ fs, x.1 < w.heap.size ∧ w.cell? ⟨x.1, 0, none⟩ = some (.int .u64 (x.2.1 : Int)) ∧ w.cell? ⟨x.1, 1, none⟩ = some (.int .u64 (x.2.2 : Int))
theorem Tm.next {w0 w w' : World} {b0 : Nat} {fs : List (Nat × Nat × Nat)} (h : Tm w0 b0 fs w) (q : Below w.heap.size w w') : Tm w0 b0 fs w' :=
  ⟨h.below.trans (q.mono h.below.size), h.old, h.z.below h.z.lt q, fun x hx => ⟨Nat.lt_of_lt_of_le (h.f x hx).1 q.size, (q.cell (p := ⟨x.1, 0, none⟩) (h.f x hx).1).trans (h.f x hx).2.1, (q.cell (p := ⟨x.1, 1, none⟩) (h.f x hx).1).trans (h.f x hx).2.2⟩⟩
theorem Tm.add {w0 w : World} {b0 : Nat} {fs : List (Nat × Nat × Nat)} (h : Tm w0 b0 fs w) (x y : Nat) : Tm w0 b0 ((w.heap.size, x, y) :: fs) (w.alloc (.cells #[.int .u64 (x : Int), .int .u64 (y : Int)] 62)) := by
  refine ⟨h.below.alloc h.below.size _, h.old, h.z.alloc _, fun z hz => ?_⟩
  rcases List.mem_cons.1 hz with rfl | hz
  · exact ⟨by simp, by simp, by simp⟩
  · have := h.f z hz
    refine ⟨by have := this.1; simp; omega, ?_, ?_⟩
    · rw [World.cell?_alloc_old _ _ _ (Nat.ne_of_lt this.1)]
      exact this.2.1
    · rw [World.cell?_alloc_old _ _ _ (Nat.ne_of_lt this.1)]
      exact this.2.2
theorem Tm.drew {w0 w : World} {b0 : Nat} {fs : List (Nat × Nat × Nat)} (h : Tm w0 b0 fs w) : Tm w0 b0 fs w.drew := ⟨h.below.drew, h.old, h.z.drew, h.f⟩
theorem Tm.cells {w0 w : World} {b0 : Nat} {fs : List (Nat × Nat × Nat)} (h : Tm w0 b0 fs w) {p x y : Nat} (hm : (p, x, y) ∈ fs) : w.cell? ⟨p, 0, none⟩ = some (.int .u64 (x : Int)) ∧ w.cell? ⟨p, 1, none⟩ = some (.int .u64 (y : Int)) := (h.f _ hm).2

set_option maxHeartbeats 8000000 in
theorem times_any (a b c d e a' b' c' d' e' : Nat) (w : World) (h : Words5 a b c d e) (h' : Words5 a' b' c' d' e') :
    Calls Try.prog 22 #[five a b c d e, five a' b' c' d' e'] w fun r w' => r = .returned (limV (wor a b c d e * wor a' b' c' d' e' % Prime.P)) ∧ Below w.heap.size w w' := by
  obtain ⟨a0, a1, a2, a3, a4, hA, mA, rA⟩ := eased_some a b c d e h
  obtain ⟨b0, b1, b2, b3, b4, hB, mB, rB⟩ := eased_some a' b' c' d' e' h'
  have hmul := mul_wor a0 a1 a2 a3 a4 b0 b1 b2 b3 b4
  have hmod : wor a0 a1 a2 a3 a4 * wor b0 b1 b2 b3 b4 % Prime.P = wor a b c d e * wor a' b' c' d' e' % Prime.P := by rw [Nat.mul_mod, mA, mB, ← Nat.mul_mod]
  rw [← hmod, ← hmul, Nat.add_mul_mod_self_left]
  unfold Roomy at hA hB
  obtain ⟨hA0, hA1, hA2, hA3, hA4⟩ := hA
  obtain ⟨hB0, hB1, hB2, hB3, hB4⟩ := hB
  obtain ⟨c1, hc1⟩ : ∃ c, c = 19 * b1 := ⟨_, rfl⟩
  obtain ⟨c2, hc2⟩ : ∃ c, c = 19 * b2 := ⟨_, rfl⟩
  obtain ⟨c3, hc3⟩ : ∃ c, c = 19 * b3 := ⟨_, rfl⟩
  obtain ⟨c4, hc4⟩ : ∃ c, c = 19 * b4 := ⟨_, rfl⟩
  have d0 : Dbl 0 0 0 := ⟨rfl, rfl⟩
  have n0 : 0 ≤ 0 := Nat.le_refl 0
  obtain ⟨h1, l1, d1, n1, R1⟩ := plus_some _ _ _ a0 b0 0 d0 n0 (by omega) (by omega) (by decide)
  rw [show 0 + 96341445639776675308685928431616 = 96341445639776675308685928431616 by decide] at n1
  obtain ⟨h2, l2, d2, n2, R2⟩ := plus_some _ _ _ a1 c4 96341445639776675308685928431616 d1 n1 (by omega) (by omega) (by decide)
  rw [show 96341445639776675308685928431616 + 96341445639776675308685928431616 = 192682891279553350617371856863232 by decide] at n2
  obtain ⟨h3, l3, d3, n3, R3⟩ := plus_some _ _ _ a2 c3 192682891279553350617371856863232 d2 n2 (by omega) (by omega) (by decide)
  rw [show 192682891279553350617371856863232 + 96341445639776675308685928431616 = 289024336919330025926057785294848 by decide] at n3
  obtain ⟨h4, l4, d4, n4, R4⟩ := plus_some _ _ _ a3 c2 289024336919330025926057785294848 d3 n3 (by omega) (by omega) (by decide)
  rw [show 289024336919330025926057785294848 + 96341445639776675308685928431616 = 385365782559106701234743713726464 by decide] at n4
  obtain ⟨h5, l5, d5, n5, R5⟩ := plus_some _ _ _ a4 c1 385365782559106701234743713726464 d4 n4 (by omega) (by omega) (by decide)
  rw [show 385365782559106701234743713726464 + 96341445639776675308685928431616 = 481707228198883376543429642158080 by decide] at n5
  obtain ⟨ho1, lo1, do1, Q1⟩ := over_some _ _ _ 481707228198883376543429642158080 d5 n5 (by decide)
  have no1 := Nat.div_le_div_right (c := 2251799813685248) n5
  rw [show 481707228198883376543429642158080 / 2251799813685248 = 213920982349905920 by decide] at no1
  obtain ⟨h6, l6, d6, n6, R6⟩ := plus_some _ _ _ a0 b1 213920982349905920 do1 no1 (by omega) (by omega) (by decide)
  rw [show 213920982349905920 + 96341445639776675308685928431616 = 96341445639776889229668278337536 by decide] at n6
  obtain ⟨h7, l7, d7, n7, R7⟩ := plus_some _ _ _ a1 b0 96341445639776889229668278337536 d6 n6 (by omega) (by omega) (by decide)
  rw [show 96341445639776889229668278337536 + 96341445639776675308685928431616 = 192682891279553564538354206769152 by decide] at n7
  obtain ⟨h8, l8, d8, n8, R8⟩ := plus_some _ _ _ a2 c4 192682891279553564538354206769152 d7 n7 (by omega) (by omega) (by decide)
  rw [show 192682891279553564538354206769152 + 96341445639776675308685928431616 = 289024336919330239847040135200768 by decide] at n8
  obtain ⟨h9, l9, d9, n9, R9⟩ := plus_some _ _ _ a3 c3 289024336919330239847040135200768 d8 n8 (by omega) (by omega) (by decide)
  rw [show 289024336919330239847040135200768 + 96341445639776675308685928431616 = 385365782559106915155726063632384 by decide] at n9
  obtain ⟨h10, l10, d10, n10, R10⟩ := plus_some _ _ _ a4 c2 385365782559106915155726063632384 d9 n9 (by omega) (by omega) (by decide)
  rw [show 385365782559106915155726063632384 + 96341445639776675308685928431616 = 481707228198883590464411992064000 by decide] at n10
  obtain ⟨ho2, lo2, do2, Q2⟩ := over_some _ _ _ 481707228198883590464411992064000 d10 n10 (by decide)
  have no2 := Nat.div_le_div_right (c := 2251799813685248) n10
  rw [show 481707228198883590464411992064000 / 2251799813685248 = 213920982349906015 by decide] at no2
  obtain ⟨h11, l11, d11, n11, R11⟩ := plus_some _ _ _ a0 b2 213920982349906015 do2 no2 (by omega) (by omega) (by decide)
  rw [show 213920982349906015 + 96341445639776675308685928431616 = 96341445639776889229668278337631 by decide] at n11
  obtain ⟨h12, l12, d12, n12, R12⟩ := plus_some _ _ _ a1 b1 96341445639776889229668278337631 d11 n11 (by omega) (by omega) (by decide)
  rw [show 96341445639776889229668278337631 + 96341445639776675308685928431616 = 192682891279553564538354206769247 by decide] at n12
  obtain ⟨h13, l13, d13, n13, R13⟩ := plus_some _ _ _ a2 b0 192682891279553564538354206769247 d12 n12 (by omega) (by omega) (by decide)
  rw [show 192682891279553564538354206769247 + 96341445639776675308685928431616 = 289024336919330239847040135200863 by decide] at n13
  obtain ⟨h14, l14, d14, n14, R14⟩ := plus_some _ _ _ a3 c4 289024336919330239847040135200863 d13 n13 (by omega) (by omega) (by decide)
  rw [show 289024336919330239847040135200863 + 96341445639776675308685928431616 = 385365782559106915155726063632479 by decide] at n14
  obtain ⟨h15, l15, d15, n15, R15⟩ := plus_some _ _ _ a4 c3 385365782559106915155726063632479 d14 n14 (by omega) (by omega) (by decide)
  rw [show 385365782559106915155726063632479 + 96341445639776675308685928431616 = 481707228198883590464411992064095 by decide] at n15
  obtain ⟨ho3, lo3, do3, Q3⟩ := over_some _ _ _ 481707228198883590464411992064095 d15 n15 (by decide)
  have no3 := Nat.div_le_div_right (c := 2251799813685248) n15
  rw [show 481707228198883590464411992064095 / 2251799813685248 = 213920982349906015 by decide] at no3
  obtain ⟨h16, l16, d16, n16, R16⟩ := plus_some _ _ _ a0 b3 213920982349906015 do3 no3 (by omega) (by omega) (by decide)
  rw [show 213920982349906015 + 96341445639776675308685928431616 = 96341445639776889229668278337631 by decide] at n16
  obtain ⟨h17, l17, d17, n17, R17⟩ := plus_some _ _ _ a1 b2 96341445639776889229668278337631 d16 n16 (by omega) (by omega) (by decide)
  rw [show 96341445639776889229668278337631 + 96341445639776675308685928431616 = 192682891279553564538354206769247 by decide] at n17
  obtain ⟨h18, l18, d18, n18, R18⟩ := plus_some _ _ _ a2 b1 192682891279553564538354206769247 d17 n17 (by omega) (by omega) (by decide)
  rw [show 192682891279553564538354206769247 + 96341445639776675308685928431616 = 289024336919330239847040135200863 by decide] at n18
  obtain ⟨h19, l19, d19, n19, R19⟩ := plus_some _ _ _ a3 b0 289024336919330239847040135200863 d18 n18 (by omega) (by omega) (by decide)
  rw [show 289024336919330239847040135200863 + 96341445639776675308685928431616 = 385365782559106915155726063632479 by decide] at n19
  obtain ⟨h20, l20, d20, n20, R20⟩ := plus_some _ _ _ a4 c4 385365782559106915155726063632479 d19 n19 (by omega) (by omega) (by decide)
  rw [show 385365782559106915155726063632479 + 96341445639776675308685928431616 = 481707228198883590464411992064095 by decide] at n20
  obtain ⟨ho4, lo4, do4, Q4⟩ := over_some _ _ _ 481707228198883590464411992064095 d20 n20 (by decide)
  have no4 := Nat.div_le_div_right (c := 2251799813685248) n20
  rw [show 481707228198883590464411992064095 / 2251799813685248 = 213920982349906015 by decide] at no4
  obtain ⟨h21, l21, d21, n21, R21⟩ := plus_some _ _ _ a0 b4 213920982349906015 do4 no4 (by omega) (by omega) (by decide)
  rw [show 213920982349906015 + 96341445639776675308685928431616 = 96341445639776889229668278337631 by decide] at n21
  obtain ⟨h22, l22, d22, n22, R22⟩ := plus_some _ _ _ a1 b3 96341445639776889229668278337631 d21 n21 (by omega) (by omega) (by decide)
  rw [show 96341445639776889229668278337631 + 96341445639776675308685928431616 = 192682891279553564538354206769247 by decide] at n22
  obtain ⟨h23, l23, d23, n23, R23⟩ := plus_some _ _ _ a2 b2 192682891279553564538354206769247 d22 n22 (by omega) (by omega) (by decide)
  rw [show 192682891279553564538354206769247 + 96341445639776675308685928431616 = 289024336919330239847040135200863 by decide] at n23
  obtain ⟨h24, l24, d24, n24, R24⟩ := plus_some _ _ _ a3 b1 289024336919330239847040135200863 d23 n23 (by omega) (by omega) (by decide)
  rw [show 289024336919330239847040135200863 + 96341445639776675308685928431616 = 385365782559106915155726063632479 by decide] at n24
  obtain ⟨h25, l25, d25, n25, R25⟩ := plus_some _ _ _ a4 b0 385365782559106915155726063632479 d24 n24 (by omega) (by omega) (by decide)
  rw [show 385365782559106915155726063632479 + 96341445639776675308685928431616 = 481707228198883590464411992064095 by decide] at n25
  obtain ⟨ho5, lo5, do5, Q5⟩ := over_some _ _ _ 481707228198883590464411992064095 d25 n25 (by decide)
  obtain ⟨x0, hx0, X0⟩ := limb_some _ _ _ d5
  obtain ⟨x1, hx1, X1⟩ := limb_some _ _ _ d10
  obtain ⟨x2, hx2, X2⟩ := limb_some _ _ _ d15
  obtain ⟨x3, hx3, X3⟩ := limb_some _ _ _ d20
  obtain ⟨x4, hx4, X4⟩ := limb_some _ _ _ d25
  generalize hs0 : 0 + a0 * b0 + a1 * c4 + a2 * c3 + a3 * c2 + a4 * c1 = s0 at *
  generalize hs1 : s0 / 2251799813685248 + a0 * b1 + a1 * b0 + a2 * c4 + a3 * c3 + a4 * c2 = s1 at *
  generalize hs2 : s1 / 2251799813685248 + a0 * b2 + a1 * b1 + a2 * b0 + a3 * c4 + a4 * c3 = s2 at *
  generalize hs3 : s2 / 2251799813685248 + a0 * b3 + a1 * b2 + a2 * b1 + a3 * b0 + a4 * c4 = s3 at *
  generalize hs4 : s3 / 2251799813685248 + a0 * b4 + a1 * b3 + a2 * b2 + a3 * b1 + a4 * b0 = s4 at *
  have hw := sums_wor (p0 := a0 * b0 + a1 * c4 + a2 * c3 + a3 * c2 + a4 * c1) (p1 := a0 * b1 + a1 * b0 + a2 * c4 + a3 * c3 + a4 * c2) (p2 := a0 * b2 + a1 * b1 + a2 * b0 + a3 * c4 + a4 * c3) (p3 := a0 * b3 + a1 * b2 + a2 * b1 + a3 * b0 + a4 * c4) (p4 := a0 * b4 + a1 * b3 + a2 * b2 + a3 * b1 + a4 * b0) (s0 := s0) (s1 := s1) (s2 := s2) (s3 := s3) (s4 := s4) (by rw [← hs0, Nat.zero_add]) (by rw [← hs1]; simp only [Nat.add_assoc]) (by rw [← hs2]; simp only [Nat.add_assoc]) (by rw [← hs3]; simp only [Nat.add_assoc]) (by rw [← hs4]; simp only [Nat.add_assoc])
  rw [← hc1, ← hc2, ← hc3, ← hc4, ← hw, Nat.add_mul_mod_self_left]
  have hlo : lo5 = s4 / 2251799813685248 := by
    rw [do5.2]
    exact Nat.mod_eq_of_lt (by omega)
  rw [← hlo]
  have R := fun u => reduced_any (x0 + 19 * lo5) x1 x2 x3 x4 u (by unfold Words5; omega)
  rw [hx0, hx1, hx2, hx3, hx4] at R
  change ∀ u, Calls _ _ _ u fun r w' => r = .returned (limV (wor (s0 % 2251799813685248 + 19 * lo5) (s1 % 2251799813685248) (s2 % 2251799813685248) (s3 % 2251799813685248) (s4 % 2251799813685248) % Prime.P)) ∧ Below u.heap.size u w' at R
  obtain ⟨r0, r1, r2, r3, r4, hr⟩ := limV_five (wor (s0 % 2251799813685248 + 19 * lo5) (s1 % 2251799813685248) (s2 % 2251799813685248) (s3 % 2251799813685248) (s4 % 2251799813685248) % Prime.P)
  rw [hr, ← hx0, ← hx1, ← hx2, ← hx3, ← hx4] at R
  rw [hr]
  have bx0 : x0 < 2251799813685248 := by rw [hx0]; exact Nat.mod_lt _ (by decide)
  have bl5 : lo5 < 288230376151711744 := by omega
  have e1 := Lib.hid (show 19 * (b1 : Int) = (c1 : Int) by omega)
  have e2 := Lib.hid (show 19 * (b2 : Int) = (c2 : Int) by omega)
  have e3 := Lib.hid (show 19 * (b3 : Int) = (c3 : Int) by omega)
  have e4 := Lib.hid (show 19 * (b4 : Int) = (c4 : Int) by omega)
  rw [show ((x0 + 19 * lo5 : Nat) : Int) = (x0 : Int) + 19 * (lo5 : Int) by omega] at R
  have RR := Lib.hid R
  have RA := Lib.hid rA
  have RB := Lib.hid rB
  have T0 := Lib.hid (show Tm w (w.heap.size + 1 + 1) [] (((w.alloc (.cells #[.int .u64 a, .int .u64 b, .int .u64 c, .int .u64 d, .int .u64 e] 24)).alloc (.cells #[.int .u64 a', .int .u64 b', .int .u64 c', .int .u64 d', .int .u64 e'] 24)).alloc (.cells #[.int .u64 0, .int .u64 0, .int .u64 0, .int .u64 0, .int .u64 0] 24)) from
    ⟨(((Below.refl _ _).alloc (Nat.le_refl _) _).alloc (by simp) _).alloc (by simp; omega) _, by omega, Whole.made' _ _ _ _ (by simp), fun x hx => by cases hx⟩)
  clear h h' mA mB hmul hmod hc1 hc2 hc3 hc4 d0 n0 hs0 hs1 hs2 hs3 hs4 hw hlo R rA rB hr hx0 hx1 hx2 hx3 hx4 d1 d2 d3 d4 d5 d6 d7 d8 d9 d10 d11 d12 d13 d14 d15 d16 d17 d18 d19 d20 d21 d22 d23 d24 d25 n1 n2 n3 n4 n5 n6 n7 n8 n9 n10 n11 n12 n13 n14 n15 n16 n17 n18 n19 n20 n21 n22 n23 n24 n25 do1 do2 do3 do4 do5 no1 no2 no3 no4
  go_enter Try.func22, Try.ntmps22
  go_wp2_with fail
  refine (RA.out _).mono ?_
  rintro e w1 ⟨rfl, rfl⟩
  go_wp2_with fail
  refine (RB.out _).mono ?_
  rintro e w1 ⟨rfl, rfl⟩
  go_upto_region 4 with (fail)
  rw [e1.out, e2.out, e3.out, e4.out]
  have R1 := Lib.hid (show ∀ u, Calls Try.prog 56 #[.agg #[.int .u64 0, .int .u64 0], .int .u64 (a0 : Int), .int .u64 (b0 : Int)] u fun r w' => r = .returned (dbl h1 l1) ∧ Below u.heap.size u w' from R1.out)
  go_wp2_with fail
  refine (R1.out _).mono ?_
  rintro e v1 ⟨rfl, hb⟩
  have T1 := Lib.hid ((T0.out).next hb)
  clear hb
  go_wp2_with fail
  refine (R2.out _).mono ?_
  rintro e v2 ⟨rfl, hb⟩
  have T2 := Lib.hid ((T1.out).next hb)
  clear hb
  go_wp2_with fail
  refine (R3.out _).mono ?_
  rintro e v3 ⟨rfl, hb⟩
  have T3 := Lib.hid ((T2.out).next hb)
  clear hb
  go_wp2_with fail
  refine (R4.out _).mono ?_
  rintro e v4 ⟨rfl, hb⟩
  have T4 := Lib.hid ((T3.out).next hb)
  clear hb
  go_wp2_with fail
  refine (R5.out _).mono ?_
  rintro e v5 ⟨rfl, hb⟩
  have T5 := Lib.hid ((T4.out).next hb)
  clear hb
  go_wp2_with fail
  refine (Q1.out _).mono ?_
  rintro e v6 ⟨rfl, hb⟩
  have T6 := Lib.hid ((T5.out.add h5 l5).next hb)
  clear hb
  go_wp2_with fail
  refine (R6.out _).mono ?_
  rintro e v7 ⟨rfl, hb⟩
  have T7 := Lib.hid ((T6.out).next hb)
  clear hb
  go_wp2_with fail
  refine (R7.out _).mono ?_
  rintro e v8 ⟨rfl, hb⟩
  have T8 := Lib.hid ((T7.out).next hb)
  clear hb
  go_wp2_with fail
  refine (R8.out _).mono ?_
  rintro e v9 ⟨rfl, hb⟩
  have T9 := Lib.hid ((T8.out).next hb)
  clear hb
  go_wp2_with fail
  refine (R9.out _).mono ?_
  rintro e v10 ⟨rfl, hb⟩
  have T10 := Lib.hid ((T9.out).next hb)
  clear hb
  go_wp2_with fail
  refine (R10.out _).mono ?_
  rintro e v11 ⟨rfl, hb⟩
  have T11 := Lib.hid ((T10.out).next hb)
  clear hb
  go_wp2_with fail
  refine (Q2.out _).mono ?_
  rintro e v12 ⟨rfl, hb⟩
  have T12 := Lib.hid ((T11.out.add h10 l10).next hb)
  clear hb
  go_wp2_with fail
  refine (R11.out _).mono ?_
  rintro e v13 ⟨rfl, hb⟩
  have T13 := Lib.hid ((T12.out).next hb)
  clear hb
  go_wp2_with fail
  refine (R12.out _).mono ?_
  rintro e v14 ⟨rfl, hb⟩
  have T14 := Lib.hid ((T13.out).next hb)
  clear hb
  go_wp2_with fail
  refine (R13.out _).mono ?_
  rintro e v15 ⟨rfl, hb⟩
  have T15 := Lib.hid ((T14.out).next hb)
  clear hb
  go_wp2_with fail
  refine (R14.out _).mono ?_
  rintro e v16 ⟨rfl, hb⟩
  have T16 := Lib.hid ((T15.out).next hb)
  clear hb
  go_wp2_with fail
  refine (R15.out _).mono ?_
  rintro e v17 ⟨rfl, hb⟩
  have T17 := Lib.hid ((T16.out).next hb)
  clear hb
  go_wp2_with fail
  refine (Q3.out _).mono ?_
  rintro e v18 ⟨rfl, hb⟩
  have T18 := Lib.hid ((T17.out.add h15 l15).next hb)
  clear hb
  go_wp2_with fail
  refine (R16.out _).mono ?_
  rintro e v19 ⟨rfl, hb⟩
  have T19 := Lib.hid ((T18.out).next hb)
  clear hb
  go_wp2_with fail
  refine (R17.out _).mono ?_
  rintro e v20 ⟨rfl, hb⟩
  have T20 := Lib.hid ((T19.out).next hb)
  clear hb
  go_wp2_with fail
  refine (R18.out _).mono ?_
  rintro e v21 ⟨rfl, hb⟩
  have T21 := Lib.hid ((T20.out).next hb)
  clear hb
  go_wp2_with fail
  refine (R19.out _).mono ?_
  rintro e v22 ⟨rfl, hb⟩
  have T22 := Lib.hid ((T21.out).next hb)
  clear hb
  go_wp2_with fail
  refine (R20.out _).mono ?_
  rintro e v23 ⟨rfl, hb⟩
  have T23 := Lib.hid ((T22.out).next hb)
  clear hb
  go_wp2_with fail
  refine (Q4.out _).mono ?_
  rintro e v24 ⟨rfl, hb⟩
  have T24 := Lib.hid ((T23.out.add h20 l20).next hb)
  clear hb
  go_wp2_with fail
  refine (R21.out _).mono ?_
  rintro e v25 ⟨rfl, hb⟩
  have T25 := Lib.hid ((T24.out).next hb)
  clear hb
  go_wp2_with fail
  refine (R22.out _).mono ?_
  rintro e v26 ⟨rfl, hb⟩
  have T26 := Lib.hid ((T25.out).next hb)
  clear hb
  go_wp2_with fail
  refine (R23.out _).mono ?_
  rintro e v27 ⟨rfl, hb⟩
  have T27 := Lib.hid ((T26.out).next hb)
  clear hb
  go_wp2_with fail
  refine (R24.out _).mono ?_
  rintro e v28 ⟨rfl, hb⟩
  have T28 := Lib.hid ((T27.out).next hb)
  clear hb
  go_wp2_with fail
  refine (R25.out _).mono ?_
  rintro e v29 ⟨rfl, hb⟩
  have T29 := Lib.hid ((T28.out).next hb)
  clear hb
  go_upto_region 9 with (fail)
  have TD := Lib.hid (Tm.drew (T29.out.add h25 l25))
  clear T29
  generalize v29.alloc (.cells #[.int .u64 (h25 : Int), .int .u64 (l25 : Int)] 62) = wz at *
  refine Steady.region 16 (by kernel_rfl) (by kernel_rfl) (fun u => Below wz.drew.heap.size wz.drew u) (Below.refl _ _) ?_
  simp only [List.take_succ_cons, List.take_zero, List.drop_succ_cons, List.drop_zero]
  refine Steady.take ?_ rfl (by intro u hu; obtain ⟨g0, g1⟩ := (TD.out.next hu).cells (p := v5.heap.size) (x := h5) (y := l5) (by simp); go_simp; with_reducible rfl) ?_
  simp only [Act.put, List.setIfInBounds_toArray, List.set_cons_zero, List.set_cons_succ]
  refine Steady.call _ _ _ rfl ?_ (Steady.kept X0.out) ?_
  · intro u
    go_simp
  simp only [Act.put, List.setIfInBounds_toArray, List.set_cons_zero, List.set_cons_succ]
  refine Steady.take ?_ rfl (by intro u hu; obtain ⟨g0, g1⟩ := (TD.out.next hu).cells (p := v29.heap.size) (x := h25) (y := l25) (by simp); go_simp; with_reducible rfl) ?_
  simp only [Act.put, List.setIfInBounds_toArray, List.set_cons_zero, List.set_cons_succ]
  refine Steady.call _ _ _ rfl ?_ (Steady.kept Q5.out) ?_
  · intro u
    go_simp
  simp only [Act.put, List.setIfInBounds_toArray, List.set_cons_zero, List.set_cons_succ]
  simp only [dbl]
  have hfl := fun u => field_low ho5 lo5 u
  refine Steady.take ?_ rfl (by intro u hu; go_simp; with_reducible rfl) ?_
  simp only [Act.put, List.setIfInBounds_toArray, List.set_cons_zero, List.set_cons_succ]
  clear hfl
  refine Steady.take ?_ rfl (by intro u hu; go_simp; with_reducible rfl) ?_
  simp only [Act.put, List.setIfInBounds_toArray, List.set_cons_zero, List.set_cons_succ]
  refine Steady.take ?_ rfl (by intro u hu; go_simp; with_reducible rfl) ?_
  simp only [Act.put, List.setIfInBounds_toArray, List.set_cons_zero, List.set_cons_succ]
  refine Steady.take ?_ rfl (by intro u hu; obtain ⟨g0, g1⟩ := (TD.out.next hu).cells (p := v11.heap.size) (x := h10) (y := l10) (by simp); go_simp; with_reducible rfl) ?_
  simp only [Act.put, List.setIfInBounds_toArray, List.set_cons_zero, List.set_cons_succ]
  refine Steady.call _ _ _ rfl ?_ (Steady.kept X1.out) ?_
  · intro u
    go_simp
  simp only [Act.put, List.setIfInBounds_toArray, List.set_cons_zero, List.set_cons_succ]
  refine Steady.take ?_ rfl (by intro u hu; obtain ⟨g0, g1⟩ := (TD.out.next hu).cells (p := v17.heap.size) (x := h15) (y := l15) (by simp); go_simp; with_reducible rfl) ?_
  simp only [Act.put, List.setIfInBounds_toArray, List.set_cons_zero, List.set_cons_succ]
  refine Steady.call _ _ _ rfl ?_ (Steady.kept X2.out) ?_
  · intro u
    go_simp
  simp only [Act.put, List.setIfInBounds_toArray, List.set_cons_zero, List.set_cons_succ]
  refine Steady.take ?_ rfl (by intro u hu; obtain ⟨g0, g1⟩ := (TD.out.next hu).cells (p := v23.heap.size) (x := h20) (y := l20) (by simp); go_simp; with_reducible rfl) ?_
  simp only [Act.put, List.setIfInBounds_toArray, List.set_cons_zero, List.set_cons_succ]
  refine Steady.call _ _ _ rfl ?_ (Steady.kept X3.out) ?_
  · intro u
    go_simp
  simp only [Act.put, List.setIfInBounds_toArray, List.set_cons_zero, List.set_cons_succ]
  refine Steady.take ?_ rfl (by intro u hu; obtain ⟨g0, g1⟩ := (TD.out.next hu).cells (p := v29.heap.size) (x := h25) (y := l25) (by simp); go_simp; with_reducible rfl) ?_
  simp only [Act.put, List.setIfInBounds_toArray, List.set_cons_zero, List.set_cons_succ]
  refine Steady.call _ _ _ rfl ?_ (Steady.kept X4.out) ?_
  · intro u
    go_simp
  simp only [Act.put, List.setIfInBounds_toArray, List.set_cons_zero, List.set_cons_succ]
  refine Steady.call _ _ _ rfl ?_ (Steady.kept RR.out) ?_
  · intro u
    go_simp
    rw [mul19', wrapN _ (by omega), addN, wrapN _ (by omega)]
  simp only [Act.put, List.setIfInBounds_toArray, List.set_cons_zero, List.set_cons_succ]
  refine Steady.nil ?_
  intro w9 h9
  have T9 := TD.out.next h9
  have c0 := T9.z.row.cell (i := 0) rfl
  have c1' := T9.z.row.cell (i := 1) rfl
  have c2' := T9.z.row.cell (i := 2) rfl
  have c3' := T9.z.row.cell (i := 3) rfl
  have c4' := T9.z.row.cell (i := 4) rfl
  have f0 := T9.z.row.free (i := 0) (by decide)
  have f1 := T9.z.row.free (i := 1) (by decide)
  have f2 := T9.z.row.free (i := 2) (by decide)
  have f3 := T9.z.row.free (i := 3) (by decide)
  have f4 := T9.z.row.free (i := 4) (by decide)
  have HB := Lib.hid T9.below
  clear T9 h9 TD
  go_wp2
  exact bodyPost_ret (v := five r0 r1 r2 r3 r4) (by simp [results, Try.results22, go_sem, c0, c1', c2', c3', c4']) rfl ⟨rfl, set5 HB.out (by omega) _ _ _ _ _⟩
end Go.Proofs.Ytcglobpklhkebaa.Limb
