/-
  LimbsRing: sums and products keep the laws of numbers, in any order and grouping, products over sums, and a difference undoes a sum: for every input, the law answers true and changes nothing that was there. No condition.
-/
import Derived.Test.YtblheplpaiokkabLmbAwake
import Derived.Test.YtblheplpaiokkabRows
import Derived.Test.YtblheplpaiokkabOpen
namespace Go.Proofs.Ytblheplpaiokkab.LawRing
open Go.ChangeShapes Go.WideShapes Go.ChangeAt Go.RowKit Mur Lanes Limb
set_option maxRecDepth 100000

theorem lt_mod (n : Nat) : n % Prime.P < 57896044618658097711785492504343953926634992332820282019728792003956564819968 := Nat.lt_trans (Nat.mod_lt _ P_pos) P_lt
theorem sub_back (n m : Nat) : subP ((n + m) % Prime.P) m = n % Prime.P := by
  unfold subP
  have hP := P_eq
  generalize Prime.P = p at *
  subst hP
  omega

set_option maxHeartbeats 6400000 in
theorem walk (a0 b0 c0 d0 e0 a1 b1 c1 d1 e1 a2 b2 c2 d2 e2 : Nat) (w : World) (h0 : Words5 a0 b0 c0 d0 e0) (h1 : Words5 a1 b1 c1 d1 e1) (h2 : Words5 a2 b2 c2 d2 e2) :
    Calls Try.prog 3 #[five a0 b0 c0 d0 e0, five a1 b1 c1 d1 e1, five a2 b2 c2 d2 e2] w fun e w' => e = .returned (.bool true) ∧ Below w.heap.size w w' := by
  have lA := lims_five h0
  have lB := lims_five h1
  have lC := lims_five h2
  obtain ⟨N, hN⟩ : ∃ N, N = wor a0 b0 c0 d0 e0 := ⟨_, rfl⟩
  obtain ⟨M, hM⟩ : ∃ N, N = wor a1 b1 c1 d1 e1 := ⟨_, rfl⟩
  obtain ⟨O, hO⟩ : ∃ N, N = wor a2 b2 c2 d2 e2 := ⟨_, rfl⟩
  rw [← hN] at lA
  rw [← hM] at lB
  rw [← hO] at lC
  obtain ⟨X1, hX1⟩ : ∃ x, x = (N + M) % Prime.P := ⟨_, rfl⟩
  have bX1 : X1 < 57896044618658097711785492504343953926634992332820282019728792003956564819968 := by rw [hX1]; exact lt_mod _
  have lX1 := lims_lim bX1
  obtain ⟨X2, hX2⟩ : ∃ x, x = N * M % Prime.P := ⟨_, rfl⟩
  have bX2 : X2 < 57896044618658097711785492504343953926634992332820282019728792003956564819968 := by rw [hX2]; exact lt_mod _
  have lX2 := lims_lim bX2
  obtain ⟨X3, hX3⟩ : ∃ x, x = (N + M + O) % Prime.P := ⟨_, rfl⟩
  have bX3 : X3 < 57896044618658097711785492504343953926634992332820282019728792003956564819968 := by rw [hX3]; exact lt_mod _
  have lX3 := lims_lim bX3
  obtain ⟨X4, hX4⟩ : ∃ x, x = (M + O) % Prime.P := ⟨_, rfl⟩
  have bX4 : X4 < 57896044618658097711785492504343953926634992332820282019728792003956564819968 := by rw [hX4]; exact lt_mod _
  have lX4 := lims_lim bX4
  obtain ⟨X5, hX5⟩ : ∃ x, x = N * M * O % Prime.P := ⟨_, rfl⟩
  have bX5 : X5 < 57896044618658097711785492504343953926634992332820282019728792003956564819968 := by rw [hX5]; exact lt_mod _
  have lX5 := lims_lim bX5
  obtain ⟨X6, hX6⟩ : ∃ x, x = M * O % Prime.P := ⟨_, rfl⟩
  have bX6 : X6 < 57896044618658097711785492504343953926634992332820282019728792003956564819968 := by rw [hX6]; exact lt_mod _
  have lX6 := lims_lim bX6
  obtain ⟨X7, hX7⟩ : ∃ x, x = N * (M + O) % Prime.P := ⟨_, rfl⟩
  have bX7 : X7 < 57896044618658097711785492504343953926634992332820282019728792003956564819968 := by rw [hX7]; exact lt_mod _
  have lX7 := lims_lim bX7
  obtain ⟨X8, hX8⟩ : ∃ x, x = N * O % Prime.P := ⟨_, rfl⟩
  have bX8 : X8 < 57896044618658097711785492504343953926634992332820282019728792003956564819968 := by rw [hX8]; exact lt_mod _
  have lX8 := lims_lim bX8
  obtain ⟨X9, hX9⟩ : ∃ x, x = N % Prime.P := ⟨_, rfl⟩
  have bX9 : X9 < 57896044618658097711785492504343953926634992332820282019728792003956564819968 := by rw [hX9]; exact lt_mod _
  have lX9 := lims_lim bX9
  obtain ⟨X10, hX10⟩ : ∃ x, x = N * N % Prime.P := ⟨_, rfl⟩
  have bX10 : X10 < 57896044618658097711785492504343953926634992332820282019728792003956564819968 := by rw [hX10]; exact lt_mod _
  have lX10 := lims_lim bX10
  have R1 := Lib.hid (show ∀ u, Calls Try.prog 8 #[five a0 b0 c0 d0 e0, five a1 b1 c1 d1 e1] u fun r w' => r = .returned (limV X1) ∧ Below u.heap.size u w' from fun u => by
    have := add_val lA lB u
    rw [show (N + M) % Prime.P = X1 from hX1.symm] at this
    exact this)
  have R2 := Lib.hid (show ∀ u, Calls Try.prog 8 #[five a1 b1 c1 d1 e1, five a0 b0 c0 d0 e0] u fun r w' => r = .returned (limV X1) ∧ Below u.heap.size u w' from fun u => by
    have := add_val lB lA u
    rw [show (M + N) % Prime.P = X1 from by rw [hX1, Nat.add_comm]] at this
    exact this)
  have R3 := Lib.hid (show ∀ u, Calls Try.prog 9 #[five a0 b0 c0 d0 e0, five a1 b1 c1 d1 e1] u fun r w' => r = .returned (limV X2) ∧ Below u.heap.size u w' from fun u => by
    have := times_val lA lB u
    rw [show N * M % Prime.P = X2 from hX2.symm] at this
    exact this)
  have R4 := Lib.hid (show ∀ u, Calls Try.prog 9 #[five a1 b1 c1 d1 e1, five a0 b0 c0 d0 e0] u fun r w' => r = .returned (limV X2) ∧ Below u.heap.size u w' from fun u => by
    have := times_val lB lA u
    rw [show M * N % Prime.P = X2 from by rw [hX2, Nat.mul_comm]] at this
    exact this)
  have R6 := Lib.hid (show ∀ u, Calls Try.prog 8 #[limV X1, five a2 b2 c2 d2 e2] u fun r w' => r = .returned (limV X3) ∧ Below u.heap.size u w' from fun u => by
    have := add_val lX1 lC u
    rw [show (X1 + O) % Prime.P = X3 from by rw [hX1, hX3, Nat.mod_add_mod]] at this
    exact this)
  have R7 := Lib.hid (show ∀ u, Calls Try.prog 8 #[five a1 b1 c1 d1 e1, five a2 b2 c2 d2 e2] u fun r w' => r = .returned (limV X4) ∧ Below u.heap.size u w' from fun u => by
    have := add_val lB lC u
    rw [show (M + O) % Prime.P = X4 from hX4.symm] at this
    exact this)
  have R8 := Lib.hid (show ∀ u, Calls Try.prog 8 #[five a0 b0 c0 d0 e0, limV X4] u fun r w' => r = .returned (limV X3) ∧ Below u.heap.size u w' from fun u => by
    have := add_val lA lX4 u
    rw [show (N + X4) % Prime.P = X3 from by rw [hX4, hX3, Nat.add_mod_mod, Nat.add_assoc]] at this
    exact this)
  have R10 := Lib.hid (show ∀ u, Calls Try.prog 9 #[limV X2, five a2 b2 c2 d2 e2] u fun r w' => r = .returned (limV X5) ∧ Below u.heap.size u w' from fun u => by
    have := times_val lX2 lC u
    rw [show X2 * O % Prime.P = X5 from by rw [hX2, hX5, Nat.mod_mul_mod]] at this
    exact this)
  have R11 := Lib.hid (show ∀ u, Calls Try.prog 9 #[five a1 b1 c1 d1 e1, five a2 b2 c2 d2 e2] u fun r w' => r = .returned (limV X6) ∧ Below u.heap.size u w' from fun u => by
    have := times_val lB lC u
    rw [show M * O % Prime.P = X6 from hX6.symm] at this
    exact this)
  have R12 := Lib.hid (show ∀ u, Calls Try.prog 9 #[five a0 b0 c0 d0 e0, limV X6] u fun r w' => r = .returned (limV X5) ∧ Below u.heap.size u w' from fun u => by
    have := times_val lA lX6 u
    rw [show N * X6 % Prime.P = X5 from by rw [hX6, hX5, Nat.mul_mod_mod, Nat.mul_assoc]] at this
    exact this)
  have T2 := Lib.hid (show ∀ u, Calls Try.prog 9 #[five a0 b0 c0 d0 e0, limV X4] u fun r w' => r = .returned (limV X7) ∧ Below u.heap.size u w' from fun u => by
    have := times_val lA lX4 u
    rw [show N * X4 % Prime.P = X7 from by rw [hX4, hX7, Nat.mul_mod_mod]] at this
    exact this)
  have T4 := Lib.hid (show ∀ u, Calls Try.prog 9 #[five a0 b0 c0 d0 e0, five a2 b2 c2 d2 e2] u fun r w' => r = .returned (limV X8) ∧ Below u.heap.size u w' from fun u => by
    have := times_val lA lC u
    rw [show N * O % Prime.P = X8 from hX8.symm] at this
    exact this)
  have T5 := Lib.hid (show ∀ u, Calls Try.prog 8 #[limV X2, limV X8] u fun r w' => r = .returned (limV X7) ∧ Below u.heap.size u w' from fun u => by
    have := add_val lX2 lX8 u
    rw [show (X2 + X8) % Prime.P = X7 from by rw [hX2, hX8, hX7, ← Nat.add_mod, ← Nat.mul_add]] at this
    exact this)
  have T7 := Lib.hid (show ∀ u, Calls Try.prog 10 #[limV X1, five a1 b1 c1 d1 e1] u fun r w' => r = .returned (limV X9) ∧ Below u.heap.size u w' from fun u => by
    have := sub_val lX1 lB u
    rw [show subP X1 M = X9 from by rw [hX1, hX9]; exact sub_back N M] at this
    exact this)
  have T8 := Lib.hid (show ∀ u, Calls Try.prog 11 #[five a0 b0 c0 d0 e0] u fun r w' => r = .returned (limV X9) ∧ Below u.heap.size u w' from fun u => by
    have := carry_val lA u
    rw [show N % Prime.P = X9 from hX9.symm] at this
    exact this)
  have T9 := Lib.hid (show ∀ u, Calls Try.prog 12 #[five a0 b0 c0 d0 e0, .int .i64 1] u fun r w' => r = .returned (limV X10) ∧ Below u.heap.size u w' from fun u => by
    have := square_val lA 1 (by decide) (by decide) u
    rw [show times 1 = 1 by decide, Nat.pow_one, Nat.pow_two, ← hX10] at this
    exact this)
  have T10 := Lib.hid (show ∀ u, Calls Try.prog 9 #[five a0 b0 c0 d0 e0, five a0 b0 c0 d0 e0] u fun r w' => r = .returned (limV X10) ∧ Below u.heap.size u w' from fun u => by
    have := times_val lA lA u
    rw [show N * N % Prime.P = X10 from hX10.symm] at this
    exact this)
  have TL := Lib.hid (fun u => live_any u)
  clear h0 h1 h2 lA lB lC hN hM hO hX1 hX2 hX3 hX4 hX5 hX6 hX7 hX8 hX9 hX10 lX1 lX2 lX3 lX4 lX5 lX6 lX7 lX8 lX9 lX10
  have BA := Lib.hid (((Whole.made' w 24 (fiveL a0 b0 c0 d0 e0).toArray _ rfl).alloc (.cells (fiveL a1 b1 c1 d1 e1).toArray 24)).alloc (.cells (fiveL a2 b2 c2 d2 e2).toArray 24))
  have BB := Lib.hid ((Whole.made' (w.alloc (.cells (fiveL a0 b0 c0 d0 e0).toArray 24)) 24 (fiveL a1 b1 c1 d1 e1).toArray (w.heap.size + 1) (by simp)).alloc (.cells (fiveL a2 b2 c2 d2 e2).toArray 24))
  have BC := Lib.hid (Whole.made' ((w.alloc (.cells (fiveL a0 b0 c0 d0 e0).toArray 24)).alloc (.cells (fiveL a1 b1 c1 d1 e1).toArray 24)) 24 (fiveL a2 b2 c2 d2 e2).toArray (w.heap.size + 1 + 1) (by simp))
  have HB := Lib.hid ((((Below.refl w.heap.size w).alloc (Nat.le_refl _) (.cells (fiveL a0 b0 c0 d0 e0).toArray 24)).alloc (by simp) (.cells (fiveL a1 b1 c1 d1 e1).toArray 24)).alloc (by simp; omega) (.cells (fiveL a2 b2 c2 d2 e2).toArray 24))
  go_enter Try.func3, Try.ntmps3
  go_upto_region 1 with (fail)
  generalize ((w.alloc (.cells #[.int .u64 (a0 : Int), .int .u64 (b0 : Int), .int .u64 (c0 : Int), .int .u64 (d0 : Int), .int .u64 (e0 : Int)] 24)).alloc (.cells #[.int .u64 (a1 : Int), .int .u64 (b1 : Int), .int .u64 (c1 : Int), .int .u64 (d1 : Int), .int .u64 (e1 : Int)] 24)).alloc (.cells #[.int .u64 (a2 : Int), .int .u64 (b2 : Int), .int .u64 (c2 : Int), .int .u64 (d2 : Int), .int .u64 (e2 : Int)] 24) = wz at *
  refine Steady.region 41 (by kernel_rfl) (by kernel_rfl) (fun u => Below wz.drew.heap.size wz.drew u) (Below.refl _ _) ?_
  simp only [List.take_succ_cons, List.take_zero, List.drop_succ_cons, List.drop_zero]
  refine Steady.take ?_ rfl (by intro u hu; obtain ⟨t0, t1, t2, t3, t4⟩ := cells5 (BA.out.drew.below BA.out.lt hu); go_simp; with_reducible rfl) ?_
  simp only [Act.put, List.setIfInBounds_toArray, List.set_cons_zero, List.set_cons_succ]
  refine Steady.take ?_ rfl (by intro u hu; obtain ⟨t0, t1, t2, t3, t4⟩ := cells5 (BB.out.drew.below BB.out.lt hu); go_simp; with_reducible rfl) ?_
  simp only [Act.put, List.setIfInBounds_toArray, List.set_cons_zero, List.set_cons_succ]
  refine Steady.call _ _ _ rfl ?_ (Steady.kept R1.out) ?_
  · intro u
    go_simp
  simp only [Act.put, List.setIfInBounds_toArray, List.set_cons_zero, List.set_cons_succ]
  refine Steady.take ?_ rfl (by intro u hu; obtain ⟨t0, t1, t2, t3, t4⟩ := cells5 (BB.out.drew.below BB.out.lt hu); go_simp; with_reducible rfl) ?_
  simp only [Act.put, List.setIfInBounds_toArray, List.set_cons_zero, List.set_cons_succ]
  refine Steady.take ?_ rfl (by intro u hu; obtain ⟨t0, t1, t2, t3, t4⟩ := cells5 (BA.out.drew.below BA.out.lt hu); go_simp; with_reducible rfl) ?_
  simp only [Act.put, List.setIfInBounds_toArray, List.set_cons_zero, List.set_cons_succ]
  refine Steady.call _ _ _ rfl ?_ (Steady.kept R2.out) ?_
  · intro u
    go_simp
  simp only [Act.put, List.setIfInBounds_toArray, List.set_cons_zero, List.set_cons_succ]
  refine Steady.take (.bool false) rfl (fun u _ => neq_no X1 rfl bX1 (by rfl) (by rfl) u) ?_
  simp only [Act.put, List.setIfInBounds_toArray, List.set_cons_zero, List.set_cons_succ]
  refine Steady.take ?_ rfl (by intro u hu; go_simp; with_reducible rfl) ?_
  simp only [Act.put, List.setIfInBounds_toArray, List.set_cons_zero, List.set_cons_succ]
  refine Steady.take ?_ rfl (by intro u hu; obtain ⟨t0, t1, t2, t3, t4⟩ := cells5 (BA.out.drew.below BA.out.lt hu); go_simp; with_reducible rfl) ?_
  simp only [Act.put, List.setIfInBounds_toArray, List.set_cons_zero, List.set_cons_succ]
  refine Steady.take ?_ rfl (by intro u hu; obtain ⟨t0, t1, t2, t3, t4⟩ := cells5 (BB.out.drew.below BB.out.lt hu); go_simp; with_reducible rfl) ?_
  simp only [Act.put, List.setIfInBounds_toArray, List.set_cons_zero, List.set_cons_succ]
  refine Steady.call _ _ _ rfl ?_ (Steady.kept R3.out) ?_
  · intro u
    go_simp
  simp only [Act.put, List.setIfInBounds_toArray, List.set_cons_zero, List.set_cons_succ]
  refine Steady.take ?_ rfl (by intro u hu; obtain ⟨t0, t1, t2, t3, t4⟩ := cells5 (BB.out.drew.below BB.out.lt hu); go_simp; with_reducible rfl) ?_
  simp only [Act.put, List.setIfInBounds_toArray, List.set_cons_zero, List.set_cons_succ]
  refine Steady.take ?_ rfl (by intro u hu; obtain ⟨t0, t1, t2, t3, t4⟩ := cells5 (BA.out.drew.below BA.out.lt hu); go_simp; with_reducible rfl) ?_
  simp only [Act.put, List.setIfInBounds_toArray, List.set_cons_zero, List.set_cons_succ]
  refine Steady.call _ _ _ rfl ?_ (Steady.kept R4.out) ?_
  · intro u
    go_simp
  simp only [Act.put, List.setIfInBounds_toArray, List.set_cons_zero, List.set_cons_succ]
  refine Steady.take (.bool false) rfl (fun u _ => neq_no X2 rfl bX2 (by rfl) (by rfl) u) ?_
  simp only [Act.put, List.setIfInBounds_toArray, List.set_cons_zero, List.set_cons_succ]
  refine Steady.take ?_ rfl (by intro u hu; go_simp; with_reducible rfl) ?_
  simp only [Act.put, List.setIfInBounds_toArray, List.set_cons_zero, List.set_cons_succ]
  refine Steady.take ?_ rfl (by intro u hu; go_simp; with_reducible rfl) ?_
  simp only [Act.put, List.setIfInBounds_toArray, List.set_cons_zero, List.set_cons_succ]
  refine Steady.take ?_ rfl (by intro u hu; obtain ⟨t0, t1, t2, t3, t4⟩ := cells5 (BA.out.drew.below BA.out.lt hu); go_simp; with_reducible rfl) ?_
  simp only [Act.put, List.setIfInBounds_toArray, List.set_cons_zero, List.set_cons_succ]
  refine Steady.take ?_ rfl (by intro u hu; obtain ⟨t0, t1, t2, t3, t4⟩ := cells5 (BB.out.drew.below BB.out.lt hu); go_simp; with_reducible rfl) ?_
  simp only [Act.put, List.setIfInBounds_toArray, List.set_cons_zero, List.set_cons_succ]
  refine Steady.call _ _ _ rfl ?_ (Steady.kept R1.out) ?_
  · intro u
    go_simp
  simp only [Act.put, List.setIfInBounds_toArray, List.set_cons_zero, List.set_cons_succ]
  refine Steady.take ?_ rfl (by intro u hu; obtain ⟨t0, t1, t2, t3, t4⟩ := cells5 (BC.out.drew.below BC.out.lt hu); go_simp; with_reducible rfl) ?_
  simp only [Act.put, List.setIfInBounds_toArray, List.set_cons_zero, List.set_cons_succ]
  refine Steady.call _ _ _ rfl ?_ (Steady.kept R6.out) ?_
  · intro u
    go_simp
  simp only [Act.put, List.setIfInBounds_toArray, List.set_cons_zero, List.set_cons_succ]
  refine Steady.take ?_ rfl (by intro u hu; obtain ⟨t0, t1, t2, t3, t4⟩ := cells5 (BA.out.drew.below BA.out.lt hu); go_simp; with_reducible rfl) ?_
  simp only [Act.put, List.setIfInBounds_toArray, List.set_cons_zero, List.set_cons_succ]
  refine Steady.take ?_ rfl (by intro u hu; obtain ⟨t0, t1, t2, t3, t4⟩ := cells5 (BB.out.drew.below BB.out.lt hu); go_simp; with_reducible rfl) ?_
  simp only [Act.put, List.setIfInBounds_toArray, List.set_cons_zero, List.set_cons_succ]
  refine Steady.take ?_ rfl (by intro u hu; obtain ⟨t0, t1, t2, t3, t4⟩ := cells5 (BC.out.drew.below BC.out.lt hu); go_simp; with_reducible rfl) ?_
  simp only [Act.put, List.setIfInBounds_toArray, List.set_cons_zero, List.set_cons_succ]
  refine Steady.call _ _ _ rfl ?_ (Steady.kept R7.out) ?_
  · intro u
    go_simp
  simp only [Act.put, List.setIfInBounds_toArray, List.set_cons_zero, List.set_cons_succ]
  refine Steady.call _ _ _ rfl ?_ (Steady.kept R8.out) ?_
  · intro u
    go_simp
  simp only [Act.put, List.setIfInBounds_toArray, List.set_cons_zero, List.set_cons_succ]
  refine Steady.take (.bool false) rfl (fun u _ => neq_no X3 rfl bX3 (by rfl) (by rfl) u) ?_
  simp only [Act.put, List.setIfInBounds_toArray, List.set_cons_zero, List.set_cons_succ]
  refine Steady.take ?_ rfl (by intro u hu; go_simp; with_reducible rfl) ?_
  simp only [Act.put, List.setIfInBounds_toArray, List.set_cons_zero, List.set_cons_succ]
  refine Steady.take ?_ rfl (by intro u hu; go_simp; with_reducible rfl) ?_
  simp only [Act.put, List.setIfInBounds_toArray, List.set_cons_zero, List.set_cons_succ]
  refine Steady.take ?_ rfl (by intro u hu; obtain ⟨t0, t1, t2, t3, t4⟩ := cells5 (BA.out.drew.below BA.out.lt hu); go_simp; with_reducible rfl) ?_
  simp only [Act.put, List.setIfInBounds_toArray, List.set_cons_zero, List.set_cons_succ]
  refine Steady.take ?_ rfl (by intro u hu; obtain ⟨t0, t1, t2, t3, t4⟩ := cells5 (BB.out.drew.below BB.out.lt hu); go_simp; with_reducible rfl) ?_
  simp only [Act.put, List.setIfInBounds_toArray, List.set_cons_zero, List.set_cons_succ]
  refine Steady.call _ _ _ rfl ?_ (Steady.kept R3.out) ?_
  · intro u
    go_simp
  simp only [Act.put, List.setIfInBounds_toArray, List.set_cons_zero, List.set_cons_succ]
  refine Steady.take ?_ rfl (by intro u hu; obtain ⟨t0, t1, t2, t3, t4⟩ := cells5 (BC.out.drew.below BC.out.lt hu); go_simp; with_reducible rfl) ?_
  simp only [Act.put, List.setIfInBounds_toArray, List.set_cons_zero, List.set_cons_succ]
  refine Steady.call _ _ _ rfl ?_ (Steady.kept R10.out) ?_
  · intro u
    go_simp
  simp only [Act.put, List.setIfInBounds_toArray, List.set_cons_zero, List.set_cons_succ]
  refine Steady.take ?_ rfl (by intro u hu; obtain ⟨t0, t1, t2, t3, t4⟩ := cells5 (BA.out.drew.below BA.out.lt hu); go_simp; with_reducible rfl) ?_
  simp only [Act.put, List.setIfInBounds_toArray, List.set_cons_zero, List.set_cons_succ]
  refine Steady.take ?_ rfl (by intro u hu; obtain ⟨t0, t1, t2, t3, t4⟩ := cells5 (BB.out.drew.below BB.out.lt hu); go_simp; with_reducible rfl) ?_
  simp only [Act.put, List.setIfInBounds_toArray, List.set_cons_zero, List.set_cons_succ]
  refine Steady.take ?_ rfl (by intro u hu; obtain ⟨t0, t1, t2, t3, t4⟩ := cells5 (BC.out.drew.below BC.out.lt hu); go_simp; with_reducible rfl) ?_
  simp only [Act.put, List.setIfInBounds_toArray, List.set_cons_zero, List.set_cons_succ]
  refine Steady.call _ _ _ rfl ?_ (Steady.kept R11.out) ?_
  · intro u
    go_simp
  simp only [Act.put, List.setIfInBounds_toArray, List.set_cons_zero, List.set_cons_succ]
  refine Steady.call _ _ _ rfl ?_ (Steady.kept R12.out) ?_
  · intro u
    go_simp
  simp only [Act.put, List.setIfInBounds_toArray, List.set_cons_zero, List.set_cons_succ]
  refine Steady.take (.bool false) rfl (fun u _ => neq_no X5 rfl bX5 (by rfl) (by rfl) u) ?_
  simp only [Act.put, List.setIfInBounds_toArray, List.set_cons_zero, List.set_cons_succ]
  refine Steady.nil ?_
  intro w9 h9
  have BA9 := Lib.hid (BA.out.drew.below BA.out.lt h9)
  have BB9 := Lib.hid (BB.out.drew.below BB.out.lt h9)
  have BC9 := Lib.hid (BC.out.drew.below BC.out.lt h9)
  have HB9 := Lib.hid (HB.out.drew.trans (h9.mono HB.out.size))
  clear h9
  go_upto_region 3 with (fail)
  refine Steady.region 34 (by kernel_rfl) (by kernel_rfl) (fun u => Below w9.drew.heap.size w9.drew u) (Below.refl _ _) ?_
  simp only [List.take_succ_cons, List.take_zero, List.drop_succ_cons, List.drop_zero]
  refine Steady.take ?_ rfl (by intro u hu; obtain ⟨t0, t1, t2, t3, t4⟩ := cells5 (BA9.out.drew.below BA9.out.lt hu); go_simp; with_reducible rfl) ?_
  simp only [Act.put, List.setIfInBounds_toArray, List.set_cons_zero, List.set_cons_succ]
  refine Steady.take ?_ rfl (by intro u hu; obtain ⟨t0, t1, t2, t3, t4⟩ := cells5 (BB9.out.drew.below BB9.out.lt hu); go_simp; with_reducible rfl) ?_
  simp only [Act.put, List.setIfInBounds_toArray, List.set_cons_zero, List.set_cons_succ]
  refine Steady.take ?_ rfl (by intro u hu; obtain ⟨t0, t1, t2, t3, t4⟩ := cells5 (BC9.out.drew.below BC9.out.lt hu); go_simp; with_reducible rfl) ?_
  simp only [Act.put, List.setIfInBounds_toArray, List.set_cons_zero, List.set_cons_succ]
  refine Steady.call _ _ _ rfl ?_ (Steady.kept R7.out) ?_
  · intro u
    go_simp
  simp only [Act.put, List.setIfInBounds_toArray, List.set_cons_zero, List.set_cons_succ]
  refine Steady.call _ _ _ rfl ?_ (Steady.kept T2.out) ?_
  · intro u
    go_simp
  simp only [Act.put, List.setIfInBounds_toArray, List.set_cons_zero, List.set_cons_succ]
  refine Steady.take ?_ rfl (by intro u hu; obtain ⟨t0, t1, t2, t3, t4⟩ := cells5 (BA9.out.drew.below BA9.out.lt hu); go_simp; with_reducible rfl) ?_
  simp only [Act.put, List.setIfInBounds_toArray, List.set_cons_zero, List.set_cons_succ]
  refine Steady.take ?_ rfl (by intro u hu; obtain ⟨t0, t1, t2, t3, t4⟩ := cells5 (BB9.out.drew.below BB9.out.lt hu); go_simp; with_reducible rfl) ?_
  simp only [Act.put, List.setIfInBounds_toArray, List.set_cons_zero, List.set_cons_succ]
  refine Steady.call _ _ _ rfl ?_ (Steady.kept R3.out) ?_
  · intro u
    go_simp
  simp only [Act.put, List.setIfInBounds_toArray, List.set_cons_zero, List.set_cons_succ]
  refine Steady.take ?_ rfl (by intro u hu; obtain ⟨t0, t1, t2, t3, t4⟩ := cells5 (BA9.out.drew.below BA9.out.lt hu); go_simp; with_reducible rfl) ?_
  simp only [Act.put, List.setIfInBounds_toArray, List.set_cons_zero, List.set_cons_succ]
  refine Steady.take ?_ rfl (by intro u hu; obtain ⟨t0, t1, t2, t3, t4⟩ := cells5 (BC9.out.drew.below BC9.out.lt hu); go_simp; with_reducible rfl) ?_
  simp only [Act.put, List.setIfInBounds_toArray, List.set_cons_zero, List.set_cons_succ]
  refine Steady.call _ _ _ rfl ?_ (Steady.kept T4.out) ?_
  · intro u
    go_simp
  simp only [Act.put, List.setIfInBounds_toArray, List.set_cons_zero, List.set_cons_succ]
  refine Steady.call _ _ _ rfl ?_ (Steady.kept T5.out) ?_
  · intro u
    go_simp
  simp only [Act.put, List.setIfInBounds_toArray, List.set_cons_zero, List.set_cons_succ]
  refine Steady.take (.bool true) rfl (fun u _ => eql_yes X7 rfl bX7 (by rfl) (by rfl) u) ?_
  simp only [Act.put, List.setIfInBounds_toArray, List.set_cons_zero, List.set_cons_succ]
  refine Steady.take ?_ rfl (by intro u hu; go_simp; with_reducible rfl) ?_
  simp only [Act.put, List.setIfInBounds_toArray, List.set_cons_zero, List.set_cons_succ]
  refine Steady.take ?_ rfl (by intro u hu; obtain ⟨t0, t1, t2, t3, t4⟩ := cells5 (BA9.out.drew.below BA9.out.lt hu); go_simp; with_reducible rfl) ?_
  simp only [Act.put, List.setIfInBounds_toArray, List.set_cons_zero, List.set_cons_succ]
  refine Steady.take ?_ rfl (by intro u hu; obtain ⟨t0, t1, t2, t3, t4⟩ := cells5 (BB9.out.drew.below BB9.out.lt hu); go_simp; with_reducible rfl) ?_
  simp only [Act.put, List.setIfInBounds_toArray, List.set_cons_zero, List.set_cons_succ]
  refine Steady.call _ _ _ rfl ?_ (Steady.kept R1.out) ?_
  · intro u
    go_simp
  simp only [Act.put, List.setIfInBounds_toArray, List.set_cons_zero, List.set_cons_succ]
  refine Steady.take ?_ rfl (by intro u hu; obtain ⟨t0, t1, t2, t3, t4⟩ := cells5 (BB9.out.drew.below BB9.out.lt hu); go_simp; with_reducible rfl) ?_
  simp only [Act.put, List.setIfInBounds_toArray, List.set_cons_zero, List.set_cons_succ]
  refine Steady.call _ _ _ rfl ?_ (Steady.kept T7.out) ?_
  · intro u
    go_simp
  simp only [Act.put, List.setIfInBounds_toArray, List.set_cons_zero, List.set_cons_succ]
  refine Steady.take ?_ rfl (by intro u hu; obtain ⟨t0, t1, t2, t3, t4⟩ := cells5 (BA9.out.drew.below BA9.out.lt hu); go_simp; with_reducible rfl) ?_
  simp only [Act.put, List.setIfInBounds_toArray, List.set_cons_zero, List.set_cons_succ]
  refine Steady.call _ _ _ rfl ?_ (Steady.kept T8.out) ?_
  · intro u
    go_simp
  simp only [Act.put, List.setIfInBounds_toArray, List.set_cons_zero, List.set_cons_succ]
  refine Steady.take (.bool true) rfl (fun u _ => eql_yes X9 rfl bX9 (by rfl) (by rfl) u) ?_
  simp only [Act.put, List.setIfInBounds_toArray, List.set_cons_zero, List.set_cons_succ]
  refine Steady.take ?_ rfl (by intro u hu; go_simp; with_reducible rfl) ?_
  simp only [Act.put, List.setIfInBounds_toArray, List.set_cons_zero, List.set_cons_succ]
  refine Steady.take ?_ rfl (by intro u hu; go_simp; with_reducible rfl) ?_
  simp only [Act.put, List.setIfInBounds_toArray, List.set_cons_zero, List.set_cons_succ]
  refine Steady.take ?_ rfl (by intro u hu; obtain ⟨t0, t1, t2, t3, t4⟩ := cells5 (BA9.out.drew.below BA9.out.lt hu); go_simp; with_reducible rfl) ?_
  simp only [Act.put, List.setIfInBounds_toArray, List.set_cons_zero, List.set_cons_succ]
  refine Steady.call _ _ _ rfl ?_ (Steady.kept T9.out) ?_
  · intro u
    go_simp
  simp only [Act.put, List.setIfInBounds_toArray, List.set_cons_zero, List.set_cons_succ]
  refine Steady.take ?_ rfl (by intro u hu; obtain ⟨t0, t1, t2, t3, t4⟩ := cells5 (BA9.out.drew.below BA9.out.lt hu); go_simp; with_reducible rfl) ?_
  simp only [Act.put, List.setIfInBounds_toArray, List.set_cons_zero, List.set_cons_succ]
  refine Steady.take ?_ rfl (by intro u hu; obtain ⟨t0, t1, t2, t3, t4⟩ := cells5 (BA9.out.drew.below BA9.out.lt hu); go_simp; with_reducible rfl) ?_
  simp only [Act.put, List.setIfInBounds_toArray, List.set_cons_zero, List.set_cons_succ]
  refine Steady.call _ _ _ rfl ?_ (Steady.kept T10.out) ?_
  · intro u
    go_simp
  simp only [Act.put, List.setIfInBounds_toArray, List.set_cons_zero, List.set_cons_succ]
  refine Steady.take (.bool true) rfl (fun u _ => eql_yes X10 rfl bX10 (by rfl) (by rfl) u) ?_
  simp only [Act.put, List.setIfInBounds_toArray, List.set_cons_zero, List.set_cons_succ]
  refine Steady.take ?_ rfl (by intro u hu; go_simp; with_reducible rfl) ?_
  simp only [Act.put, List.setIfInBounds_toArray, List.set_cons_zero, List.set_cons_succ]
  refine Steady.take ?_ rfl (by intro u hu; go_simp; with_reducible rfl) ?_
  simp only [Act.put, List.setIfInBounds_toArray, List.set_cons_zero, List.set_cons_succ]
  refine Steady.call _ _ _ rfl ?_ (Steady.kept TL.out) ?_
  · intro u
    go_simp
  simp only [Act.put, List.setIfInBounds_toArray, List.set_cons_zero, List.set_cons_succ]
  refine Steady.take ?_ rfl (by intro u hu; go_simp; with_reducible rfl) ?_
  simp only [Act.put, List.setIfInBounds_toArray, List.set_cons_zero, List.set_cons_succ]
  refine Steady.nil ?_
  intro w10 h10
  have HB10 := Lib.hid (HB9.out.drew.trans (h10.mono HB9.out.size))
  clear h10
  go_wp2
  go_ret
  exact ⟨rfl, HB10.out⟩

theorem own : ownKnob Try.prog.godebug = none := by kernel_rfl
theorem laidOut : laidOutB Try.prog = true := by kernel_rfl
theorem word_in {n : Int} (h : (Lit.int .u64 n).wf = true) : ∃ k : Nat, n = k ∧ k < 18446744073709551616 := by
  have h0 : IntKind.u64.min ≤ n ∧ n ≤ IntKind.u64.max := by simpa [Lit.wf] using h
  have e1 : IntKind.u64.min = 0 := by decide
  have e2 : IntKind.u64.max = 18446744073709551615 := by decide
  exact ⟨n.toNat, by omega, by omega⟩
/-- Five words, as numbers from 0 on. -/
theorem limbs_of (ns : List Int) (hl : ns.length = 5) (h : ∀ n ∈ ns, (Lit.int .u64 n).wf = true) : ∃ a b c d e : Nat, ns = [(a : Int), b, c, d, e] ∧ Words5 a b c d e := by
  match ns, hl with
  | [n0, n1, n2, n3, n4], _ =>
    obtain ⟨a, rfl, ha⟩ := word_in (h n0 (by simp))
    obtain ⟨b, rfl, hb⟩ := word_in (h n1 (by simp))
    obtain ⟨c, rfl, hc⟩ := word_in (h n2 (by simp))
    obtain ⟨d, rfl, hd⟩ := word_in (h n3 (by simp))
    obtain ⟨e, rfl, he⟩ := word_in (h n4 (by simp))
    exact ⟨a, b, c, d, e, rfl, ha, hb, hc, hd, he⟩

set_option maxRecDepth 100000 in
theorem lifted (os : Os) (started : os.Started) (H : Type) (enc : TypeId × Value → H) :
    ReturnsInHanded {} Try.checked os 3 .any (Rows.limbsRingSpec.pre6 enc Try.prog Try.f3 Rows.limbsRingRow.domain false) (Rows.limbsRingSpec.post enc Try.prog Try.f3 false true false false) := by
  refine returnsInHanded_of_change_sized (C := Try.checked) own started (by kernel_rfl) Try.func3
    (ChangeSpec.witness6 (enc := enc) (C := Try.checked) false ⟨#[], #[.agg #[.int .u64 0, .int .u64 0, .int .u64 0, .int .u64 0, .int .u64 0], .agg #[.int .u64 0, .int .u64 0, .int .u64 0, .int .u64 0, .int .u64 0], .agg #[.int .u64 0, .int .u64 0, .int .u64 0, .int .u64 0, .int .u64 0]], []⟩ 8 (by kernel_rfl) (by kernel_rfl) (by kernel_rfl) (by kernel_rfl)) ?_
  intro W base args ds gs before hval0 hW hcnd hsz0 _
  have hsz : (DataW.weightsEach Try.prog (Try.f3.params.toList ++ Rows.limbsRingSpec.plain.varTypes Try.prog) (ds ++ gs)).all (· ≤ reachBytes) = true := hsz0
  clear hsz0
  have hval : ∀ (j : Nat) t v, Try.f3.params[j]? = some t → args[j]? = some v → Value.okWide Try.prog W .any base t v := hval0
  have hW' := hW
  obtain ⟨p, q, hA0, hV, rfl, hfz, hnd⟩ := hW
  have hA : DataW.TrodAll enc Try.prog W 0 (fun _ => true) true Try.f3.params.toList args.toList ds p := hA0
  rw [Try.params3] at hA hval hsz
  obtain ⟨v0, vs0, d0, ds0, p0, q0, hargs, rfl, rfl, h0, r0⟩ := trodAll_cons hA
  obtain ⟨v1, vs1, d1, ds1, p1, q1, rfl, rfl, rfl, h1, r1⟩ := trodAll_cons r0
  obtain ⟨v2, vs2, d2, ds2, p2, q2, rfl, rfl, rfl, h2, r2⟩ := trodAll_cons r1
  obtain ⟨rfl, rfl, rfl⟩ := trodAll_nil r2
  obtain rfl : args = #[v0, v1, v2] := by cases args; simp_all
  obtain ⟨rfl, rfl⟩ := trodVars_none hV
  have k0 := h0
  have lt0 : ∀ x ∈ p0, x.block < W.heap.size := by obtain ⟨m, hm⟩ := k0; exact DataW.trod_lt m _ _ _ hm
  have k1 := h1
  have lt1 : ∀ x ∈ p1, x.block < W.heap.size := by obtain ⟨m, hm⟩ := k1; exact DataW.trod_lt m _ _ _ hm
  have k2 := h2
  have lt2 : ∀ x ∈ p2, x.block < W.heap.size := by obtain ⟨m, hm⟩ := k2; exact DataW.trod_lt m _ _ _ hm
  obtain ⟨ns0, hnl0, rfl, rfl, rfl, w0⟩ := Open.open_int_array Try.underlying24 Try.underlying22 (by kernel_rfl) (by kernel_rfl) (hval 0 24 v0 rfl rfl) h0
  obtain ⟨a0, b0, c0, d0, e0, rfl, hw0⟩ := limbs_of ns0 hnl0 w0
  obtain ⟨ns1, hnl1, rfl, rfl, rfl, w1⟩ := Open.open_int_array Try.underlying24 Try.underlying22 (by kernel_rfl) (by kernel_rfl) (hval 1 24 v1 rfl rfl) h1
  obtain ⟨a1, b1, c1, d1, e1, rfl, hw1⟩ := limbs_of ns1 hnl1 w1
  obtain ⟨ns2, hnl2, rfl, rfl, rfl, w2⟩ := Open.open_int_array Try.underlying24 Try.underlying22 (by kernel_rfl) (by kernel_rfl) (hval 2 24 v2 rfl rfl) h2
  obtain ⟨a2, b2, c2, d2, e2, rfl, hw2⟩ := limbs_of ns2 hnl2 w2
  clear hA0 hval0
  have hwk := walk a0 b0 c0 d0 e0 a1 b1 c1 d1 e1 a2 b2 c2 d2 e2 W hw0 hw1 hw2
  refine hwk.mono fun e W' ⟨he, bel⟩ => ?_
  subst he
  exact ⟨_, rfl, _, _, _, [], _, [], hW', trodAll_mk1 (shut_bool Try.underlying4 _), (trodAll_cons_mk (Below.trod laidOut (by kernel_rfl) (of_decide_eq_true (by kernel_rfl)) k0 bel lt0) (trodAll_cons_mk (Below.trod laidOut (by kernel_rfl) (of_decide_eq_true (by kernel_rfl)) k1 bel lt1) (trodAll_cons_mk (Below.trod laidOut (by kernel_rfl) (of_decide_eq_true (by kernel_rfl)) k2 bel lt2) trodAll_mk0))), rfl, bel.frame _, fun h => by cases h⟩

theorem over : Rows.limbsRingRow.holds Try.pinned (OpenSpec.ofChange Rows.limbsRingSpec) :=
  OpenClaim.holds_of_wide 3 Try.f3 rfl rfl rfl rfl rfl rfl rfl ⟨rfl, rfl, rfl, rfl, rfl⟩ rfl rfl rfl rfl rfl (by kernel_rfl) Try.func3 (by kernel_rfl)
    (of_decide_eq_true (by kernel_rfl)) (by unfold Func.isWrapper; first | (rw [if_pos (by decide +kernel)]; kernel_rfl) | (rw [if_neg (by decide +kernel)]; exact ⟨rfl, rfl⟩))
    (fun os started H enc _ => lifted os started H enc)

theorem proved : Rows.LimbsRingSaid := over
#print axioms proved
end Go.Proofs.Ytblheplpaiokkab.LawRing
