/-
  The example of layer 5's statements answers true, and leaves all memory that was there as it was. No condition.
-/
import Derived.Test.YtcglobpklhkebaaLmbPow
import Derived.Test.YtcglobpklhkebaaLmbEq
namespace Go.Proofs.Ytcglobpklhkebaa.Limb
open Go.RowKit Mur Lanes
set_option maxRecDepth 100000

theorem cells5v {w : World} {b : Nat} {t : TypeId} {x0 x1 x2 x3 x4 : Value} (h : Whole w b t [x0, x1, x2, x3, x4]) : w.cell? ⟨b, 0, none⟩ = some x0 ∧ w.cell? ⟨b, 1, none⟩ = some x1 ∧ w.cell? ⟨b, 2, none⟩ = some x2 ∧ w.cell? ⟨b, 3, none⟩ = some x3 ∧ w.cell? ⟨b, 4, none⟩ = some x4 :=
  ⟨h.row.cell rfl, h.row.cell rfl, h.row.cell rfl, h.row.cell rfl, h.row.cell rfl⟩
theorem small_lit (n : Nat) (h : n < 18446744073709551616) : Words5 n 0 0 0 0 := ⟨h, by decide, by decide, by decide, by decide⟩
theorem wor_lit (n : Nat) : wor n 0 0 0 0 = n := by unfold wor; omega
theorem inv_gen {p a : Nat} (hp : Prime.IsPrime p) (ha : ¬ p ∣ a) : a * (a ^ (p - 2) % p) % p = 1 := by
  have h2 := hp.1
  rw [Nat.mul_mod_mod, Nat.mul_comm, ← Nat.pow_succ, show (p - 2).succ = p - 1 by omega]
  exact Prime.fermat hp ha
theorem two_inv : 2 * (2 ^ (Prime.P - 2) % Prime.P) % Prime.P = 1 := inv_gen Prime.prime (Prime.IsPrime.not_dvd (by decide) (by decide))
theorem back_two : ((numT (Prime.P - 1)).extract 0 2).toList = [236, 255] := by decide +kernel

set_option maxHeartbeats 3200000 in
theorem awake_any (w : World) :
    Calls Try.prog 49 #[] w fun e w' => e = .returned (.bool true) ∧ Below w.heap.size w w' := by
  have lp := lims_five (a := 2251799813685229) (b := 2251799813685247) (c := 2251799813685247) (d := 2251799813685247) (e := 2251799813685247) (by unfold Words5; omega)
  rw [show wor 2251799813685229 2251799813685247 2251799813685247 2251799813685247 2251799813685247 = Prime.P by decide] at lp
  have l0 := lims_five (small_lit 0 (by decide))
  have l1 := lims_five (small_lit 1 (by decide))
  have l2 := lims_five (small_lit 2 (by decide))
  have l3 := lims_five (small_lit 3 (by decide))
  rw [wor_lit] at l0 l1 l2 l3
  have R1 := fun u => carry_val lp u
  rw [Nat.mod_self] at R1
  have R1 := Lib.hid (show ∀ u, Calls Try.prog 14 #[.agg #[.int .u64 2251799813685229, .int .u64 2251799813685247, .int .u64 2251799813685247, .int .u64 2251799813685247, .int .u64 2251799813685247]] u fun r w' => r = .returned (limV 0) ∧ Below u.heap.size u w' from R1)
  have R2 := fun u => invert_val l2 u
  have R3 := fun u => times_val l2 (lims_mod (2 ^ (Prime.P - 2))) u
  rw [two_inv] at R3
  obtain ⟨VI, hVI⟩ : ∃ V, V = limV (2 ^ (Prime.P - 2) % Prime.P) := ⟨_, rfl⟩
  rw [← hVI] at R2 R3
  have R2 := Lib.hid (show ∀ u, Calls Try.prog 28 #[.agg #[.int .u64 2, .int .u64 0, .int .u64 0, .int .u64 0, .int .u64 0]] u fun r w' => r = .returned VI ∧ Below u.heap.size u w' from R2)
  have R3 := Lib.hid (show ∀ u, Calls Try.prog 22 #[.agg #[.int .u64 2, .int .u64 0, .int .u64 0, .int .u64 0, .int .u64 0], VI] u fun r w' => r = .returned (limV 1) ∧ Below u.heap.size u w' from R3)
  have R4 := fun u => sub_val l0 l1 u
  rw [show subP 0 1 = Prime.P - 1 by decide +kernel] at R4
  have R5 := fun u => bytes_val (lims_lim (N := Prime.P - 1) (by decide)) (numT (Prime.P - 1)) (by rw [Nat.mod_eq_of_lt (by decide)]; rfl) u
  obtain ⟨VS, hVS⟩ : ∃ V, V = limV (Prime.P - 1) := ⟨_, rfl⟩
  obtain ⟨T, hT⟩ : ∃ T, T = numT (Prime.P - 1) := ⟨_, rfl⟩
  rw [← hVS] at R4 R5
  rw [← hT] at R5
  have R4 := Lib.hid (show ∀ u, Calls Try.prog 20 #[.agg #[.int .u64 0, .int .u64 0, .int .u64 0, .int .u64 0, .int .u64 0], .agg #[.int .u64 1, .int .u64 0, .int .u64 0, .int .u64 0, .int .u64 0]] u fun r w' => r = .returned VS ∧ Below u.heap.size u w' from R4)
  have R5 := Lib.hid R5
  have q2 : (2 : Int) ≤ (T.size : Int) := by rw [hT, numT_size]; decide
  have qe := back_two
  rw [← hT] at qe
  have q3 : ((T.extract 0 2).toList == [236, 255]) = true := by rw [qe]; rfl
  have R6 := fun u => read_any ⟨#[5]⟩ u (by decide)
  rw [show num (⟨#[5]⟩ : ByteArray).data.toList = 5 by decide] at R6
  have R6 := Lib.hid R6
  have R7 := fun u => square_val l3 2 (by decide) (by decide) u
  rw [show 3 ^ 2 ^ times 2 % Prime.P = 81 by decide] at R7
  have R7 := Lib.hid (show ∀ u, Calls Try.prog 26 #[.agg #[.int .u64 3, .int .u64 0, .int .u64 0, .int .u64 0, .int .u64 0], .int .i64 2] u fun r w' => r = .returned (limV 81) ∧ Below u.heap.size u w' from R7)
  have R8 := fun u => scale_val l1 (n := 7) (by decide) u
  rw [show 1 * 7 % Prime.P = 7 by decide] at R8
  have R8 := Lib.hid (show ∀ u, Calls Try.prog 24 #[.agg #[.int .u64 1, .int .u64 0, .int .u64 0, .int .u64 0, .int .u64 0], .int .u64 7] u fun r w' => r = .returned (limV 7) ∧ Below u.heap.size u w' from R8)
  have R9 := fun u => add_val lp l1 u
  rw [show (Prime.P + 1) % Prime.P = 1 by decide] at R9
  have R9 := Lib.hid (show ∀ u, Calls Try.prog 18 #[.agg #[.int .u64 2251799813685229, .int .u64 2251799813685247, .int .u64 2251799813685247, .int .u64 2251799813685247, .int .u64 2251799813685247], .agg #[.int .u64 1, .int .u64 0, .int .u64 0, .int .u64 0, .int .u64 0]] u fun r w' => r = .returned (limV 1) ∧ Below u.heap.size u w' from R9)
  clear lp l0 l1 l2 l3 hVI hVS hT qe
  go_enter Try.func49, Try.ntmps49
  go_upto_region 3 with (fail)
  have HP := Lib.hid (((Whole.made' w 24 #[.int .u64 2251799813685229, .int .u64 2251799813685247, .int .u64 2251799813685247, .int .u64 2251799813685247, .int .u64 2251799813685247] _ rfl).alloc (.cells #[.int .u64 1, .int .u64 0, .int .u64 0, .int .u64 0, .int .u64 0] 24)).drew)
  have HO := Lib.hid ((Whole.made' (w.alloc (.cells #[.int .u64 2251799813685229, .int .u64 2251799813685247, .int .u64 2251799813685247, .int .u64 2251799813685247, .int .u64 2251799813685247] 24)) 24 #[.int .u64 1, .int .u64 0, .int .u64 0, .int .u64 0, .int .u64 0] (w.heap.size + 1) (by simp)).drew)
  have HB := Lib.hid ((((Below.refl w.heap.size w).alloc (Nat.le_refl _) (.cells #[.int .u64 2251799813685229, .int .u64 2251799813685247, .int .u64 2251799813685247, .int .u64 2251799813685247, .int .u64 2251799813685247] 24)).alloc (by simp) (.cells #[.int .u64 1, .int .u64 0, .int .u64 0, .int .u64 0, .int .u64 0] 24)).drew)
  generalize (w.alloc (.cells #[.int .u64 2251799813685229, .int .u64 2251799813685247, .int .u64 2251799813685247, .int .u64 2251799813685247, .int .u64 2251799813685247] 24)).alloc (.cells #[.int .u64 1, .int .u64 0, .int .u64 0, .int .u64 0, .int .u64 0] 24) = wz at *
  refine Steady.region 44 (by kernel_rfl) (by kernel_rfl) (fun u => Below wz.drew.heap.size wz.drew u) (Below.refl _ _) ?_
  simp only [List.take_succ_cons, List.take_zero, List.drop_succ_cons, List.drop_zero]
  refine Steady.take ?_ rfl (by intro u hu; obtain ⟨t0, t1, t2, t3, t4⟩ := cells5v (HP.out.below HP.out.lt hu); go_simp; with_reducible rfl) ?_
  simp only [Act.put, List.setIfInBounds_toArray, List.set_cons_zero, List.set_cons_succ]
  refine Steady.call _ _ _ rfl ?_ (Steady.kept R1.out) ?_
  · intro u
    go_simp
  simp only [Act.put, List.setIfInBounds_toArray, List.set_cons_zero, List.set_cons_succ]
  refine Steady.take ?_ rfl (by intro u hu; go_simp; with_reducible rfl) ?_
  simp only [Act.put, List.setIfInBounds_toArray, List.set_cons_zero, List.set_cons_succ]
  refine Steady.take (.bool true) rfl (fun u _ => eql_yes 0 rfl (by decide) (by first | rfl | exact lit_limbs 0 (by decide)) (by first | exact lit_limbs 0 (by decide) | rfl) u) ?_
  simp only [Act.put, List.setIfInBounds_toArray, List.set_cons_zero, List.set_cons_succ]
  refine Steady.take ?_ rfl (by intro u hu; go_simp; with_reducible rfl) ?_
  simp only [Act.put, List.setIfInBounds_toArray, List.set_cons_zero, List.set_cons_succ]
  refine Steady.take ?_ rfl (by intro u hu; go_simp; with_reducible rfl) ?_
  simp only [Act.put, List.setIfInBounds_toArray, List.set_cons_zero, List.set_cons_succ]
  refine Steady.take ?_ rfl (by intro u hu; go_simp; with_reducible rfl) ?_
  simp only [Act.put, List.setIfInBounds_toArray, List.set_cons_zero, List.set_cons_succ]
  refine Steady.call _ _ _ rfl ?_ (Steady.kept R2.out) ?_
  · intro u
    go_simp
  simp only [Act.put, List.setIfInBounds_toArray, List.set_cons_zero, List.set_cons_succ]
  refine Steady.call _ _ _ rfl ?_ (Steady.kept R3.out) ?_
  · intro u
    go_simp
  simp only [Act.put, List.setIfInBounds_toArray, List.set_cons_zero, List.set_cons_succ]
  refine Steady.take ?_ rfl (by intro u hu; obtain ⟨t0, t1, t2, t3, t4⟩ := cells5v (HO.out.below HO.out.lt hu); go_simp; with_reducible rfl) ?_
  simp only [Act.put, List.setIfInBounds_toArray, List.set_cons_zero, List.set_cons_succ]
  refine Steady.take (.bool true) rfl (fun u _ => eql_yes 1 rfl (by decide) (by first | rfl | exact lit_limbs 1 (by decide)) (by first | exact lit_limbs 1 (by decide) | rfl) u) ?_
  simp only [Act.put, List.setIfInBounds_toArray, List.set_cons_zero, List.set_cons_succ]
  refine Steady.take ?_ rfl (by intro u hu; go_simp; with_reducible rfl) ?_
  simp only [Act.put, List.setIfInBounds_toArray, List.set_cons_zero, List.set_cons_succ]
  refine Steady.take ?_ rfl (by intro u hu; go_simp; with_reducible rfl) ?_
  simp only [Act.put, List.setIfInBounds_toArray, List.set_cons_zero, List.set_cons_succ]
  refine Steady.take ?_ rfl (by intro u hu; go_simp; with_reducible rfl) ?_
  simp only [Act.put, List.setIfInBounds_toArray, List.set_cons_zero, List.set_cons_succ]
  refine Steady.take ?_ rfl (by intro u hu; obtain ⟨t0, t1, t2, t3, t4⟩ := cells5v (HO.out.below HO.out.lt hu); go_simp; with_reducible rfl) ?_
  simp only [Act.put, List.setIfInBounds_toArray, List.set_cons_zero, List.set_cons_succ]
  refine Steady.call _ _ _ rfl ?_ (Steady.kept R4.out) ?_
  · intro u
    go_simp
  simp only [Act.put, List.setIfInBounds_toArray, List.set_cons_zero, List.set_cons_succ]
  refine Steady.call _ _ _ rfl ?_ (Steady.kept R5.out) ?_
  · intro u
    go_simp
  simp only [Act.put, List.setIfInBounds_toArray, List.set_cons_zero, List.set_cons_succ]
  refine Steady.take ?_ rfl (by intro u hu; go_simp; with_reducible rfl) ?_
  simp only [Act.put, List.setIfInBounds_toArray, List.set_cons_zero, List.set_cons_succ]
  refine Steady.take ?_ rfl (by intro u hu; go_simp; with_reducible rfl) ?_
  simp only [Act.put, List.setIfInBounds_toArray, List.set_cons_zero, List.set_cons_succ]
  refine Steady.take ?_ rfl (by intro u hu; go_simp; with_reducible rfl) ?_
  simp only [Act.put, List.setIfInBounds_toArray, List.set_cons_zero, List.set_cons_succ]
  refine Steady.take ?_ rfl (by intro u hu; go_simp; with_reducible rfl) ?_
  simp only [Act.put, List.setIfInBounds_toArray, List.set_cons_zero, List.set_cons_succ]
  refine Steady.call _ _ _ rfl ?_ (Steady.kept R6.out) ?_
  · intro u
    go_simp
  simp only [Act.put, List.setIfInBounds_toArray, List.set_cons_zero, List.set_cons_succ]
  refine Steady.take ?_ rfl (by intro u hu; go_simp; with_reducible rfl) ?_
  simp only [Act.put, List.setIfInBounds_toArray, List.set_cons_zero, List.set_cons_succ]
  refine Steady.take (.bool true) rfl (fun u _ => eql_yes 5 rfl (by decide) (by first | rfl | exact lit_limbs 5 (by decide)) (by first | exact lit_limbs 5 (by decide) | rfl) u) ?_
  simp only [Act.put, List.setIfInBounds_toArray, List.set_cons_zero, List.set_cons_succ]
  refine Steady.take ?_ rfl (by intro u hu; go_simp; with_reducible rfl) ?_
  simp only [Act.put, List.setIfInBounds_toArray, List.set_cons_zero, List.set_cons_succ]
  refine Steady.take ?_ rfl (by intro u hu; go_simp; with_reducible rfl) ?_
  simp only [Act.put, List.setIfInBounds_toArray, List.set_cons_zero, List.set_cons_succ]
  refine Steady.take ?_ rfl (by intro u hu; go_simp; with_reducible rfl) ?_
  simp only [Act.put, List.setIfInBounds_toArray, List.set_cons_zero, List.set_cons_succ]
  refine Steady.call _ _ _ rfl ?_ (Steady.kept R7.out) ?_
  · intro u
    go_simp
  simp only [Act.put, List.setIfInBounds_toArray, List.set_cons_zero, List.set_cons_succ]
  refine Steady.take ?_ rfl (by intro u hu; go_simp; with_reducible rfl) ?_
  simp only [Act.put, List.setIfInBounds_toArray, List.set_cons_zero, List.set_cons_succ]
  refine Steady.take (.bool true) rfl (fun u _ => eql_yes 81 rfl (by decide) (by first | rfl | exact lit_limbs 81 (by decide)) (by first | exact lit_limbs 81 (by decide) | rfl) u) ?_
  simp only [Act.put, List.setIfInBounds_toArray, List.set_cons_zero, List.set_cons_succ]
  refine Steady.take ?_ rfl (by intro u hu; go_simp; with_reducible rfl) ?_
  simp only [Act.put, List.setIfInBounds_toArray, List.set_cons_zero, List.set_cons_succ]
  refine Steady.take ?_ rfl (by intro u hu; go_simp; with_reducible rfl) ?_
  simp only [Act.put, List.setIfInBounds_toArray, List.set_cons_zero, List.set_cons_succ]
  refine Steady.take ?_ rfl (by intro u hu; obtain ⟨t0, t1, t2, t3, t4⟩ := cells5v (HO.out.below HO.out.lt hu); go_simp; with_reducible rfl) ?_
  simp only [Act.put, List.setIfInBounds_toArray, List.set_cons_zero, List.set_cons_succ]
  refine Steady.call _ _ _ rfl ?_ (Steady.kept R8.out) ?_
  · intro u
    go_simp
  simp only [Act.put, List.setIfInBounds_toArray, List.set_cons_zero, List.set_cons_succ]
  refine Steady.take ?_ rfl (by intro u hu; go_simp; with_reducible rfl) ?_
  simp only [Act.put, List.setIfInBounds_toArray, List.set_cons_zero, List.set_cons_succ]
  refine Steady.take (.bool true) rfl (fun u _ => eql_yes 7 rfl (by decide) (by first | rfl | exact lit_limbs 7 (by decide)) (by first | exact lit_limbs 7 (by decide) | rfl) u) ?_
  simp only [Act.put, List.setIfInBounds_toArray, List.set_cons_zero, List.set_cons_succ]
  refine Steady.take ?_ rfl (by intro u hu; go_simp; with_reducible rfl) ?_
  simp only [Act.put, List.setIfInBounds_toArray, List.set_cons_zero, List.set_cons_succ]
  refine Steady.take ?_ rfl (by intro u hu; go_simp; with_reducible rfl) ?_
  simp only [Act.put, List.setIfInBounds_toArray, List.set_cons_zero, List.set_cons_succ]
  refine Steady.take ?_ rfl (by intro u hu; obtain ⟨t0, t1, t2, t3, t4⟩ := cells5v (HP.out.below HP.out.lt hu); go_simp; with_reducible rfl) ?_
  simp only [Act.put, List.setIfInBounds_toArray, List.set_cons_zero, List.set_cons_succ]
  refine Steady.take ?_ rfl (by intro u hu; obtain ⟨t0, t1, t2, t3, t4⟩ := cells5v (HO.out.below HO.out.lt hu); go_simp; with_reducible rfl) ?_
  simp only [Act.put, List.setIfInBounds_toArray, List.set_cons_zero, List.set_cons_succ]
  refine Steady.call _ _ _ rfl ?_ (Steady.kept R9.out) ?_
  · intro u
    go_simp
  simp only [Act.put, List.setIfInBounds_toArray, List.set_cons_zero, List.set_cons_succ]
  refine Steady.take ?_ rfl (by intro u hu; obtain ⟨t0, t1, t2, t3, t4⟩ := cells5v (HO.out.below HO.out.lt hu); go_simp; with_reducible rfl) ?_
  simp only [Act.put, List.setIfInBounds_toArray, List.set_cons_zero, List.set_cons_succ]
  refine Steady.take (.bool true) rfl (fun u _ => eql_yes 1 rfl (by decide) (by first | rfl | exact lit_limbs 1 (by decide)) (by first | exact lit_limbs 1 (by decide) | rfl) u) ?_
  simp only [Act.put, List.setIfInBounds_toArray, List.set_cons_zero, List.set_cons_succ]
  refine Steady.take ?_ rfl (by intro u hu; go_simp; with_reducible rfl) ?_
  simp only [Act.put, List.setIfInBounds_toArray, List.set_cons_zero, List.set_cons_succ]
  refine Steady.nil ?_
  intro w9 h9
  have HB9 := Lib.hid (HB.out.trans (h9.mono HB.out.size))
  clear h9
  go_wp2
  go_ret
  exact ⟨rfl, HB9.out⟩

set_option maxHeartbeats 800000 in
theorem live_any (w : World) :
    Calls Try.prog 9 #[] w fun e w' => e = .returned (.bool true) ∧ Below w.heap.size w w' := by
  have R := fun u => bytes_val (lims_five (small_lit 1 (by decide))) (numT 1) (by rw [wor_lit, Nat.mod_eq_of_lt (by decide)]; rfl) u
  obtain ⟨T, hT⟩ : ∃ T, T = numT 1 := ⟨_, rfl⟩
  rw [← hT] at R
  have R1 := Lib.hid (show ∀ u, Calls Try.prog 16 #[.agg #[.int .u64 1, .int .u64 0, .int .u64 0, .int .u64 0, .int .u64 0]] u fun r w' => r = .returned (.string T) ∧ Below u.heap.size u w' from R)
  have q : ((T.size : Int) == 32) = true := by rw [hT, numT_size]; rfl
  clear hT R
  go_enter Try.func9, Try.ntmps9
  go_wp2_with fail
  refine (R1.out _).mono ?_
  rintro e w1 ⟨rfl, hb⟩
  have HB := Lib.hid hb
  clear hb
  go_wp2_with fail
  refine (awake_any _).mono ?_
  rintro e w2 ⟨rfl, hb⟩
  have HB2 := Lib.hid (HB.out.trans (hb.mono HB.out.size))
  clear hb
  go_wp2
  go_ret
  exact ⟨rfl, HB2.out⟩
end Go.Proofs.Ytcglobpklhkebaa.Limb
