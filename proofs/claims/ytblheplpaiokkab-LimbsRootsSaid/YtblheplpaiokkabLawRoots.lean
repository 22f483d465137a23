/-
  LimbsRoots: what is told as a root is one; each square has one; powers of one number multiply as their exponents add: for every input, the law answers true and changes nothing that was there. No condition.
-/
import Derived.Test.YtblheplpaiokkabLmbNumber
import Derived.Test.YtblheplpaiokkabLimbRoot
import Derived.Test.YtblheplpaiokkabSteadyN
import Derived.Test.YtblheplpaiokkabRows
import Derived.Test.YtblheplpaiokkabOpen
namespace Go.Proofs.Ytblheplpaiokkab.LawRoots
open Go.ChangeShapes Go.WideShapes Go.ChangeAt Go.RowKit Mur Lanes Limb
set_option maxRecDepth 100000

theorem lt_mod (n : Nat) : n % Prime.P < 57896044618658097711785492504343953926634992332820282019728792003956564819968 := Nat.lt_trans (Nat.mod_lt _ P_pos) P_lt
theorem rest_of (x : Int) : ∃ m : Nat, m < 60000 ∧ (IntKind.u64.wrap x).tmod 60000 = (m : Int) := by
  rw [IntKind.wrap_u64, Int.tmod_eq_emod_of_nonneg (by omega)]
  exact ⟨(x % 18446744073709551616 % 60000).toNat, by omega, by omega⟩
theorem one_time : times 1 = 1 := by decide

set_option maxHeartbeats 6400000 in
theorem walk (a0 b0 c0 d0 e0 : Nat) (i j : Int) (w : World) (h0 : Words5 a0 b0 c0 d0 e0) :
    Calls Try.prog 7 #[five a0 b0 c0 d0 e0, .agg #[.int .i64 i, .int .i64 j]] w fun e w' => e = .returned (.bool true) ∧ Below w.heap.size w w' := by
  have TL := Lib.hid (fun u => live_any u)
  have BA := Lib.hid ((Whole.made' w 24 (fiveL a0 b0 c0 d0 e0).toArray _ rfl).alloc (.cells #[.int .i64 i, .int .i64 j] 39))
  have HB := Lib.hid (((Below.refl w.heap.size w).alloc (Nat.le_refl _) (.cells (fiveL a0 b0 c0 d0 e0).toArray 24)).alloc (by simp) (.cells #[.int .i64 i, .int .i64 j] 39))
  have lA := lims_five h0
  obtain ⟨N, hN⟩ : ∃ N, N = wor a0 b0 c0 d0 e0 := ⟨_, rfl⟩
  rw [← hN] at lA
  obtain ⟨n, hn, hni⟩ := rest_of i
  obtain ⟨m, hm, hmi⟩ := rest_of j
  -- roots
  have R1 := fun u => root_val lA u
  obtain ⟨X, hX⟩ : ∃ X, X = N % Prime.P := ⟨_, rfl⟩
  rw [← hX] at R1
  obtain ⟨x0, x1, x2, x3, x4, hx⟩ := root_five X
  have bX : X < 57896044618658097711785492504343953926634992332820282019728792003956564819968 := by rw [hX]; exact lt_mod N
  obtain ⟨t, ht⟩ : ∃ t, t = rootIs X := ⟨_, rfl⟩
  have hroot : t = true → ∃ r, five x0 x1 x2 x3 x4 = limV r ∧ r < Prime.P ∧ r ^ 2 % Prime.P = X := fun h => by
    rw [← hx]
    exact root_true (ht ▸ h)
  rw [hx, ← ht] at R1
  have R5 := fun u => carry_val lA u
  rw [← hX] at R5
  have R2 := fun u => square_val lA 1 (by decide) (by decide) u
  rw [one_time, Nat.pow_one] at R2
  obtain ⟨Q, hQ⟩ : ∃ Q, Q = N ^ 2 % Prime.P := ⟨_, rfl⟩
  have bQ : Q < 57896044618658097711785492504343953926634992332820282019728792003956564819968 := by rw [hQ]; exact lt_mod _
  have qP : Q % Prime.P = Q := by rw [hQ, Nat.mod_mod]
  have hsq : rootIs Q = true := by rw [hQ]; exact rootIs_square N
  obtain ⟨r, hr1, hr2, hr3⟩ := root_true hsq
  rw [← hQ] at R2
  have R3 := fun u => root_val (lims_lim bQ) u
  rw [qP, hr1, hsq] at R3
  obtain ⟨y0, y1, y2, y3, y4, hy⟩ := limV_five r
  have lr := lims_lim (Nat.lt_trans hr2 P_lt)
  have R4 := fun u => square_val lr 1 (by decide) (by decide) u
  rw [one_time, Nat.pow_one, hr3] at R4
  rw [hy] at R3 R4
  -- powers
  have N1 := Lib.hid (fun u => number_any n u)
  have N2 := Lib.hid (fun u => number_any m u)
  have N3 := Lib.hid (show ∀ u, Calls Try.prog 22 #[.int .u64 ((n : Int) + (m : Int))] u fun e w' => e = .returned (.string ⟨(three (n + m)).toArray⟩) ∧ Below u.heap.size u w' from fun u => by
    have := number_any (n + m) u
    rw [Int.natCast_add] at this
    exact this)
  have pw : ∀ k, k < 16777216 → ∀ u, Calls Try.prog 20 #[five a0 b0 c0 d0 e0, .string ⟨(three k).toArray⟩] u fun r w' => r = .returned (limV (N ^ k % Prime.P)) ∧ Below u.heap.size u w' := fun k hk u => by
    have := power_val lA ⟨(three k).toArray⟩ (show (3 : Nat) ≤ _ by decide) u
    rw [show num ((⟨(three k).toArray⟩ : ByteArray).data.toList.take 64) = k from three_num k hk] at this
    exact this
  have P1 := pw n (by omega)
  have P2 := pw m (by omega)
  have P3 := pw (n + m) (by omega)
  have P4 := fun u => power_val lA ⟨#[2]⟩ (by decide) u
  rw [show num ((⟨#[2]⟩ : ByteArray).data.toList.take 64) = 2 by decide, ← hQ] at P4
  have P5 := fun u => times_val (lims_mod (N ^ n)) (lims_mod (N ^ m)) u
  rw [← Nat.mul_mod, ← Nat.pow_add] at P5
  obtain ⟨Z, hZ⟩ : ∃ Z, Z = N ^ (n + m) % Prime.P := ⟨_, rfl⟩
  have bZ : Z < 57896044618658097711785492504343953926634992332820282019728792003956564819968 := by rw [hZ]; exact lt_mod _
  rw [← hZ] at P3 P5
  obtain ⟨f0, f1, f2, f3, f4, hf⟩ := limV_five (N ^ n % Prime.P)
  obtain ⟨g0, g1, g2, g3, g4, hg⟩ := limV_five (N ^ m % Prime.P)
  obtain ⟨z0, z1, z2, z3, z4, hz⟩ := limV_five Z
  rw [hf] at P1 P5
  rw [hg] at P2 P5
  rw [hz] at P3
  obtain ⟨T1, hT1⟩ : ∃ T : ByteArray, T = ⟨(three n).toArray⟩ := ⟨_, rfl⟩
  obtain ⟨T2, hT2⟩ : ∃ T : ByteArray, T = ⟨(three m).toArray⟩ := ⟨_, rfl⟩
  obtain ⟨T3, hT3⟩ : ∃ T : ByteArray, T = ⟨(three (n + m)).toArray⟩ := ⟨_, rfl⟩
  rw [← hT1] at N1 P1
  rw [← hT2] at N2 P2
  rw [← hT3] at N3 P3
  have P1 := Lib.hid P1
  have P2 := Lib.hid P2
  have P3 := Lib.hid P3
  have P4 := Lib.hid P4
  have P5 := Lib.hid P5
  have R1 := Lib.hid R1
  have R2 := Lib.hid R2
  have R3 := Lib.hid R3
  have R4 := Lib.hid R4
  have R5 := Lib.hid R5
  have HZ := Lib.hid hz
  have BX := Lib.hid bX
  have BQ := Lib.hid bQ
  have BZ := Lib.hid bZ
  have HNI := Lib.hid hni
  have HMI := Lib.hid hmi
  have HR := Lib.hid hroot
  clear hT1 hT2 hT3 hf hg hz hZ pw hQ qP hsq hr1 hr2 hr3 hy lr hx ht hX hN lA h0 bX bQ bZ hni hmi hroot
  go_enter Try.func7, Try.ntmps7
  go_wp2
  go_quiet (fail)
  rw [HNI.out, HMI.out]
  have BA1 := Lib.hid (BA.out.drewN nq)
  have HB1 := Lib.hid (show Below w.heap.size w _ from belowN HB.out nq)
  generalize hwz : World.drewN ((w.alloc (.cells #[.int .u64 (a0 : Int), .int .u64 (b0 : Int), .int .u64 (c0 : Int), .int .u64 (d0 : Int), .int .u64 (e0 : Int)] 24)).alloc (.cells #[.int .i64 i, .int .i64 j] 39)) nq = wz at *
  clear hwz
  obtain ⟨t0, t1, t2, t3, t4⟩ := cells5 BA1.out
  go_wp2_with fail
  refine (R1.out _).mono ?_
  rintro e w1 ⟨rfl, hb⟩
  clear t0 t1 t2 t3 t4
  have BA2 := Lib.hid ((BA1.out.below BA1.out.lt hb).alloc (.cells (fiveL x0 x1 x2 x3 x4).toArray 24))
  have BX2 := Lib.hid (Whole.made' w1 24 (fiveL x0 x1 x2 x3 x4).toArray _ rfl)
  have HB2 := Lib.hid ((HB1.out.trans (hb.mono HB1.out.size)).alloc (HB1.out.trans (hb.mono HB1.out.size)).size (.cells (fiveL x0 x1 x2 x3 x4).toArray 24))
  clear hb
  go_upto_region 3 with (fail)
  generalize hwz : w1.alloc (.cells #[.int .u64 (x0 : Int), .int .u64 (x1 : Int), .int .u64 (x2 : Int), .int .u64 (x3 : Int), .int .u64 (x4 : Int)] 24) = wv at *
  clear hwz
  generalize w1.heap.size = nx at *
  obtain ⟨t0, t1, t2, t3, t4⟩ := cells5 BA2.out
  go_wp2_with fail
  refine (R2.out _).mono ?_
  rintro e w2 ⟨rfl, hb⟩
  clear t0 t1 t2 t3 t4
  have BA3 := Lib.hid (BA2.out.below BA2.out.lt hb)
  have BX3 := Lib.hid (BX2.out.below BX2.out.lt hb)
  have HB3 := Lib.hid (HB2.out.trans (hb.mono HB2.out.size))
  clear hb
  go_wp2_with fail
  refine (R3.out _).mono ?_
  rintro e w3 ⟨rfl, hb⟩
  have BA4 := Lib.hid ((BA3.out.below BA3.out.lt hb).alloc (.cells (fiveL y0 y1 y2 y3 y4).toArray 24))
  have BX4 := Lib.hid ((BX3.out.below BX3.out.lt hb).alloc (.cells (fiveL y0 y1 y2 y3 y4).toArray 24))
  have BY4 := Lib.hid (Whole.made' w3 24 (fiveL y0 y1 y2 y3 y4).toArray _ rfl)
  have HB4 := Lib.hid ((HB3.out.trans (hb.mono HB3.out.size)).alloc (HB3.out.trans (hb.mono HB3.out.size)).size (.cells (fiveL y0 y1 y2 y3 y4).toArray 24))
  clear hb
  go_upto_region 4 with (fail)
  generalize hwz : w3.alloc (.cells #[.int .u64 (y0 : Int), .int .u64 (y1 : Int), .int .u64 (y2 : Int), .int .u64 (y3 : Int), .int .u64 (y4 : Int)] 24) = wu at *
  clear hwz
  generalize w3.heap.size = ny at *
  cases t with
  | true =>
    obtain ⟨s, hs1, hs2, hs3⟩ := HR.out rfl
    have S1 := fun u => square_val (lims_lim (Nat.lt_trans hs2 P_lt)) 1 (by decide) (by decide) u
    rw [one_time, Nat.pow_one, hs3, ← hs1] at S1
    have S1 := Lib.hid S1
    clear hs1 hs2 hs3
    refine Steady.region 18 (by kernel_rfl) (by kernel_rfl) (fun u => Below wu.drew.heap.size wu.drew u) (Below.refl _ _) ?_
    simp only [List.take_succ_cons, List.take_zero, List.drop_succ_cons, List.drop_zero]
    refine Steady.take ?_ rfl (by intro u hu; go_simp; with_reducible rfl) ?_
    simp only [Act.put, List.setIfInBounds_toArray, List.set_cons_zero, List.set_cons_succ]
    refine Steady.take ?_ rfl (by intro u hu; go_simp; with_reducible rfl) ?_
    simp only [Act.put, List.setIfInBounds_toArray, List.set_cons_zero, List.set_cons_succ]
    refine Steady.take ?_ rfl (by intro u hu; obtain ⟨t0, t1, t2, t3, t4⟩ := cells5 (BX4.out.drew.below BX4.out.lt hu); go_simp; with_reducible rfl) ?_
    simp only [Act.put, List.setIfInBounds_toArray, List.set_cons_zero, List.set_cons_succ]
    refine Steady.call _ _ _ rfl ?_ (Steady.kept S1.out) ?_
    · intro u
      go_simp
    simp only [Act.put, List.setIfInBounds_toArray, List.set_cons_zero, List.set_cons_succ]
    refine Steady.take ?_ rfl (by intro u hu; obtain ⟨t0, t1, t2, t3, t4⟩ := cells5 (BA4.out.drew.below BA4.out.lt hu); go_simp; with_reducible rfl) ?_
    simp only [Act.put, List.setIfInBounds_toArray, List.set_cons_zero, List.set_cons_succ]
    refine Steady.call _ _ _ rfl ?_ (Steady.kept R5.out) ?_
    · intro u
      go_simp
    simp only [Act.put, List.setIfInBounds_toArray, List.set_cons_zero, List.set_cons_succ]
    refine Steady.take (.bool false) rfl (fun u _ => neq_no X rfl BX.out (by rfl) (by rfl) u) ?_
    simp only [Act.put, List.setIfInBounds_toArray, List.set_cons_zero, List.set_cons_succ]
    refine Steady.take ?_ rfl (by intro u hu; go_simp; with_reducible rfl) ?_
    simp only [Act.put, List.setIfInBounds_toArray, List.set_cons_zero, List.set_cons_succ]
    refine Steady.take ?_ rfl (by intro u hu; go_simp; with_reducible rfl) ?_
    simp only [Act.put, List.setIfInBounds_toArray, List.set_cons_zero, List.set_cons_succ]
    refine Steady.take ?_ rfl (by intro u hu; go_simp; with_reducible rfl) ?_
    simp only [Act.put, List.setIfInBounds_toArray, List.set_cons_zero, List.set_cons_succ]
    refine Steady.take ?_ rfl (by intro u hu; go_simp; with_reducible rfl) ?_
    simp only [Act.put, List.setIfInBounds_toArray, List.set_cons_zero, List.set_cons_succ]
    refine Steady.take ?_ rfl (by intro u hu; go_simp; with_reducible rfl) ?_
    simp only [Act.put, List.setIfInBounds_toArray, List.set_cons_zero, List.set_cons_succ]
    refine Steady.take ?_ rfl (by intro u hu; go_simp; with_reducible rfl) ?_
    simp only [Act.put, List.setIfInBounds_toArray, List.set_cons_zero, List.set_cons_succ]
    refine Steady.take ?_ rfl (by intro u hu; obtain ⟨t0, t1, t2, t3, t4⟩ := cells5 (BY4.out.drew.below BY4.out.lt hu); go_simp; with_reducible rfl) ?_
    simp only [Act.put, List.setIfInBounds_toArray, List.set_cons_zero, List.set_cons_succ]
    refine Steady.call _ _ _ rfl ?_ (Steady.kept R4.out) ?_
    · intro u
      go_simp
    simp only [Act.put, List.setIfInBounds_toArray, List.set_cons_zero, List.set_cons_succ]
    refine Steady.take ?_ rfl (by intro u hu; obtain ⟨t0, t1, t2, t3, t4⟩ := cells5 (BA4.out.drew.below BA4.out.lt hu); go_simp; with_reducible rfl) ?_
    simp only [Act.put, List.setIfInBounds_toArray, List.set_cons_zero, List.set_cons_succ]
    refine Steady.call _ _ _ rfl ?_ (Steady.kept R2.out) ?_
    · intro u
      go_simp
    simp only [Act.put, List.setIfInBounds_toArray, List.set_cons_zero, List.set_cons_succ]
    refine Steady.take (.bool false) rfl (fun u _ => neq_no Q rfl BQ.out (by rfl) (by rfl) u) ?_
    simp only [Act.put, List.setIfInBounds_toArray, List.set_cons_zero, List.set_cons_succ]
    refine Steady.nil ?_
    intro w5 h5
    have BA5 := Lib.hid (BA4.out.drew.below BA4.out.lt h5)
    have HB5 := Lib.hid (HB4.out.drew.trans (h5.mono HB4.out.size))
    clear h5
    go_upto_region 6 with (fail)
    have hnm : IntKind.u64.wrap ((n : Int) + (m : Int)) = (n : Int) + (m : Int) := by rw [addN, wrapN _ (by omega)]
    refine SteadyN.region 17 [14, 15, 16] [0, 1, 2, 3, 4, 5, 6, 7, 8, 9, 10, 11, 12, 13] (by kernel_rfl) (by kernel_rfl) (SteadyN.Made w5.drew 24 (fiveL 0 0 0 0 0)) (fun k hk o ho => by
      simp only [List.mem_cons, List.not_mem_nil, or_false] at hk
      rcases hk with rfl | rfl | rfl <;> (obtain rfl : _ = o := Option.some.inj ho; exact SteadyN.makes rfl 24 rfl _ zero_limbs)) (SteadyN.Made.start _ _ _) ?_
    simp only [List.filterMap_cons, List.filterMap_nil, List.drop_succ_cons, List.drop_zero, List.getElem?_cons_zero, List.getElem?_cons_succ, Option.map_some]
    refine SteadyN.take ?_ rfl (by intro s u hu; obtain ⟨t0, t1, t2, t3, t4⟩ := cells5 (BA5.out.drew.below BA5.out.lt hu.below); go_simp; with_reducible rfl) ?_
    simp only [Act.put, List.setIfInBounds_toArray, List.set_cons_zero, List.set_cons_succ]
    refine SteadyN.take ?_ rfl (by intro s u hu; go_simp; with_reducible rfl) ?_
    simp only [Act.put, List.setIfInBounds_toArray, List.set_cons_zero, List.set_cons_succ]
    refine SteadyN.call _ _ _ rfl ?_ (SteadyN.kept N1.out) ?_
    · intro u
      go_simp
    simp only [Act.put, List.setIfInBounds_toArray, List.set_cons_zero, List.set_cons_succ]
    refine SteadyN.call _ _ _ rfl ?_ (SteadyN.kept P1.out) ?_
    · intro u
      go_simp
    simp only [Act.put, List.setIfInBounds_toArray, List.set_cons_zero, List.set_cons_succ]
    refine SteadyN.take ?_ rfl (by intro s u hu; obtain ⟨t0, t1, t2, t3, t4⟩ := cells5 (BA5.out.drew.below BA5.out.lt hu.below); go_simp; with_reducible rfl) ?_
    simp only [Act.put, List.setIfInBounds_toArray, List.set_cons_zero, List.set_cons_succ]
    refine SteadyN.take ?_ rfl (by intro s u hu; go_simp; with_reducible rfl) ?_
    simp only [Act.put, List.setIfInBounds_toArray, List.set_cons_zero, List.set_cons_succ]
    refine SteadyN.call _ _ _ rfl ?_ (SteadyN.kept N2.out) ?_
    · intro u
      go_simp
    simp only [Act.put, List.setIfInBounds_toArray, List.set_cons_zero, List.set_cons_succ]
    refine SteadyN.call _ _ _ rfl ?_ (SteadyN.kept P2.out) ?_
    · intro u
      go_simp
    simp only [Act.put, List.setIfInBounds_toArray, List.set_cons_zero, List.set_cons_succ]
    refine SteadyN.take ?_ rfl (by intro s u hu; obtain ⟨t0, t1, t2, t3, t4⟩ := cells5 (BA5.out.drew.below BA5.out.lt hu.below); go_simp; with_reducible rfl) ?_
    simp only [Act.put, List.setIfInBounds_toArray, List.set_cons_zero, List.set_cons_succ]
    refine SteadyN.take ?_ rfl (by intro s u hu; go_simp; with_reducible rfl) ?_
    simp only [Act.put, List.setIfInBounds_toArray, List.set_cons_zero, List.set_cons_succ]
    refine SteadyN.take ?_ rfl (by intro s u hu; go_simp; with_reducible rfl) ?_
    simp only [Act.put, List.setIfInBounds_toArray, List.set_cons_zero, List.set_cons_succ]
    refine SteadyN.take ?_ rfl (by intro s u hu; go_simp; with_reducible rfl) ?_
    simp only [Act.put, List.setIfInBounds_toArray, List.set_cons_zero, List.set_cons_succ]
    refine SteadyN.call _ _ _ rfl ?_ (SteadyN.kept N3.out) ?_
    · intro u
      go_simp
    simp only [Act.put, List.setIfInBounds_toArray, List.set_cons_zero, List.set_cons_succ]
    refine SteadyN.call _ _ _ rfl ?_ (SteadyN.kept P3.out) ?_
    · intro u
      go_simp
    simp only [Act.put, List.setIfInBounds_toArray, List.set_cons_zero, List.set_cons_succ]
    clear hnm
    refine SteadyN.nil ?_
    simp only [SteadyN.made]
    intro p1 p2 p3 w6 hS
    obtain ⟨k1, rfl, hk1, W1⟩ := hS.at_ 14 p1 (by simp [SteadyN.upd])
    obtain ⟨k2, rfl, hk2, W2⟩ := hS.at_ 15 p2 (by simp [SteadyN.upd])
    obtain ⟨k3, rfl, hk3, W3⟩ := hS.at_ 16 p3 (by simp [SteadyN.upd])
    have n12 : k1 ≠ k2 := fun e => by
      have := hS.own 14 15 (.pointer (some ⟨k1, 0, none⟩)) (by simp [SteadyN.upd]) (by subst e; simp [SteadyN.upd])
      omega
    have n13 : k1 ≠ k3 := fun e => by
      have := hS.own 14 16 (.pointer (some ⟨k1, 0, none⟩)) (by simp [SteadyN.upd]) (by subst e; simp [SteadyN.upd])
      omega
    have n23 : k2 ≠ k3 := fun e => by
      have := hS.own 15 16 (.pointer (some ⟨k2, 0, none⟩)) (by simp [SteadyN.upd]) (by subst e; simp [SteadyN.upd])
      omega
    have W0 := BA5.out.drew.below BA5.out.lt hS.below
    have HB6 := Lib.hid (HB5.out.drew.trans (hS.below.mono HB5.out.size))
    have z5 : w.heap.size < w5.drew.heap.size := BA5.out.lt
    have z5' : w.heap.size ≤ k1 ∧ w.heap.size ≤ k2 ∧ w.heap.size ≤ k3 := by omega
    have a1 : k1 ≠ w.heap.size := by omega
    have a2 : k2 ≠ w.heap.size := by omega
    have a3 : k3 ≠ w.heap.size := by omega
    obtain ⟨t0, t1, t2, t3, t4⟩ := cells5 W1
    obtain ⟨t5, t6, t7, t8, t9⟩ := free5 W1
    obtain ⟨v0, v1, v2, v3, v4⟩ := cells5 W2
    obtain ⟨v5, v6, v7, v8, v9⟩ := free5 W2
    obtain ⟨q0, q1, q2, q3, q4⟩ := cells5 W3
    obtain ⟨q5, q6, q7, q8, q9⟩ := free5 W3
    have F0 := Lib.hid (set5_other (set5_other (set5_other W0 a1 (.int .u64 (f0 : Int)) (.int .u64 (f1 : Int)) (.int .u64 (f2 : Int)) (.int .u64 (f3 : Int)) (.int .u64 (f4 : Int))) a2 (.int .u64 (g0 : Int)) (.int .u64 (g1 : Int)) (.int .u64 (g2 : Int)) (.int .u64 (g3 : Int)) (.int .u64 (g4 : Int))) a3 (.int .u64 (z0 : Int)) (.int .u64 (z1 : Int)) (.int .u64 (z2 : Int)) (.int .u64 (z3 : Int)) (.int .u64 (z4 : Int)))
    have F1 := Lib.hid (set5_other (set5_other (set5_whole W1 rfl (.int .u64 (f0 : Int)) (.int .u64 (f1 : Int)) (.int .u64 (f2 : Int)) (.int .u64 (f3 : Int)) (.int .u64 (f4 : Int))) (Ne.symm n12) (.int .u64 (g0 : Int)) (.int .u64 (g1 : Int)) (.int .u64 (g2 : Int)) (.int .u64 (g3 : Int)) (.int .u64 (g4 : Int))) (Ne.symm n13) (.int .u64 (z0 : Int)) (.int .u64 (z1 : Int)) (.int .u64 (z2 : Int)) (.int .u64 (z3 : Int)) (.int .u64 (z4 : Int)))
    have F2 := Lib.hid (set5_other (set5_whole (set5_other W2 n12 (.int .u64 (f0 : Int)) (.int .u64 (f1 : Int)) (.int .u64 (f2 : Int)) (.int .u64 (f3 : Int)) (.int .u64 (f4 : Int))) rfl (.int .u64 (g0 : Int)) (.int .u64 (g1 : Int)) (.int .u64 (g2 : Int)) (.int .u64 (g3 : Int)) (.int .u64 (g4 : Int))) (Ne.symm n23) (.int .u64 (z0 : Int)) (.int .u64 (z1 : Int)) (.int .u64 (z2 : Int)) (.int .u64 (z3 : Int)) (.int .u64 (z4 : Int)))
    have F3 := Lib.hid (set5_whole (set5_other (set5_other W3 n13 (.int .u64 (f0 : Int)) (.int .u64 (f1 : Int)) (.int .u64 (f2 : Int)) (.int .u64 (f3 : Int)) (.int .u64 (f4 : Int))) n23 (.int .u64 (g0 : Int)) (.int .u64 (g1 : Int)) (.int .u64 (g2 : Int)) (.int .u64 (g3 : Int)) (.int .u64 (g4 : Int))) rfl (.int .u64 (z0 : Int)) (.int .u64 (z1 : Int)) (.int .u64 (z2 : Int)) (.int .u64 (z3 : Int)) (.int .u64 (z4 : Int)))
    have FB := Lib.hid (set5 (set5 (set5 HB6.out z5'.1 (.int .u64 (f0 : Int)) (.int .u64 (f1 : Int)) (.int .u64 (f2 : Int)) (.int .u64 (f3 : Int)) (.int .u64 (f4 : Int))) z5'.2.1 (.int .u64 (g0 : Int)) (.int .u64 (g1 : Int)) (.int .u64 (g2 : Int)) (.int .u64 (g3 : Int)) (.int .u64 (g4 : Int))) z5'.2.2 (.int .u64 (z0 : Int)) (.int .u64 (z1 : Int)) (.int .u64 (z2 : Int)) (.int .u64 (z3 : Int)) (.int .u64 (z4 : Int)))
    have m12 := Ne.symm n12
    have m13 := Ne.symm n13
    have m23 := Ne.symm n23
    clear hS W0 W1 W2 W3 hk1 hk2 hk3 a1 a2 a3 z5 z5'
    simp only [Act.put, List.setIfInBounds_toArray, List.set_cons_zero, List.set_cons_succ]
    go_upto_region 7 with (fail)
    clear t0 t1 t2 t3 t4 t5 t6 t7 t8 t9 v0 v1 v2 v3 v4 v5 v6 v7 v8 v9 q0 q1 q2 q3 q4 q5 q6 q7 q8 q9 n12 n13 n23 m12 m13 m23
    generalize (((((((((((((((w6.setCell ⟨k1, 0, none⟩ (.int .u64 (f0 : Int))).setCell ⟨k1, 1, none⟩ (.int .u64 (f1 : Int))).setCell ⟨k1, 2, none⟩ (.int .u64 (f2 : Int))).setCell ⟨k1, 3, none⟩ (.int .u64 (f3 : Int))).setCell ⟨k1, 4, none⟩ (.int .u64 (f4 : Int))).setCell ⟨k2, 0, none⟩ (.int .u64 (g0 : Int))).setCell ⟨k2, 1, none⟩ (.int .u64 (g1 : Int))).setCell ⟨k2, 2, none⟩ (.int .u64 (g2 : Int))).setCell ⟨k2, 3, none⟩ (.int .u64 (g3 : Int))).setCell ⟨k2, 4, none⟩ (.int .u64 (g4 : Int))).setCell ⟨k3, 0, none⟩ (.int .u64 (z0 : Int))).setCell ⟨k3, 1, none⟩ (.int .u64 (z1 : Int))).setCell ⟨k3, 2, none⟩ (.int .u64 (z2 : Int))).setCell ⟨k3, 3, none⟩ (.int .u64 (z3 : Int))).setCell ⟨k3, 4, none⟩ (.int .u64 (z4 : Int))) = wq at *
    refine Steady.region 15 (by kernel_rfl) (by kernel_rfl) (fun u => Below wq.drew.heap.size wq.drew u) (Below.refl _ _) ?_
    simp only [List.take_succ_cons, List.take_zero, List.drop_succ_cons, List.drop_zero]
    refine Steady.take ?_ rfl (by intro u hu; obtain ⟨t0, t1, t2, t3, t4⟩ := cells5 (F1.out.drew.below F1.out.lt hu); go_simp; with_reducible rfl) ?_
    simp only [Act.put, List.setIfInBounds_toArray, List.set_cons_zero, List.set_cons_succ]
    refine Steady.take ?_ rfl (by intro u hu; obtain ⟨t0, t1, t2, t3, t4⟩ := cells5 (F2.out.drew.below F2.out.lt hu); go_simp; with_reducible rfl) ?_
    simp only [Act.put, List.setIfInBounds_toArray, List.set_cons_zero, List.set_cons_succ]
    refine Steady.call _ _ _ rfl ?_ (Steady.kept P5.out) ?_
    · intro u
      go_simp
    simp only [Act.put, List.setIfInBounds_toArray, List.set_cons_zero, List.set_cons_succ]
    refine Steady.take ?_ rfl (by intro u hu; obtain ⟨t0, t1, t2, t3, t4⟩ := cells5 (F3.out.drew.below F3.out.lt hu); go_simp; with_reducible rfl) ?_
    simp only [Act.put, List.setIfInBounds_toArray, List.set_cons_zero, List.set_cons_succ]
    refine Steady.take (.bool true) rfl (fun u _ => eql_yes Z rfl BZ.out (by rfl) (by exact HZ.out.symm) u) ?_
    simp only [Act.put, List.setIfInBounds_toArray, List.set_cons_zero, List.set_cons_succ]
    refine Steady.take ?_ rfl (by intro u hu; go_simp; with_reducible rfl) ?_
    simp only [Act.put, List.setIfInBounds_toArray, List.set_cons_zero, List.set_cons_succ]
    refine Steady.take ?_ rfl (by intro u hu; obtain ⟨t0, t1, t2, t3, t4⟩ := cells5 (F0.out.drew.below F0.out.lt hu); go_simp; with_reducible rfl) ?_
    simp only [Act.put, List.setIfInBounds_toArray, List.set_cons_zero, List.set_cons_succ]
    refine Steady.call _ _ _ rfl ?_ (Steady.kept P4.out) ?_
    · intro u
      go_simp
    simp only [Act.put, List.setIfInBounds_toArray, List.set_cons_zero, List.set_cons_succ]
    refine Steady.take ?_ rfl (by intro u hu; obtain ⟨t0, t1, t2, t3, t4⟩ := cells5 (F0.out.drew.below F0.out.lt hu); go_simp; with_reducible rfl) ?_
    simp only [Act.put, List.setIfInBounds_toArray, List.set_cons_zero, List.set_cons_succ]
    refine Steady.call _ _ _ rfl ?_ (Steady.kept R2.out) ?_
    · intro u
      go_simp
    simp only [Act.put, List.setIfInBounds_toArray, List.set_cons_zero, List.set_cons_succ]
    refine Steady.take (.bool true) rfl (fun u _ => eql_yes Q rfl BQ.out (by rfl) (by rfl) u) ?_
    simp only [Act.put, List.setIfInBounds_toArray, List.set_cons_zero, List.set_cons_succ]
    refine Steady.take ?_ rfl (by intro u hu; go_simp; with_reducible rfl) ?_
    simp only [Act.put, List.setIfInBounds_toArray, List.set_cons_zero, List.set_cons_succ]
    refine Steady.take ?_ rfl (by intro u hu; go_simp; with_reducible rfl) ?_
    simp only [Act.put, List.setIfInBounds_toArray, List.set_cons_zero, List.set_cons_succ]
    refine Steady.call _ _ _ rfl ?_ (Steady.kept TL.out) ?_
    · intro u
      go_simp
    simp only [Act.put, List.setIfInBounds_toArray, List.set_cons_zero, List.set_cons_succ]
    refine Steady.take ?_ rfl (by intro u hu; go_simp; with_reducible rfl) ?_
    simp only [Act.put, List.setIfInBounds_toArray, List.set_cons_zero, List.set_cons_succ]
    refine Steady.nil ?_
    intro w9 h9
    have HB9 := Lib.hid (FB.out.drew.trans (h9.mono FB.out.size))
    clear h9
    go_wp2
    go_ret
    exact ⟨rfl, HB9.out⟩
  | false =>
    refine Steady.region 18 (by kernel_rfl) (by kernel_rfl) (fun u => Below wu.drew.heap.size wu.drew u) (Below.refl _ _) ?_
    simp only [List.take_succ_cons, List.take_zero, List.drop_succ_cons, List.drop_zero]
    refine Steady.take ?_ rfl (by intro u hu; go_simp; with_reducible rfl) ?_
    simp only [Act.put, List.setIfInBounds_toArray, List.set_cons_zero, List.set_cons_succ]
    refine Steady.take ?_ rfl (by intro u hu; go_simp; with_reducible rfl) ?_
    simp only [Act.put, List.setIfInBounds_toArray, List.set_cons_zero, List.set_cons_succ]
    refine Steady.pass rfl ?_
    simp only [Act.put, List.setIfInBounds_toArray, List.set_cons_zero, List.set_cons_succ]
    refine Steady.pass rfl ?_
    simp only [Act.put, List.setIfInBounds_toArray, List.set_cons_zero, List.set_cons_succ]
    refine Steady.pass rfl ?_
    simp only [Act.put, List.setIfInBounds_toArray, List.set_cons_zero, List.set_cons_succ]
    refine Steady.pass rfl ?_
    simp only [Act.put, List.setIfInBounds_toArray, List.set_cons_zero, List.set_cons_succ]
    refine Steady.pass rfl ?_
    simp only [Act.put, List.setIfInBounds_toArray, List.set_cons_zero, List.set_cons_succ]
    refine Steady.take ?_ rfl (by intro u hu; go_simp; with_reducible rfl) ?_
    simp only [Act.put, List.setIfInBounds_toArray, List.set_cons_zero, List.set_cons_succ]
    refine Steady.take ?_ rfl (by intro u hu; go_simp; with_reducible rfl) ?_
    simp only [Act.put, List.setIfInBounds_toArray, List.set_cons_zero, List.set_cons_succ]
    refine Steady.take ?_ rfl (by intro u hu; go_simp; with_reducible rfl) ?_
    simp only [Act.put, List.setIfInBounds_toArray, List.set_cons_zero, List.set_cons_succ]
    refine Steady.take ?_ rfl (by intro u hu; go_simp; with_reducible rfl) ?_
    simp only [Act.put, List.setIfInBounds_toArray, List.set_cons_zero, List.set_cons_succ]
    refine Steady.take ?_ rfl (by intro u hu; go_simp; with_reducible rfl) ?_
    simp only [Act.put, List.setIfInBounds_toArray, List.set_cons_zero, List.set_cons_succ]
    refine Steady.take ?_ rfl (by intro u hu; go_simp; with_reducible rfl) ?_
    simp only [Act.put, List.setIfInBounds_toArray, List.set_cons_zero, List.set_cons_succ]
    refine Steady.take ?_ rfl (by intro u hu; obtain ⟨t0, t1, t2, t3, t4⟩ := cells5 (BY4.out.drew.below BY4.out.lt hu); go_simp; with_reducible rfl) ?_
    simp only [Act.put, List.setIfInBounds_toArray, List.set_cons_zero, List.set_cons_succ]
    refine Steady.call _ _ _ rfl ?_ (Steady.kept R4.out) ?_
    · intro u
      go_simp
    simp only [Act.put, List.setIfInBounds_toArray, List.set_cons_zero, List.set_cons_succ]
    refine Steady.take ?_ rfl (by intro u hu; obtain ⟨t0, t1, t2, t3, t4⟩ := cells5 (BA4.out.drew.below BA4.out.lt hu); go_simp; with_reducible rfl) ?_
    simp only [Act.put, List.setIfInBounds_toArray, List.set_cons_zero, List.set_cons_succ]
    refine Steady.call _ _ _ rfl ?_ (Steady.kept R2.out) ?_
    · intro u
      go_simp
    simp only [Act.put, List.setIfInBounds_toArray, List.set_cons_zero, List.set_cons_succ]
    refine Steady.take (.bool false) rfl (fun u _ => neq_no Q rfl BQ.out (by rfl) (by rfl) u) ?_
    simp only [Act.put, List.setIfInBounds_toArray, List.set_cons_zero, List.set_cons_succ]
    refine Steady.nil ?_
    intro w5 h5
    have BA5 := Lib.hid (BA4.out.drew.below BA4.out.lt h5)
    have HB5 := Lib.hid (HB4.out.drew.trans (h5.mono HB4.out.size))
    clear h5
    go_upto_region 6 with (fail)
    have hnm : IntKind.u64.wrap ((n : Int) + (m : Int)) = (n : Int) + (m : Int) := by rw [addN, wrapN _ (by omega)]
    refine SteadyN.region 17 [14, 15, 16] [0, 1, 2, 3, 4, 5, 6, 7, 8, 9, 10, 11, 12, 13] (by kernel_rfl) (by kernel_rfl) (SteadyN.Made w5.drew 24 (fiveL 0 0 0 0 0)) (fun k hk o ho => by
      simp only [List.mem_cons, List.not_mem_nil, or_false] at hk
      rcases hk with rfl | rfl | rfl <;> (obtain rfl : _ = o := Option.some.inj ho; exact SteadyN.makes rfl 24 rfl _ zero_limbs)) (SteadyN.Made.start _ _ _) ?_
    simp only [List.filterMap_cons, List.filterMap_nil, List.drop_succ_cons, List.drop_zero, List.getElem?_cons_zero, List.getElem?_cons_succ, Option.map_some]
    refine SteadyN.take ?_ rfl (by intro s u hu; obtain ⟨t0, t1, t2, t3, t4⟩ := cells5 (BA5.out.drew.below BA5.out.lt hu.below); go_simp; with_reducible rfl) ?_
    simp only [Act.put, List.setIfInBounds_toArray, List.set_cons_zero, List.set_cons_succ]
    refine SteadyN.take ?_ rfl (by intro s u hu; go_simp; with_reducible rfl) ?_
    simp only [Act.put, List.setIfInBounds_toArray, List.set_cons_zero, List.set_cons_succ]
    refine SteadyN.call _ _ _ rfl ?_ (SteadyN.kept N1.out) ?_
    · intro u
      go_simp
    simp only [Act.put, List.setIfInBounds_toArray, List.set_cons_zero, List.set_cons_succ]
    refine SteadyN.call _ _ _ rfl ?_ (SteadyN.kept P1.out) ?_
    · intro u
      go_simp
    simp only [Act.put, List.setIfInBounds_toArray, List.set_cons_zero, List.set_cons_succ]
    refine SteadyN.take ?_ rfl (by intro s u hu; obtain ⟨t0, t1, t2, t3, t4⟩ := cells5 (BA5.out.drew.below BA5.out.lt hu.below); go_simp; with_reducible rfl) ?_
    simp only [Act.put, List.setIfInBounds_toArray, List.set_cons_zero, List.set_cons_succ]
    refine SteadyN.take ?_ rfl (by intro s u hu; go_simp; with_reducible rfl) ?_
    simp only [Act.put, List.setIfInBounds_toArray, List.set_cons_zero, List.set_cons_succ]
    refine SteadyN.call _ _ _ rfl ?_ (SteadyN.kept N2.out) ?_
    · intro u
      go_simp
    simp only [Act.put, List.setIfInBounds_toArray, List.set_cons_zero, List.set_cons_succ]
    refine SteadyN.call _ _ _ rfl ?_ (SteadyN.kept P2.out) ?_
    · intro u
      go_simp
    simp only [Act.put, List.setIfInBounds_toArray, List.set_cons_zero, List.set_cons_succ]
    refine SteadyN.take ?_ rfl (by intro s u hu; obtain ⟨t0, t1, t2, t3, t4⟩ := cells5 (BA5.out.drew.below BA5.out.lt hu.below); go_simp; with_reducible rfl) ?_
    simp only [Act.put, List.setIfInBounds_toArray, List.set_cons_zero, List.set_cons_succ]
    refine SteadyN.take ?_ rfl (by intro s u hu; go_simp; with_reducible rfl) ?_
    simp only [Act.put, List.setIfInBounds_toArray, List.set_cons_zero, List.set_cons_succ]
    refine SteadyN.take ?_ rfl (by intro s u hu; go_simp; with_reducible rfl) ?_
    simp only [Act.put, List.setIfInBounds_toArray, List.set_cons_zero, List.set_cons_succ]
    refine SteadyN.take ?_ rfl (by intro s u hu; go_simp; with_reducible rfl) ?_
    simp only [Act.put, List.setIfInBounds_toArray, List.set_cons_zero, List.set_cons_succ]
    refine SteadyN.call _ _ _ rfl ?_ (SteadyN.kept N3.out) ?_
    · intro u
      go_simp
    simp only [Act.put, List.setIfInBounds_toArray, List.set_cons_zero, List.set_cons_succ]
    refine SteadyN.call _ _ _ rfl ?_ (SteadyN.kept P3.out) ?_
    · intro u
      go_simp
    simp only [Act.put, List.setIfInBounds_toArray, List.set_cons_zero, List.set_cons_succ]
    clear hnm
    refine SteadyN.nil ?_
    simp only [SteadyN.made]
    intro p1 p2 p3 w6 hS
    obtain ⟨k1, rfl, hk1, W1⟩ := hS.at_ 14 p1 (by simp [SteadyN.upd])
    obtain ⟨k2, rfl, hk2, W2⟩ := hS.at_ 15 p2 (by simp [SteadyN.upd])
    obtain ⟨k3, rfl, hk3, W3⟩ := hS.at_ 16 p3 (by simp [SteadyN.upd])
    have n12 : k1 ≠ k2 := fun e => by
      have := hS.own 14 15 (.pointer (some ⟨k1, 0, none⟩)) (by simp [SteadyN.upd]) (by subst e; simp [SteadyN.upd])
      omega
    have n13 : k1 ≠ k3 := fun e => by
      have := hS.own 14 16 (.pointer (some ⟨k1, 0, none⟩)) (by simp [SteadyN.upd]) (by subst e; simp [SteadyN.upd])
      omega
    have n23 : k2 ≠ k3 := fun e => by
      have := hS.own 15 16 (.pointer (some ⟨k2, 0, none⟩)) (by simp [SteadyN.upd]) (by subst e; simp [SteadyN.upd])
      omega
    have W0 := BA5.out.drew.below BA5.out.lt hS.below
    have HB6 := Lib.hid (HB5.out.drew.trans (hS.below.mono HB5.out.size))
    have z5 : w.heap.size < w5.drew.heap.size := BA5.out.lt
    have z5' : w.heap.size ≤ k1 ∧ w.heap.size ≤ k2 ∧ w.heap.size ≤ k3 := by omega
    have a1 : k1 ≠ w.heap.size := by omega
    have a2 : k2 ≠ w.heap.size := by omega
    have a3 : k3 ≠ w.heap.size := by omega
    obtain ⟨t0, t1, t2, t3, t4⟩ := cells5 W1
    obtain ⟨t5, t6, t7, t8, t9⟩ := free5 W1
    obtain ⟨v0, v1, v2, v3, v4⟩ := cells5 W2
    obtain ⟨v5, v6, v7, v8, v9⟩ := free5 W2
    obtain ⟨q0, q1, q2, q3, q4⟩ := cells5 W3
    obtain ⟨q5, q6, q7, q8, q9⟩ := free5 W3
    have F0 := Lib.hid (set5_other (set5_other (set5_other W0 a1 (.int .u64 (f0 : Int)) (.int .u64 (f1 : Int)) (.int .u64 (f2 : Int)) (.int .u64 (f3 : Int)) (.int .u64 (f4 : Int))) a2 (.int .u64 (g0 : Int)) (.int .u64 (g1 : Int)) (.int .u64 (g2 : Int)) (.int .u64 (g3 : Int)) (.int .u64 (g4 : Int))) a3 (.int .u64 (z0 : Int)) (.int .u64 (z1 : Int)) (.int .u64 (z2 : Int)) (.int .u64 (z3 : Int)) (.int .u64 (z4 : Int)))
    have F1 := Lib.hid (set5_other (set5_other (set5_whole W1 rfl (.int .u64 (f0 : Int)) (.int .u64 (f1 : Int)) (.int .u64 (f2 : Int)) (.int .u64 (f3 : Int)) (.int .u64 (f4 : Int))) (Ne.symm n12) (.int .u64 (g0 : Int)) (.int .u64 (g1 : Int)) (.int .u64 (g2 : Int)) (.int .u64 (g3 : Int)) (.int .u64 (g4 : Int))) (Ne.symm n13) (.int .u64 (z0 : Int)) (.int .u64 (z1 : Int)) (.int .u64 (z2 : Int)) (.int .u64 (z3 : Int)) (.int .u64 (z4 : Int)))
    have F2 := Lib.hid (set5_other (set5_whole (set5_other W2 n12 (.int .u64 (f0 : Int)) (.int .u64 (f1 : Int)) (.int .u64 (f2 : Int)) (.int .u64 (f3 : Int)) (.int .u64 (f4 : Int))) rfl (.int .u64 (g0 : Int)) (.int .u64 (g1 : Int)) (.int .u64 (g2 : Int)) (.int .u64 (g3 : Int)) (.int .u64 (g4 : Int))) (Ne.symm n23) (.int .u64 (z0 : Int)) (.int .u64 (z1 : Int)) (.int .u64 (z2 : Int)) (.int .u64 (z3 : Int)) (.int .u64 (z4 : Int)))
    have F3 := Lib.hid (set5_whole (set5_other (set5_other W3 n13 (.int .u64 (f0 : Int)) (.int .u64 (f1 : Int)) (.int .u64 (f2 : Int)) (.int .u64 (f3 : Int)) (.int .u64 (f4 : Int))) n23 (.int .u64 (g0 : Int)) (.int .u64 (g1 : Int)) (.int .u64 (g2 : Int)) (.int .u64 (g3 : Int)) (.int .u64 (g4 : Int))) rfl (.int .u64 (z0 : Int)) (.int .u64 (z1 : Int)) (.int .u64 (z2 : Int)) (.int .u64 (z3 : Int)) (.int .u64 (z4 : Int)))
    have FB := Lib.hid (set5 (set5 (set5 HB6.out z5'.1 (.int .u64 (f0 : Int)) (.int .u64 (f1 : Int)) (.int .u64 (f2 : Int)) (.int .u64 (f3 : Int)) (.int .u64 (f4 : Int))) z5'.2.1 (.int .u64 (g0 : Int)) (.int .u64 (g1 : Int)) (.int .u64 (g2 : Int)) (.int .u64 (g3 : Int)) (.int .u64 (g4 : Int))) z5'.2.2 (.int .u64 (z0 : Int)) (.int .u64 (z1 : Int)) (.int .u64 (z2 : Int)) (.int .u64 (z3 : Int)) (.int .u64 (z4 : Int)))
    have m12 := Ne.symm n12
    have m13 := Ne.symm n13
    have m23 := Ne.symm n23
    clear hS W0 W1 W2 W3 hk1 hk2 hk3 a1 a2 a3 z5 z5'
    simp only [Act.put, List.setIfInBounds_toArray, List.set_cons_zero, List.set_cons_succ]
    go_upto_region 7 with (fail)
    clear t0 t1 t2 t3 t4 t5 t6 t7 t8 t9 v0 v1 v2 v3 v4 v5 v6 v7 v8 v9 q0 q1 q2 q3 q4 q5 q6 q7 q8 q9 n12 n13 n23 m12 m13 m23
    generalize (((((((((((((((w6.setCell ⟨k1, 0, none⟩ (.int .u64 (f0 : Int))).setCell ⟨k1, 1, none⟩ (.int .u64 (f1 : Int))).setCell ⟨k1, 2, none⟩ (.int .u64 (f2 : Int))).setCell ⟨k1, 3, none⟩ (.int .u64 (f3 : Int))).setCell ⟨k1, 4, none⟩ (.int .u64 (f4 : Int))).setCell ⟨k2, 0, none⟩ (.int .u64 (g0 : Int))).setCell ⟨k2, 1, none⟩ (.int .u64 (g1 : Int))).setCell ⟨k2, 2, none⟩ (.int .u64 (g2 : Int))).setCell ⟨k2, 3, none⟩ (.int .u64 (g3 : Int))).setCell ⟨k2, 4, none⟩ (.int .u64 (g4 : Int))).setCell ⟨k3, 0, none⟩ (.int .u64 (z0 : Int))).setCell ⟨k3, 1, none⟩ (.int .u64 (z1 : Int))).setCell ⟨k3, 2, none⟩ (.int .u64 (z2 : Int))).setCell ⟨k3, 3, none⟩ (.int .u64 (z3 : Int))).setCell ⟨k3, 4, none⟩ (.int .u64 (z4 : Int))) = wq at *
    refine Steady.region 15 (by kernel_rfl) (by kernel_rfl) (fun u => Below wq.drew.heap.size wq.drew u) (Below.refl _ _) ?_
    simp only [List.take_succ_cons, List.take_zero, List.drop_succ_cons, List.drop_zero]
    refine Steady.take ?_ rfl (by intro u hu; obtain ⟨t0, t1, t2, t3, t4⟩ := cells5 (F1.out.drew.below F1.out.lt hu); go_simp; with_reducible rfl) ?_
    simp only [Act.put, List.setIfInBounds_toArray, List.set_cons_zero, List.set_cons_succ]
    refine Steady.take ?_ rfl (by intro u hu; obtain ⟨t0, t1, t2, t3, t4⟩ := cells5 (F2.out.drew.below F2.out.lt hu); go_simp; with_reducible rfl) ?_
    simp only [Act.put, List.setIfInBounds_toArray, List.set_cons_zero, List.set_cons_succ]
    refine Steady.call _ _ _ rfl ?_ (Steady.kept P5.out) ?_
    · intro u
      go_simp
    simp only [Act.put, List.setIfInBounds_toArray, List.set_cons_zero, List.set_cons_succ]
    refine Steady.take ?_ rfl (by intro u hu; obtain ⟨t0, t1, t2, t3, t4⟩ := cells5 (F3.out.drew.below F3.out.lt hu); go_simp; with_reducible rfl) ?_
    simp only [Act.put, List.setIfInBounds_toArray, List.set_cons_zero, List.set_cons_succ]
    refine Steady.take (.bool true) rfl (fun u _ => eql_yes Z rfl BZ.out (by rfl) (by exact HZ.out.symm) u) ?_
    simp only [Act.put, List.setIfInBounds_toArray, List.set_cons_zero, List.set_cons_succ]
    refine Steady.take ?_ rfl (by intro u hu; go_simp; with_reducible rfl) ?_
    simp only [Act.put, List.setIfInBounds_toArray, List.set_cons_zero, List.set_cons_succ]
    refine Steady.take ?_ rfl (by intro u hu; obtain ⟨t0, t1, t2, t3, t4⟩ := cells5 (F0.out.drew.below F0.out.lt hu); go_simp; with_reducible rfl) ?_
    simp only [Act.put, List.setIfInBounds_toArray, List.set_cons_zero, List.set_cons_succ]
    refine Steady.call _ _ _ rfl ?_ (Steady.kept P4.out) ?_
    · intro u
      go_simp
    simp only [Act.put, List.setIfInBounds_toArray, List.set_cons_zero, List.set_cons_succ]
    refine Steady.take ?_ rfl (by intro u hu; obtain ⟨t0, t1, t2, t3, t4⟩ := cells5 (F0.out.drew.below F0.out.lt hu); go_simp; with_reducible rfl) ?_
    simp only [Act.put, List.setIfInBounds_toArray, List.set_cons_zero, List.set_cons_succ]
    refine Steady.call _ _ _ rfl ?_ (Steady.kept R2.out) ?_
    · intro u
      go_simp
    simp only [Act.put, List.setIfInBounds_toArray, List.set_cons_zero, List.set_cons_succ]
    refine Steady.take (.bool true) rfl (fun u _ => eql_yes Q rfl BQ.out (by rfl) (by rfl) u) ?_
    simp only [Act.put, List.setIfInBounds_toArray, List.set_cons_zero, List.set_cons_succ]
    refine Steady.take ?_ rfl (by intro u hu; go_simp; with_reducible rfl) ?_
    simp only [Act.put, List.setIfInBounds_toArray, List.set_cons_zero, List.set_cons_succ]
    refine Steady.take ?_ rfl (by intro u hu; go_simp; with_reducible rfl) ?_
    simp only [Act.put, List.setIfInBounds_toArray, List.set_cons_zero, List.set_cons_succ]
    refine Steady.call _ _ _ rfl ?_ (Steady.kept TL.out) ?_
    · intro u
      go_simp
    simp only [Act.put, List.setIfInBounds_toArray, List.set_cons_zero, List.set_cons_succ]
    refine Steady.take ?_ rfl (by intro u hu; go_simp; with_reducible rfl) ?_
    simp only [Act.put, List.setIfInBounds_toArray, List.set_cons_zero, List.set_cons_succ]
    refine Steady.nil ?_
    intro w9 h9
    have HB9 := Lib.hid (FB.out.drew.trans (h9.mono FB.out.size))
    clear h9
    go_wp2
    go_ret
    exact ⟨rfl, HB9.out⟩

theorem own : ownKnob Try.prog.godebug = none := by kernel_rfl
theorem laidOut : laidOutB Try.prog = true := by kernel_rfl
theorem word_in {n : Int} (h : (Lit.int .u64 n).wf = true) : ∃ k : Nat, n = k ∧ k < 18446744073709551616 := by
  have h0 : IntKind.u64.min ≤ n ∧ n ≤ IntKind.u64.max := by simpa [Lit.wf] using h
  have e1 : IntKind.u64.min = 0 := by decide
  have e2 : IntKind.u64.max = 18446744073709551615 := by decide
  exact ⟨n.toNat, by omega, by omega⟩
/-- Five words, as numbers from 0 on. -/
theorem limbs_of (ns : List Int) (hl : ns.length = 5) (h : ∀ n ∈ ns, (Lit.int .u64 n).wf = true) : ∃ a b c d e : Nat, ns = [(a : Int), b, c, d, e] ∧ Words5 a b c d e := by
  match ns, hl with
  | [n0, n1, n2, n3, n4], _ =>
    obtain ⟨a, rfl, ha⟩ := word_in (h n0 (by simp))
    obtain ⟨b, rfl, hb⟩ := word_in (h n1 (by simp))
    obtain ⟨c, rfl, hc⟩ := word_in (h n2 (by simp))
    obtain ⟨d, rfl, hd⟩ := word_in (h n3 (by simp))
    obtain ⟨e, rfl, he⟩ := word_in (h n4 (by simp))
    exact ⟨a, b, c, d, e, rfl, ha, hb, hc, hd, he⟩
theorem two_of {α : Type} (l : List α) (h : l.length = 2) : ∃ a b, l = [a, b] := by
  match l, h with
  | [a, b], _ => exact ⟨a, b, rfl⟩

set_option maxRecDepth 100000 in
theorem lifted (os : Os) (started : os.Started) (H : Type) (enc : TypeId × Value → H) :
    ReturnsInHanded {} Try.checked os 7 .any (Rows.limbsRootsSpec.pre6 enc Try.prog Try.f7 Rows.limbsRootsRow.domain false) (Rows.limbsRootsSpec.post enc Try.prog Try.f7 false true false false) := by
  refine returnsInHanded_of_change_sized (C := Try.checked) own started (by kernel_rfl) Try.func7
    (ChangeSpec.witness6 (enc := enc) (C := Try.checked) false ⟨#[], #[.agg #[.int .u64 0, .int .u64 0, .int .u64 0, .int .u64 0, .int .u64 0], .agg #[.int .i64 0, .int .i64 0]], []⟩ 8 (by kernel_rfl) (by kernel_rfl) (by kernel_rfl) (by kernel_rfl)) ?_
  intro W base args ds gs before hval0 hW hcnd hsz0 _
  have hsz : (DataW.weightsEach Try.prog (Try.f7.params.toList ++ Rows.limbsRootsSpec.plain.varTypes Try.prog) (ds ++ gs)).all (· ≤ reachBytes) = true := hsz0
  clear hsz0
  have hval : ∀ (j : Nat) t v, Try.f7.params[j]? = some t → args[j]? = some v → Value.okWide Try.prog W .any base t v := hval0
  have hW' := hW
  obtain ⟨p, q, hA0, hV, rfl, hfz, hnd⟩ := hW
  have hA : DataW.TrodAll enc Try.prog W 0 (fun _ => true) true Try.f7.params.toList args.toList ds p := hA0
  rw [Try.params7] at hA hval hsz
  obtain ⟨v0, vs0, d0, ds0, p0, q0, hargs, rfl, rfl, h0, r0⟩ := trodAll_cons hA
  obtain ⟨v1, vs1, d1, ds1, p1, q1, rfl, rfl, rfl, h1, r1⟩ := trodAll_cons r0
  obtain ⟨rfl, rfl, rfl⟩ := trodAll_nil r1
  obtain rfl : args = #[v0, v1] := by cases args; simp_all
  obtain ⟨rfl, rfl⟩ := trodVars_none hV
  have k0 := h0
  have lt0 : ∀ x ∈ p0, x.block < W.heap.size := by obtain ⟨m, hm⟩ := k0; exact DataW.trod_lt m _ _ _ hm
  have k1 := h1
  have lt1 : ∀ x ∈ p1, x.block < W.heap.size := by obtain ⟨m, hm⟩ := k1; exact DataW.trod_lt m _ _ _ hm
  obtain ⟨ns0, hnl0, rfl, rfl, rfl, w0⟩ := Open.open_int_array Try.underlying24 Try.underlying22 (by kernel_rfl) (by kernel_rfl) (hval 0 24 v0 rfl rfl) h0
  obtain ⟨a0, b0, c0, d0, e0, rfl, hw0⟩ := limbs_of ns0 hnl0 w0
  obtain ⟨ns1, hnl1, rfl, rfl, rfl, w1⟩ := Open.open_int_array Try.underlying39 Try.underlying3 (by kernel_rfl) (by kernel_rfl) (hval 1 39 v1 rfl rfl) h1
  obtain ⟨m1, n1, rfl⟩ := two_of ns1 hnl1
  clear hA0 hval0
  have hwk := walk a0 b0 c0 d0 e0 m1 n1 W hw0
  refine hwk.mono fun e W' ⟨he, bel⟩ => ?_
  subst he
  exact ⟨_, rfl, _, _, _, [], _, [], hW', trodAll_mk1 (shut_bool Try.underlying4 _), (trodAll_cons_mk (Below.trod laidOut (by kernel_rfl) (of_decide_eq_true (by kernel_rfl)) k0 bel lt0) (trodAll_cons_mk (Below.trod laidOut (by kernel_rfl) (of_decide_eq_true (by kernel_rfl)) k1 bel lt1) trodAll_mk0)), rfl, bel.frame _, fun h => by cases h⟩

theorem over : Rows.limbsRootsRow.holds Try.pinned (OpenSpec.ofChange Rows.limbsRootsSpec) :=
  OpenClaim.holds_of_wide 7 Try.f7 rfl rfl rfl rfl rfl rfl rfl ⟨rfl, rfl, rfl, rfl, rfl⟩ rfl rfl rfl rfl rfl (by kernel_rfl) Try.func7 (by kernel_rfl)
    (of_decide_eq_true (by kernel_rfl)) (by unfold Func.isWrapper; first | (rw [if_pos (by decide +kernel)]; kernel_rfl) | (rw [if_neg (by decide +kernel)]; exact ⟨rfl, rfl⟩))
    (fun os started H enc _ => lifted os started H enc)

theorem proved : Rows.LimbsRootsSaid := over
#print axioms proved
end Go.Proofs.Ytblheplpaiokkab.LawRoots
