/-
  Root of package limbs answers what the plain mathematics says, and leaves all memory that was there as it was. Condition: words below 2^64.
-/
import Derived.Test.YtcglobpklhkebaaLmbPow
import Derived.Test.YtcglobpklhkebaaSteadyA
namespace Go.Proofs.Ytcglobpklhkebaa.Limb
open Go.RowKit Mur Lanes
set_option maxRecDepth 100000

/-- The first and the second root that are tried. -/
def rootA (x : Nat) : Nat := x ^ (2 ^ 252 - 2) % Prime.P
def rootB (x : Nat) : Nat := rootA x * (2 ^ (2 ^ 253 - 5) % Prime.P) % Prime.P
theorem rootA_lt (x : Nat) : rootA x < Prime.P := by
  unfold rootA
  generalize x ^ (2 ^ 252 - 2) = y
  exact Nat.mod_lt _ P_pos
theorem rootB_lt (x : Nat) : rootB x < Prime.P := by
  unfold rootB
  exact Nat.mod_lt _ P_pos
/-- What is told as a root of x. -/
def rootV (x : Nat) : Value := if rootA x ^ 2 % Prime.P = x then limV (rootA x) else if rootB x ^ 2 % Prime.P = x then limV (rootB x) else five 0 0 0 0 0
def rootIs (x : Nat) : Bool := decide (rootA x ^ 2 % Prime.P = x) || decide (rootB x ^ 2 % Prime.P = x)

theorem times_one : times 1 = 1 := by decide
theorem zero_limbs : (Try.prog.info? 24).map (fun i => (i.zero, i.size)) = some (some (.agg (fiveL 0 0 0 0 0).toArray), (fiveL 0 0 0 0 0).length) := by kernel_rfl

/-- The worlds of Root: what came in, reduced; the answer's place; what is tried. -/
structure Rt (w0 : World) (x0 x1 x2 x3 x4 p : Nat) (r0 r1 r2 r3 r4 : Nat) (w : World) : Prop where
  x : Whole w w0.heap.size 24 (fiveL x0 x1 x2 x3 x4)
  z : Whole w (w0.heap.size + 1) 24 (fiveL 0 0 0 0 0)
  r : Whole w p 24 (fiveL r0 r1 r2 r3 r4)
  far : w0.heap.size + 1 < p
  below : Below w0.heap.size w0 w
theorem Rt.next {w0 w w' : World} {x0 x1 x2 x3 x4 p r0 r1 r2 r3 r4 : Nat} (h : Rt w0 x0 x1 x2 x3 x4 p r0 r1 r2 r3 r4 w) (q : Below w.heap.size w w') : Rt w0 x0 x1 x2 x3 x4 p r0 r1 r2 r3 r4 w' :=
  ⟨h.x.below h.x.lt q, h.z.below h.z.lt q, h.r.below h.r.lt q, h.far, h.below.trans (q.mono h.below.size)⟩
theorem Rt.drew {w0 w : World} {x0 x1 x2 x3 x4 p r0 r1 r2 r3 r4 : Nat} (h : Rt w0 x0 x1 x2 x3 x4 p r0 r1 r2 r3 r4 w) : Rt w0 x0 x1 x2 x3 x4 p r0 r1 r2 r3 r4 w.drew := ⟨h.x, h.z, h.r, h.far, h.below.drew⟩

set_option maxHeartbeats 3200000 in
theorem root_any (a b c d e : Nat) (w : World) (h : Words5 a b c d e) :
    Calls Try.prog 30 #[five a b c d e] w fun r w' => r = .returned (.tuple #[rootV (wor a b c d e % Prime.P), .bool (rootIs (wor a b c d e % Prime.P))]) ∧ Below w.heap.size w w' := by
  have R0 := fun u => carry_any a b c d e u h
  obtain ⟨X, hX⟩ : ∃ X, X = wor a b c d e % Prime.P := ⟨_, rfl⟩
  rw [← hX] at R0 ⊢
  have hXl : X < Prime.P := by rw [hX]; exact Nat.mod_lt _ P_pos
  have hXb := Nat.lt_trans hXl P_lt
  have lX := lims_lim hXb
  obtain ⟨x0, x1, x2, x3, x4, hx⟩ := limV_five X
  obtain ⟨A, hA⟩ : ∃ A, A = rootA X := ⟨_, rfl⟩
  have hAl : A < Prime.P := by rw [hA]; exact rootA_lt X
  have lA := lims_lim (Nat.lt_trans hAl P_lt)
  obtain ⟨B, hB⟩ : ∃ B, B = rootB X := ⟨_, rfl⟩
  have hBl : B < Prime.P := by rw [hB]; exact rootB_lt X
  have lB := lims_lim (Nat.lt_trans hBl P_lt)
  obtain ⟨r0, r1, r2, r3, r4, hr⟩ := limV_five A
  obtain ⟨s0, s1, s2, s3, s4, hs⟩ := limV_five B
  have R1 := fun u => expo_lit 252 2 (2 ^ 252 - 2) 48 2 (by decide) (by decide) (by decide) (by decide) (by decide +kernel) u
  obtain ⟨E1, hE1⟩ : ∃ E1, E1 = numT (2 ^ 252 - 2) := ⟨_, rfl⟩
  have R2 := fun u => power_num lX (2 ^ 252 - 2) (by decide) u
  have hA' := hA
  unfold rootA at hA'
  rw [← hA', ← hE1, hx, hr] at R2
  rw [← hE1] at R1
  have R3 := fun u => square_val lA 1 (by decide) (by decide) u
  rw [times_one, Nat.pow_one, hr] at R3
  obtain ⟨v0, v1, v2, v3, v4, hVA⟩ := limV_five (A ^ 2 % Prime.P)
  rw [hVA] at R3
  have EQ1 := fun u => eq_lim (Nat.lt_trans (Nat.mod_lt (A ^ 2) P_pos) P_lt) hXb u
  rw [hVA, hx] at EQ1
  have R4 := fun u => expo_lit 253 5 (2 ^ 253 - 5) 49 5 (by decide) (by decide) (by decide) (by decide) (by decide +kernel) u
  obtain ⟨E2, hE2⟩ : ∃ E2, E2 = numT (2 ^ 253 - 5) := ⟨_, rfl⟩
  have R5 := fun u => power_num (lims_five (a := 2) (b := 0) (c := 0) (d := 0) (e := 0) (by unfold Words5; omega)) (2 ^ 253 - 5) (by decide) u
  rw [show wor 2 0 0 0 0 = 2 by decide, ← hE2] at R5
  rw [← hE2] at R4
  obtain ⟨VF, hVF⟩ : ∃ V, V = limV (2 ^ (2 ^ 253 - 5) % Prime.P) := ⟨_, rfl⟩
  rw [← hVF] at R5
  have R5 := Lib.hid (show ∀ u, Calls Try.prog 32 #[.agg #[.int .u64 2, .int .u64 0, .int .u64 0, .int .u64 0, .int .u64 0], .string E2] u fun r w' => r = .returned VF ∧ Below u.heap.size u w' from R5)
  have R6 := fun u => times_val lA (lims_mod (2 ^ (2 ^ 253 - 5))) u
  have hB' := hB
  unfold rootB at hB'
  rw [← hA] at hB'
  rw [← hVF, ← hB', hr, hs] at R6
  have R7 := fun u => square_val lB 1 (by decide) (by decide) u
  rw [times_one, Nat.pow_one, hs] at R7
  obtain ⟨u0, u1, u2, u3, u4, hVB⟩ := limV_five (B ^ 2 % Prime.P)
  rw [hVB] at R7
  have EQ2 := fun u => eq_lim (Nat.lt_trans (Nat.mod_lt (B ^ 2) P_pos) P_lt) hXb u
  rw [hVB, hx] at EQ2
  have hV : rootV X = if A ^ 2 % Prime.P = X then five r0 r1 r2 r3 r4 else if B ^ 2 % Prime.P = X then five s0 s1 s2 s3 s4 else five 0 0 0 0 0 := by
    unfold rootV
    rw [← hA, ← hB, hr, hs]
  have hI : rootIs X = (decide (A ^ 2 % Prime.P = X) || decide (B ^ 2 % Prime.P = X)) := by
    unfold rootIs
    rw [← hA, ← hB]
  obtain ⟨t, ht⟩ : ∃ t, t = decide (A ^ 2 % Prime.P = X) := ⟨_, rfl⟩
  obtain ⟨t', ht'⟩ : ∃ t, t = decide (B ^ 2 % Prime.P = X) := ⟨_, rfl⟩
  have hV2 : rootV X = if t then five r0 r1 r2 r3 r4 else if t' then five s0 s1 s2 s3 s4 else five 0 0 0 0 0 := by
    rw [hV, ht, ht']
    simp only [decide_eq_true_eq]
  rw [← ht] at EQ1 hI
  rw [← ht'] at EQ2 hI
  rw [hV2, hI]
  rw [hx] at R0
  have R0 := Lib.hid R0
  have R1 := Lib.hid R1
  have R2 := Lib.hid R2
  have R3 := Lib.hid R3
  have R4 := Lib.hid R4
  have R6 := Lib.hid R6
  have R7 := Lib.hid R7
  have Q1 := Lib.hid EQ1
  have Q2 := Lib.hid EQ2
  clear hA' hB' hX h hXl hXb lX hx hA hAl lA hB hBl lB hr hs hE1 hE2 hVA hVF hVB hV hV2 hI ht ht' EQ1 EQ2
  go_enter Try.func30, Try.ntmps30
  go_wp2_with fail
  refine (R0.out _).mono ?_
  rintro e w1 ⟨rfl, hb⟩
  have g1 := Whole.below (Whole.made' w 24 (fiveL a b c d e).toArray _ rfl |>.alloc (.cells (fiveL 0 0 0 0 0).toArray 24)) (by simp; omega) hb
  have g2 : Whole w1 (w.heap.size + 1) 24 (fiveL 0 0 0 0 0) := Whole.below (Whole.made' _ _ (fiveL 0 0 0 0 0).toArray _ (by simp)) (by simp) hb
  obtain ⟨c0, c1, c2, c3, c4⟩ := cells5 g1
  obtain ⟨f0, f1, f2, f3, f4⟩ := free5 g1
  have G1 := Lib.hid (set5_whole g1 rfl (.int .u64 (x0 : Int)) (.int .u64 (x1 : Int)) (.int .u64 (x2 : Int)) (.int .u64 (x3 : Int)) (.int .u64 (x4 : Int)))
  have G2 := Lib.hid (set5_other g2 (c := w.heap.size) (by omega) (.int .u64 (x0 : Int)) (.int .u64 (x1 : Int)) (.int .u64 (x2 : Int)) (.int .u64 (x3 : Int)) (.int .u64 (x4 : Int)))
  have HB := Lib.hid (set5 ((((Below.refl w.heap.size w).alloc (Nat.le_refl _) (.cells (fiveL a b c d e).toArray 24)).alloc (by simp) (.cells (fiveL 0 0 0 0 0).toArray 24)).trans (hb.mono (by simp; omega))) (Nat.le_refl _) (.int .u64 (x0 : Int)) (.int .u64 (x1 : Int)) (.int .u64 (x2 : Int)) (.int .u64 (x3 : Int)) (.int .u64 (x4 : Int)))
  clear hb g1 g2
  go_upto_region 2 with (fail)
  clear c0 c1 c2 c3 c4 f0 f1 f2 f3 f4
  generalize ((((w1.setCell ⟨w.heap.size, 0, none⟩ (.int .u64 (x0 : Int))).setCell ⟨w.heap.size, 1, none⟩ (.int .u64 (x1 : Int))).setCell ⟨w.heap.size, 2, none⟩ (.int .u64 (x2 : Int))).setCell ⟨w.heap.size, 3, none⟩ (.int .u64 (x3 : Int))).setCell ⟨w.heap.size, 4, none⟩ (.int .u64 (x4 : Int)) = wz at *
  refine Steady.region_alloc 4 3 [0, 1, 2] _ rfl (by kernel_rfl) (by kernel_rfl) (Steady.Made wz.drew 24 (fiveL 0 0 0 0 0)) (Steady.makes_alloc rfl 24 rfl _ zero_limbs) (Below.refl _ _) ?_
  simp only [List.filterMap_cons, List.filterMap_nil, List.drop_succ_cons, List.drop_zero, List.getElem?_cons_zero, List.getElem?_cons_succ]
  refine Steady.takeM ?_ rfl (by intro s u hu; obtain ⟨t0, t1, t2, t3, t4⟩ := cells5 (G1.out.drew.below G1.out.lt hu.below); go_simp; with_reducible rfl) ?_
  simp only [Act.put, List.setIfInBounds_toArray, List.set_cons_zero, List.set_cons_succ]
  refine Steady.callM _ _ _ rfl ?_ (Steady.keptM R1.out) ?_
  · intro u
    go_simp
  simp only [Act.put, List.setIfInBounds_toArray, List.set_cons_zero, List.set_cons_succ]
  refine Steady.callM _ _ _ rfl ?_ (Steady.keptM R2.out) ?_
  · intro u
    go_simp
  simp only [Act.put, List.setIfInBounds_toArray, List.set_cons_zero, List.set_cons_succ]
  refine Steady.nilM ?_
  intro p w2 hmade
  obtain ⟨hb2, n, rfl, hn, hw2⟩ := hmade
  have far : w.heap.size + 1 < n := Nat.lt_of_lt_of_le G2.out.lt hn
  have HR2 := Lib.hid (show Rt w x0 x1 x2 x3 x4 n 0 0 0 0 0 w2 from ⟨G1.out.drew.below G1.out.lt hb2, G2.out.drew.below G2.out.lt hb2, hw2, far, HB.out.drew.trans (hb2.mono HB.out.size)⟩)
  obtain ⟨c0, c1, c2, c3, c4⟩ := cells5 hw2
  obtain ⟨f0, f1, f2, f3, f4⟩ := free5 hw2
  have HW2 := Lib.hid hw2
  clear hb2 hn hw2 G1 G2 HB
  simp only [List.setIfInBounds_toArray, List.set_cons_zero, List.set_cons_succ]
  go_upto_region 3 with (fail)
  clear c0 c1 c2 c3 c4 f0 f1 f2 f3 f4
  have hne1 : n ≠ w.heap.size := by omega
  have hne2 : n ≠ w.heap.size + 1 := by omega
  have HT := Lib.hid (show Rt w x0 x1 x2 x3 x4 n r0 r1 r2 r3 r4 (((((w2.setCell ⟨n, 0, none⟩ (.int .u64 (r0 : Int))).setCell ⟨n, 1, none⟩ (.int .u64 (r1 : Int))).setCell ⟨n, 2, none⟩ (.int .u64 (r2 : Int))).setCell ⟨n, 3, none⟩ (.int .u64 (r3 : Int))).setCell ⟨n, 4, none⟩ (.int .u64 (r4 : Int))) from
    ⟨set5_other HR2.out.x hne1 _ _ _ _ _, set5_other HR2.out.z hne2 _ _ _ _ _, set5_whole HR2.out.r rfl _ _ _ _ _, far, set5 HR2.out.below (by omega) _ _ _ _ _⟩)
  generalize ((((w2.setCell ⟨n, 0, none⟩ (.int .u64 (r0 : Int))).setCell ⟨n, 1, none⟩ (.int .u64 (r1 : Int))).setCell ⟨n, 2, none⟩ (.int .u64 (r2 : Int))).setCell ⟨n, 3, none⟩ (.int .u64 (r3 : Int))).setCell ⟨n, 4, none⟩ (.int .u64 (r4 : Int)) = wy at *
  refine Steady.region 3 (by kernel_rfl) (by kernel_rfl) (fun u => Below wy.drew.heap.size wy.drew u) (Below.refl _ _) ?_
  simp only [List.take_succ_cons, List.take_zero, List.drop_succ_cons, List.drop_zero]
  refine Steady.take ?_ rfl (by intro u hu; obtain ⟨t0, t1, t2, t3, t4⟩ := cells5 (HT.out.drew.next hu).r; go_simp; with_reducible rfl) ?_
  simp only [Act.put, List.setIfInBounds_toArray, List.set_cons_zero, List.set_cons_succ]
  refine Steady.call _ _ _ rfl ?_ (Steady.kept R3.out) ?_
  · intro u
    go_simp
  simp only [Act.put, List.setIfInBounds_toArray, List.set_cons_zero, List.set_cons_succ]
  refine Steady.take ?_ rfl (by intro u hu; obtain ⟨t0, t1, t2, t3, t4⟩ := cells5 (HT.out.drew.next hu).x; go_simp; with_reducible rfl) ?_
  simp only [Act.put, List.setIfInBounds_toArray, List.set_cons_zero, List.set_cons_succ]
  refine Steady.nil ?_
  intro w3 h3
  have HT3 := Lib.hid (HT.out.drew.next h3)
  clear h3 HR2 HW2
  have q1 := Q1.out
  cases t with
  | true =>
    obtain ⟨c0, c1, c2, c3, c4⟩ := cells5 HT3.out.r
    obtain ⟨z0, z1, z2, z3, z4⟩ := cells5 HT3.out.z
    obtain ⟨f0, f1, f2, f3, f4⟩ := free5 HT3.out.z
    go_wp2
    exact bodyPost_ret (v := .tuple #[five r0 r1 r2 r3 r4, .bool true]) (by simp [results, Try.results30, go_sem, z0, z1, z2, z3, z4]) rfl ⟨by simp, set5 HT3.out.below (by omega) _ _ _ _ _⟩
  | false =>
    go_upto_region 5 with (fail)
    clear q1
    refine Steady.region 5 (by kernel_rfl) (by kernel_rfl) (fun u => Below w3.drew.heap.size w3.drew u) (Below.refl _ _) ?_
    simp only [List.take_succ_cons, List.take_zero, List.drop_succ_cons, List.drop_zero]
    refine Steady.take ?_ rfl (by intro u hu; obtain ⟨t0, t1, t2, t3, t4⟩ := cells5 (HT3.out.drew.next hu).r; go_simp; with_reducible rfl) ?_
    simp only [Act.put, List.setIfInBounds_toArray, List.set_cons_zero, List.set_cons_succ]
    refine Steady.take ?_ rfl (by intro u hu; go_simp; with_reducible rfl) ?_
    simp only [Act.put, List.setIfInBounds_toArray, List.set_cons_zero, List.set_cons_succ]
    refine Steady.call _ _ _ rfl ?_ (Steady.kept R4.out) ?_
    · intro u
      go_simp
    simp only [Act.put, List.setIfInBounds_toArray, List.set_cons_zero, List.set_cons_succ]
    refine Steady.call _ _ _ rfl ?_ (Steady.kept R5.out) ?_
    · intro u
      go_simp
    simp only [Act.put, List.setIfInBounds_toArray, List.set_cons_zero, List.set_cons_succ]
    refine Steady.call _ _ _ rfl ?_ (Steady.kept R6.out) ?_
    · intro u
      go_simp
    simp only [Act.put, List.setIfInBounds_toArray, List.set_cons_zero, List.set_cons_succ]
    refine Steady.nil ?_
    intro w4 h4
    have HT4 := Lib.hid (HT3.out.drew.next h4)
    clear h4
    obtain ⟨c0, c1, c2, c3, c4⟩ := cells5 HT4.out.r
    obtain ⟨f0, f1, f2, f3, f4⟩ := free5 HT4.out.r
    have HT5 := Lib.hid (show Rt w x0 x1 x2 x3 x4 n s0 s1 s2 s3 s4 (((((w4.setCell ⟨n, 0, none⟩ (.int .u64 (s0 : Int))).setCell ⟨n, 1, none⟩ (.int .u64 (s1 : Int))).setCell ⟨n, 2, none⟩ (.int .u64 (s2 : Int))).setCell ⟨n, 3, none⟩ (.int .u64 (s3 : Int))).setCell ⟨n, 4, none⟩ (.int .u64 (s4 : Int))) from
      ⟨set5_other HT4.out.x hne1 _ _ _ _ _, set5_other HT4.out.z hne2 _ _ _ _ _, set5_whole HT4.out.r rfl _ _ _ _ _, far, set5 HT4.out.below (by omega) _ _ _ _ _⟩)
    go_upto_region 6 with (fail)
    clear c0 c1 c2 c3 c4 f0 f1 f2 f3 f4
    generalize ((((w4.setCell ⟨n, 0, none⟩ (.int .u64 (s0 : Int))).setCell ⟨n, 1, none⟩ (.int .u64 (s1 : Int))).setCell ⟨n, 2, none⟩ (.int .u64 (s2 : Int))).setCell ⟨n, 3, none⟩ (.int .u64 (s3 : Int))).setCell ⟨n, 4, none⟩ (.int .u64 (s4 : Int)) = w5 at *
    refine Steady.region 3 (by kernel_rfl) (by kernel_rfl) (fun u => Below w5.drew.heap.size w5.drew u) (Below.refl _ _) ?_
    simp only [List.take_succ_cons, List.take_zero, List.drop_succ_cons, List.drop_zero]
    refine Steady.take ?_ rfl (by intro u hu; obtain ⟨t0, t1, t2, t3, t4⟩ := cells5 (HT5.out.drew.next hu).r; go_simp; with_reducible rfl) ?_
    simp only [Act.put, List.setIfInBounds_toArray, List.set_cons_zero, List.set_cons_succ]
    refine Steady.call _ _ _ rfl ?_ (Steady.kept R7.out) ?_
    · intro u
      go_simp
    simp only [Act.put, List.setIfInBounds_toArray, List.set_cons_zero, List.set_cons_succ]
    refine Steady.take ?_ rfl (by intro u hu; obtain ⟨t0, t1, t2, t3, t4⟩ := cells5 (HT5.out.drew.next hu).x; go_simp; with_reducible rfl) ?_
    simp only [Act.put, List.setIfInBounds_toArray, List.set_cons_zero, List.set_cons_succ]
    refine Steady.nil ?_
    intro w6 h6
    have HT6 := Lib.hid (HT5.out.drew.next h6)
    clear h6 HT4 HT3
    have q2 := Q2.out
    obtain ⟨c0, c1, c2, c3, c4⟩ := cells5 HT6.out.r
    obtain ⟨z0, z1, z2, z3, z4⟩ := cells5 HT6.out.z
    obtain ⟨f0, f1, f2, f3, f4⟩ := free5 HT6.out.z
    cases t' with
    | true =>
      go_wp2
      exact bodyPost_ret (v := .tuple #[five s0 s1 s2 s3 s4, .bool true]) (by simp [results, Try.results30, go_sem, z0, z1, z2, z3, z4]) rfl ⟨by simp, set5 HT6.out.below (by omega) _ _ _ _ _⟩
    | false =>
      go_wp2
      exact bodyPost_ret (v := .tuple #[five 0 0 0 0 0, .bool false]) (by simp [results, Try.results30, go_sem, z0, z1, z2, z3, z4]) rfl ⟨by simp, set5 HT6.out.below (by omega) _ _ _ _ _⟩
theorem root_val {v : Value} {N : Nat} (h : Lims v N) (u : World) : Calls Try.prog 30 #[v] u fun r w' => r = .returned (.tuple #[rootV (N % Prime.P), .bool (rootIs (N % Prime.P))]) ∧ Below u.heap.size u w' := by
  obtain ⟨a, b, c, d, e, rfl, hw, rfl⟩ := h
  exact root_any a b c d e u hw
end Go.Proofs.Ytcglobpklhkebaa.Limb
