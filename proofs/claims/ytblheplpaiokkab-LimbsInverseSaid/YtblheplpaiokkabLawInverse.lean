/-
  LimbsInverse: a number times its inverse is 1, that of 0 is 0: for every input, the law answers true and changes nothing that was there. No condition.
-/
import Derived.Test.YtblheplpaiokkabLmbAwake
import Derived.Test.YtblheplpaiokkabRows
import Derived.Test.YtblheplpaiokkabOpen
namespace Go.Proofs.Ytblheplpaiokkab.LawInverse
open Go.ChangeShapes Go.WideShapes Go.ChangeAt Go.RowKit Mur Lanes Limb
set_option maxRecDepth 100000

theorem lt_mod (n : Nat) : n % Prime.P < 57896044618658097711785492504343953926634992332820282019728792003956564819968 := Nat.lt_trans (Nat.mod_lt _ P_pos) P_lt
theorem pow_zero_mod {a p k : Nat} (hk : 0 < k) (h : a % p = 0) : a ^ k % p = 0 := by
  rw [Nat.pow_mod, h, Nat.zero_pow hk, Nat.zero_mod]
theorem P_two : 0 < Prime.P - 2 := by decide
theorem inv_num (N : Nat) : (N % Prime.P = 0 → N ^ (Prime.P - 2) % Prime.P = 0) ∧ (N % Prime.P ≠ 0 → N * (N ^ (Prime.P - 2) % Prime.P) % Prime.P = 1) := by
  have h0 := P_two
  have hp := Prime.prime
  generalize Prime.P = p at *
  exact ⟨fun h => pow_zero_mod h0 h, fun h => inv_gen hp fun hd => h (Nat.mod_eq_zero_of_dvd hd)⟩

set_option maxHeartbeats 6400000 in
theorem walk (a0 b0 c0 d0 e0 : Nat) (w : World) (h0 : Words5 a0 b0 c0 d0 e0) :
    Calls Try.prog 4 #[five a0 b0 c0 d0 e0] w fun e w' => e = .returned (.bool true) ∧ Below w.heap.size w w' := by
  have lA := lims_five h0
  obtain ⟨N, hN⟩ : ∃ N, N = wor a0 b0 c0 d0 e0 := ⟨_, rfl⟩
  rw [← hN] at lA
  obtain ⟨hz, hnz⟩ := inv_num N
  have R1 := fun u => invert_val lA u
  have lI := lims_mod (N ^ (Prime.P - 2))
  have bI := lt_mod (N ^ (Prime.P - 2))
  have mI := Nat.mod_mod (N ^ (Prime.P - 2)) Prime.P
  generalize N ^ (Prime.P - 2) % Prime.P = I at *
  have R2 := fun u => carry_val lA u
  have R3 := fun u => times_val lA lI u
  have R4 := fun u => carry_val lI u
  rw [mI] at R4
  obtain ⟨i0, i1, i2, i3, i4, hI⟩ := limV_five I
  obtain ⟨y0, y1, y2, y3, y4, hY⟩ := limV_five (N % Prime.P)
  have X1 := fun u => eq_lim (lt_mod N) (n := 0) (by decide) u
  have X2 := fun u => eq_lim bI (n := 0) (by decide) u
  have hlit := lit_limbs 0 (by decide)
  rw [hY, ← hlit] at X1
  rw [hI, ← hlit] at X2
  have Y1 : ∀ u, (Op.equalIn 10000 24 (five y0 y1 y2 y3 y4) (.agg #[.int .u64 0, .int .u64 0, .int .u64 0, .int .u64 0, .int .u64 0])).run Try.prog u = .ok (decide (N % Prime.P = 0)) u := X1
  have Y2 : ∀ u, (Op.equalIn 10000 24 (five i0 i1 i2 i3 i4) (.agg #[.int .u64 0, .int .u64 0, .int .u64 0, .int .u64 0, .int .u64 0])).run Try.prog u = .ok (decide (I = 0)) u := X2
  rw [hI] at R1
  rw [hY] at R2
  have R1 := Lib.hid R1
  have R2 := Lib.hid R2
  have R4 := Lib.hid (show ∀ u, Calls Try.prog 11 #[five i0 i1 i2 i3 i4] u fun r w' => r = .returned (limV I) ∧ Below u.heap.size u w' from fun u => by rw [← hI]; exact R4 u)
  have R3 := Lib.hid (show ∀ u, Calls Try.prog 9 #[five a0 b0 c0 d0 e0, five i0 i1 i2 i3 i4] u fun r w' => r = .returned (limV (N * I % Prime.P)) ∧ Below u.heap.size u w' from fun u => by rw [← hI]; exact R3 u)
  have TL := Lib.hid (fun u => live_any u)
  have HI := Lib.hid hI
  have BI := Lib.hid bI
  have E1 := Lib.hid Y1
  have E2 := Lib.hid Y2
  have HNZ := Lib.hid hnz
  have HZ := Lib.hid hz
  clear X1 X2 Y1 Y2 hI hY hlit mI lI lA hN h0 bI hz hnz
  have BA := Lib.hid (Whole.made' w 24 (fiveL a0 b0 c0 d0 e0).toArray _ rfl)
  have HB := Lib.hid ((Below.refl w.heap.size w).alloc (Nat.le_refl _) (.cells (fiveL a0 b0 c0 d0 e0).toArray 24))
  go_enter Try.func4, Try.ntmps4
  go_wp2_with fail
  refine (R1.out _).mono ?_
  rintro e w1 ⟨rfl, hb⟩
  have BA1 := Lib.hid ((BA.out.below BA.out.lt hb).alloc (.cells (fiveL i0 i1 i2 i3 i4).toArray 24))
  have BX1 := Lib.hid (Whole.made' w1 24 (fiveL i0 i1 i2 i3 i4).toArray _ rfl)
  have HB1 := Lib.hid ((HB.out.trans (hb.mono HB.out.size)).alloc (HB.out.trans (hb.mono HB.out.size)).size (.cells (fiveL i0 i1 i2 i3 i4).toArray 24))
  clear hb
  go_upto_region 2 with (fail)
  generalize hwz : w1.alloc (.cells #[.int .u64 (i0 : Int), .int .u64 (i1 : Int), .int .u64 (i2 : Int), .int .u64 (i3 : Int), .int .u64 (i4 : Int)] 24) = wz at *
  clear hwz
  generalize w1.heap.size = nx at *
  obtain ⟨t0, t1, t2, t3, t4⟩ := cells5 BA1.out
  go_wp2_with fail
  refine (R2.out _).mono ?_
  rintro e w2 ⟨rfl, hb⟩
  have BA2 := Lib.hid (BA1.out.below BA1.out.lt hb)
  have BX2 := Lib.hid (BX1.out.below BX1.out.lt hb)
  have HB2 := Lib.hid (HB1.out.trans (hb.mono HB1.out.size))
  clear hb t0 t1 t2 t3 t4
  have q1 := E1.out
  by_cases hc : N % Prime.P = 0
  · rw [decide_eq_true hc] at q1
    have hI0 : I = 0 := HZ.out hc
    have q2 := E2.out
    rw [decide_eq_true hI0] at q2
    clear hc hI0
    obtain ⟨t0, t1, t2, t3, t4⟩ := cells5 BX2.out
    go_wp2_with fail
    refine (TL.out _).mono ?_
    rintro e w3 ⟨rfl, hb⟩
    have HB3 := Lib.hid (HB2.out.trans (hb.mono HB2.out.size))
    clear hb
    go_wp2
    go_ret
    exact ⟨rfl, HB3.out⟩
  · rw [decide_eq_false hc] at q1
    have hm := HNZ.out hc
    rw [hm] at R3
    clear hc hm
    go_upto_region 4 with (fail)
    clear q1
    refine Steady.region 14 (by kernel_rfl) (by kernel_rfl) (fun u => Below w2.drew.heap.size w2.drew u) (Below.refl _ _) ?_
    simp only [List.take_succ_cons, List.take_zero, List.drop_succ_cons, List.drop_zero]
    refine Steady.take ?_ rfl (by intro u hu; obtain ⟨t0, t1, t2, t3, t4⟩ := cells5 (BA2.out.drew.below BA2.out.lt hu); go_simp; with_reducible rfl) ?_
    simp only [Act.put, List.setIfInBounds_toArray, List.set_cons_zero, List.set_cons_succ]
    refine Steady.take ?_ rfl (by intro u hu; obtain ⟨t0, t1, t2, t3, t4⟩ := cells5 (BX2.out.drew.below BX2.out.lt hu); go_simp; with_reducible rfl) ?_
    simp only [Act.put, List.setIfInBounds_toArray, List.set_cons_zero, List.set_cons_succ]
    refine Steady.call _ _ _ rfl ?_ (Steady.kept R3.out) ?_
    · intro u
      go_simp
    simp only [Act.put, List.setIfInBounds_toArray, List.set_cons_zero, List.set_cons_succ]
    refine Steady.take ?_ rfl (by intro u hu; go_simp; with_reducible rfl) ?_
    simp only [Act.put, List.setIfInBounds_toArray, List.set_cons_zero, List.set_cons_succ]
    refine Steady.take (.bool true) rfl (fun u _ => eql_yes 1 rfl (by decide) (by rfl) (by exact lit_limbs 1 (by decide)) u) ?_
    simp only [Act.put, List.setIfInBounds_toArray, List.set_cons_zero, List.set_cons_succ]
    refine Steady.take ?_ rfl (by intro u hu; go_simp; with_reducible rfl) ?_
    simp only [Act.put, List.setIfInBounds_toArray, List.set_cons_zero, List.set_cons_succ]
    refine Steady.take ?_ rfl (by intro u hu; obtain ⟨t0, t1, t2, t3, t4⟩ := cells5 (BX2.out.drew.below BX2.out.lt hu); go_simp; with_reducible rfl) ?_
    simp only [Act.put, List.setIfInBounds_toArray, List.set_cons_zero, List.set_cons_succ]
    refine Steady.call _ _ _ rfl ?_ (Steady.kept R4.out) ?_
    · intro u
      go_simp
    simp only [Act.put, List.setIfInBounds_toArray, List.set_cons_zero, List.set_cons_succ]
    refine Steady.take ?_ rfl (by intro u hu; obtain ⟨t0, t1, t2, t3, t4⟩ := cells5 (BX2.out.drew.below BX2.out.lt hu); go_simp; with_reducible rfl) ?_
    simp only [Act.put, List.setIfInBounds_toArray, List.set_cons_zero, List.set_cons_succ]
    refine Steady.take (.bool true) rfl (fun u _ => eql_yes I rfl BI.out (by rfl) (by exact HI.out.symm) u) ?_
    simp only [Act.put, List.setIfInBounds_toArray, List.set_cons_zero, List.set_cons_succ]
    refine Steady.take ?_ rfl (by intro u hu; go_simp; with_reducible rfl) ?_
    simp only [Act.put, List.setIfInBounds_toArray, List.set_cons_zero, List.set_cons_succ]
    refine Steady.take ?_ rfl (by intro u hu; go_simp; with_reducible rfl) ?_
    simp only [Act.put, List.setIfInBounds_toArray, List.set_cons_zero, List.set_cons_succ]
    refine Steady.call _ _ _ rfl ?_ (Steady.kept TL.out) ?_
    · intro u
      go_simp
    simp only [Act.put, List.setIfInBounds_toArray, List.set_cons_zero, List.set_cons_succ]
    refine Steady.take ?_ rfl (by intro u hu; go_simp; with_reducible rfl) ?_
    simp only [Act.put, List.setIfInBounds_toArray, List.set_cons_zero, List.set_cons_succ]
    refine Steady.nil ?_
    intro w9 h9
    have HB9 := Lib.hid (HB2.out.drew.trans (h9.mono HB2.out.size))
    clear h9
    go_wp2
    go_ret
    exact ⟨rfl, HB9.out⟩

theorem own : ownKnob Try.prog.godebug = none := by kernel_rfl
theorem laidOut : laidOutB Try.prog = true := by kernel_rfl
theorem word_in {n : Int} (h : (Lit.int .u64 n).wf = true) : ∃ k : Nat, n = k ∧ k < 18446744073709551616 := by
  have h0 : IntKind.u64.min ≤ n ∧ n ≤ IntKind.u64.max := by simpa [Lit.wf] using h
  have e1 : IntKind.u64.min = 0 := by decide
  have e2 : IntKind.u64.max = 18446744073709551615 := by decide
  exact ⟨n.toNat, by omega, by omega⟩
/-- Five words, as numbers from 0 on. -/
theorem limbs_of (ns : List Int) (hl : ns.length = 5) (h : ∀ n ∈ ns, (Lit.int .u64 n).wf = true) : ∃ a b c d e : Nat, ns = [(a : Int), b, c, d, e] ∧ Words5 a b c d e := by
  match ns, hl with
  | [n0, n1, n2, n3, n4], _ =>
    obtain ⟨a, rfl, ha⟩ := word_in (h n0 (by simp))
    obtain ⟨b, rfl, hb⟩ := word_in (h n1 (by simp))
    obtain ⟨c, rfl, hc⟩ := word_in (h n2 (by simp))
    obtain ⟨d, rfl, hd⟩ := word_in (h n3 (by simp))
    obtain ⟨e, rfl, he⟩ := word_in (h n4 (by simp))
    exact ⟨a, b, c, d, e, rfl, ha, hb, hc, hd, he⟩

set_option maxRecDepth 100000 in
theorem lifted (os : Os) (started : os.Started) (H : Type) (enc : TypeId × Value → H) :
    ReturnsInHanded {} Try.checked os 4 .any (Rows.limbsInverseSpec.pre6 enc Try.prog Try.f4 Rows.limbsInverseRow.domain false) (Rows.limbsInverseSpec.post enc Try.prog Try.f4 false true false false) := by
  refine returnsInHanded_of_change_sized (C := Try.checked) own started (by kernel_rfl) Try.func4
    (ChangeSpec.witness6 (enc := enc) (C := Try.checked) false ⟨#[], #[.agg #[.int .u64 0, .int .u64 0, .int .u64 0, .int .u64 0, .int .u64 0]], []⟩ 8 (by kernel_rfl) (by kernel_rfl) (by kernel_rfl) (by kernel_rfl)) ?_
  intro W base args ds gs before hval0 hW hcnd hsz0 _
  have hsz : (DataW.weightsEach Try.prog (Try.f4.params.toList ++ Rows.limbsInverseSpec.plain.varTypes Try.prog) (ds ++ gs)).all (· ≤ reachBytes) = true := hsz0
  clear hsz0
  have hval : ∀ (j : Nat) t v, Try.f4.params[j]? = some t → args[j]? = some v → Value.okWide Try.prog W .any base t v := hval0
  have hW' := hW
  obtain ⟨p, q, hA0, hV, rfl, hfz, hnd⟩ := hW
  have hA : DataW.TrodAll enc Try.prog W 0 (fun _ => true) true Try.f4.params.toList args.toList ds p := hA0
  rw [Try.params4] at hA hval hsz
  obtain ⟨v0, vs0, d0, ds0, p0, q0, hargs, rfl, rfl, h0, r0⟩ := trodAll_cons hA
  obtain ⟨rfl, rfl, rfl⟩ := trodAll_nil r0
  obtain rfl : args = #[v0] := by cases args; simp_all
  obtain ⟨rfl, rfl⟩ := trodVars_none hV
  have k0 := h0
  have lt0 : ∀ x ∈ p0, x.block < W.heap.size := by obtain ⟨m, hm⟩ := k0; exact DataW.trod_lt m _ _ _ hm
  obtain ⟨ns0, hnl0, rfl, rfl, rfl, w0⟩ := Open.open_int_array Try.underlying24 Try.underlying22 (by kernel_rfl) (by kernel_rfl) (hval 0 24 v0 rfl rfl) h0
  obtain ⟨a0, b0, c0, d0, e0, rfl, hw0⟩ := limbs_of ns0 hnl0 w0
  clear hA0 hval0
  have hwk := walk a0 b0 c0 d0 e0 W hw0
  refine hwk.mono fun e W' ⟨he, bel⟩ => ?_
  subst he
  exact ⟨_, rfl, _, _, _, [], _, [], hW', trodAll_mk1 (shut_bool Try.underlying4 _), (trodAll_cons_mk (Below.trod laidOut (by kernel_rfl) (of_decide_eq_true (by kernel_rfl)) k0 bel lt0) trodAll_mk0), rfl, bel.frame _, fun h => by cases h⟩

theorem over : Rows.limbsInverseRow.holds Try.pinned (OpenSpec.ofChange Rows.limbsInverseSpec) :=
  OpenClaim.holds_of_wide 4 Try.f4 rfl rfl rfl rfl rfl rfl rfl ⟨rfl, rfl, rfl, rfl, rfl⟩ rfl rfl rfl rfl rfl (by kernel_rfl) Try.func4 (by kernel_rfl)
    (of_decide_eq_true (by kernel_rfl)) (by unfold Func.isWrapper; first | (rw [if_pos (by decide +kernel)]; kernel_rfl) | (rw [if_neg (by decide +kernel)]; exact ⟨rfl, rfl⟩))
    (fun os started H enc _ => lifted os started H enc)

theorem proved : Rows.LimbsInverseSaid := over
#print axioms proved
end Go.Proofs.Ytblheplpaiokkab.LawInverse
