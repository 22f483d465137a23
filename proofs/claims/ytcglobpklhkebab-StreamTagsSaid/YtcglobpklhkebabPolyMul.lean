/-
  The product of package stream's Poly1305 answers what the plain mathematics of the text Poly says, and leaves all memory that was there as it was. Conditions: five limbs below 2^64.
-/
import Derived.Test.YtcglobpklhkebabPolyCar
namespace Go.Proofs.Ytcglobpklhkebab.Poly
open Go.RowKit Mur Lanes
set_option maxRecDepth 100000

/-- Two numbers in their boxes, the answer's place, and the product under way. -/
structure Box3 (w0 : World) (a b x : List Nat) (w : World) : Prop where
  a : Whole w w0.heap.size 37 (numsV a)
  b : Whole w (w0.heap.size + 1) 37 (numsV b)
  z : Whole w (w0.heap.size + 1 + 1) 37 zeros5
  x : Whole w (w0.heap.size + 1 + 1 + 1) 37 (numsV x)
  below : Below w0.heap.size w0 w
theorem Box3.set {w0 w : World} {a b x : List Nat} (h : Box3 w0 a b x w) (i v : Nat) : Box3 w0 a b (x.set i v) (w.setCell ⟨w0.heap.size + 1 + 1 + 1, i, none⟩ (.int .u64 (v : Int))) :=
  ⟨h.a.other _ _ _ (by omega), h.b.other _ _ _ (by omega), h.z.other _ _ _ (by omega), set_num h.x i v, h.below.setCell (p := ⟨w0.heap.size + 1 + 1 + 1, i, none⟩) (by show _ ≤ w0.heap.size + 1 + 1 + 1; omega) _⟩
theorem Box3.drewN {w0 w : World} {a b x : List Nat} (h : Box3 w0 a b x w) (n : Nat) : Box3 w0 a b x (w.drewN n) := ⟨h.a, h.b, h.z, h.x, belowN h.below n⟩
theorem Box3.next {w0 w w' : World} {a b x : List Nat} (h : Box3 w0 a b x w) (k : Below w.heap.size w w') : Box3 w0 a b x w' :=
  ⟨h.a.below h.a.lt k, h.b.below h.b.lt k, h.z.below h.z.lt k, h.x.below h.x.lt k, h.below.trans (k.mono h.below.size)⟩

set_option maxHeartbeats 3200000 in
theorem mul_any (a b C : List Nat) (w : World) (ha : Five a) (hb : Five b) (hC : C = mul a b) :
    Calls Try.prog 17 #[.agg (numsV a).toArray, .agg (numsV b).toArray] w fun e w' => e = .returned (.agg (numsV C).toArray) ∧ Below w.heap.size w w' := by
  have hst : Box3 w a b zeros ((((w.alloc (.cells (numsV a).toArray 37)).alloc (.cells (numsV b).toArray 37)).alloc (.cells zeros5.toArray 37)).alloc (.cells zeros5.toArray 37)) :=
    ⟨(((Whole.made' w _ (numsV a).toArray _ rfl).alloc _).alloc _).alloc _, ((Whole.made' _ _ (numsV b).toArray _ (by simp)).alloc _).alloc _, (Whole.made' _ _ zeros5.toArray _ (by simp)).alloc _, Whole.made' _ _ zeros5.toArray _ (by simp), ((((Below.refl _ _).alloc (Nat.le_refl _) _).alloc (by simp) _).alloc (by simp; omega) _).alloc (by simp; omega) _⟩
  obtain ⟨D, hD⟩ : ∃ D, D = mulTo a b 5 := ⟨_, rfl⟩
  obtain ⟨E, hE⟩ : ∃ E, E = fold D := ⟨_, rfl⟩
  have hokD : Five D := by rw [hD]; exact mulTo_ok a b 5
  have hokE : Five E := by rw [hE]; exact fold_ok hokD
  have hCE : C = fold E := by rw [hC, hE, hD]; rfl
  have hokC : Five C := by rw [hC]; exact mul_ok a b
  have R1 := Lib.hid (fun u => fold_any D E u hokD hE)
  have R2 := Lib.hid (fun u => fold_any E C u hokE hCE)
  have HD := Lib.hid hD
  have HKD := Lib.hid hokD
  have HKC := Lib.hid hokC
  have HT := Lib.hid hst
  have HA := Lib.hid ha
  have HB := Lib.hid hb
  clear hst ha hb hC hD hE hokD hokE hCE hokC
  go_enter Try.func17, Try.ntmps17
  go_wp2
  go_loopw [10] (fun i wr => ∃ k : Nat, k ≤ 5 ∧ i = .int .i64 k ∧ Box3 w a b (mulTo a b k) wr) (fun i _ => 5 - (intOf i).toNat)
  case atStart => exact ⟨0, by omega, rfl, HT.out⟩
  case round =>
    obtain ⟨i, hi5, rfl, hk⟩ := hrel
    by_cases hlt : i < 5
    · have hd2 : decide ((i : Int) < 5) = true := by simp; omega
      have hok := mulTo_ok a b i
      have hstep : mulTo a b (i + 1) = mulIn a b i (mulTo a b i) 5 := rfl
      generalize mulTo a b i = X at *
      have HE := Lib.hid hk
      have HX := Lib.hid hok
      have HN := Lib.hid hstep
      clear hk hok hstep HT
      go_wp2
      obtain ⟨wo, rfl⟩ : ∃ wo : World, wo = wr := ⟨_, rfl⟩
      go_loopw [13] (fun v wr => ∃ j : Nat, j ≤ 5 ∧ v = .int .i64 j ∧ Box3 w a b (mulIn a b i X j) wr) (fun v _ => 5 - (intOf v).toNat)
      case atStart => exact ⟨0, by omega, rfl, HE.out⟩
      case round =>
        obtain ⟨j, hj5, rfl, hk⟩ := hrel
        by_cases hlj : j < 5
        · have hd3 : decide ((j : Int) < 5) = true := by simp; omega
          have hok := mulIn_ok a b i HX.out j
          have hnext : mulIn a b i X (j + 1) = (mulIn a b i X j).set ((i + j) % 5) (((mulIn a b i X j).getD ((i + j) % 5) 0 + part a b i j) % 18446744073709551616) := rfl
          generalize mulIn a b i X j = Y at *
          have ii : (i : Int) < 5 := by omega
          have ij : (j : Int) < 5 := by omega
          have ca := num_cell hk.a (i := i) (by rw [HA.out.1]; exact hlt)
          have cb := num_cell hk.b (i := j) (by rw [HB.out.1]; exact hlj)
          have la := HA.out.at i
          have lb := HB.out.at j
          obtain ⟨p, hp⟩ : ∃ p, p = (i + j) % 5 := ⟨_, rfl⟩
          have hpi : ((i : Int) + (j : Int)) % 5 = (p : Int) := by omega
          have hp5 : p < 5 := by omega
          rw [← hp] at hnext
          have ly := hok.at p
          have cy := fun n => num_cell (hk.drewN n).x (i := p) (by rw [hok.1]; exact hp5)
          have fy := fun n => num_free (hk.drewN n).x (i := p) (by rw [hok.1]; exact hp5)
          obtain ⟨m, hm⟩ : ∃ m, m = a.getD i 0 * b.getD j 0 % 18446744073709551616 := ⟨_, rfl⟩
          obtain ⟨q, hq⟩ : ∃ q, q = part a b i j := ⟨_, rfl⟩
          have hmi : IntKind.u64.wrap (((a.getD i 0 : Nat) : Int) * ((b.getD j 0 : Nat) : Int)) = ((m : Nat) : Int) := by
            rw [IntKind.wrap_u64, ← Int.natCast_mul, hm]
            omega
          have hm1 : m < 18446744073709551616 := by rw [hm]; exact Nat.mod_lt _ (by decide)
          have hq2 : q = if 5 ≤ i + j then m * 5 % 18446744073709551616 else m := by rw [hq, hm]; rfl
          have hq1 : q < 18446744073709551616 := by rw [hq]; exact part_lt _ _ _ _
          rw [← hq] at hnext
          have HP := Lib.hid (fun n => (hk.drewN n).set p ((Y.getD p 0 + q) % 18446744073709551616))
          generalize Y.getD p 0 = y at *
          generalize a.getD i 0 = x1 at *
          generalize b.getD j 0 = x2 at *
          have hsum : IntKind.u64.wrap ((y : Int) + (q : Int)) = (((y + q) % 18446744073709551616 : Nat) : Int) := by rw [IntKind.wrap_u64]; omega
          have HS := Lib.hid hsum
          have HMI := Lib.hid hmi
          have HPI := Lib.hid hpi
          have HNX := Lib.hid hnext
          have HCY := Lib.hid cy
          have HFY := Lib.hid fy
          clear hk hok hnext hsum hmi hp hpi hm hq HE HN cy fy
          go_upto_region 8 with (fail)
          go_quiet (fail)
          have cy := HCY.out nq
          have fy := HFY.out nq
          have HPQ := Lib.hid (HP.out nq)
          clear HP HCY HFY ca cb
          generalize wr.drewN nq = wz at *
          have ip : (p : Int) < 5 := by omega
          by_cases h5 : 5 ≤ i + j
          · have hd5 : decide (5 ≤ (i : Int) + (j : Int)) = true := by simp; omega
            have hq5 : IntKind.u64.wrap ((m : Int) * 5) = ((q : Nat) : Int) := by
              rw [IntKind.wrap_u64, hq2, if_pos h5]
              omega
            have HQ5 := Lib.hid hq5
            clear hq5 hq2
            go_upto_region 9 with (fail)
            rw [HMI.out]
            go_upto_region 11 with (fail)
            rw [HQ5.out]
            have hpi := HPI.out
            go_wp2
            go_roundw
            case rel => exact ⟨j + 1, by omega, by go_num, by rw [HNX.out, HS.out]; exact HPQ.out⟩
            case measure => simp [intOf]; omega
          · have hd5 : decide (5 ≤ (i : Int) + (j : Int)) = false := by simp; omega
            obtain rfl : q = m := by rw [hq2, if_neg h5]
            clear hq2
            go_upto_region 9 with (fail)
            rw [HMI.out]
            have hpi := HPI.out
            go_wp2
            go_roundw
            case rel => exact ⟨j + 1, by omega, by go_num, by rw [HNX.out, HS.out]; exact HPQ.out⟩
            case measure => simp [intOf]; omega
        · have hd3 : decide ((j : Int) < 5) = false := by simp; omega
          obtain rfl : j = 5 := by omega
          have HF := Lib.hid hk
          clear hk HE HX
          go_wp2
          go_roundw
          case rel => exact ⟨i + 1, by omega, by go_num, by rw [HN.out]; exact HF.out⟩
          case measure => simp [intOf]; omega
    · have hd2 : decide ((i : Int) < 5) = false := by simp; omega
      obtain rfl : i = 5 := by omega
      have hk2 : Box3 w a b D wr := by rw [HD.out]; exact hk
      have HK := Lib.hid hk2
      have HX1 := Lib.hid hk2.x
      have HI := Lib.hid (info5 HKD.out.1)
      have HIA := Lib.hid (infoA5 HKC.out.1)
      have HO5 := Lib.hid (show zeros5.toArray.size = (numsV C).toArray.size from same5 (s := zeros) rfl HKC.out.1)
      have H1 := Lib.hid (one5 C)
      have HIC := Lib.hid (info5 HKC.out.1)
      clear hk hk2 HT HD
      go_wp2_with ((with_reducible refine wpList_load_mid rfl 37 (.tmp 5) rfl (w.heap.size + 1 + 1 + 1) 0 rfl (numsV D) _ HX1.out.range Try.underlying37 rfl HI.out ?_))
      refine (R1.out _).mono ?_
      rintro e w1 ⟨rfl, hb1⟩
      have HK1 := Lib.hid (HK.out.next hb1)
      clear hb1 HK HX1
      go_wp2_with fail
      refine (R2.out _).mono ?_
      rintro e w2 ⟨rfl, hb2⟩
      have hk3 := HK1.out.next hb2
      have hz2 := hk3.z
      have HZ := Lib.hid hk3.z
      unfold Whole at hz2
      have HZ2 := Lib.hid hz2
      have HBL := Lib.hid hk3.below
      clear hb2 HK1 hk3 hz2
      go_wp2_with ((with_reducible refine wpList_store_row rfl 37 (.tmp 4) (.tmp 42) rfl (w.heap.size + 1 + 1) (numsV C).toArray rfl rfl 37 zeros5.toArray HZ2.out HIA.out HO5.out H1.out ?_))
      refine bodyPost_ret (v := .agg (numsV C).toArray) ?_ rfl ⟨rfl, below_setRow HBL.out (by omega) _⟩
      exact results_whole (ty := 37) Try.results17 _ _ (w.heap.size + 1 + 1) 37 (numsV C) _ (by simp [Act.put]) (HZ.out.setRow _) Try.underlying37 rfl HIC.out
end Go.Proofs.Ytcglobpklhkebab.Poly
