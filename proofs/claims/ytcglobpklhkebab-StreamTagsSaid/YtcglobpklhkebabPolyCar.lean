/-
  The carries and folds of package stream's Poly1305 answer what the plain mathematics of the text Poly says, and leave all memory that was there as it was. Conditions: five limbs below 2^64.
-/
import Derived.Test.YtcglobpklhkebabPolyAdd
import Derived.Deep.CutBlock
namespace Go.Proofs.Ytcglobpklhkebab.Poly
open Go.RowKit Mur Lanes
set_option maxRecDepth 100000

theorem results_num_tmp {P : Program} {fn : Func} {p q : Tmp} {ty : TypeId} (h : fn.results = #[.cell p ty, .tmp q]) (tmps : Array Value) (w : World) (b : Nat) (t : TypeId) (vs : List Value) (x : Value) (d : TypeDesc)
    (hp : tmps.getD p undef = .pointer (some ⟨b, 0, none⟩)) (hq : tmps.getD q undef = x) (hg : Whole w b t vs) (hu : P.underlying ty = some d) (hd : (match d with | .struct _ | .array _ _ => true | _ => false) = true) (hi : (P.info? ty).map (·.size) = some vs.length) :
    (results fn tmps).run P w = .ok (.tuple #[.agg vs.toArray, x]) w := by
  have hp' : tmps[p]?.getD undef = .pointer (some ⟨b, 0, none⟩) := by simpa using hp
  have hq' : tmps[q]?.getD undef = x := by simpa using hq
  simp [results, h, hp', hq', asAddr, run_loadVar_row w b t ty vs.toArray (0, 0) d hg hu hd (by simpa using hi)]

/-- A number in its box, and the answer's place. -/
structure Box1 (w0 : World) (x : List Nat) (w : World) : Prop where
  x : Whole w w0.heap.size 37 (numsV x)
  z : Whole w (w0.heap.size + 1) 37 zeros5
  below : Below w0.heap.size w0 w
theorem Box1.set {w0 w : World} {x : List Nat} (h : Box1 w0 x w) (i v : Nat) : Box1 w0 (x.set i v) (w.setCell ⟨w0.heap.size, i, none⟩ (.int .u64 (v : Int))) :=
  ⟨set_num h.x i v, h.z.other _ _ _ (by omega), h.below.setCell (p := ⟨w0.heap.size, i, none⟩) (Nat.le_refl _) _⟩
theorem Box1.drew {w0 w : World} {x : List Nat} (h : Box1 w0 x w) : Box1 w0 x w.drew := ⟨h.x, h.z, h.below.drew⟩
theorem Box1.next {w0 w w' : World} {x : List Nat} (h : Box1 w0 x w) (k : Below w.heap.size w w') : Box1 w0 x w' := ⟨h.x.below h.x.lt k, h.z.below h.z.lt k, h.below.trans (k.mono h.below.size)⟩
theorem Box1.put {w0 w : World} {x : List Nat} (h : Box1 w0 x w) (y : List Nat) : Box1 w0 y (w.setRow w0.heap.size (numsV y).toArray) := by
  have o2 : (w.setRow w0.heap.size (numsV y).toArray).heap[w0.heap.size + 1]? = w.heap[w0.heap.size + 1]? := by
    simp [World.setRow, Array.getElem?_modify]
  exact ⟨h.x.setRow _, o2.trans h.z, below_setRow h.below (Nat.le_refl _) _⟩
theorem Box1.start (w : World) (a : List Nat) : Box1 w a ((w.alloc (.cells (numsV a).toArray 37)).alloc (.cells zeros5.toArray 37)) :=
  ⟨(Whole.made' w _ (numsV a).toArray _ rfl).alloc _, Whole.made' _ _ zeros5.toArray _ (by simp), ((Below.refl _ _).alloc (Nat.le_refl _) _).alloc (by simp) _⟩

theorem mask_u64 (v : Nat) (h : v < 18446744073709551616) : bits .and .u64 (v : Int) 67108863 = ((v % 67108864 : Nat) : Int) := by
  have e : v &&& 67108863 = v % 67108864 := Nat.and_two_pow_sub_one_eq_mod v 26
  have := bits_and_u64_nat v 67108863 h (by decide)
  rw [e] at this
  exact this

set_option maxHeartbeats 1600000 in
theorem car_any (a C : List Nat) (o : Nat) (w : World) (ha : Five a) (hC : C = car a) (ho : o = over a) :
    Calls Try.prog 39 #[.agg (numsV a).toArray] w fun e w' => e = .returned (.tuple #[.agg (numsV C).toArray, .int .u64 o]) ∧ Below w.heap.size w w' := by
  have HT := Lib.hid (Box1.start w a)
  have HA := Lib.hid ha
  have HC := Lib.hid hC
  have HO := Lib.hid ho
  clear ha hC ho
  go_enter Try.func39, Try.ntmps39
  go_wp2
  go_loopw [4, 6] (fun v i wr => ∃ k : Nat, k ≤ 5 ∧ i = .int .i64 k ∧ v = .int .u64 (((carTo a k).2 : Nat) : Int) ∧ Box1 w (carTo a k).1 wr) (fun _ i _ => 5 - (intOf i).toNat)
  case atStart => exact ⟨0, by omega, rfl, rfl, HT.out⟩
  case round =>
    obtain ⟨k, hk5, rfl, rfl, hk⟩ := hrel
    by_cases hlt : k < 5
    · have hd2 : decide ((k : Int) < 5) = true := by simp; omega
      have hok := carTo_ok HA.out k
      have hn1 : (carTo a (k + 1)).1 = (carTo a k).1.set k (((carTo a k).1.getD k 0 + (carTo a k).2) % 18446744073709551616 % 67108864) := rfl
      have hn2 : (carTo a (k + 1)).2 = ((carTo a k).1.getD k 0 + (carTo a k).2) % 18446744073709551616 / 67108864 := rfl
      generalize (carTo a k).1 = X at *
      generalize (carTo a k).2 = y at *
      obtain ⟨hX, hy⟩ := hok
      have cx := num_cell hk.x (i := k) (by rw [hX.1]; exact hlt)
      have fx := num_free hk.x (i := k) (by rw [hX.1]; exact hlt)
      have l1 := hX.at k
      generalize X.getD k 0 = x at *
      obtain ⟨v, hv⟩ : ∃ v, v = (x + y) % 18446744073709551616 := ⟨_, rfl⟩
      have hvl : v < 18446744073709551616 := by omega
      have hq : IntKind.u64.wrap ((x : Int) + (y : Int)) = ((v : Nat) : Int) := by rw [IntKind.wrap_u64]; omega
      have hk2 := hk.set k v
      have c2 := num_cell hk2.x (i := k) (by rw [List.length_set, hX.1]; exact hlt)
      have f2 := num_free hk2.x (i := k) (by rw [List.length_set, hX.1]; exact hlt)
      have e2 : (X.set k v).getD k 0 = v := by simp [List.getD, hX.1, hlt]
      rw [e2] at c2
      have hm := mask_u64 v hvl
      have hd : (v : Int) / 67108864 = ((v / 67108864 : Nat) : Int) := by omega
      have e3 : (X.set k v).set k (v % 67108864) = X.set k (v % 67108864) := by rw [List.set_set]
      have hk3 := hk2.set k (v % 67108864)
      rw [e3] at hk3
      rw [← hv] at hn1 hn2
      have HP := Lib.hid hk3
      have HC2 := Lib.hid c2
      have HF2 := Lib.hid f2
      have HQ := Lib.hid hq
      have HM := Lib.hid hm
      have HD := Lib.hid hd
      have HN1 := Lib.hid hn1
      have HN2 := Lib.hid hn2
      have ik : (k : Int) < 5 := by omega
      clear hk hk2 hk3 hn1 hn2 hq hm hd e2 e3 hv HT hX c2 f2
      go_upto_region 6 with (fail)
      rw [HQ.out]
      clear cx fx
      have hp : Box1 w (X.set k (v % 67108864)) ((wr.setCell ⟨w.heap.size, k, none⟩ (.int .u64 (v : Int))).setCell ⟨w.heap.size, k, none⟩ (.int .u64 ((v % 67108864 : Nat) : Int))) := HP.out
      have c2 := HC2.out
      have f2 := HF2.out
      generalize wr.setCell ⟨w.heap.size, k, none⟩ (.int .u64 (v : Int)) = wz at *
      have HPD := Lib.hid hp.drew
      clear hp HP HC2 HF2
      go_region
      all_goals go_wp2
      all_goals go_roundw
      case rel => exact ⟨k + 1, by omega, by go_num, by rw [HN2.out]; rfl, by rw [HN1.out, HM.out]; exact HPD.out⟩
      case measure => simp [intOf]; omega
    · have hd2 : decide ((k : Int) < 5) = false := by simp; omega
      obtain rfl : k = 5 := by omega
      have hk2 : Box1 w C wr := by rw [HC.out]; exact hk
      have hok : Five C := by rw [HC.out]; exact car_ok HA.out
      have ho : (carTo a 5).2 = o := HO.out.symm
      rw [ho]
      have HR := Lib.hid hk2.x
      have HZ := Lib.hid hk2.z
      have HBL := Lib.hid hk2.below
      have hz2 := hk2.z
      unfold Whole at hz2
      have HZ2 := Lib.hid hz2
      have HI := Lib.hid (info5 hok.1)
      have HIA := Lib.hid (infoA5 hok.1)
      have HO5 := Lib.hid (show zeros5.toArray.size = (numsV C).toArray.size from same5 (s := zeros) rfl hok.1)
      have H1 := Lib.hid (one5 C)
      clear hk hk2 hok hz2 HT ho
      go_wp2_with ((first
        | (with_reducible refine wpList_load_mid rfl 37 (.tmp 1) rfl w.heap.size 0 rfl (numsV C) _ HR.out.range Try.underlying37 rfl HI.out ?_)
        | (with_reducible refine wpList_store_row rfl 37 (.tmp 2) (.tmp 26) rfl (w.heap.size + 1) (numsV C).toArray rfl rfl 37 zeros5.toArray HZ2.out HIA.out HO5.out H1.out ?_)))
      refine bodyPost_ret (v := .tuple #[.agg (numsV C).toArray, .int .u64 (o : Int)]) ?_ rfl ⟨rfl, below_setRow HBL.out (by omega) _⟩
      exact results_num_tmp (ty := 37) Try.results39 _ _ (w.heap.size + 1) 37 (numsV C) _ _ (by simp) (by simp) (HZ.out.setRow _) Try.underlying37 rfl HI.out

set_option maxHeartbeats 1600000 in
theorem fold_any (a C : List Nat) (w : World) (ha : Five a) (hC : C = fold a) :
    Calls Try.prog 37 #[.agg (numsV a).toArray] w fun e w' => e = .returned (.agg (numsV C).toArray) ∧ Below w.heap.size w w' := by
  obtain ⟨D, hD⟩ : ∃ D, D = car a := ⟨_, rfl⟩
  obtain ⟨o, ho⟩ : ∃ o, o = over a := ⟨_, rfl⟩
  have hokD : Five D := by rw [hD]; exact car_ok ha
  have hC2 : C = D.set 0 ((D.getD 0 0 + 5 * o % 18446744073709551616) % 18446744073709551616) := by rw [hC, hD, ho]; rfl
  have hokC : Five C := by rw [hC]; exact fold_ok ha
  have hol : o < 18446744073709551616 := by rw [ho]; exact over_lt ha
  have R := Lib.hid (fun u => car_any a D o u ha hD ho)
  have HA := Lib.hid (Whole.made' w 37 (numsV a).toArray _ rfl)
  have HT := Lib.hid (Box1.start w a)
  have HI := Lib.hid (info5 ha.1)
  have HID := Lib.hid (infoA5 hokD.1)
  have HOD := Lib.hid (same5 ha.1 hokD.1)
  have H1D := Lib.hid (one5 D)
  have HKD := Lib.hid hokD
  have HKC := Lib.hid hokC
  have HC := Lib.hid hC2
  clear hD ho hC hC2 hokD hokC ha
  go_enter Try.func37, Try.ntmps37
  go_upto_region 1 with (fail)
  have hx := HT.out.x
  have HX := Lib.hid hx
  have hbx : Hid (Box1 w a ((w.alloc (.cells (numsV a).toArray 37)).alloc (.cells #[.int .u64 0, .int .u64 0, .int .u64 0, .int .u64 0, .int .u64 0] 37))) := HT
  have HX' : Hid (Whole ((w.alloc (.cells (numsV a).toArray 37)).alloc (.cells #[.int .u64 0, .int .u64 0, .int .u64 0, .int .u64 0, .int .u64 0] 37)) w.heap.size 37 (numsV a)) := HX
  clear hx HX HT HA
  generalize (w.alloc (.cells (numsV a).toArray 37)).alloc (.cells #[.int .u64 0, .int .u64 0, .int .u64 0, .int .u64 0, .int .u64 0] 37) = wx at *
  go_wp2_with ((with_reducible refine wpList_load_mid rfl 37 (.tmp 1) rfl w.heap.size 0 rfl (numsV a) _ HX'.out.range Try.underlying37 rfl HI.out ?_))
  refine (R.out _).mono ?_
  rintro e w1 ⟨rfl, hb1⟩
  have h1 := hbx.out.next hb1
  have hx1 := h1.x
  unfold Whole at hx1
  have HX1 := Lib.hid hx1
  have H2 := Lib.hid (h1.put D)
  clear hb1 h1 hx1 hbx HX'
  go_upto_region 2 with ((with_reducible refine wpList_store_row rfl 37 (.tmp 1) (.tmp 7) rfl w.heap.size (numsV D).toArray rfl rfl 37 (numsV a).toArray HX1.out HID.out HOD.out H1D.out ?_))
  go_simp
  clear HX1
  generalize w1.setRow w.heap.size (numsV D).toArray = w2 at *
  have c0 := num_cell H2.out.x (i := 0) (by rw [HKD.out.1]; omega)
  have f0 := num_free H2.out.x (i := 0) (by rw [HKD.out.1]; omega)
  have l0 := HKD.out.at 0
  have h3 := H2.out.set 0 ((D.getD 0 0 + 5 * o % 18446744073709551616) % 18446744073709551616)
  rw [← HC.out] at h3
  generalize D.getD 0 0 = x at *
  have q1 : IntKind.u64.wrap (5 * (o : Int)) = ((5 * o % 18446744073709551616 : Nat) : Int) := by rw [IntKind.wrap_u64]; omega
  have q2 : IntKind.u64.wrap ((x : Int) + ((5 * o % 18446744073709551616 : Nat) : Int)) = (((x + 5 * o % 18446744073709551616) % 18446744073709551616 : Nat) : Int) := by rw [IntKind.wrap_u64]; omega
  have H3 := Lib.hid h3
  have Q1 := Lib.hid q1
  have Q2 := Lib.hid q2
  clear h3 q1 q2
  go_upto_region 3 with (fail)
  rw [Q1.out, Q2.out]
  have HR := Lib.hid H3.out.x
  have HZ := Lib.hid H3.out.z
  have HBL := Lib.hid H3.out.below
  have hz2 := H3.out.z
  unfold Whole at hz2
  have HZ2 := Lib.hid hz2
  have HIC := Lib.hid (info5 HKC.out.1)
  have HIA := Lib.hid (infoA5 HKC.out.1)
  have HO5 := Lib.hid (show zeros5.toArray.size = (numsV C).toArray.size from same5 (s := zeros) rfl HKC.out.1)
  have H1 := Lib.hid (one5 C)
  clear hz2 c0 f0 H2 H3 Q1 Q2
  generalize w2.setCell ⟨w.heap.size, 0, none⟩ (.int .u64 (((x + 5 * o % 18446744073709551616) % 18446744073709551616 : Nat) : Int)) = w3 at *
  go_wp2_with ((first
    | (with_reducible refine wpList_load_mid rfl 37 (.tmp 1) rfl w.heap.size 0 rfl (numsV C) _ HR.out.range Try.underlying37 rfl HIC.out ?_)
    | (with_reducible refine wpList_store_row rfl 37 (.tmp 2) (.tmp 15) rfl (w.heap.size + 1) (numsV C).toArray rfl rfl 37 zeros5.toArray HZ2.out HIA.out HO5.out H1.out ?_)))
  refine bodyPost_ret (v := .agg (numsV C).toArray) ?_ rfl ⟨rfl, below_setRow HBL.out (by omega) _⟩
  exact results_whole (ty := 37) Try.results37 _ _ (w.heap.size + 1) 37 (numsV C) _ (by simp [Act.put]) (HZ.out.setRow _) Try.underlying37 rfl HIC.out
end Go.Proofs.Ytcglobpklhkebab.Poly
