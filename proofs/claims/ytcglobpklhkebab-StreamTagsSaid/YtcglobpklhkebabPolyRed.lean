/-
  The last reduction of package stream's Poly1305, the limbs of a text and the bytes of its factor answer what the plain mathematics of the text Poly says, and leave all memory that was there as it was. Conditions: five limbs below 2^64; a text of at most 17 bytes; a key of 32 bytes.
-/
import Derived.Test.YtcglobpklhkebabPolyCar
import Derived.Test.YtcglobpklhkebabLnLow
namespace Go.Proofs.Ytcglobpklhkebab.Poly
open Go.RowKit Mur Lanes
set_option maxRecDepth 100000

set_option maxHeartbeats 1600000 in
theorem red_any (a C : List Nat) (w : World) (ha : Five a) (hC : C = red a) :
    Calls Try.prog 20 #[.agg (numsV a).toArray] w fun e w' => e = .returned (.agg (numsV C).toArray) ∧ Below w.heap.size w w' := by
  obtain ⟨D, hD⟩ : ∃ D, D = add a [5, 0, 0, 0, 0] := ⟨_, rfl⟩
  have hokD : Five D := by rw [hD]; exact addTo_ok ha _ 5
  obtain ⟨E, hE⟩ : ∃ E, E = car D := ⟨_, rfl⟩
  have hokE : Five E := by rw [hE]; exact car_ok hokD
  obtain ⟨o, ho⟩ : ∃ o, o = over D := ⟨_, rfl⟩
  have hol : o < 18446744073709551616 := by rw [ho]; exact over_lt hokD
  obtain ⟨q, hq⟩ : ∃ q, q = 5 * o % 18446744073709551616 := ⟨_, rfl⟩
  have hql : q < 18446744073709551616 := by omega
  have hqi : IntKind.u64.wrap (5 * (o : Int)) = (q : Int) := by rw [IntKind.wrap_u64]; omega
  obtain ⟨F, hF⟩ : ∃ F, F = add a [q, 0, 0, 0, 0] := ⟨_, rfl⟩
  have hokF : Five F := by rw [hF]; exact addTo_ok ha _ 5
  have hCF : C = car F := by rw [hC, hF, hq, ho, hD]; rfl
  have hokC : Five C := by rw [hCF]; exact car_ok hokF
  obtain ⟨o2, ho2⟩ : ∃ o, o = over F := ⟨_, rfl⟩
  have h5 : Five [5, 0, 0, 0, 0] := ⟨rfl, by decide⟩
  have hq5 : Five [q, 0, 0, 0, 0] := ⟨rfl, fun x hx => by
    simp only [List.mem_cons, List.not_mem_nil, or_false] at hx
    omega⟩
  have R1 := Lib.hid (show ∀ u, Calls Try.prog 18 #[.agg (numsV a).toArray, .agg #[.int .u64 5, .int .u64 0, .int .u64 0, .int .u64 0, .int .u64 0]] u fun e w' => e = .returned (.agg (numsV D).toArray) ∧ Below u.heap.size u w' from fun u => add_any a [5, 0, 0, 0, 0] D u ha h5 hD)
  have R2 := Lib.hid (fun u => car_any D E o u hokD hE ho)
  have R3 := Lib.hid (show ∀ u, Calls Try.prog 18 #[.agg (numsV a).toArray, .agg #[.int .u64 (q : Int), .int .u64 0, .int .u64 0, .int .u64 0, .int .u64 0]] u fun e w' => e = .returned (.agg (numsV F).toArray) ∧ Below u.heap.size u w' from fun u => add_any a [q, 0, 0, 0, 0] F u ha hq5 hF)
  have R4 := Lib.hid (fun u => car_any F C o2 u hokF hCF ho2)
  have HT := Lib.hid (Box1.start w a)
  have HI := Lib.hid (info5 ha.1)
  have HIE := Lib.hid (info5 hokE.1)
  have HOE := Lib.hid (show zeros5.length = (numsV E).length by rw [numsV_length, hokE.1]; rfl)
  have H1E := Lib.hid (one5 E)
  have HIC := Lib.hid (info5 hokC.1)
  have HIA := Lib.hid (infoA5 hokC.1)
  have HOA := Lib.hid (same5 ha.1 hokC.1)
  have HO5 := Lib.hid (show zeros5.toArray.size = (numsV C).toArray.size from same5 (s := zeros) rfl hokC.1)
  have H1 := Lib.hid (one5 C)
  have HQI := Lib.hid hqi
  clear hD hokD hE hokE ho hq hqi hF hokF hCF hokC ho2 h5 hq5 hC ha
  go_enter Try.func20, Try.ntmps20
  go_upto_region 1 with (fail)
  have HB : Hid (Box1 w a ((w.alloc (.cells (numsV a).toArray 37)).alloc (.cells #[.int .u64 0, .int .u64 0, .int .u64 0, .int .u64 0, .int .u64 0] 37))) := HT
  clear HT
  generalize (w.alloc (.cells (numsV a).toArray 37)).alloc (.cells #[.int .u64 0, .int .u64 0, .int .u64 0, .int .u64 0, .int .u64 0] 37) = wx at *
  have HX := Lib.hid HB.out.x
  go_wp2_with ((with_reducible refine wpList_load_mid rfl 37 (.tmp 1) rfl w.heap.size 0 rfl (numsV a) _ HX.out.range Try.underlying37 rfl HI.out ?_))
  refine (R1.out _).mono ?_
  rintro e w1 ⟨rfl, hb1⟩
  have HB1 := Lib.hid (HB.out.next hb1)
  clear hb1 HB HX
  go_wp2_with fail
  refine (R2.out _).mono ?_
  rintro e w2 ⟨rfl, hb2⟩
  have HB2 := Lib.hid (HB1.out.next hb2)
  clear hb2 HB1
  go_upto_region 2 with ((first
    | (with_reducible refine wpList_alloc_z rfl 37 rfl zeros5 zero5 ?_)
    | (with_reducible refine wpList_store_new rfl 37 _ _ rfl _ (numsV E) zeros5 rfl rfl rfl HIE.out HOE.out H1E.out ?_)))
  go_simp
  have HB3 := Lib.hid (HB2.out.next ((Below.refl w2.heap.size w2).alloc (Nat.le_refl _) (.cells (numsV E).toArray 37)))
  generalize w2.alloc (.cells (numsV E).toArray 37) = w3 at *
  have HX3 := Lib.hid HB3.out.x
  clear HB2
  go_wp2_with ((with_reducible refine wpList_load_mid rfl 37 (.tmp 1) rfl w.heap.size 0 rfl (numsV a) _ HX3.out.range Try.underlying37 rfl HI.out ?_))
  rw [HQI.out]
  refine (R3.out _).mono ?_
  rintro e w4 ⟨rfl, hb4⟩
  have HB4 := Lib.hid (HB3.out.next hb4)
  clear hb4 HB3 HX3
  go_wp2_with fail
  refine (R4.out _).mono ?_
  rintro e w5 ⟨rfl, hb5⟩
  have hb5' := HB4.out.next hb5
  have hx5 := hb5'.x
  unfold Whole at hx5
  have HX5 := Lib.hid hx5
  have HB6 := Lib.hid (hb5'.put C)
  clear hb5 HB4 hb5' hx5
  have HR := Lib.hid HB6.out.x
  have HZ := Lib.hid HB6.out.z
  have hz2 := HB6.out.z
  unfold Whole at hz2
  have HZ2 := Lib.hid hz2
  have HBL := Lib.hid HB6.out.below
  clear hz2 HB6
  go_wp2_with ((first
    | (with_reducible refine wpList_load_mid rfl 37 (.tmp 1) rfl w.heap.size 0 rfl (numsV C) _ HR.out.range Try.underlying37 rfl HIC.out ?_)
    | (with_reducible refine wpList_store_row rfl 37 (.tmp 1) (.tmp 19) rfl w.heap.size (numsV C).toArray rfl rfl 37 (numsV a).toArray HX5.out HIA.out HOA.out H1.out ?_)
    | (with_reducible refine wpList_store_row rfl 37 (.tmp 2) (.tmp 21) rfl (w.heap.size + 1) (numsV C).toArray rfl rfl 37 zeros5.toArray HZ2.out HIA.out HO5.out H1.out ?_)))
  refine bodyPost_ret (v := .agg (numsV C).toArray) ?_ rfl ⟨rfl, below_setRow HBL.out (by omega) _⟩
  exact results_whole (ty := 37) Try.results20 _ _ (w.heap.size + 1) 37 (numsV C) _ (by simp [Act.put]) (HZ.out.setRow _) Try.underlying37 rfl HIC.out
end Go.Proofs.Ytcglobpklhkebab.Poly
