/-
  The statements' own example of layer 13 answers true. No condition.
-/
import Derived.Test.YtnglnocdffjnoaaSeaD
namespace Go.Proofs.Ytnglnocdffjnoaa.Sea
open Go.RowKit Mur Prt Lanes
set_option maxRecDepth 100000

def ex : SV := ⟨⟨#[103]⟩, 1, 2, 5, 3, ⟨#[98, 111, 100, 121]⟩, ⟨#[115, 105, 103]⟩⟩
def exT : List UInt8 := [0, 1, 103, 4, 0, 0, 0, 0, 1, 0, 0, 0, 0, 2, 0, 0, 0, 0, 5, 0, 0, 0, 0, 3, 0, 4, 98, 111, 100, 121]
def exB : List UInt8 := exT ++ [0, 3, 115, 105, 103]
theorem ex_right : right ex.l = true := by decide
theorem ex_text : text ex.l = .ok exT := by rfl
theorem ex_bytes : bytes ex.l = .ok exB := by rfl
theorem ex_read : read exB = .ok ex.l := write_read _ _ ex_bytes
theorem ex_fit : Fit ex := by constructor <;> decide
theorem zero_fit : Fit zero := by constructor <;> decide
theorem zero_right : right zero.l = false := by decide
theorem ex_cells : (seaV (.ok ex.l)).cells = ex.cells := rfl

set_option maxHeartbeats 800000 in
theorem some_any (X : List Value) (w : World) (hXc : X = ex.cells) : Calls Try.prog 15 #[] w fun e w' => e = .returned (.agg X.toArray) ∧ Below w.heap.size w w' := by
  have HX := Lib.hid (show Sl X ex by rw [hXc]; exact sl_cells ex)
  have HXC := Lib.hid hXc
  have HM := Lib.hid (Hold.Hld.start w)
  clear hXc
  go_enter Try.func15, Try.ntmps15
  go_wp2_with ((first
    | (with_reducible refine Hold.alloc HM.out rfl rfl zeroC zero_sea ?_; clear HM; intro b0 w HM; simp only [List.nil_append] at HM; replace HM := Lib.hid HM)
    | (with_reducible refine Hold.build (t := 23) (cs := X) rfl rfl ?_ ?_; focus (rw [HXC.out]; kernel_rfl))
    | (with_reducible refine Hold.store HM.out 0 (v' := X) rfl rfl rfl rfl rfl (by rw [zeroC_len, HX.out.len]; exact Nat.le_of_eq (Nat.zero_add _)) (Hold.lay_all (zeroC_len.trans HX.out.len.symm)) (HX.out.one) (by rw [HX.out.len]; exact seaRow) ?_; clear HM; intro w HM; simp only [List.set_cons_zero] at HM; replace HM := Lib.hid HM)))

  refine bodyPost_ret (Hold.results1 HM.out 0 rfl _ rfl rfl (by rw [HX.out.len]; exact seaRow)) rfl ?_
  exact ⟨rfl, HM.out.below⟩

set_option maxHeartbeats 3200000 in
theorem awake_any (w : World) : Calls Try.prog 6 #[] w fun e w' => e = .returned (.bool true) ∧ Below w.heap.size w w' := by
  obtain ⟨X, hX, hXc⟩ := named ex
  obtain ⟨A, hA⟩ : ∃ A, A = tx exB := ⟨_, rfl⟩
  obtain ⟨T, hT⟩ : ∃ T, T = tx exT := ⟨_, rfl⟩
  have hAl : A.data.toList = exB := by rw [hA]
  have RS := Lib.hid (fun u => some_any X u hXc)
  have RB := Lib.hid (fun u => bytes_any ex X A 0 u hX (by rw [ex_bytes, hA]; rfl) (by rw [ex_bytes]; rfl) ex_fit)
  have RR := Lib.hid (fun u => read_any A X 0 u (by rw [hAl, ex_read, ex_cells, hXc]) (by rw [hAl, ex_read]; rfl) (by rw [hA]; decide))
  have RT := Lib.hid (fun u => text_any ex X T 0 u hX (by rw [ex_text, hT]; rfl) (by rw [ex_text]; rfl) ex_fit)
  have RZ := Lib.hid (fun u => text_any zero zeroC ⟨#[]⟩ 1 u (sl_cells zero) (by rw [text_wrong _ zero_right]; rfl) (by rw [text_wrong _ zero_right]; rfl) zero_fit)
  have RI := Lib.hid (fun u => right_any ex X true u hX ex_right.symm (by decide) (by decide) (by decide))
  have hAs : (A.size : Int) = 35 := by rw [hA]; decide
  have hTs : (T.size : Int) = 30 := by rw [hT]; decide
  have hcut : ∀ u, (Instr.slice 9 (.string A) none (some (.int .i64 4)) none).run Try.prog u = .ok (.string ⟨#[0, 1, 103, 4]⟩) u := fun u => by
    rw [run_slice_string_h (P := Try.prog) (w := u) (t := 9) (s := A) Try.underlying9 .i64 4 (by omega) (by omega), hA]
    rfl
  have HX := Lib.hid hX
  have HM := Lib.hid (Hold.Hld.start w)
  clear hX hXc hA hT hAl
  go_enter Try.func6, Try.ntmps6
  go_upto_region 3 with ((first
    | (with_reducible refine (RS.out _).mono ?_; rintro e w ⟨rfl, hb⟩; replace HM := Lib.hid (HM.out.next hb); clear hb)
    | (with_reducible refine (RB.out _).mono ?_; rintro e w ⟨rfl, hb⟩; replace HM := Lib.hid (HM.out.next hb); clear hb)
    | (with_reducible refine (RR.out _).mono ?_; rintro e w ⟨rfl, hb⟩; replace HM := Lib.hid (HM.out.next hb); clear hb)
    | (with_reducible refine Hold.alloc HM.out rfl rfl zeroC zero_sea ?_; clear HM; intro b0 w HM; simp only [List.nil_append] at HM; replace HM := Lib.hid HM)
    | (with_reducible refine Hold.store HM.out 0 (v' := X) rfl rfl rfl rfl rfl (by rw [zeroC_len, HX.out.len]; exact Nat.le_of_eq (Nat.zero_add _)) (Hold.lay_all (zeroC_len.trans HX.out.len.symm)) (HX.out.one) (by rw [HX.out.len]; exact seaRow) ?_; clear HM; intro w HM; simp only [List.set_cons_zero] at HM; replace HM := Lib.hid HM)))

  go_upto_region 5 with ((first
    | (with_reducible refine (RS.out _).mono ?_; rintro e w ⟨rfl, hb⟩; replace HM := Lib.hid (HM.out.next hb); clear hb)
    | (with_reducible refine (RT.out _).mono ?_; rintro e w ⟨rfl, hb⟩; replace HM := Lib.hid (HM.out.next hb); clear hb)
    | (with_reducible refine Hold.build (t := 23) (parts := #[]) (cs := zeroC) rfl rfl ?_ ?_; focus (kernel_rfl))
    | (with_reducible refine (RZ.out _).mono ?_; rintro e w ⟨rfl, hb⟩; replace HM := Lib.hid (HM.out.next hb); clear hb)))

  refine Steady.region 36 (by kernel_rfl) (by kernel_rfl) (fun u => Hold.Hld _ _ u) HM.out.drew ?_
  simp only [List.take_succ_cons, List.take_zero, List.drop_succ_cons, List.drop_zero]
  refine Steady.take ?_ rfl (by intro u hu; go_simp; with_reducible rfl) ?_
  simp only [Act.put, List.setIfInBounds_toArray, List.set_cons_zero, List.set_cons_succ]
  refine Steady.take ?_ rfl (by intro u hu; go_simp; with_reducible rfl) ?_
  simp only [Act.put, List.setIfInBounds_toArray, List.set_cons_zero, List.set_cons_succ]
  refine Steady.take ?_ rfl (by intro u hu; go_simp; with_reducible rfl) ?_
  simp only [Act.put, List.setIfInBounds_toArray, List.set_cons_zero, List.set_cons_succ]
  refine Steady.take ?_ rfl (by intro u hu; go_simp; with_reducible rfl) ?_
  simp only [Act.put, List.setIfInBounds_toArray, List.set_cons_zero, List.set_cons_succ]
  refine Steady.take ?_ rfl (by intro u hu; go_simp; with_reducible rfl) ?_
  simp only [Act.put, List.setIfInBounds_toArray, List.set_cons_zero, List.set_cons_succ]
  refine Steady.take ?_ rfl (by intro u hu; go_simp; with_reducible rfl) ?_
  simp only [Act.put, List.setIfInBounds_toArray, List.set_cons_zero, List.set_cons_succ]
  refine Steady.take ?_ rfl (by intro u hu; go_simp; with_reducible rfl) ?_
  simp only [Act.put, List.setIfInBounds_toArray, List.set_cons_zero, List.set_cons_succ]
  refine Steady.take (.agg (X).toArray) rfl (fun u hu => Hold.load_run hu 0 rfl rfl rfl (Hold.Part.all _) (by rw [HX.out.len]; exact seaRow)) ?_
  simp only [Act.put, List.setIfInBounds_toArray, List.set_cons_zero, List.set_cons_succ]
  refine Steady.call _ _ _ rfl ?_ (Hold.kept RS.out) ?_
  · intro u
    go_simp
  simp only [Act.put, List.setIfInBounds_toArray, List.set_cons_zero, List.set_cons_succ]
  refine Steady.take (.bool true) rfl (fun u hu => sea_eql HX.out HX.out true (same_self _).symm rfl rfl rfl u) ?_
  simp only [Act.put, List.setIfInBounds_toArray, List.set_cons_zero, List.set_cons_succ]
  refine Steady.take ?_ rfl (by intro u hu; go_simp; with_reducible rfl) ?_
  simp only [Act.put, List.setIfInBounds_toArray, List.set_cons_zero, List.set_cons_succ]
  refine Steady.take ?_ rfl (by intro u hu; go_simp; with_reducible rfl) ?_
  simp only [Act.put, List.setIfInBounds_toArray, List.set_cons_zero, List.set_cons_succ]
  refine Steady.take ?_ rfl (by intro u hu; go_simp; with_reducible rfl) ?_
  simp only [Act.put, List.setIfInBounds_toArray, List.set_cons_zero, List.set_cons_succ]
  refine Steady.take ?_ rfl (by intro u hu; go_simp; with_reducible rfl) ?_
  simp only [Act.put, List.setIfInBounds_toArray, List.set_cons_zero, List.set_cons_succ]
  refine Steady.take ?_ rfl (by intro u hu; go_simp; with_reducible rfl) ?_
  simp only [Act.put, List.setIfInBounds_toArray, List.set_cons_zero, List.set_cons_succ]
  refine Steady.take ?_ rfl (by intro u hu; go_simp; with_reducible rfl) ?_
  simp only [Act.put, List.setIfInBounds_toArray, List.set_cons_zero, List.set_cons_succ]
  refine Steady.take ?_ rfl (by intro u hu; go_simp; with_reducible rfl) ?_
  simp only [Act.put, List.setIfInBounds_toArray, List.set_cons_zero, List.set_cons_succ]
  refine Steady.take ?_ rfl (by intro u hu; go_simp; with_reducible rfl) ?_
  simp only [Act.put, List.setIfInBounds_toArray, List.set_cons_zero, List.set_cons_succ]
  refine Steady.take ?_ rfl (by intro u hu; go_simp; with_reducible rfl) ?_
  simp only [Act.put, List.setIfInBounds_toArray, List.set_cons_zero, List.set_cons_succ]
  refine Steady.take ?_ rfl (by intro u hu; go_simp; with_reducible rfl) ?_
  simp only [Act.put, List.setIfInBounds_toArray, List.set_cons_zero, List.set_cons_succ]
  refine Steady.take ?_ rfl (by intro u hu; go_simp; with_reducible rfl) ?_
  simp only [Act.put, List.setIfInBounds_toArray, List.set_cons_zero, List.set_cons_succ]
  refine Steady.take ?_ rfl (by intro u hu; go_simp; with_reducible rfl) ?_
  simp only [Act.put, List.setIfInBounds_toArray, List.set_cons_zero, List.set_cons_succ]
  refine Steady.take ?_ rfl (by intro u hu; go_simp; with_reducible rfl) ?_
  simp only [Act.put, List.setIfInBounds_toArray, List.set_cons_zero, List.set_cons_succ]
  refine Steady.take ?_ rfl (by intro u hu; go_simp; with_reducible rfl) ?_
  simp only [Act.put, List.setIfInBounds_toArray, List.set_cons_zero, List.set_cons_succ]
  refine Steady.take ?_ rfl (by intro u hu; go_simp; with_reducible rfl) ?_
  simp only [Act.put, List.setIfInBounds_toArray, List.set_cons_zero, List.set_cons_succ]
  refine Steady.take ?_ rfl (by intro u hu; go_simp; with_reducible rfl) ?_
  simp only [Act.put, List.setIfInBounds_toArray, List.set_cons_zero, List.set_cons_succ]
  refine Steady.take ?_ rfl (by intro u hu; go_simp; with_reducible rfl) ?_
  simp only [Act.put, List.setIfInBounds_toArray, List.set_cons_zero, List.set_cons_succ]
  refine Steady.take ?_ rfl (by intro u hu; go_simp; with_reducible rfl) ?_
  simp only [Act.put, List.setIfInBounds_toArray, List.set_cons_zero, List.set_cons_succ]
  refine Steady.call _ _ _ rfl ?_ (Hold.kept RS.out) ?_
  · intro u
    go_simp
  simp only [Act.put, List.setIfInBounds_toArray, List.set_cons_zero, List.set_cons_succ]
  refine Steady.call _ _ _ rfl ?_ (Hold.kept RI.out) ?_
  · intro u
    go_simp
  simp only [Act.put, List.setIfInBounds_toArray, List.set_cons_zero, List.set_cons_succ]
  refine Steady.take ?_ rfl (by intro u hu; go_simp; with_reducible rfl) ?_
  simp only [Act.put, List.setIfInBounds_toArray, List.set_cons_zero, List.set_cons_succ]
  refine Steady.take ?_ rfl (by intro u hu; go_simp; with_reducible rfl) ?_
  simp only [Act.put, List.setIfInBounds_toArray, List.set_cons_zero, List.set_cons_succ]
  refine Steady.take ?_ rfl (by intro u hu; go_simp; with_reducible rfl) ?_
  simp only [Act.put, List.setIfInBounds_toArray, List.set_cons_zero, List.set_cons_succ]
  refine Steady.take ?_ rfl (by intro u hu; go_simp; with_reducible rfl) ?_
  simp only [Act.put, List.setIfInBounds_toArray, List.set_cons_zero, List.set_cons_succ]
  refine Steady.take ?_ rfl (by intro u hu; go_simp; with_reducible rfl) ?_
  simp only [Act.put, List.setIfInBounds_toArray, List.set_cons_zero, List.set_cons_succ]
  refine Steady.take ?_ rfl (by intro u hu; go_simp; with_reducible rfl) ?_
  simp only [Act.put, List.setIfInBounds_toArray, List.set_cons_zero, List.set_cons_succ]
  refine Steady.nil ?_
  clear HM
  intro w HM
  replace HM := Lib.hid HM

  go_wp2
  go_ret
  exact ⟨rfl, HM.out.below⟩
end Go.Proofs.Ytnglnocdffjnoaa.Sea
