/-
  The statements' own example of layer 18 answers true. Conditions: the listed tables; package frame answers as Con says.
-/
import Derived.Test.YtlodgomjlkpdhaaGreatDoorFrB
namespace Go.Proofs.YtlodgomjlkpdhaaGreatDoor.Frm
open Go.RowKit Mur Lanes Prt Tap Cel
set_option maxRecDepth 100000
set_option linter.unusedSimpArgs false

def seedT : ByteArray := ⟨#[115, 101, 101, 100]⟩
def ex : SayB := ⟨3, 1, ⟨#[104, 105]⟩, ⟨#[97, 98]⟩⟩
def exT : List UInt8 := layT ex.plain 5 2 seedT.data.toList
theorem ex_err : layE ex.plain 5 2 seedT.data.toList = 0 := by decide
theorem ex_long : layE ex.plain 1 2 seedT.data.toList = 4 := by decide
theorem ex_length : exT.length = 15 := by
  have := lay_length ex.plain 5 2 seedT.data.toList ex_err
  have e : Frm.long 5 2 = 15 := by decide
  rw [e] at this
  unfold exT
  omega
theorem ex_back : readE exT 5 2 = 0 ∧ readX exT 5 2 = ex.plain := back ex.plain 5 2 seedT.data.toList ex_err (fun h => by cases h) (fun _ => rfl)
theorem ex_form : readE exT 4 2 = 3 := by
  unfold readE
  have e : Frm.long 4 2 = 14 := by decide
  rw [e, ex_length, if_neg (by decide), if_pos (Or.inl (by decide))]
theorem ex_seed : (exT.drop 1).take 4 = seedT.data.toList := by
  unfold exT layT
  rw [if_pos ex_err]
  generalize hid seedT.data.toList (bodyT ex.plain 5 2) = b
  rfl
theorem none_is (s : List UInt8) (c g : Int) (h : readE s c g ≠ 0) : readX s c g = nothing := by
  unfold readX
  rw [if_neg h]
theorem ex_told : told 1 2 3 [120] = [115, 97, 121, 32, 49, 32, 50, 32, 51, 32, 120] := by
  have d1 : dec 1 = [49] := by rw [dec, if_neg (by decide), digits, if_pos (by decide)]; rfl
  have d2 : dec 2 = [50] := by rw [dec, if_neg (by decide), digits, if_pos (by decide)]; rfl
  have d3 : dec 3 = [51] := by rw [dec, if_neg (by decide), digits, if_pos (by decide)]; rfl
  unfold told
  rw [d1, d2, d3]
  rfl
theorem ex_one : turned [1] [3] = 1 := by decide
theorem ex_nil : turned [1] [0] = -1 := by decide
theorem built_said (x : SayB) : Tryz.prog.built 23 [(0, .int .i64 x.next), (1, .int .i64 x.seq), (2, .string x.text), (3, .string x.sig)] = some (sayV x).toArray := by kernel_rfl

set_option maxHeartbeats 6400000 in
theorem awake_any (con : Con) (w : World) (hl : Laid w) : Calls Tryz.prog 4 #[] w fun e w' => e = .returned (.bool true) ∧ Below w.heap.size w w' := by
  obtain ⟨w0, hw0⟩ : ∃ w0, w0 = w := ⟨w, rfl⟩
  subst hw0
  obtain ⟨S, hS⟩ : ∃ S, S = tx exT := ⟨_, rfl⟩
  have hSd : S.data.toList = exT := by rw [hS]
  have hSs : S.size = 15 := by rw [hS]; exact ex_length
  have sm : Small ex := ⟨⟨by decide, by decide⟩, ⟨by decide, by decide⟩, by decide, by decide⟩
  have i5 := inN 5 (by decide); have i2 := inN 2 (by decide); have i1 := inN 1 (by decide); have i4 := inN 4 (by decide); have i18 := inN 18 (by decide); have i3 := inN 3 (by decide)
  have R1 := Lib.hid (fun u (hu : Below w0.heap.size w0 u) => con.lay ex 5 2 ⟨#[115, 101, 101, 100]⟩ S 0 u hS ex_err.symm sm (by decide) i5 i2 (hl.below hu))
  have R2 := Lib.hid (fun u (hu : Below w0.heap.size w0 u) => con.read S 5 2 ex 0 u (by rw [hSd, ex_back.2]; rfl) (by rw [hSd, ex_back.1]) (by omega) i5 i2 (hl.below hu))
  have R3 := Lib.hid (fun u (hu : Below w0.heap.size w0 u) => con.lay ex 1 2 ⟨#[115, 101, 101, 100]⟩ ⟨#[]⟩ 4 u (by rw [lay_err _ _ _ _ (by show layE ex.plain 1 2 seedT.data.toList ≠ 0; rw [ex_long]; decide)]) ex_long.symm sm (by decide) i1 i2 (hl.below hu))
  have R4 := Lib.hid (fun u (hu : Below w0.heap.size w0 u) => con.read S 4 2 zeroX 3 u (by rw [hSd, none_is _ _ _ (by rw [ex_form]; decide)]; rfl) (by rw [hSd, ex_form]) (by omega) i4 i2 (hl.below hu))
  have R5 := Lib.hid (fun u => show Calls Tryz.prog 9 #[.int .i64 5, .int .i64 18] u fun z w' => z = .returned (.int .i64 31) ∧ Below u.heap.size u w' from con.long 5 18 u i5 i18)
  have R6 := Lib.hid (fun u (hu : Below w0.heap.size w0 u) => con.told 1 2 3 ⟨#[120]⟩ ⟨#[115, 97, 121, 32, 49, 32, 50, 32, 51, 32, 120]⟩ u (by rw [show (⟨#[120]⟩ : ByteArray).data.toList = [120] from rfl, ex_told]) (by decide) i1 i2 i3 (hl.below hu))
  have R7 := Lib.hid (fun u => con.turned ⟨#[1]⟩ ⟨#[3]⟩ 1 u ex_one.symm (by decide) (by decide))
  have R8 := Lib.hid (fun u => con.turned ⟨#[1]⟩ ⟨#[0]⟩ (-1) u ex_nil.symm (by decide) (by decide))
  have h15 : ((S.size : Int) == 15) = true := by rw [hSs]; rfl
  have hcut : ((S.extract 1 5).toList == [115, 101, 101, 100]) = true := by
    have e : (S.extract 1 5).data.toList = (exT.drop 1).take 4 := by
      rw [← hSd]
      simp [List.drop_take]
    rw [ByteArray.toList_eq, e, ex_seed]
    rfl
  have hb5 : (5 : Int) ≤ (S.size : Int) := by omega
  have hb5n : 5 ≤ S.size := by omega
  have hbs := built_said ex
  have HM := Lib.hid (Hold.Hld.start w0)
  clear hS hSd hSs sm i5 i2 i1 i4 i18 i3 hl
  go_enter Tryz.func4, Tryz.ntmps4
  go_wp2_with ((first
    | ((with_reducible refine Hold.alloc HM.out rfl rfl zeroS zero_said ?_); clear HM; intro bx w HM; simp only [List.nil_append, List.cons_append] at HM; replace HM := Lib.hid HM)
    | ((refine Hold.build (t := 23) (parts := #[(0, .const (.int .i64 3)), (1, .const (.int .i64 1)), (2, .const (.string ⟨#[104, 105]⟩)), (3, .const (.string ⟨#[97, 98]⟩))]) (cs := sayV ex) rfl rfl ?_ ?_); focus (exact hbs))
    | ((with_reducible refine Hold.store HM.out 0 (v' := sayV ex) rfl rfl rfl rfl rfl (say_fits _ _) (say_laid _ _) (say_one _) (sayRow _) ?_); clear HM; intro w HM; simp only [List.set_cons_zero, List.set_cons_succ] at HM; replace HM := Lib.hid HM)
    | ((with_reducible refine Hold.store HM.out 1 (v' := sayV ex) rfl rfl rfl rfl rfl (say_fits _ _) (say_laid _ _) (say_one _) (sayRow _) ?_); clear HM; intro w HM; simp only [List.set_cons_zero, List.set_cons_succ] at HM; replace HM := Lib.hid HM)
    | ((with_reducible refine Hold.store HM.out 2 (v' := sayV zeroX) rfl rfl rfl rfl rfl (say_fits _ _) (say_laid _ _) (say_one _) (sayRow _) ?_); clear HM; intro w HM; simp only [List.set_cons_zero, List.set_cons_succ] at HM; replace HM := Lib.hid HM)
    | (with_reducible refine Hold.load HM.out 0 (cs := sayV ex) rfl rfl rfl rfl (Hold.Part.all _) (sayRow _) ?_)
    | ((with_reducible refine (R1.out _ HM.out.below).mono ?_); rintro e w ⟨rfl, hb⟩; replace HM := Lib.hid (HM.out.next hb); clear hb)
    | ((with_reducible refine (R2.out _ HM.out.below).mono ?_); rintro e w ⟨rfl, hb⟩; replace HM := Lib.hid (HM.out.next hb); clear hb)
    | ((with_reducible refine (R3.out _ HM.out.below).mono ?_); rintro e w ⟨rfl, hb⟩; replace HM := Lib.hid (HM.out.next hb); clear hb)
    | ((with_reducible refine (R4.out _ HM.out.below).mono ?_); rintro e w ⟨rfl, hb⟩; replace HM := Lib.hid (HM.out.next hb); clear hb)
    | ((with_reducible refine (R5.out _).mono ?_); rintro e w ⟨rfl, hb⟩; replace HM := Lib.hid (HM.out.next hb); clear hb)
    | ((with_reducible refine (R6.out _ HM.out.below).mono ?_); rintro e w ⟨rfl, hb⟩; replace HM := Lib.hid (HM.out.next hb); clear hb)
    | ((with_reducible refine (R7.out _).mono ?_); rintro e w ⟨rfl, hb⟩; replace HM := Lib.hid (HM.out.next hb); clear hb)
    | ((with_reducible refine (R8.out _).mono ?_); rintro e w ⟨rfl, hb⟩; replace HM := Lib.hid (HM.out.next hb); clear hb)
    | (refine Hold.wpList_want (by rfl) (.agg (sayV ex).toArray) (Hold.load_run HM.out 0 rfl rfl rfl (Hold.Part.all _) (sayRow _)) ?_)
    | (refine Hold.wpList_want (by rfl) (.agg (sayV ex).toArray) (Hold.load_run HM.out 1 rfl rfl rfl (Hold.Part.all _) (sayRow _)) ?_)
    | (refine Hold.wpList_want (by rfl) (.bool true) (said_eql ex ex true (same_self ex).symm rfl rfl rfl _) ?_)))
  go_ret
  exact ⟨by simp, HM.out.below⟩
end Go.Proofs.YtlodgomjlkpdhaaGreatDoor.Frm
