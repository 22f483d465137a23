/-
  The statements' own example of layer 19 answers true. Conditions: the listed tables; packages frame and layout answer as the structures Con of the texts FrC and LyC say.
-/
import Derived.Test.YtedgpglldlohfaaDoorLyU
import Derived.Test.YtedgpglldlohfaaDoorLyE
import Derived.Test.YtedgpglldlohfaaDoorFrld
namespace Go.Proofs.YtedgpglldlohfaaDoor.Lyo
open Go.RowKit Mur Lanes Prt Tap Cel Frm Zs
set_option maxRecDepth 100000
set_option linter.unusedSimpArgs false

theorem in_two (w : World) (x y : Int) (hx : InR x) (hy : InR y) : In (w.alloc (.cells #[.int .i64 x, .int .i64 y] 3)) (some ⟨w.heap.size, 0, none⟩) 2 2 [x, y] where
  row := row_zs (w := w.alloc (.cells (zsV [x, y]).toArray 3)) (t := 3) (L := [x, y]) (((Hold.Hld.start w).add 3 (zsV [x, y])).at 0 rfl)
  len := rfl
  most := by decide
  cap := Nat.le_refl _
  fit := fun z hz => by
    simp only [List.mem_cons, List.not_mem_nil, or_false] at hz
    rcases hz with rfl | rfl <;> assumption

set_option maxHeartbeats 6400000 in
theorem awake_any (con : Con) (fc : Frm.Con) (w : World) (hl : Laid w) : Calls Tryd.prog 7 #[] w fun e w' => e = .returned (.bool true) ∧ Below w.heap.size w w' := by
  obtain ⟨w0, hw0⟩ : ∃ w0, w0 = w := ⟨w, rfl⟩
  subst hw0
  have i0 : InR 0 := inN 0 (by decide)
  have i5 : InR 5 := inN 5 (by decide)
  have i18 : InR 18 := inN 18 (by decide)
  have i1 : InR 1 := inN 1 (by decide)
  have i7 : InR 7 := inN 7 (by decide)
  have i9 : InR 9 := inN 9 (by decide)
  have hin := in_two w0 0 5 i0 i5
  obtain ⟨w1, hw1⟩ : ∃ w1, w1 = w0.alloc (.cells #[.int .i64 0, .int .i64 5] 3) := ⟨_, rfl⟩
  have HB0 := Lib.hid (show Below w0.heap.size w0 w1 from by rw [hw1]; exact (Below.refl w0.heap.size w0).alloc (Nat.le_refl _) _)
  rw [← hw1] at hin
  have hl1 := hl.below HB0.out
  obtain ⟨S, hS⟩ : ∃ S, S = tx (layT exS 5 18 exSeed) := ⟨_, rfl⟩
  have hSd : S.data.toList = layT exS 5 18 exSeed := by rw [hS]
  have hSs : S.size = 31 := ex_length _ hSd
  obtain ⟨O, hO⟩ : ∃ O, (⟨#[4, 0]⟩ : ByteArray) ++ S = O := ⟨_, rfl⟩
  have hOd : O.data.toList = exO S.data.toList := by rw [← hO, ByteArray.toList_data_append]; rfl
  have hOs : O.size ≤ 10000 := by
    rw [← hO, ByteArray.size_append, hSs]
    decide
  have ob : ¬ 9223372036854775807 < 2 + S.size := by omega
  have RS := Lib.hid (fun u (hu : Below w1.heap.size w1 u) => con.spot exL _ 2 2 18 1 2 33 u ex_spot.1.symm ex_spot.2.symm (hin.below hu) i18 i1)
  have RL := Lib.hid (fun u (hu : Below w1.heap.size w1 u) => show Calls Tryd.prog 21 #[.agg #[.int .i64 7, .int .i64 0, .string ⟨#[]⟩, .string ⟨#[]⟩], .int .i64 5, .int .i64 18, .string ⟨#[115, 101, 101, 100]⟩] u fun z w' => z = .returned (.tuple #[.string S, .int .i64 0]) ∧ Below u.heap.size u w' from fc.lay (Frl.bare 7) 5 18 ⟨#[115, 101, 101, 100]⟩ S 0 u hS ex_err.symm ⟨i7, i0, by decide, by decide⟩ (by decide) i5 i18 (hl1.below hu))
  have RN := Lib.hid (fun u (hu : Below w1.heap.size w1 u) => con.next exL _ 2 2 18 O [4, 7] 2 u (by rw [hOd]; exact (ex_next _ hSd).symm) rfl (hin.below hu) i18 hOs (hl1.below hu))
  have RT := Lib.hid (fun u (hu : Below w1.heap.size w1 u) => con.total exL _ 2 2 18 33 u ex_total.symm (hin.below hu) i18)
  have RW := Lib.hid (fun u (hu : Below w1.heap.size w1 u) => con.want exL _ 2 2 0 0 ⟨#[17]⟩ u ex_want.symm (hin.below hu) i0 (by decide))
  have RF := Lib.hid (fun u => con.first 9 (first 9) 6 u rfl rfl i9)
  have RX := Lib.hid (fun u (hu : Below w1.heap.size w1 u) => con.slot exL _ 2 2 18 1 O S u (by rw [hOd, ex_slot _ hSd, hSd, hS]) (hin.below hu) i18 i1 hOs)
  have HM := Lib.hid (Hold.Hld.start w1)
  have HW := Lib.hid hw1
  clear hS hSd hSs hOd hOs hin hl hl1 i0 i5 i18 i1 i7 i9 hw1
  go_enter Tryd.func7, Tryd.ntmps7
  go_upto_region 2 with (fail)
  rw [← HW.out]
  clear HW
  go_upto_region 5 with ((first
    | ((with_reducible refine (RS.out _ HM.out.below).mono ?_); rintro e w ⟨rfl, hb⟩; replace HM := Lib.hid (HM.out.next hb); clear hb)
    | ((with_reducible refine (RL.out _ HM.out.below).mono ?_); rintro e w ⟨rfl, hb⟩; replace HM := Lib.hid (HM.out.next hb); clear hb)
    | ((with_reducible refine (RN.out _ HM.out.below).mono ?_); rintro e w3 ⟨an, cn, rfl, hcn, hrn, hb⟩; replace HM := Lib.hid (HM.out.next hb); clear hb hcn)))
  obtain ⟨bn, on, rfl, hbn, hcn⟩ := hrn (by decide)
  have HC := Lib.hid (fun u (hu : Below w3.heap.size w3 u) => And.intro ((hu.cell (p := ⟨bn, on + 0, none⟩) hbn).trans (hcn 0 4 rfl)) ((hu.cell (p := ⟨bn, on + 1, none⟩) hbn).trans (hcn 1 7 rfl)))
  have HB3 := Lib.hid HM.out.below
  clear hbn hcn HM RN RL RS
  have HM := Lib.hid (Hold.Hld.start w3)
  have RD := Lib.hid (fun u (hu : Below w3.heap.size w3 u) => HB3.out.trans (hu.mono HB3.out.size))
  go_wp2_with ((first
    | ((with_reducible refine (RT.out _ (RD.out _ HM.out.below)).mono ?_); rintro e w ⟨rfl, hb⟩; replace HM := Lib.hid (HM.out.next hb); clear hb; obtain ⟨q0, q1⟩ := HC.out _ HM.out.below; try rw [Nat.add_zero] at q0)
    | ((with_reducible refine (RW.out _ (RD.out _ HM.out.below)).mono ?_); rintro e w ⟨rfl, hb⟩; replace HM := Lib.hid (HM.out.next hb); clear hb q0 q1)
    | ((with_reducible refine (RF.out _).mono ?_); rintro e w ⟨af, cf, rfl, -, -, hb⟩; replace HM := Lib.hid (HM.out.next hb); clear hb)
    | ((with_reducible refine (RX.out _ (RD.out _ HM.out.below)).mono ?_); rintro e w ⟨rfl, hb⟩; replace HM := Lib.hid (HM.out.next hb); clear hb)))
  go_ret
  exact ⟨by simp, HB0.out.trans ((RD.out _ HM.out.below).mono HB0.out.size)⟩
end Go.Proofs.YtedgpglldlohfaaDoor.Lyo
