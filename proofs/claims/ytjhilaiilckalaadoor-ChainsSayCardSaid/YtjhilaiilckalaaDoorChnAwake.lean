/-
  The laws' own example of layer 7 answers true, and leaves all memory that was there as it was. Condition: the constant table of package digest lies as the program's text lays it.
-/
import Derived.Test.YtjhilaiilckalaaDoorChnFound
namespace Go.Proofs.YtjhilaiilckalaaDoor.Chn
open Go.RowKit Mur Sha
set_option maxRecDepth 100000

theorem shape_any (w : World) : Calls Tryd.prog 23 #[] w fun e w' => e = .returned (.agg #[.int .i64 2, .int .i64 2]) ∧ Below w.heap.size w w' := by
  go_enter Tryd.func23, Tryd.ntmps23
  go_wp2
  refine bodyPost_ret (v := .agg #[.int .i64 2, .int .i64 2]) (by simp [results, Tryd.results23, go_sem]) rfl ⟨rfl, ?_⟩
  exact (Below.refl _ _).alloc (Nat.le_refl _) _

theorem right_22 : Right ((2 : Nat) : Int) 2 := by decide
theorem digs_two : (digs 2 [0, 15])[3]? = some 15 ∧ (digs 2 [0, 15])[5]? = some 2 ∧ (digs 2 [0, 15])[6]? = some 13 := by decide

set_option maxHeartbeats 6400000 in
theorem awake_any (w : World) (hk : Consts w) : Calls Tryd.prog 7 #[] w fun e w' => e = .returned (.bool true) ∧ Below w.heap.size w w' := by
  obtain ⟨SG, hSG⟩ : ∃ M : ByteArray, M = tx (sign 2 [115, 101, 101, 100] [114, 111, 111, 109] 1 [97, 98]) := ⟨_, rfl⟩
  obtain ⟨LF, hLF⟩ : ∃ M : ByteArray, M = tx (leafOf 2 [115, 101, 101, 100] [114, 111, 111, 109] 1) := ⟨_, rfl⟩
  have hs : SG.size = 14 := by rw [hSG]; exact sign_length 2 _ _ _ _ (by omega)
  have hl : LF.size = 2 := by rw [hLF]; exact leafOf_length 2 _ _ _ (by omega)
  have R0 := Lib.hid (fun u => shape_any u)
  have R1 := Lib.hid (show ∀ u, Calls Tryd.prog 8 #[.agg #[.int .i64 2, .int .i64 2]] u fun e w' => e = .returned (.bool true) ∧ Below u.heap.size u w' from fun u => right_yes 2 2 (by decide) u)
  have R2 := Lib.hid (show ∀ u, Calls Tryd.prog 10 #[.agg #[.int .i64 2, .int .i64 2]] u fun e w' => e = .returned (.int .i64 7) ∧ Below u.heap.size u w' from fun u => count_yes 2 2 (by decide) u)
  have R3 := Lib.hid (show ∀ u, Calls Tryd.prog 13 #[.agg #[.int .i64 2, .int .i64 2], .string ⟨#[0, 15]⟩] u fun e w' => ∃ v, e = .returned v ∧ w'.ownsRow u.heap.size 3 1 v 7 (Ints.intsV (digs 2 [0, 15])) ∧ Below u.heap.size u w' from fun u => digits_any 2 2 ⟨#[0, 15]⟩ u right_22)
  have R4 := Lib.hid (show ∀ u, Consts u → Calls Tryd.prog 19 #[.agg #[.int .i64 2, .int .i64 2], .string ⟨#[115, 101, 101, 100]⟩, .string ⟨#[114, 111, 111, 109]⟩, .int .i64 1, .string ⟨#[97, 98]⟩] u fun e w' => e = .returned (.string SG) ∧ Below u.heap.size u w' from
    fun u hu => sign_any 2 2 ⟨#[115, 101, 101, 100]⟩ ⟨#[114, 111, 111, 109]⟩ ⟨#[97, 98]⟩ 1 SG u right_22 (by decide) hSG hu)
  have R5 := Lib.hid (show ∀ u, Consts u → Calls Tryd.prog 17 #[.agg #[.int .i64 2, .int .i64 2], .string ⟨#[115, 101, 101, 100]⟩, .string ⟨#[114, 111, 111, 109]⟩, .int .i64 1] u fun e w' => e = .returned (.string LF) ∧ Below u.heap.size u w' from
    fun u hu => leaf_any 2 2 ⟨#[115, 101, 101, 100]⟩ ⟨#[114, 111, 111, 109]⟩ 1 LF u right_22 (by decide) hLF hu)
  have R6 := Lib.hid (show ∀ u, Consts u → Calls Tryd.prog 21 #[.agg #[.int .i64 2, .int .i64 2], .string ⟨#[114, 111, 111, 109]⟩, .int .i64 1, .string SG, .string ⟨#[97, 98]⟩] u fun e w' => e = .returned (.string LF) ∧ Below u.heap.size u w' from
    fun u hu => found_any 2 2 ⟨#[114, 111, 111, 109]⟩ SG ⟨#[97, 98]⟩ 1 LF u right_22 (by rw [hs]) (by decide) (by rw [hLF, hSG, tx_list]; exact congrArg tx (found_sign 2 [115, 101, 101, 100] [114, 111, 111, 109] 1 [97, 98] (by omega)).symm) hu)
  have R7 := Lib.hid (show ∀ u, Calls Tryd.prog 21 #[.agg #[.int .i64 2, .int .i64 2], .string ⟨#[114, 111, 111, 109]⟩, .int .i64 1, .string (SG.extract 1 SG.size), .string ⟨#[97, 98]⟩] u fun e w' => e = .returned (.string ⟨#[]⟩) ∧ Below u.heap.size u w' from
    fun u => found_other 2 2 right_22 ⟨#[114, 111, 111, 109]⟩ (SG.extract 1 SG.size) ⟨#[97, 98]⟩ 1 (by rw [ByteArray.size_extract, hs]; decide) u)
  have t1 : (SG.size : Int) = 14 := by rw [hs]; rfl
  have t2 : (LF.size : Int) = 2 := by rw [hl]; rfl
  have HK := Lib.hid hk
  clear hSG hLF hs hl hk
  go_enter Tryd.func7, Tryd.ntmps7
  go_wp2_with fail
  refine (R0.out _).mono ?_
  rintro e w1 ⟨rfl, hb1⟩
  go_upto_region 2 with (fail)
  have hb2 := hb1.alloc hb1.size (.cells #[.int .i64 2, .int .i64 2] 23)
  have hc0 : (w1.alloc (.cells #[.int .i64 2, .int .i64 2] 23)).cell? ⟨w1.heap.size, 0, none⟩ = some (.int .i64 2) := by simp
  have hc1 : (w1.alloc (.cells #[.int .i64 2, .int .i64 2] 23)).cell? ⟨w1.heap.size, 1, none⟩ = some (.int .i64 2) := by simp
  have hlt : w1.heap.size < (w1.alloc (.cells #[.int .i64 2, .int .i64 2] 23)).heap.size := by simp
  generalize w1.alloc (.cells #[.int .i64 2, .int .i64 2] 23) = w2 at *
  have HC := Lib.hid (fun (u : World) (q : Below w2.heap.size w2 u) => (⟨(q.cell (p := ⟨w1.heap.size, 0, none⟩) hlt).trans hc0, (q.cell (p := ⟨w1.heap.size, 1, none⟩) hlt).trans hc1, HK.out.below HK.out.1 (hb2.trans (q.mono hb2.size))⟩ : u.cell? ⟨w1.heap.size, 0, none⟩ = some (.int .i64 2) ∧ u.cell? ⟨w1.heap.size, 1, none⟩ = some (.int .i64 2) ∧ Consts u))
  have HB2 := Lib.hid hb2
  clear hb1 hb2 hc0 hc1 hlt
  obtain ⟨c0, c1, -⟩ := HC.out _ (Below.refl _ _)
  go_wp2_with fail
  refine (R3.out _).mono ?_
  rintro e w3 ⟨v, rfl, hown, hb3⟩
  obtain ⟨g, cp, cur, rfl, hg1, hg2, hg3, hg4⟩ := ints_row hown (by omega)
  have HW3 := Lib.hid hb3
  have HG3 := Lib.hid hg3
  clear c0 c1 hb3 hg1 hg3 hown
  obtain ⟨c0, c1, hk3⟩ := HC.out _ HW3.out
  have HK3 := Lib.hid hk3
  clear hk3
  go_wp2_with fail
  refine (R4.out _ HK3.out).mono ?_
  rintro e w4 ⟨rfl, hb4⟩
  have HW4 := Lib.hid (HW3.out.trans (hb4.mono HW3.out.size))
  have HG4 := Lib.hid ((hb4.block g (Array.getElem?_eq_some_iff.1 HG3.out).1).trans HG3.out)
  clear c0 c1 hb4 HG3
  go_upto_region 4 with (fail)
  have HC4 := Lib.hid (fun (u : World) (q : Below w4.heap.size w4 u) => HC.out u (HW4.out.trans (q.mono HW4.out.size)))
  have HD4 := Lib.hid (fun (u : World) (q : Below w4.heap.size w4 u) => (fun hu => (⟨hg4 u hu 3 15 digs_two.1, hg4 u hu 5 2 digs_two.2.1, hg4 u hu 6 13 digs_two.2.2⟩ : u.cell? ⟨g, 3, none⟩ = some (.int .i64 ((15 : Nat) : Int)) ∧ u.cell? ⟨g, 5, none⟩ = some (.int .i64 ((2 : Nat) : Int)) ∧ u.cell? ⟨g, 6, none⟩ = some (.int .i64 ((13 : Nat) : Int))))
    ((q.block g (Array.getElem?_eq_some_iff.1 HG4.out).1).trans HG4.out))
  have HD := Lib.hid (show ∀ (u : World), Below w4.heap.size w4 u → u.cell? ⟨g, 3, none⟩ = some (.int .i64 15) ∧ u.cell? ⟨g, 5, none⟩ = some (.int .i64 2) ∧ u.cell? ⟨g, 6, none⟩ = some (.int .i64 13) from HD4.out)
  have R5' := Lib.hid (fun (u : World) (q : Below w4.heap.size w4 u) => R5.out u (HC4.out u q).2.2)
  have R6' := Lib.hid (fun (u : World) (q : Below w4.heap.size w4 u) => R6.out u (HC4.out u q).2.2)
  clear hg4 HD4
  refine Steady.region 56 (by kernel_rfl) (by kernel_rfl) (fun u => Below w4.heap.size w4 u) ((Below.refl _ _).drew) ?_
  simp only [List.take_succ_cons, List.take_zero, List.drop_succ_cons, List.drop_zero]
  refine Steady.take ?_ rfl (by intro u hu; obtain ⟨c0, c1, -⟩ := HC4.out u hu; go_simp; with_reducible rfl) ?_
  simp only [Act.put, List.setIfInBounds_toArray, List.set_cons_zero, List.set_cons_succ]
  refine Steady.call _ _ _ rfl ?_ (Steady.kept R1.out) ?_
  · intro u
    go_simp
  simp only [Act.put, List.setIfInBounds_toArray, List.set_cons_zero, List.set_cons_succ]
  refine Steady.take ?_ rfl (by intro u hu; go_simp; with_reducible rfl) ?_
  simp only [Act.put, List.setIfInBounds_toArray, List.set_cons_zero, List.set_cons_succ]
  refine Steady.take ?_ rfl (by intro u hu; obtain ⟨c0, c1, -⟩ := HC4.out u hu; go_simp; with_reducible rfl) ?_
  simp only [Act.put, List.setIfInBounds_toArray, List.set_cons_zero, List.set_cons_succ]
  refine Steady.call _ _ _ rfl ?_ (Steady.kept R2.out) ?_
  · intro u
    go_simp
  simp only [Act.put, List.setIfInBounds_toArray, List.set_cons_zero, List.set_cons_succ]
  refine Steady.take ?_ rfl (by intro u hu; go_simp; with_reducible rfl) ?_
  simp only [Act.put, List.setIfInBounds_toArray, List.set_cons_zero, List.set_cons_succ]
  refine Steady.take ?_ rfl (by intro u hu; go_simp; with_reducible rfl) ?_
  simp only [Act.put, List.setIfInBounds_toArray, List.set_cons_zero, List.set_cons_succ]
  refine Steady.take ?_ rfl (by intro u hu; go_simp; with_reducible rfl) ?_
  simp only [Act.put, List.setIfInBounds_toArray, List.set_cons_zero, List.set_cons_succ]
  refine Steady.take ?_ rfl (by intro u hu; go_simp; with_reducible rfl) ?_
  simp only [Act.put, List.setIfInBounds_toArray, List.set_cons_zero, List.set_cons_succ]
  refine Steady.take ?_ rfl (by intro u hu; go_simp; with_reducible rfl) ?_
  simp only [Act.put, List.setIfInBounds_toArray, List.set_cons_zero, List.set_cons_succ]
  refine Steady.take ?_ rfl (by intro u hu; go_simp; with_reducible rfl) ?_
  simp only [Act.put, List.setIfInBounds_toArray, List.set_cons_zero, List.set_cons_succ]
  refine Steady.take ?_ rfl (by intro u hu; go_simp; with_reducible rfl) ?_
  simp only [Act.put, List.setIfInBounds_toArray, List.set_cons_zero, List.set_cons_succ]
  refine Steady.take ?_ rfl (by intro u hu; go_simp; with_reducible rfl) ?_
  simp only [Act.put, List.setIfInBounds_toArray, List.set_cons_zero, List.set_cons_succ]
  refine Steady.take ?_ rfl (by intro u hu; go_simp; with_reducible rfl) ?_
  simp only [Act.put, List.setIfInBounds_toArray, List.set_cons_zero, List.set_cons_succ]
  refine Steady.take ?_ rfl (by intro u hu; go_simp; with_reducible rfl) ?_
  simp only [Act.put, List.setIfInBounds_toArray, List.set_cons_zero, List.set_cons_succ]
  refine Steady.take ?_ rfl (by intro u hu; obtain ⟨d0, d1, d2⟩ := HD.out u hu; go_simp; with_reducible rfl) ?_
  simp only [Act.put, List.setIfInBounds_toArray, List.set_cons_zero, List.set_cons_succ]
  refine Steady.take ?_ rfl (by intro u hu; go_simp; with_reducible rfl) ?_
  simp only [Act.put, List.setIfInBounds_toArray, List.set_cons_zero, List.set_cons_succ]
  refine Steady.take ?_ rfl (by intro u hu; go_simp; with_reducible rfl) ?_
  simp only [Act.put, List.setIfInBounds_toArray, List.set_cons_zero, List.set_cons_succ]
  refine Steady.take ?_ rfl (by intro u hu; go_simp; with_reducible rfl) ?_
  simp only [Act.put, List.setIfInBounds_toArray, List.set_cons_zero, List.set_cons_succ]
  refine Steady.take ?_ rfl (by intro u hu; go_simp; with_reducible rfl) ?_
  simp only [Act.put, List.setIfInBounds_toArray, List.set_cons_zero, List.set_cons_succ]
  refine Steady.take ?_ rfl (by intro u hu; go_simp; with_reducible rfl) ?_
  simp only [Act.put, List.setIfInBounds_toArray, List.set_cons_zero, List.set_cons_succ]
  refine Steady.take ?_ rfl (by intro u hu; obtain ⟨d0, d1, d2⟩ := HD.out u hu; go_simp; with_reducible rfl) ?_
  simp only [Act.put, List.setIfInBounds_toArray, List.set_cons_zero, List.set_cons_succ]
  refine Steady.take ?_ rfl (by intro u hu; go_simp; with_reducible rfl) ?_
  simp only [Act.put, List.setIfInBounds_toArray, List.set_cons_zero, List.set_cons_succ]
  refine Steady.take ?_ rfl (by intro u hu; go_simp; with_reducible rfl) ?_
  simp only [Act.put, List.setIfInBounds_toArray, List.set_cons_zero, List.set_cons_succ]
  refine Steady.take ?_ rfl (by intro u hu; go_simp; with_reducible rfl) ?_
  simp only [Act.put, List.setIfInBounds_toArray, List.set_cons_zero, List.set_cons_succ]
  refine Steady.take ?_ rfl (by intro u hu; go_simp; with_reducible rfl) ?_
  simp only [Act.put, List.setIfInBounds_toArray, List.set_cons_zero, List.set_cons_succ]
  refine Steady.take ?_ rfl (by intro u hu; go_simp; with_reducible rfl) ?_
  simp only [Act.put, List.setIfInBounds_toArray, List.set_cons_zero, List.set_cons_succ]
  refine Steady.take ?_ rfl (by intro u hu; obtain ⟨d0, d1, d2⟩ := HD.out u hu; go_simp; with_reducible rfl) ?_
  simp only [Act.put, List.setIfInBounds_toArray, List.set_cons_zero, List.set_cons_succ]
  refine Steady.take ?_ rfl (by intro u hu; go_simp; with_reducible rfl) ?_
  simp only [Act.put, List.setIfInBounds_toArray, List.set_cons_zero, List.set_cons_succ]
  refine Steady.take ?_ rfl (by intro u hu; go_simp; with_reducible rfl) ?_
  simp only [Act.put, List.setIfInBounds_toArray, List.set_cons_zero, List.set_cons_succ]
  refine Steady.take ?_ rfl (by intro u hu; go_simp; with_reducible rfl) ?_
  simp only [Act.put, List.setIfInBounds_toArray, List.set_cons_zero, List.set_cons_succ]
  refine Steady.take ?_ rfl (by intro u hu; go_simp; with_reducible rfl) ?_
  simp only [Act.put, List.setIfInBounds_toArray, List.set_cons_zero, List.set_cons_succ]
  refine Steady.take ?_ rfl (by intro u hu; go_simp; with_reducible rfl) ?_
  simp only [Act.put, List.setIfInBounds_toArray, List.set_cons_zero, List.set_cons_succ]
  refine Steady.take ?_ rfl (by intro u hu; go_simp; with_reducible rfl) ?_
  simp only [Act.put, List.setIfInBounds_toArray, List.set_cons_zero, List.set_cons_succ]
  refine Steady.take ?_ rfl (by intro u hu; go_simp; with_reducible rfl) ?_
  simp only [Act.put, List.setIfInBounds_toArray, List.set_cons_zero, List.set_cons_succ]
  refine Steady.take ?_ rfl (by intro u hu; go_simp; with_reducible rfl) ?_
  simp only [Act.put, List.setIfInBounds_toArray, List.set_cons_zero, List.set_cons_succ]
  refine Steady.take ?_ rfl (by intro u hu; obtain ⟨c0, c1, -⟩ := HC4.out u hu; go_simp; with_reducible rfl) ?_
  simp only [Act.put, List.setIfInBounds_toArray, List.set_cons_zero, List.set_cons_succ]
  refine Steady.take ?_ rfl (by intro u hu; go_simp; with_reducible rfl) ?_
  simp only [Act.put, List.setIfInBounds_toArray, List.set_cons_zero, List.set_cons_succ]
  refine Steady.call _ _ _ rfl ?_ (keptIf R6'.out) ?_
  · intro u
    go_simp
  simp only [Act.put, List.setIfInBounds_toArray, List.set_cons_zero, List.set_cons_succ]
  refine Steady.take ?_ rfl (by intro u hu; obtain ⟨c0, c1, -⟩ := HC4.out u hu; go_simp; with_reducible rfl) ?_
  simp only [Act.put, List.setIfInBounds_toArray, List.set_cons_zero, List.set_cons_succ]
  refine Steady.call _ _ _ rfl ?_ (keptIf R5'.out) ?_
  · intro u
    go_simp
  simp only [Act.put, List.setIfInBounds_toArray, List.set_cons_zero, List.set_cons_succ]
  refine Steady.take ?_ rfl (by intro u hu; go_simp; with_reducible rfl) ?_
  simp only [Act.put, List.setIfInBounds_toArray, List.set_cons_zero, List.set_cons_succ]
  refine Steady.take ?_ rfl (by intro u hu; go_simp; with_reducible rfl) ?_
  simp only [Act.put, List.setIfInBounds_toArray, List.set_cons_zero, List.set_cons_succ]
  refine Steady.take ?_ rfl (by intro u hu; go_simp; with_reducible rfl) ?_
  simp only [Act.put, List.setIfInBounds_toArray, List.set_cons_zero, List.set_cons_succ]
  refine Steady.take ?_ rfl (by intro u hu; obtain ⟨c0, c1, -⟩ := HC4.out u hu; go_simp; with_reducible rfl) ?_
  simp only [Act.put, List.setIfInBounds_toArray, List.set_cons_zero, List.set_cons_succ]
  refine Steady.call _ _ _ rfl ?_ (keptIf R5'.out) ?_
  · intro u
    go_simp
  simp only [Act.put, List.setIfInBounds_toArray, List.set_cons_zero, List.set_cons_succ]
  refine Steady.take ?_ rfl (by intro u hu; go_simp; with_reducible rfl) ?_
  simp only [Act.put, List.setIfInBounds_toArray, List.set_cons_zero, List.set_cons_succ]
  refine Steady.take ?_ rfl (by intro u hu; go_simp; with_reducible rfl) ?_
  simp only [Act.put, List.setIfInBounds_toArray, List.set_cons_zero, List.set_cons_succ]
  refine Steady.take ?_ rfl (by intro u hu; go_simp; with_reducible rfl) ?_
  simp only [Act.put, List.setIfInBounds_toArray, List.set_cons_zero, List.set_cons_succ]
  refine Steady.take ?_ rfl (by intro u hu; go_simp; with_reducible rfl) ?_
  simp only [Act.put, List.setIfInBounds_toArray, List.set_cons_zero, List.set_cons_succ]
  refine Steady.take ?_ rfl (by intro u hu; obtain ⟨c0, c1, -⟩ := HC4.out u hu; go_simp; with_reducible rfl) ?_
  simp only [Act.put, List.setIfInBounds_toArray, List.set_cons_zero, List.set_cons_succ]
  refine Steady.take ?_ rfl (by intro u hu; go_simp; with_reducible rfl) ?_
  simp only [Act.put, List.setIfInBounds_toArray, List.set_cons_zero, List.set_cons_succ]
  refine Steady.take ?_ rfl (by intro u hu; go_simp; with_reducible rfl) ?_
  simp only [Act.put, List.setIfInBounds_toArray, List.set_cons_zero, List.set_cons_succ]
  refine Steady.call _ _ _ rfl ?_ (Steady.kept R7.out) ?_
  · intro u
    go_simp
  simp only [Act.put, List.setIfInBounds_toArray, List.set_cons_zero, List.set_cons_succ]
  refine Steady.take ?_ rfl (by intro u hu; go_simp; with_reducible rfl) ?_
  simp only [Act.put, List.setIfInBounds_toArray, List.set_cons_zero, List.set_cons_succ]
  refine Steady.take ?_ rfl (by intro u hu; go_simp; with_reducible rfl) ?_
  simp only [Act.put, List.setIfInBounds_toArray, List.set_cons_zero, List.set_cons_succ]
  refine Steady.nil ?_
  intro w5 hb5
  have HB5 := Lib.hid (HB2.out.trans ((HW4.out.trans (hb5.mono HW4.out.size)).mono HB2.out.size))
  clear hb5
  go_wp2
  go_ret
  exact ⟨rfl, HB5.out⟩
end Go.Proofs.YtjhilaiilckalaaDoor.Chn
