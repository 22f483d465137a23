/-
  The laws' own example of layer 8 answers true, and leaves all memory that was there as it was. Condition: the constant table of package digest lies as the program's text lays it.
-/
import Derived.Test.YtncafbejgidliaaDoorGrvE
namespace Go.Proofs.YtncafbejgidliaaDoor.Grv
open Go.RowKit Mur Sha Chn
set_option maxRecDepth 100000

theorem right_two : Right ((2 : Nat) : Int) ((2 : Nat) : Int) := by decide

set_option maxHeartbeats 6400000 in
theorem awake_any (w : World) (hk : Consts w) : Calls Tryd.prog 7 #[] w fun e w' => e = .returned (.bool true) ∧ Below w.heap.size w w' := by
  obtain ⟨RT, hRT⟩ : ∃ M : ByteArray, M = tx (node 2 [115] [114] 2 0) := ⟨_, rfl⟩
  obtain ⟨PA, hPA⟩ : ∃ M : ByteArray, M = tx (path 2 2 [115] [114] 3) := ⟨_, rfl⟩
  obtain ⟨LF, hLF⟩ : ∃ M : ByteArray, M = tx (leafOf 2 [115] [114] ((3 : Nat) : Int)) := ⟨_, rfl⟩
  have hs : PA.size = 4 := by rw [hPA]; exact path_length 2 2 [115] [114] 3 (by omega)
  have hl : RT.size = 2 := by rw [hRT]; exact node_length 2 _ _ _ _ (by omega)
  have hlf : LF.size = 2 := by rw [hLF]; exact leafOf_length 2 _ _ _ (by omega)
  have hcl : RT = tx (climb 2 [114] 3 LF.data.toList PA.data.toList 2) := by
    rw [hRT, hLF, hPA, tx_list, tx_list, climb_path 2 2 [115] [114] 3 (by omega) 2 (Nat.le_refl _)]
  have R1 := Lib.hid (show ∀ u, Consts u → Calls Tryd.prog 8 #[.agg #[.int .i64 2, .int .i64 2], .string ⟨#[115]⟩, .string ⟨#[114]⟩, .agg #[.int .i64 2, .int .i64 0]] u fun e w' => e = .returned (.string RT) ∧ Below u.heap.size u w' from
    fun u hu => node_any 2 2 2 0 ⟨#[115]⟩ ⟨#[114]⟩ RT u right_two (by omega) (by decide) (by decide) hRT hu)
  have R2 := Lib.hid (show ∀ u, Consts u → Calls Tryd.prog 10 #[.agg #[.int .i64 2, .int .i64 2], .string ⟨#[115]⟩, .string ⟨#[114]⟩, .int .i64 3] u fun e w' => e = .returned (.string PA) ∧ Below u.heap.size u w' from
    fun u hu => path_any 2 2 3 ⟨#[115]⟩ ⟨#[114]⟩ PA u right_two (by decide) (by decide) hPA hu)
  have R3 := Lib.hid (show ∀ u, Consts u → Calls Tryd.prog 14 #[.agg #[.int .i64 2, .int .i64 2], .string ⟨#[115]⟩, .string ⟨#[114]⟩, .int .i64 3] u fun e w' => e = .returned (.string LF) ∧ Below u.heap.size u w' from
    fun u hu => leaf_any 2 2 ⟨#[115]⟩ ⟨#[114]⟩ 3 LF u (by decide) (by decide) hLF hu)
  have R4 := Lib.hid (show ∀ u, Consts u → Calls Tryd.prog 12 #[.agg #[.int .i64 2, .int .i64 2], .string ⟨#[114]⟩, .int .i64 3, .string LF, .string PA] u fun e w' => e = .returned (.string RT) ∧ Below u.heap.size u w' from
    fun u hu => climb_any 2 2 3 ⟨#[114]⟩ LF PA RT u right_two (by decide) (by rw [hs]) (by show 1 + LF.size ≤ _; omega) hcl hu)
  have R5 := Lib.hid (show ∀ u, Calls Tryd.prog 8 #[.agg #[.int .i64 2, .int .i64 2], .string ⟨#[115]⟩, .string ⟨#[114]⟩, .agg #[.int .i64 3, .int .i64 0]] u fun e w' => e = .returned (.string ⟨#[]⟩) ∧ Below u.heap.size u w' from
    fun u => node_no 2 2 3 0 ⟨#[115]⟩ ⟨#[114]⟩ u (fun h => by have := h.2.2.1; omega))
  have R6 := Lib.hid (show ∀ u, Calls Tryd.prog 12 #[.agg #[.int .i64 2, .int .i64 2], .string ⟨#[114]⟩, .int .i64 3, .string ⟨#[97, 98]⟩, .string ⟨#[]⟩] u fun e w' => e = .returned (.string ⟨#[]⟩) ∧ Below u.heap.size u w' from
    fun u => climb_no 2 2 3 ⟨#[114]⟩ ⟨#[97, 98]⟩ ⟨#[]⟩ u (fun h => absurd h.2.2.2 (by decide)))
  have R7 := Lib.hid (show ∀ u, Calls Tryd.prog 10 #[.agg #[.int .i64 2, .int .i64 2], .string ⟨#[115]⟩, .string ⟨#[114]⟩, .int .i64 4] u fun e w' => e = .returned (.string ⟨#[]⟩) ∧ Below u.heap.size u w' from
    fun u => path_no 2 2 4 ⟨#[115]⟩ ⟨#[114]⟩ u (fun h => absurd h.2.2 (by decide)))
  have t1 : (RT.size : Int) = 2 := by rw [hl]; rfl
  have t2 : (PA.size : Int) = 4 := by rw [hs]; rfl
  have HK := Lib.hid hk
  clear hRT hPA hLF hs hl hlf hcl hk
  go_enter Tryd.func7, Tryd.ntmps7
  go_upto_region 2 with (fail)
  have hb2 := (Below.refl w.heap.size w).alloc (Nat.le_refl _) (.cells #[.int .i64 2, .int .i64 2] 23)
  have hc0 : (w.alloc (.cells #[.int .i64 2, .int .i64 2] 23)).cell? ⟨w.heap.size, 0, none⟩ = some (.int .i64 2) := by simp
  have hc1 : (w.alloc (.cells #[.int .i64 2, .int .i64 2] 23)).cell? ⟨w.heap.size, 1, none⟩ = some (.int .i64 2) := by simp
  have hlt : w.heap.size < (w.alloc (.cells #[.int .i64 2, .int .i64 2] 23)).heap.size := by simp
  generalize w.alloc (.cells #[.int .i64 2, .int .i64 2] 23) = w2 at *
  have HC := Lib.hid (fun (u : World) (q : Below w2.heap.size w2 u) => (⟨(q.cell (p := ⟨w.heap.size, 0, none⟩) hlt).trans hc0, (q.cell (p := ⟨w.heap.size, 1, none⟩) hlt).trans hc1, HK.out.below HK.out.1 (hb2.trans (q.mono hb2.size))⟩ : u.cell? ⟨w.heap.size, 0, none⟩ = some (.int .i64 2) ∧ u.cell? ⟨w.heap.size, 1, none⟩ = some (.int .i64 2) ∧ Consts u))
  have HB2 := Lib.hid hb2
  clear hb2 hc0 hc1 hlt
  obtain ⟨c0, c1, hk2⟩ := HC.out _ (Below.refl _ _)
  have HK2 := Lib.hid hk2
  clear hk2
  go_wp2_with fail
  refine (R1.out _ HK2.out).mono ?_
  rintro e w3 ⟨rfl, hb3⟩
  have HW3 := Lib.hid hb3
  clear c0 c1 hb3
  obtain ⟨c0, c1, hk3⟩ := HC.out _ HW3.out
  have HK3 := Lib.hid hk3
  clear hk3
  go_wp2_with fail
  refine (R2.out _ HK3.out).mono ?_
  rintro e w4 ⟨rfl, hb4⟩
  have HW4 := Lib.hid (HW3.out.trans (hb4.mono HW3.out.size))
  clear c0 c1 hb4
  go_upto_region 4 with (fail)
  have HC4 := Lib.hid (fun (u : World) (q : Below w4.heap.size w4 u) => HC.out u (HW4.out.trans (q.mono HW4.out.size)))
  have S3 := Lib.hid (fun (u : World) (q : Below w4.heap.size w4 u) => R3.out u (HC4.out u q).2.2)
  have S4 := Lib.hid (fun (u : World) (q : Below w4.heap.size w4 u) => R4.out u (HC4.out u q).2.2)
  refine Steady.region 33 (by kernel_rfl) (by kernel_rfl) (fun u => Below w4.heap.size w4 u) ((Below.refl _ _).drew) ?_
  simp only [List.take_succ_cons, List.take_zero, List.drop_succ_cons, List.drop_zero]
  refine Steady.take ?_ rfl (by intro u hu; go_simp; with_reducible rfl) ?_
  simp only [Act.put, List.setIfInBounds_toArray, List.set_cons_zero, List.set_cons_succ]
  refine Steady.take ?_ rfl (by intro u hu; go_simp; with_reducible rfl) ?_
  simp only [Act.put, List.setIfInBounds_toArray, List.set_cons_zero, List.set_cons_succ]
  refine Steady.take ?_ rfl (by intro u hu; go_simp; with_reducible rfl) ?_
  simp only [Act.put, List.setIfInBounds_toArray, List.set_cons_zero, List.set_cons_succ]
  refine Steady.take ?_ rfl (by intro u hu; go_simp; with_reducible rfl) ?_
  simp only [Act.put, List.setIfInBounds_toArray, List.set_cons_zero, List.set_cons_succ]
  refine Steady.take ?_ rfl (by intro u hu; go_simp; with_reducible rfl) ?_
  simp only [Act.put, List.setIfInBounds_toArray, List.set_cons_zero, List.set_cons_succ]
  refine Steady.take ?_ rfl (by intro u hu; go_simp; with_reducible rfl) ?_
  simp only [Act.put, List.setIfInBounds_toArray, List.set_cons_zero, List.set_cons_succ]
  refine Steady.take ?_ rfl (by intro u hu; go_simp; with_reducible rfl) ?_
  simp only [Act.put, List.setIfInBounds_toArray, List.set_cons_zero, List.set_cons_succ]
  refine Steady.take ?_ rfl (by intro u hu; go_simp; with_reducible rfl) ?_
  simp only [Act.put, List.setIfInBounds_toArray, List.set_cons_zero, List.set_cons_succ]
  refine Steady.take ?_ rfl (by intro u hu; go_simp; with_reducible rfl) ?_
  simp only [Act.put, List.setIfInBounds_toArray, List.set_cons_zero, List.set_cons_succ]
  refine Steady.take ?_ rfl (by intro u hu; obtain ⟨c0, c1, -⟩ := HC4.out u hu; go_simp; with_reducible rfl) ?_
  simp only [Act.put, List.setIfInBounds_toArray, List.set_cons_zero, List.set_cons_succ]
  refine Steady.take ?_ rfl (by intro u hu; obtain ⟨c0, c1, -⟩ := HC4.out u hu; go_simp; with_reducible rfl) ?_
  simp only [Act.put, List.setIfInBounds_toArray, List.set_cons_zero, List.set_cons_succ]
  refine Steady.call _ _ _ rfl ?_ (keptIf S3.out) ?_
  · intro u
    go_simp
  simp only [Act.put, List.setIfInBounds_toArray, List.set_cons_zero, List.set_cons_succ]
  refine Steady.take ?_ rfl (by intro u hu; go_simp; with_reducible rfl) ?_
  simp only [Act.put, List.setIfInBounds_toArray, List.set_cons_zero, List.set_cons_succ]
  refine Steady.call _ _ _ rfl ?_ (keptIf S4.out) ?_
  · intro u
    go_simp
  simp only [Act.put, List.setIfInBounds_toArray, List.set_cons_zero, List.set_cons_succ]
  refine Steady.take ?_ rfl (by intro u hu; go_simp; with_reducible rfl) ?_
  simp only [Act.put, List.setIfInBounds_toArray, List.set_cons_zero, List.set_cons_succ]
  refine Steady.take ?_ rfl (by intro u hu; go_simp; with_reducible rfl) ?_
  simp only [Act.put, List.setIfInBounds_toArray, List.set_cons_zero, List.set_cons_succ]
  refine Steady.take ?_ rfl (by intro u hu; go_simp; with_reducible rfl) ?_
  simp only [Act.put, List.setIfInBounds_toArray, List.set_cons_zero, List.set_cons_succ]
  refine Steady.take ?_ rfl (by intro u hu; go_simp; with_reducible rfl) ?_
  simp only [Act.put, List.setIfInBounds_toArray, List.set_cons_zero, List.set_cons_succ]
  refine Steady.take ?_ rfl (by intro u hu; obtain ⟨c0, c1, -⟩ := HC4.out u hu; go_simp; with_reducible rfl) ?_
  simp only [Act.put, List.setIfInBounds_toArray, List.set_cons_zero, List.set_cons_succ]
  refine Steady.take ?_ rfl (by intro u hu; go_simp; with_reducible rfl) ?_
  simp only [Act.put, List.setIfInBounds_toArray, List.set_cons_zero, List.set_cons_succ]
  refine Steady.call _ _ _ rfl ?_ (Steady.kept R5.out) ?_
  · intro u
    go_simp
  simp only [Act.put, List.setIfInBounds_toArray, List.set_cons_zero, List.set_cons_succ]
  refine Steady.take ?_ rfl (by intro u hu; go_simp; with_reducible rfl) ?_
  simp only [Act.put, List.setIfInBounds_toArray, List.set_cons_zero, List.set_cons_succ]
  refine Steady.take ?_ rfl (by intro u hu; go_simp; with_reducible rfl) ?_
  simp only [Act.put, List.setIfInBounds_toArray, List.set_cons_zero, List.set_cons_succ]
  refine Steady.take ?_ rfl (by intro u hu; go_simp; with_reducible rfl) ?_
  simp only [Act.put, List.setIfInBounds_toArray, List.set_cons_zero, List.set_cons_succ]
  refine Steady.take ?_ rfl (by intro u hu; obtain ⟨c0, c1, -⟩ := HC4.out u hu; go_simp; with_reducible rfl) ?_
  simp only [Act.put, List.setIfInBounds_toArray, List.set_cons_zero, List.set_cons_succ]
  refine Steady.call _ _ _ rfl ?_ (Steady.kept R6.out) ?_
  · intro u
    go_simp
  simp only [Act.put, List.setIfInBounds_toArray, List.set_cons_zero, List.set_cons_succ]
  refine Steady.take ?_ rfl (by intro u hu; go_simp; with_reducible rfl) ?_
  simp only [Act.put, List.setIfInBounds_toArray, List.set_cons_zero, List.set_cons_succ]
  refine Steady.take ?_ rfl (by intro u hu; go_simp; with_reducible rfl) ?_
  simp only [Act.put, List.setIfInBounds_toArray, List.set_cons_zero, List.set_cons_succ]
  refine Steady.take ?_ rfl (by intro u hu; go_simp; with_reducible rfl) ?_
  simp only [Act.put, List.setIfInBounds_toArray, List.set_cons_zero, List.set_cons_succ]
  refine Steady.take ?_ rfl (by intro u hu; obtain ⟨c0, c1, -⟩ := HC4.out u hu; go_simp; with_reducible rfl) ?_
  simp only [Act.put, List.setIfInBounds_toArray, List.set_cons_zero, List.set_cons_succ]
  refine Steady.call _ _ _ rfl ?_ (Steady.kept R7.out) ?_
  · intro u
    go_simp
  simp only [Act.put, List.setIfInBounds_toArray, List.set_cons_zero, List.set_cons_succ]
  refine Steady.take ?_ rfl (by intro u hu; go_simp; with_reducible rfl) ?_
  simp only [Act.put, List.setIfInBounds_toArray, List.set_cons_zero, List.set_cons_succ]
  refine Steady.take ?_ rfl (by intro u hu; go_simp; with_reducible rfl) ?_
  simp only [Act.put, List.setIfInBounds_toArray, List.set_cons_zero, List.set_cons_succ]
  refine Steady.nil ?_
  intro w5 hb5
  have HB5 := Lib.hid (HB2.out.trans ((HW4.out.trans (hb5.mono HW4.out.size)).mono HB2.out.size))
  clear hb5
  go_wp2
  go_ret
  exact ⟨rfl, HB5.out⟩
end Go.Proofs.YtncafbejgidliaaDoor.Grv
