/-
  The statements' own example answers true, and leaves all memory that was there as it was. Condition: the constant table lies as the program's text lays it.
-/
import Derived.Test.YtlecmpmfgeneoaaDoorDigOf
import Derived.Laws.StructEq
namespace Go.Proofs.YtlecmpmfgeneoaaDoor.Sha
open Go.RowKit Mur

theorem start_lit (w : World) :
    Calls Tryd.prog 8 #[] w fun e w' => e = .returned (.agg #[.int .u32 1779033703, .int .u32 3144134277, .int .u32 1013904242, .int .u32 2773480762, .int .u32 1359893119, .int .u32 2600822924, .int .u32 528734635, .int .u32 1541459225]) ∧ Below w.heap.size w w' := start_any w
theorem block_none (w : World) :
    Calls Tryd.prog 12 #[.agg #[.int .u32 1779033703, .int .u32 3144134277, .int .u32 1013904242, .int .u32 2773480762, .int .u32 1359893119, .int .u32 2600822924, .int .u32 528734635, .int .u32 1541459225], .string ⟨#[]⟩] w
      fun e w' => e = .returned (.agg #[.int .u32 1779033703, .int .u32 3144134277, .int .u32 1013904242, .int .u32 2773480762, .int .u32 1359893119, .int .u32 2600822924, .int .u32 528734635, .int .u32 1541459225]) ∧ Below w.heap.size w w' := block_other start ⟨#[]⟩ w (by decide)

theorem parts_two (A B : ByteArray) (b : Nat) (w : World) (hs : A.size + B.size ≤ 140737488351224) (hb : b < w.heap.size) (h0 : w.cell? ⟨b, 0, none⟩ = some (.string A)) (h1 : w.cell? ⟨b, 1, none⟩ = some (.string B)) (hk : Consts w) :
    Calls Tryd.prog 16 #[.slice (some ⟨b, 0, none⟩) 2 2] w fun e w' => e = .returned (.string ⟨(sha (parts [A.data.toList, B.data.toList])).toArray⟩) ∧ Below w.heap.size w w' :=
  parts_any [A, B] b 0 2 w hb (by show 2 ≤ _; omega) (fun i hi => by
    obtain rfl | rfl : i = 0 ∨ i = 1 := by have : [A, B].length = 2 := rfl; omega
    · exact h0
    · exact h1) (by show 0 + (4 + A.size) + (4 + B.size) ≤ _; omega) hk
theorem parts_one (A : ByteArray) (b : Nat) (w : World) (hs : A.size ≤ 140737488351224) (hb : b < w.heap.size) (h0 : w.cell? ⟨b, 0, none⟩ = some (.string A)) (hk : Consts w) :
    Calls Tryd.prog 16 #[.slice (some ⟨b, 0, none⟩) 1 1] w fun e w' => e = .returned (.string ⟨(sha (parts [A.data.toList])).toArray⟩) ∧ Below w.heap.size w w' :=
  parts_any [A] b 0 1 w hb (by show 1 ≤ _; omega) (fun i hi => by
    obtain rfl : i = 0 := by have : [A].length = 1 := rfl; omega
    exact h0) (by show 0 + (4 + A.size) ≤ _; omega) hk

/-- '==' of eight words with themselves. -/
theorem eq_same (a b c d e f g h : Int) (w : World) : (Op.equalIn 10000 23 (.agg #[.int .u32 a, .int .u32 b, .int .u32 c, .int .u32 d, .int .u32 e, .int .u32 f, .int .u32 g, .int .u32 h]) (.agg #[.int .u32 a, .int .u32 b, .int .u32 c, .int .u32 d, .int .u32 e, .int .u32 f, .int .u32 g, .int .u32 h])).run Tryd.prog w = .ok true w := by
  have u22 := Tryd.underlying22
  have a22 := Tryd.isAgg22
  have z22 := Tryd.sizeOf22
  rw [show (10000 : Nat) = 9999 + 1 from rfl, Op.equalIn]
  simp only [Sem.run_bind, run_underlying Tryd.underlying23, Result.andThen_ok]
  simp only [Std.Legacy.Range.forIn_eq_forIn_range', Std.Legacy.Range.size, Nat.sub_zero, Nat.add_sub_cancel, Nat.div_one, List.range'_succ, List.range'_zero, List.forIn_cons, List.forIn_nil]
  go_simp
theorem index_lit (w : World) : (Instr.index 23 (.agg #[.int .u32 1779033703, .int .u32 3144134277, .int .u32 1013904242, .int .u32 2773480762, .int .u32 1359893119, .int .u32 2600822924, .int .u32 528734635, .int .u32 1541459225]) (.int .i64 7)).run Tryd.prog w = .ok (.int .u32 1541459225) w := by
  kernel_rfl

set_option maxHeartbeats 1600000 in
theorem awake_any (w : World) (hk : Consts w) :
    Calls Tryd.prog 7 #[] w fun e w' => e = .returned (.bool true) ∧ Below w.heap.size w w' := by
  have HK := Lib.hid hk
  clear hk
  obtain ⟨A, hA⟩ : ∃ A : ByteArray, A = ⟨(sha [97, 98, 99]).toArray⟩ := ⟨_, rfl⟩
  obtain ⟨P1, hP1⟩ : ∃ P : ByteArray, P = ⟨(sha (parts [[97], [98]])).toArray⟩ := ⟨_, rfl⟩
  obtain ⟨P2, hP2⟩ : ∃ P : ByteArray, P = ⟨(sha (parts [[97, 98]])).toArray⟩ := ⟨_, rfl⟩
  have hof : ∀ u, Consts u → Calls Tryd.prog 14 #[.string ⟨#[97, 98, 99]⟩] u fun e w' => e = .returned (.string A) ∧ Below u.heap.size u w' := fun u hu => by
    rw [hA]; exact of_any ⟨#[97, 98, 99]⟩ u (by decide) hu
  have hp1 : ∀ u b, b < u.heap.size → u.cell? ⟨b, 0, none⟩ = some (.string ⟨#[97]⟩) → u.cell? ⟨b, 1, none⟩ = some (.string ⟨#[98]⟩) → Consts u → Calls Tryd.prog 16 #[.slice (some ⟨b, 0, none⟩) 2 2] u fun e w' => e = .returned (.string P1) ∧ Below u.heap.size u w' := fun u b hb h0 h1 hu => by
    rw [hP1]; exact parts_two ⟨#[97]⟩ ⟨#[98]⟩ b u (by decide) hb h0 h1 hu
  have hp2 : ∀ u b, b < u.heap.size → u.cell? ⟨b, 0, none⟩ = some (.string ⟨#[97, 98]⟩) → Consts u → Calls Tryd.prog 16 #[.slice (some ⟨b, 0, none⟩) 1 1] u fun e w' => e = .returned (.string P2) ∧ Below u.heap.size u w' := fun u b hb h0 hu => by
    rw [hP2]; exact parts_one ⟨#[97, 98]⟩ b u (by decide) hb h0 hu
  have hs : A.size = 32 := by rw [hA]; exact finish_length _ _ _
  have t1 : ((A.size : Int) == 32) = true := by rw [hs]; rfl
  have t2 : (4 : Int) ≤ (A.size : Int) := by omega
  have t3 : ((A.extract 0 4).toList == [186, 120, 22, 191]) = true := by
    rw [ByteArray.toList_eq, extract_take, hA]
    show ((sha [97, 98, 99]).take 4 == _) = true
    rw [sha_abc]
    rfl
  have t4 : (P1.toList == P2.toList) = false := by
    rw [ByteArray.toList_eq, ByteArray.toList_eq, hP1, hP2]
    show ((sha (parts [[97], [98]])) == (sha (parts [[97, 98]]))) = false
    rw [beq_eq_false_iff_ne]
    intro h
    exact cast sha_parts h
  have t5 : (!(P1.toList == P2.toList)) = true := by rw [t4]; rfl
  have HOF := Lib.hid hof
  have HP1 := Lib.hid hp1
  have HP2 := Lib.hid hp2
  clear hof hA hP1 hP2 hs hp1 hp2
  go_enter Tryd.func7, Tryd.ntmps7
  go_wp2_with fail
  refine (HOF.out _ HK.out).mono ?_
  rintro e w1 ⟨rfl, hb1⟩
  have HB1 := Lib.hid hb1
  clear hb1
  go_wp2_with fail
  refine (start_lit _).mono ?_
  rintro e w2 ⟨rfl, hb2⟩
  have hbel2 := HB1.out.trans (hb2.mono HB1.out.size)
  have HB2 := Lib.hid hbel2
  clear hb2 hbel2 HB1
  go_wp2_with fail
  have hix := index_lit w2
  rw [hix]
  go_wp2_with fail
  refine (HP1.out _ w2.heap.size (by simp) (by simp [World.cell?_alloc_new]) (by simp [World.cell?_alloc_new]) (HK.out.below HK.out.1 (HB2.out.alloc HB2.out.size _))).mono ?_
  rintro e w3 ⟨rfl, hb3⟩
  have hbel3 := (HB2.out.alloc HB2.out.size _).trans (hb3.mono (HB2.out.alloc HB2.out.size _).size)
  have HB3 := Lib.hid hbel3
  clear hb3 hbel3 HB2 hix
  go_wp2_with fail
  refine (HP2.out _ w3.heap.size (by simp) (by simp [World.cell?_alloc_new]) (HK.out.below HK.out.1 (HB3.out.alloc HB3.out.size _))).mono ?_
  rintro e w4 ⟨rfl, hb4⟩
  have hbel4 := (HB3.out.alloc HB3.out.size _).trans (hb4.mono (HB3.out.alloc HB3.out.size _).size)
  have HB4 := Lib.hid hbel4
  clear hb4 hbel4 HB3
  go_wp2_with fail
  refine (start_lit _).mono ?_
  rintro e w5 ⟨rfl, hb5⟩
  have hbel5 := HB4.out.trans (hb5.mono HB4.out.size)
  have HB5 := Lib.hid hbel5
  clear hb5 hbel5 HB4
  go_wp2_with fail
  refine (block_none _).mono ?_
  rintro e w6 ⟨rfl, hb6⟩
  have hbel6 := HB5.out.trans (hb6.mono HB5.out.size)
  have HB6 := Lib.hid hbel6
  clear hb6 hbel6 HB5
  go_wp2_with fail
  refine (start_lit _).mono ?_
  rintro e w7 ⟨rfl, hb7⟩
  have hbel7 := HB6.out.trans (hb7.mono HB6.out.size)
  have HB7 := Lib.hid hbel7
  clear hb7 hbel7 HB6
  have heq := fun w => eq_same 1779033703 3144134277 1013904242 2773480762 1359893119 2600822924 528734635 1541459225 w
  go_wp2
  go_ret
  exact ⟨rfl, HB7.out⟩
end Go.Proofs.YtlecmpmfgeneoaaDoor.Sha
