/-
  Several texts as one (StpT, StpF, StpG). tagOf of package stamp answers what the plain mathematics of the text Stp says, and leaves all memory that was there as it was. Conditions: the head has no more than 2^38 bytes; the constant table of package digest lies as the program's text lays it. Keep of package stamp answers what the plain mathematics of the text Stp says, and leaves all memory that was there as it was. Conditions: a Seed has no more bytes than the reach of the form; the constant table of package digest lies as the program's text lays it. Load of package stamp answers what the plain mathematics of the text Stp says, and leaves all memory that was there as it was. Conditions: the bytes are no more than 2^38; the constant table of package digest lies as the program's text lays it.
-/
import Derived.Test.YtkchbilkmoemaaaDoorMStp
import Derived.Test.YtkchbilkmoemaaaDoorMWk
namespace Go.Proofs.YtkchbilkmoemaaaDoor.Stp
open Go.RowKit Mur Sha Chn Grv
set_option maxRecDepth 100000

theorem tag_any (s T : ByteArray) (w : World) (hs : s.size ≤ 274877906944) (hT : T = tx (tagOf s.data.toList)) (hk : Consts w) :
    Calls Tryd.prog 33 #[.string s] w fun e w' => e = .returned (.string T) ∧ Below w.heap.size w w' := by
  obtain ⟨D, hD⟩ : ∃ D, D = tx (sha (parts [keepT, s.data.toList])) := ⟨_, rfl⟩
  have hcut : D.extract 0 4 = T := cut_take D T 4 _ hD hT
  have hDs : D.size = 32 := by rw [hD]; exact sha_length _
  have RP := Lib.hid (fun (b : Nat) (u : World) (hb : b < u.heap.size) (c0 : u.cell? ⟨b, 0, none⟩ = some (.string ⟨#[107, 101, 101, 112]⟩)) (c1 : u.cell? ⟨b, 1, none⟩ = some (.string s)) (hu : Consts u) => parts_two ⟨#[107, 101, 101, 112]⟩ s b D u (by show 4 + s.size ≤ _; omega) hD hb c0 c1 hu)
  have HK := Lib.hid hk
  have h4 : (4 : Int) ≤ D.size := by omega
  clear hD hk hT
  have hB := (Below.refl w.heap.size w).alloc (Nat.le_refl _) (.cells #[.string ⟨#[107, 101, 101, 112]⟩, .string s] 9)
  go_enter Tryd.func33, Tryd.ntmps33
  go_wp2_with fail
  refine (RP.out _ _ (by simp) (by simp) (by simp) (HK.out.below HK.out.1 hB)).mono ?_
  rintro e w1 ⟨rfl, hb⟩
  go_wp2
  go_ret
  exact ⟨rfl, hB.trans (hb.mono hB.size)⟩

end Go.Proofs.YtkchbilkmoemaaaDoor.Stp

namespace Go.Proofs.YtkchbilkmoemaaaDoor.Stp
open Go.RowKit Mur Sha Chn Grv
set_option maxRecDepth 100000

set_option maxHeartbeats 1600000 in
theorem keep_no (n h nx : Int) (seed : ByteArray) (w : World) (hs : seed.size ≤ 140737488351232) (hno : ¬ Keeps n h nx seed.size) :
    Calls Tryd.prog 13 #[.agg #[.int .i64 n, .int .i64 h, .string seed, .int .i64 nx]] w fun e w' => e = .returned (.tuple #[.string ⟨#[]⟩, .int .i64 1]) ∧ Below w.heap.size w w' := by
  have hB0 := (Below.refl w.heap.size w).alloc (Nat.le_refl _) (.cells #[.int .i64 n, .int .i64 h, .string seed, .int .i64 nx] 28)
  have hc0 : (w.alloc (.cells #[.int .i64 n, .int .i64 h, .string seed, .int .i64 nx] 28)).cell? ⟨w.heap.size, 0, none⟩ = some (.int .i64 n) := by simp
  have hc1 : (w.alloc (.cells #[.int .i64 n, .int .i64 h, .string seed, .int .i64 nx] 28)).cell? ⟨w.heap.size, 1, none⟩ = some (.int .i64 h) := by simp
  have hc2 : (w.alloc (.cells #[.int .i64 n, .int .i64 h, .string seed, .int .i64 nx] 28)).cell? ⟨w.heap.size, 2, none⟩ = some (.string seed) := by simp
  have hc3 : (w.alloc (.cells #[.int .i64 n, .int .i64 h, .string seed, .int .i64 nx] 28)).cell? ⟨w.heap.size, 3, none⟩ = some (.int .i64 nx) := by simp
  have hlt : w.heap.size < (w.alloc (.cells #[.int .i64 n, .int .i64 h, .string seed, .int .i64 nx] 28)).heap.size := by simp
  have HNO := Lib.hid hno
  clear hno
  go_enter Tryd.func13, Tryd.ntmps13
  go_upto_region 1 with (fail)
  generalize w.alloc (.cells #[.int .i64 n, .int .i64 h, .string seed, .int .i64 nx] 28) = wz at *
  have HC := Lib.hid (fun (u : World) (q : Below wz.heap.size wz u) => (⟨(q.cell (p := ⟨w.heap.size, 0, none⟩) hlt).trans hc0, (q.cell (p := ⟨w.heap.size, 1, none⟩) hlt).trans hc1, (q.cell (p := ⟨w.heap.size, 2, none⟩) hlt).trans hc2, (q.cell (p := ⟨w.heap.size, 3, none⟩) hlt).trans hc3⟩ :
    u.cell? ⟨w.heap.size, 0, none⟩ = some (.int .i64 n) ∧ u.cell? ⟨w.heap.size, 1, none⟩ = some (.int .i64 h) ∧ u.cell? ⟨w.heap.size, 2, none⟩ = some (.string seed) ∧ u.cell? ⟨w.heap.size, 3, none⟩ = some (.int .i64 nx)))
  have HB0 := Lib.hid hB0
  clear hB0 hlt hc2 hc3
  by_cases hr : Right n h
  · have R1 := Lib.hid (fun u => right_yes n h hr u)
    have R2 := Lib.hid (fun u => within_any n h nx seed u hr)
    have HR := Lib.hid hr
    clear hr
    go_wp2_with fail
    refine (R1.out _).mono ?_
    rintro e w1 ⟨rfl, hb1⟩
    have HW1 := Lib.hid hb1
    clear hb1 hc0 hc1
    obtain ⟨c0, c1, c2, c3⟩ := HC.out _ HW1.out
    by_cases hw : 0 ≤ nx ∧ nx ≤ (leavesI h : Int)
    · have R2' := Lib.hid (show ∀ u, Calls Tryd.prog 31 #[.agg #[.int .i64 n, .int .i64 h, .string seed, .int .i64 nx]] u fun e w' => e = .returned (.bool true) ∧ Below u.heap.size u w' from fun u => by have g := R2.out u; rw [decide_eq_true hw] at g; exact g)
      have hd : decide (200 < (seed.size : Int)) = true := by
        have : ¬ seed.size ≤ 200 := fun g => HNO.out ⟨HR.out, hw.1, by have := hw.2; unfold leavesI at this; rw [Int.natCast_pow] at this; exact this, g⟩
        simp; omega
      clear R2 hw
      go_wp2_with fail
      refine (R2'.out _).mono ?_
      rintro e w2 ⟨rfl, hb2⟩
      have HW2 := Lib.hid (HW1.out.trans (hb2.mono HW1.out.size))
      clear hb2 c0 c1 c2 c3
      obtain ⟨c0, c1, c2, c3⟩ := HC.out _ HW2.out
      go_wp2
      go_ret2
      exact ⟨rfl, HB0.out.trans (HW2.out.mono HB0.out.size)⟩
    · have R2' := Lib.hid (show ∀ u, Calls Tryd.prog 31 #[.agg #[.int .i64 n, .int .i64 h, .string seed, .int .i64 nx]] u fun e w' => e = .returned (.bool false) ∧ Below u.heap.size u w' from fun u => by have g := R2.out u; rw [decide_eq_false hw] at g; exact g)
      clear R2 hw
      go_wp2_with fail
      refine (R2'.out _).mono ?_
      rintro e w2 ⟨rfl, hb2⟩
      have HW2 := Lib.hid (HW1.out.trans (hb2.mono HW1.out.size))
      clear hb2 c0 c1 c2 c3
      go_wp2
      go_ret2
      exact ⟨rfl, HB0.out.trans (HW2.out.mono HB0.out.size)⟩
  · have R1 := Lib.hid (fun u => right_no n h hr u)
    clear hr
    go_wp2_with fail
    refine (R1.out _).mono ?_
    rintro e w1 ⟨rfl, hb1⟩
    have HW1 := Lib.hid hb1
    clear hb1 hc0 hc1
    go_wp2
    go_ret2
    exact ⟨rfl, HB0.out.trans (HW1.out.mono HB0.out.size)⟩

theorem tx_append (a b : List UInt8) : tx a ++ tx b = tx (a ++ b) := by
  apply ByteArray.ext
  apply Array.ext'
  simp

set_option maxHeartbeats 3200000 in
theorem keep_any (N H next : Nat) (seed V : ByteArray) (w : World) (hkp : Keeps (N : Int) (H : Int) (next : Int) seed.size) (hV : V = tx (kept N H next seed.data.toList)) (hk : Consts w) :
    Calls Tryd.prog 13 #[.agg #[.int .i64 (N : Int), .int .i64 (H : Int), .string seed, .int .i64 (next : Int)]] w fun e w' => e = .returned (.tuple #[.string V, .int .i64 0]) ∧ Below w.heap.size w w' := by
  obtain ⟨hr, hn0, hn1, h200⟩ := hkp
  obtain ⟨A, hA⟩ : ∃ A, A = tx (num (N : Int) 1) := ⟨_, rfl⟩
  obtain ⟨B, hB⟩ : ∃ B, B = tx (num (H : Int) 1) := ⟨_, rfl⟩
  obtain ⟨C, hC⟩ : ∃ C, C = tx (num (next : Int) 2) := ⟨_, rfl⟩
  obtain ⟨D, hD⟩ : ∃ D, D = tx (num (seed.size : Int) 1) := ⟨_, rfl⟩
  obtain ⟨F, hF⟩ : ∃ F, F = A ++ B := ⟨_, rfl⟩
  obtain ⟨G, hG⟩ : ∃ G, G = F ++ C := ⟨_, rfl⟩
  obtain ⟨I, hI⟩ : ∃ I, I = G ++ D := ⟨_, rfl⟩
  obtain ⟨J, hJ⟩ : ∃ J, J = I ++ seed := ⟨_, rfl⟩
  obtain ⟨T, hT⟩ : ∃ T, T = tx (tagOf J.data.toList) := ⟨_, rfl⟩
  have hAs : A.size = 1 := by rw [hA, tx_size, num_length]
  have hBs : B.size = 1 := by rw [hB, tx_size, num_length]
  have hCs : C.size = 2 := by rw [hC, tx_size, num_length]
  have hDs : D.size = 1 := by rw [hD, tx_size, num_length]
  have hFs : F.size = 2 := by rw [hF, ByteArray.size_append, hAs, hBs]
  have hGs : G.size = 4 := by rw [hG, ByteArray.size_append, hFs, hCs]
  have hIs : I.size = 5 := by rw [hI, ByteArray.size_append, hGs, hDs]
  have hJs : J.size = 5 + seed.size := by rw [hJ, ByteArray.size_append, hIs]
  have hTs : T.size = 4 := by rw [hT, tx_size, tagOf_length]
  have hJT : J ++ T = V := by
    have e : J = tx (head N H next seed.data.toList) := by
      rw [hJ, hI, hG, hF, hA, hB, hC, hD, head]
      show tx _ ++ tx _ ++ tx _ ++ tx _ ++ tx seed.data.toList = _
      rw [tx_append, tx_append, tx_append, tx_append]
      rfl
    rw [hV, hT, e, tx_list, tx_append, kept]
  have R1 := Lib.hid (fun u => right_yes N H hr u)
  have R2 := Lib.hid (show ∀ u, Calls Tryd.prog 31 #[.agg #[.int .i64 (N : Int), .int .i64 (H : Int), .string seed, .int .i64 (next : Int)]] u fun e w' => e = .returned (.bool true) ∧ Below u.heap.size u w' from fun u => by
    have g := within_any N H next seed u hr
    rw [decide_eq_true ⟨hn0, by unfold leavesI; rw [Int.natCast_pow]; exact hn1⟩] at g
    exact g)
  have RA := Lib.hid (fun u => num_one_any N A u hA)
  have RB := Lib.hid (fun u => num_one_any H B u hB)
  have RC := Lib.hid (fun u => num_two_any next C u hC)
  have RD := Lib.hid (fun u => num_one_any seed.size D u hD)
  have RT := Lib.hid (fun (u : World) (hu : Consts u) => tag_any J T u (by omega) hT hu)
  have hd : decide (200 < (seed.size : Int)) = false := by simp; omega
  have H1 := Lib.hid (show ¬ 9223372036854775807 < A.size + B.size by omega)
  have H2 := Lib.hid (show ¬ 9223372036854775807 < F.size + C.size by omega)
  have H3 := Lib.hid (show ¬ 9223372036854775807 < G.size + D.size by omega)
  have H4 := Lib.hid (show ¬ 9223372036854775807 < I.size + seed.size by omega)
  have H5 := Lib.hid (show ¬ 9223372036854775807 < J.size + T.size by omega)
  have E1 := Lib.hid hF.symm
  have E2 := Lib.hid hG.symm
  have E3 := Lib.hid hI.symm
  have E4 := Lib.hid hJ.symm
  have E5 := Lib.hid hJT
  have hB0 := (Below.refl w.heap.size w).alloc (Nat.le_refl _) (.cells #[.int .i64 (N : Int), .int .i64 (H : Int), .string seed, .int .i64 (next : Int)] 28)
  have hc0 : (w.alloc (.cells #[.int .i64 (N : Int), .int .i64 (H : Int), .string seed, .int .i64 (next : Int)] 28)).cell? ⟨w.heap.size, 0, none⟩ = some (.int .i64 (N : Int)) := by simp
  have hc1 : (w.alloc (.cells #[.int .i64 (N : Int), .int .i64 (H : Int), .string seed, .int .i64 (next : Int)] 28)).cell? ⟨w.heap.size, 1, none⟩ = some (.int .i64 (H : Int)) := by simp
  have hc2 : (w.alloc (.cells #[.int .i64 (N : Int), .int .i64 (H : Int), .string seed, .int .i64 (next : Int)] 28)).cell? ⟨w.heap.size, 2, none⟩ = some (.string seed) := by simp
  have hc3 : (w.alloc (.cells #[.int .i64 (N : Int), .int .i64 (H : Int), .string seed, .int .i64 (next : Int)] 28)).cell? ⟨w.heap.size, 3, none⟩ = some (.int .i64 (next : Int)) := by simp
  have hlt : w.heap.size < (w.alloc (.cells #[.int .i64 (N : Int), .int .i64 (H : Int), .string seed, .int .i64 (next : Int)] 28)).heap.size := by simp
  clear hAs hBs hCs hDs hFs hGs hIs hJs hTs hA hB hC hD hF hG hI hJ hT hJT hV hr hn0 hn1
  go_enter Tryd.func13, Tryd.ntmps13
  go_upto_region 1 with (fail)
  generalize w.alloc (.cells #[.int .i64 (N : Int), .int .i64 (H : Int), .string seed, .int .i64 (next : Int)] 28) = wz at *
  have HC := Lib.hid (fun (u : World) (q : Below wz.heap.size wz u) => (⟨(q.cell (p := ⟨w.heap.size, 0, none⟩) hlt).trans hc0, (q.cell (p := ⟨w.heap.size, 1, none⟩) hlt).trans hc1, (q.cell (p := ⟨w.heap.size, 2, none⟩) hlt).trans hc2, (q.cell (p := ⟨w.heap.size, 3, none⟩) hlt).trans hc3, hk.below hk.1 (hB0.trans (q.mono hB0.size))⟩ :
    u.cell? ⟨w.heap.size, 0, none⟩ = some (.int .i64 (N : Int)) ∧ u.cell? ⟨w.heap.size, 1, none⟩ = some (.int .i64 (H : Int)) ∧ u.cell? ⟨w.heap.size, 2, none⟩ = some (.string seed) ∧ u.cell? ⟨w.heap.size, 3, none⟩ = some (.int .i64 (next : Int)) ∧ Consts u))
  have HB0 := Lib.hid hB0
  clear hB0 hlt hc2 hc3 hk
  go_wp2_with fail
  refine (R1.out _).mono ?_
  rintro e w1 ⟨rfl, hb1⟩
  have HW1 := Lib.hid hb1
  clear hb1 hc0 hc1
  obtain ⟨c0, c1, c2, c3, -⟩ := HC.out _ HW1.out
  go_wp2_with fail
  refine (R2.out _).mono ?_
  rintro e w2 ⟨rfl, hb2⟩
  have HW2 := Lib.hid (HW1.out.trans (hb2.mono HW1.out.size))
  clear hb2 c0 c1 c2 c3
  obtain ⟨c0, c1, c2, c3, -⟩ := HC.out _ HW2.out
  go_upto_region 3 with (fail)
  clear c0 c1 c2 c3
  have HC3 := Lib.hid (fun (u : World) (q : Below w2.heap.size w2 u) => HC.out u (HW2.out.trans (q.mono HW2.out.size)))
  have hn := H1.out
  have he := E1.out
  refine Steady.region 9 (by kernel_rfl) (by kernel_rfl) (fun u => Below w2.heap.size w2 u) ((Below.refl _ _).drew) ?_
  simp only [List.take_succ_cons, List.take_zero, List.drop_succ_cons, List.drop_zero]
  refine Steady.take ?_ rfl (by intro u hu; go_simp; with_reducible rfl) ?_
  simp only [Act.put, List.setIfInBounds_toArray, List.set_cons_zero, List.set_cons_succ]
  refine Steady.take ?_ rfl (by intro u hu; go_simp; with_reducible rfl) ?_
  simp only [Act.put, List.setIfInBounds_toArray, List.set_cons_zero, List.set_cons_succ]
  refine Steady.take ?_ rfl (by intro u hu; obtain ⟨c0, c1, c2, c3, -⟩ := HC3.out u hu; go_simp; with_reducible rfl) ?_
  simp only [Act.put, List.setIfInBounds_toArray, List.set_cons_zero, List.set_cons_succ]
  refine Steady.call _ _ _ rfl ?_ (Steady.kept RA.out) ?_
  · intro u
    go_simp
  simp only [Act.put, List.setIfInBounds_toArray, List.set_cons_zero, List.set_cons_succ]
  refine Steady.take ?_ rfl (by intro u hu; go_simp; with_reducible rfl) ?_
  simp only [Act.put, List.setIfInBounds_toArray, List.set_cons_zero, List.set_cons_succ]
  refine Steady.take ?_ rfl (by intro u hu; go_simp; with_reducible rfl) ?_
  simp only [Act.put, List.setIfInBounds_toArray, List.set_cons_zero, List.set_cons_succ]
  refine Steady.take ?_ rfl (by intro u hu; obtain ⟨c0, c1, c2, c3, -⟩ := HC3.out u hu; go_simp; with_reducible rfl) ?_
  simp only [Act.put, List.setIfInBounds_toArray, List.set_cons_zero, List.set_cons_succ]
  refine Steady.call _ _ _ rfl ?_ (Steady.kept RB.out) ?_
  · intro u
    go_simp
  simp only [Act.put, List.setIfInBounds_toArray, List.set_cons_zero, List.set_cons_succ]
  refine Steady.take ?_ rfl (by intro u hu; go_simp; with_reducible rfl) ?_
  simp only [Act.put, List.setIfInBounds_toArray, List.set_cons_zero, List.set_cons_succ]
  refine Steady.nil ?_
  intro w3 hu
  have HW3 := Lib.hid (HW2.out.trans (hu.mono HW2.out.size))
  clear hu HC3 hn he
  go_upto_region 4 with (fail)
  have HC4 := Lib.hid (fun (u : World) (q : Below w3.heap.size w3 u) => HC.out u (HW3.out.trans (q.mono HW3.out.size)))
  have hn2 := H2.out
  have he2 := E2.out
  have hn3 := H3.out
  have he3 := E3.out
  have hn4 := H4.out
  have he4 := E4.out
  refine Steady.region 13 (by kernel_rfl) (by kernel_rfl) (fun u => Below w3.heap.size w3 u) ((Below.refl _ _).drew) ?_
  simp only [List.take_succ_cons, List.take_zero, List.drop_succ_cons, List.drop_zero]
  refine Steady.take ?_ rfl (by intro u hu; go_simp; with_reducible rfl) ?_
  simp only [Act.put, List.setIfInBounds_toArray, List.set_cons_zero, List.set_cons_succ]
  refine Steady.take ?_ rfl (by intro u hu; go_simp; with_reducible rfl) ?_
  simp only [Act.put, List.setIfInBounds_toArray, List.set_cons_zero, List.set_cons_succ]
  refine Steady.take ?_ rfl (by intro u hu; obtain ⟨c0, c1, c2, c3, -⟩ := HC4.out u hu; go_simp; with_reducible rfl) ?_
  simp only [Act.put, List.setIfInBounds_toArray, List.set_cons_zero, List.set_cons_succ]
  refine Steady.call _ _ _ rfl ?_ (Steady.kept RC.out) ?_
  · intro u
    go_simp
  simp only [Act.put, List.setIfInBounds_toArray, List.set_cons_zero, List.set_cons_succ]
  refine Steady.take ?_ rfl (by intro u hu; go_simp; with_reducible rfl) ?_
  simp only [Act.put, List.setIfInBounds_toArray, List.set_cons_zero, List.set_cons_succ]
  refine Steady.take ?_ rfl (by intro u hu; go_simp; with_reducible rfl) ?_
  simp only [Act.put, List.setIfInBounds_toArray, List.set_cons_zero, List.set_cons_succ]
  refine Steady.take ?_ rfl (by intro u hu; obtain ⟨c0, c1, c2, c3, -⟩ := HC4.out u hu; go_simp; with_reducible rfl) ?_
  simp only [Act.put, List.setIfInBounds_toArray, List.set_cons_zero, List.set_cons_succ]
  refine Steady.take ?_ rfl (by intro u hu; go_simp; with_reducible rfl) ?_
  simp only [Act.put, List.setIfInBounds_toArray, List.set_cons_zero, List.set_cons_succ]
  refine Steady.call _ _ _ rfl ?_ (Steady.kept RD.out) ?_
  · intro u
    go_simp
  simp only [Act.put, List.setIfInBounds_toArray, List.set_cons_zero, List.set_cons_succ]
  refine Steady.take ?_ rfl (by intro u hu; go_simp; with_reducible rfl) ?_
  simp only [Act.put, List.setIfInBounds_toArray, List.set_cons_zero, List.set_cons_succ]
  refine Steady.take ?_ rfl (by intro u hu; go_simp; with_reducible rfl) ?_
  simp only [Act.put, List.setIfInBounds_toArray, List.set_cons_zero, List.set_cons_succ]
  refine Steady.take ?_ rfl (by intro u hu; obtain ⟨c0, c1, c2, c3, -⟩ := HC4.out u hu; go_simp; with_reducible rfl) ?_
  simp only [Act.put, List.setIfInBounds_toArray, List.set_cons_zero, List.set_cons_succ]
  refine Steady.take ?_ rfl (by intro u hu; go_simp; with_reducible rfl) ?_
  simp only [Act.put, List.setIfInBounds_toArray, List.set_cons_zero, List.set_cons_succ]
  refine Steady.nil ?_
  intro w4 hu
  have HW4 := Lib.hid (HW3.out.trans (hu.mono HW3.out.size))
  clear hu HC4 hn2 he2 hn3 he3 hn4 he4
  obtain ⟨-, -, -, -, hk4⟩ := HC.out _ HW4.out
  have HK4 := Lib.hid hk4
  clear hk4
  go_wp2_with fail
  refine (RT.out _ HK4.out).mono ?_
  rintro e w5 ⟨rfl, hb5⟩
  have HW5 := Lib.hid (HB0.out.trans ((HW4.out.trans (hb5.mono HW4.out.size)).mono HB0.out.size))
  clear hb5
  have hn := H5.out
  have he := E5.out
  go_wp2
  go_ret2
  exact ⟨rfl, HW5.out⟩
end Go.Proofs.YtkchbilkmoemaaaDoor.Stp

namespace Go.Proofs.YtkchbilkmoemaaaDoor.Stp
open Go.RowKit Mur Sha Chn Grv
set_option maxRecDepth 100000

theorem load_short (s : ByteArray) (w : World) (hs : s.size < 9) :
    Calls Tryd.prog 15 #[.string s] w fun e w' => e = .returned (.tuple #[.agg #[.int .i64 0, .int .i64 0, .string ⟨#[]⟩, .int .i64 0], .int .i64 2]) ∧ Below w.heap.size w w' := by
  have hd : decide ((s.size : Int) < 9) = true := by simp; omega
  have HM := Lib.hid (Hold.Hld.start w)
  clear hs
  go_enter Tryd.func15, Tryd.ntmps15
  go_wp2_with ((first
    | (with_reducible refine Hold.alloc HM.out rfl rfl zeroS zero_sign ?_; clear HM; intro b0 w HM; simp only [List.nil_append] at HM; replace HM := Lib.hid HM)
    | (with_reducible refine Hold.build (t := 28) (parts := #[]) (cs := zeroS) rfl rfl ?_ ?_; focus (kernel_rfl))
    | (with_reducible refine Hold.store HM.out 0 (v' := zeroS) rfl rfl rfl rfl rfl (by rw [Nat.zero_add]; exact Nat.le_refl _) (Hold.lay_all rfl) (zero_one) (by rw [zero_len]; exact signRow) ?_; clear HM; intro w HM; simp only [List.set_cons_zero] at HM; replace HM := Lib.hid HM)))

  refine bodyPost_ret (Hold.resultsCT HM.out 0 rfl _ rfl rfl rfl (by rw [zero_len]; exact signRow)) rfl ?_
  rw [zero_agg]
  exact ⟨rfl, HM.out.below⟩

set_option maxHeartbeats 1600000 in
theorem load_tag (s : ByteArray) (w : World) (h9 : 9 ≤ s.size) (hs : s.size ≤ 274877906944) (ht : s.data.toList.drop (s.data.toList.length - 4) ≠ tagOf (bodyOf s.data.toList)) (hk : Consts w) :
    Calls Tryd.prog 15 #[.string s] w fun e w' => e = .returned (.tuple #[.agg #[.int .i64 0, .int .i64 0, .string ⟨#[]⟩, .int .i64 0], .int .i64 14]) ∧ Below w.heap.size w w' := by
  have hd : decide ((s.size : Int) < 9) = false := by simp; omega
  obtain ⟨k, hk4⟩ : ∃ k, k = s.size - 4 := ⟨_, rfl⟩
  obtain ⟨Bd, hBd⟩ : ∃ Bd, Bd = s.extract 0 k := ⟨_, rfl⟩
  obtain ⟨Tl, hTl⟩ : ∃ Tl, Tl = s.extract k s.size := ⟨_, rfl⟩
  have hsl : s.data.toList.length = s.size := rfl
  have hBt : Bd = tx (bodyOf s.data.toList) := by rw [hBd, hk4]; exact take_cut s _
  have hTt : Tl = tx (s.data.toList.drop (s.data.toList.length - 4)) := by rw [hTl, hk4, hsl]; exact drop_all s _
  have hBs : Bd.size = k := by rw [hBt, tx_size, bodyOf, List.length_take, hsl]; omega
  obtain ⟨T, hT⟩ : ∃ T, T = tx (tagOf (bodyOf s.data.toList)) := ⟨_, rfl⟩
  have hne : (Tl.toList == T.toList) = false := by
    rw [same_text, hTt, hT, tx_list, tx_list]
    exact decide_eq_false ht
  have RT := Lib.hid (fun (u : World) (hu : Below w.heap.size w u) => tag_any Bd T u (by omega) (by rw [hT, hBt]) (hk.below hk.1 hu))
  have hw : IntKind.i64.wrap ((s.size : Int) - 4) = (k : Int) := by rw [IntWalk.i64_in _ (by omega)]; omega
  have h1 : (k : Int) ≤ s.size := by omega
  have h2 : (k : Int).toNat = k := by omega
  have h3 : (0 : Int) ≤ (k : Int) := by omega
  have HM := Lib.hid (Hold.Hld.start w)
  have HB := Lib.hid hBd.symm
  have HT := Lib.hid hTl.symm
  have HBS := Lib.hid hBs
  have HNE := Lib.hid hne
  clear hs h9 ht hk4 hBt hTt hT hne hk hBd hTl hsl hBs
  go_enter Tryd.func15, Tryd.ntmps15
  have hb := HB.out
  go_upto_region 4 with ((first
    | (with_reducible refine Hold.alloc HM.out rfl rfl zeroS zero_sign ?_; clear HM; intro b0 w HM; simp only [List.nil_append] at HM; replace HM := Lib.hid HM)))

  clear hb hw
  have hbs := HBS.out
  have hte := HT.out
  refine Steady.region 6 (by kernel_rfl) (by kernel_rfl) (fun u => Hold.Hld _ _ u) HM.out.drew ?_
  simp only [List.take_succ_cons, List.take_zero, List.drop_succ_cons, List.drop_zero]
  refine Steady.take ?_ rfl (by intro u hu; go_simp; with_reducible rfl) ?_
  simp only [Act.put, List.setIfInBounds_toArray, List.set_cons_zero, List.set_cons_succ]
  refine Steady.take ?_ rfl (by intro u hu; go_simp; with_reducible rfl) ?_
  simp only [Act.put, List.setIfInBounds_toArray, List.set_cons_zero, List.set_cons_succ]
  refine Steady.take ?_ rfl (by intro u hu; go_simp; with_reducible rfl) ?_
  simp only [Act.put, List.setIfInBounds_toArray, List.set_cons_zero, List.set_cons_succ]
  refine Steady.take ?_ rfl (by intro u hu; go_simp; with_reducible rfl) ?_
  simp only [Act.put, List.setIfInBounds_toArray, List.set_cons_zero, List.set_cons_succ]
  refine Steady.take ?_ rfl (by intro u hu; go_simp; with_reducible rfl) ?_
  simp only [Act.put, List.setIfInBounds_toArray, List.set_cons_zero, List.set_cons_succ]
  refine Steady.call _ _ _ rfl ?_ (kept_if RT.out) ?_
  · intro u
    go_simp
  simp only [Act.put, List.setIfInBounds_toArray, List.set_cons_zero, List.set_cons_succ]
  refine Steady.nil ?_
  clear HM
  intro w HM
  replace HM := Lib.hid HM

  clear hbs hte h1 h2 h3
  have hne := HNE.out
  go_wp2_with ((first
    | (with_reducible refine Hold.build (t := 28) (parts := #[]) (cs := zeroS) rfl rfl ?_ ?_; focus (kernel_rfl))
    | (with_reducible refine Hold.store HM.out 0 (v' := zeroS) rfl rfl rfl rfl rfl (by rw [Nat.zero_add]; exact Nat.le_refl _) (Hold.lay_all rfl) (zero_one) (by rw [zero_len]; exact signRow) ?_; clear HM; intro w HM; simp only [List.set_cons_zero] at HM; replace HM := Lib.hid HM)))

  refine bodyPost_ret (Hold.resultsCT HM.out 0 rfl _ rfl rfl rfl (by rw [zero_len]; exact signRow)) rfl ?_
  rw [zero_agg]
  exact ⟨rfl, HM.out.below⟩

/-- Load, where the tag is right. -/
theorem load_tagged (s : ByteArray) (w : World) (h9 : 9 ≤ s.size) (hs : s.size ≤ 274877906944) (ht : s.data.toList.drop (s.data.toList.length - 4) = tagOf (bodyOf s.data.toList)) (hk : Consts w)
    (S : ByteArray) (n0 n1 nx : Nat) (hS : S = tx ((bodyOf s.data.toList).drop 5)) (e0 : n0 = byteAt (bodyOf s.data.toList) 0) (e1 : n1 = byteAt (bodyOf s.data.toList) 1) (ex : nx = nextOf (bodyOf s.data.toList)) :
    Calls Tryd.prog 15 #[.string s] w fun e w' => (Loads s.data.toList ∧ e = .returned (.tuple #[.agg #[.int .i64 (n0 : Int), .int .i64 (n1 : Int), .string S, .int .i64 (nx : Int)], .int .i64 0]) ∨ ¬ Loads s.data.toList ∧ e = .returned (.tuple #[.agg #[.int .i64 0, .int .i64 0, .string ⟨#[]⟩, .int .i64 0], .int .i64 3])) ∧ Below w.heap.size w w' := by
  have hd : decide ((s.size : Int) < 9) = false := by simp; omega
  obtain ⟨k, hk4⟩ : ∃ k, k = s.size - 4 := ⟨_, rfl⟩
  obtain ⟨Bd, hBd⟩ : ∃ Bd, Bd = s.extract 0 k := ⟨_, rfl⟩
  obtain ⟨Tl, hTl⟩ : ∃ Tl, Tl = s.extract k s.size := ⟨_, rfl⟩
  obtain ⟨B2, hB2⟩ : ∃ B2, B2 = Bd.extract 2 Bd.size := ⟨_, rfl⟩
  have hsl : s.data.toList.length = s.size := rfl
  have hBt : Bd = tx (bodyOf s.data.toList) := by rw [hBd, hk4]; exact take_cut s _
  have hTt : Tl = tx (s.data.toList.drop (s.data.toList.length - 4)) := by rw [hTl, hk4, hsl]; exact drop_all s _
  have hBs : Bd.size = k := by rw [hBt, tx_size, bodyOf, List.length_take, hsl]; omega
  have hS5 : Bd.extract 5 Bd.size = S := by rw [hS, drop_all Bd 5, hBt, tx_list]
  have hB2t : B2 = tx ((bodyOf s.data.toList).drop 2) := by rw [hB2, drop_all Bd 2, hBt, tx_list]
  have hB2s : 2 ≤ B2.size := by rw [hB2, drop_all Bd 2, tx_size, List.length_drop]; show 2 ≤ Bd.size - 2; omega
  have hne : (Tl.toList == Tl.toList) = true := by simp
  have RT := Lib.hid (fun (u : World) (hu : Below w.heap.size w u) => tag_any Bd Tl u (by omega) (by rw [hTt, ht, hBt]) (hk.below hk.1 hu))
  have RL := Lib.hid (show ∀ u, Calls Tryd.prog 28 #[.string B2] u fun e w' => e = .returned (.int .i64 (nx : Int)) ∧ Below u.heap.size u w' from fun u => by
    have g := leafOf_any B2 u hB2s
    rw [hB2t, tx_list] at g
    rw [hB2t, ex]
    exact g)
  have hw : IntKind.i64.wrap ((s.size : Int) - 4) = (k : Int) := by rw [IntWalk.i64_in _ (by omega)]; omega
  have h1 : (k : Int) ≤ s.size := by omega
  have h2 : (k : Int).toNat = k := by omega
  have h3 : (0 : Int) ≤ (k : Int) := by omega
  have b0 : 0 < Bd.size := by omega
  have b1 : 1 < Bd.size := by omega
  have b1' : (1 : Int) < (Bd.size : Int) := by omega
  have b5 : (5 : Int) ≤ (Bd.size : Int) := by omega
  have b2 : (2 : Int) ≤ (Bd.size : Int) := by omega
  obtain ⟨X, hX, hXc⟩ := named n0 n1 S nx
  have hat : ∀ i (h : i < Bd.size), (Bd[i].toNat : Int) = (byteAt (bodyOf s.data.toList) i : Int) := fun i h => by
    rw [show bodyOf s.data.toList = Bd.data.toList by rw [hBt], byteAt, at_getD Bd i h]
  have hSs : S.size = ((bodyOf s.data.toList).drop 5).length := by rw [hS, tx_size]
  have hSl : ((bodyOf s.data.toList).drop 5).length ≤ s.size := by rw [List.length_drop, bodyOf, List.length_take, hsl]; omega
  have hkeep : ∃ (K : ByteArray) (e2 : Int), (∀ u, Below w.heap.size w u → Calls Tryd.prog 13 #[.agg #[.int .i64 (n0 : Int), .int .i64 (n1 : Int), .string S, .int .i64 (nx : Int)]] u fun e w' => e = .returned (.tuple #[.string K, .int .i64 e2]) ∧ Below u.heap.size u w') ∧ (K.data.toList = s.data.toList ↔ Loads s.data.toList) := by
    by_cases hkp : Keeps (n0 : Int) (n1 : Int) (nx : Int) S.size
    · refine ⟨tx (kept n0 n1 nx S.data.toList), 0, fun u hu => keep_any n0 n1 nx S _ u hkp rfl (hk.below hk.1 hu), ?_⟩
      have g := kept_again s.data.toList h9 ht (by rw [← e0, ← e1, ← ex, ← hSs]; exact hkp)
      rw [← e0, ← e1, ← ex] at g
      rw [tx_list, hS, tx_list]
      exact g
    · refine ⟨⟨#[]⟩, 1, fun u _ => keep_no n0 n1 nx S u (by omega) hkp, ?_⟩
      constructor
      · intro g
        have g2 := congrArg List.length g
        rw [hsl] at g2
        simp at g2
        omega
      · intro g
        exact absurd (by rw [e0, e1, ex, hSs]; exact g.2) hkp
  obtain ⟨K, e2, hkc, hKs⟩ := hkeep
  have RK := Lib.hid hkc
  rw [← hX.agg] at RK ⊢
  have HEQ := Lib.hid (show Value.agg #[.int .i64 (IntKind.i64.wrap (Bd[0].toNat : Int)), .int .i64 (IntKind.i64.wrap (Bd[1].toNat : Int)), .string S, .int .i64 (nx : Int)] = .agg X.toArray by
    have g0 := byteAt_lt (bodyOf s.data.toList) 0
    have g1 := byteAt_lt (bodyOf s.data.toList) 1
    rw [hat 0 b0, hat 1 b1, ← e0, ← e1, IntWalk.i64_in _ (by omega), IntWalk.i64_in _ (by omega), hX.agg])
  have HM := Lib.hid (Hold.Hld.start w)
  have HB := Lib.hid hBd.symm
  have HT := Lib.hid hTl.symm
  have HBS := Lib.hid hBs
  have HNE := Lib.hid hne
  have HX := Lib.hid hX
  have HXL := Lib.hid (show X.length = zeroS.length by rw [hX.len]; rfl)
  have HKS := Lib.hid hKs
  clear hkc hKs hSs hSl
  have HS5 := Lib.hid hS5
  have HB2 := Lib.hid hB2.symm
  have HAT := Lib.hid hat
  clear hne hBd hTl hB2 hX hS5 hat
  clear hXc hBt hTt hB2t hB2s hk hs hk4
  go_enter Tryd.func15, Tryd.ntmps15
  have hb := HB.out
  clear hBs ht hsl hS e0 e1 ex h9
  go_upto_region 4 with ((first
    | (with_reducible refine Hold.alloc HM.out rfl rfl zeroS zero_sign ?_; clear HM; intro b0 w HM; simp only [List.nil_append] at HM; replace HM := Lib.hid HM)))

  clear hb hw
  have hbs := HBS.out
  have hte := HT.out
  refine Steady.region 6 (by kernel_rfl) (by kernel_rfl) (fun u => Hold.Hld _ _ u) HM.out.drew ?_
  simp only [List.take_succ_cons, List.take_zero, List.drop_succ_cons, List.drop_zero]
  refine Steady.take ?_ rfl (by intro u hu; go_simp; with_reducible rfl) ?_
  simp only [Act.put, List.setIfInBounds_toArray, List.set_cons_zero, List.set_cons_succ]
  refine Steady.take ?_ rfl (by intro u hu; go_simp; with_reducible rfl) ?_
  simp only [Act.put, List.setIfInBounds_toArray, List.set_cons_zero, List.set_cons_succ]
  refine Steady.take ?_ rfl (by intro u hu; go_simp; with_reducible rfl) ?_
  simp only [Act.put, List.setIfInBounds_toArray, List.set_cons_zero, List.set_cons_succ]
  refine Steady.take ?_ rfl (by intro u hu; go_simp; with_reducible rfl) ?_
  simp only [Act.put, List.setIfInBounds_toArray, List.set_cons_zero, List.set_cons_succ]
  refine Steady.take ?_ rfl (by intro u hu; go_simp; with_reducible rfl) ?_
  simp only [Act.put, List.setIfInBounds_toArray, List.set_cons_zero, List.set_cons_succ]
  refine Steady.call _ _ _ rfl ?_ (kept_if RT.out) ?_
  · intro u
    go_simp
  simp only [Act.put, List.setIfInBounds_toArray, List.set_cons_zero, List.set_cons_succ]
  refine Steady.nil ?_
  clear HM
  intro w HM
  replace HM := Lib.hid HM

  clear hbs hte h1 h2 h3
  have hne := HNE.out
  go_upto_region 6 with (fail)
  clear hne
  have hs5 := HS5.out
  have hb2 := HB2.out
  refine SteadyN.region 14 [13] [0, 1, 2, 3, 4, 5, 6, 7, 8, 9, 10, 11, 12] (by kernel_rfl) (by kernel_rfl) (SteadyN.Made _ 28 zeroS) (fun k hk o ho => by
    simp only [List.mem_cons, List.not_mem_nil, or_false] at hk
    subst hk <;> (obtain rfl : _ = o := Option.some.inj ho; exact SteadyN.makes rfl 28 rfl _ zero_sign)) (SteadyN.Made.start _ _ _) ?_
  simp only [List.filterMap_cons, List.filterMap_nil, List.drop_succ_cons, List.drop_zero, List.getElem?_cons_zero, List.getElem?_cons_succ, Option.map_some]
  refine SteadyN.take ?_ rfl (by intro s u hu; go_simp; with_reducible rfl) ?_
  simp only [Act.put, List.setIfInBounds_toArray, List.set_cons_zero, List.set_cons_succ]
  refine SteadyN.take ?_ rfl (by intro s u hu; go_simp; with_reducible rfl) ?_
  simp only [Act.put, List.setIfInBounds_toArray, List.set_cons_zero, List.set_cons_succ]
  refine SteadyN.take ?_ rfl (by intro s u hu; go_simp; with_reducible rfl) ?_
  simp only [Act.put, List.setIfInBounds_toArray, List.set_cons_zero, List.set_cons_succ]
  refine SteadyN.take ?_ rfl (by intro s u hu; go_simp; with_reducible rfl) ?_
  simp only [Act.put, List.setIfInBounds_toArray, List.set_cons_zero, List.set_cons_succ]
  refine SteadyN.take ?_ rfl (by intro s u hu; go_simp; with_reducible rfl) ?_
  simp only [Act.put, List.setIfInBounds_toArray, List.set_cons_zero, List.set_cons_succ]
  refine SteadyN.take ?_ rfl (by intro s u hu; go_simp; with_reducible rfl) ?_
  simp only [Act.put, List.setIfInBounds_toArray, List.set_cons_zero, List.set_cons_succ]
  refine SteadyN.take ?_ rfl (by intro s u hu; go_simp; with_reducible rfl) ?_
  simp only [Act.put, List.setIfInBounds_toArray, List.set_cons_zero, List.set_cons_succ]
  refine SteadyN.take ?_ rfl (by intro s u hu; go_simp; with_reducible rfl) ?_
  simp only [Act.put, List.setIfInBounds_toArray, List.set_cons_zero, List.set_cons_succ]
  refine SteadyN.take ?_ rfl (by intro s u hu; go_simp; with_reducible rfl) ?_
  simp only [Act.put, List.setIfInBounds_toArray, List.set_cons_zero, List.set_cons_succ]
  refine SteadyN.take ?_ rfl (by intro s u hu; go_simp; with_reducible rfl) ?_
  simp only [Act.put, List.setIfInBounds_toArray, List.set_cons_zero, List.set_cons_succ]
  refine SteadyN.take ?_ rfl (by intro s u hu; go_simp; with_reducible rfl) ?_
  simp only [Act.put, List.setIfInBounds_toArray, List.set_cons_zero, List.set_cons_succ]
  refine SteadyN.call _ _ _ rfl ?_ (SteadyN.kept RL.out) ?_
  · intro u
    go_simp
  simp only [Act.put, List.setIfInBounds_toArray, List.set_cons_zero, List.set_cons_succ]
  refine SteadyN.take ?_ rfl (by intro s u hu; go_simp; with_reducible rfl) ?_
  simp only [Act.put, List.setIfInBounds_toArray, List.set_cons_zero, List.set_cons_succ]
  refine SteadyN.nil ?_
  simp only [SteadyN.made]
  intro p1 w hS
  obtain ⟨b9, rfl, HM2⟩ := Hold.made1 HM.out.drew hS (i := 13) (p := p1) (by simp [SteadyN.upd])
  clear HM hS
  simp only [List.nil_append, List.cons_append] at HM2
  have HM := Lib.hid HM2
  clear HM2
  simp only [Act.put, List.setIfInBounds_toArray, List.set_cons_zero, List.set_cons_succ]

  rw [HEQ.out]
  clear hs5 hb2
  go_upto_region 7 with ((first
    | (with_reducible refine Hold.store HM.out 1 (v' := X) rfl rfl rfl rfl rfl (by rw [HXL.out]; exact Nat.le_of_eq (Nat.zero_add _)) (Hold.lay_all HXL.out.symm) (HX.out.one) (by rw [HX.out.len]; exact signRow) ?_; clear HM; intro w HM; simp only [List.set_cons_zero, List.set_cons_succ] at HM; replace HM := Lib.hid HM)))

  go_upto_region 8 with ((first
    | (with_reducible refine Hold.load HM.out 1 (cs := X) rfl rfl rfl rfl (Hold.Part.all _) (by rw [HX.out.len]; exact signRow) ?_)
    | (with_reducible refine (RK.out _ HM.out.below).mono ?_; rintro e w ⟨rfl, hb⟩; replace HM := Lib.hid (HM.out.next hb); clear hb)))

  by_cases hl : Loads s.data.toList
  · have hne : (K.toList == s.toList) = true := by rw [same_text]; exact decide_eq_true (HKS.out.2 hl)
    have HLO := Lib.hid hl
    clear hl
    go_wp2_with ((first
      | (with_reducible refine Hold.load HM.out 1 (cs := X) rfl rfl rfl rfl (Hold.Part.all _) (by rw [HX.out.len]; exact signRow) ?_)
      | (with_reducible refine Hold.store HM.out 0 (v' := X) rfl rfl rfl rfl rfl (by rw [HXL.out]; exact Nat.le_of_eq (Nat.zero_add _)) (Hold.lay_all HXL.out.symm) (HX.out.one) (by rw [HX.out.len]; exact signRow) ?_; clear HM; intro w HM; simp only [List.set_cons_zero] at HM; replace HM := Lib.hid HM)))

    exact bodyPost_ret (Hold.resultsCT HM.out 0 rfl _ rfl rfl rfl (by rw [HX.out.len]; exact signRow)) rfl ⟨.inl ⟨HLO.out, rfl⟩, HM.out.below⟩
  · have hne : (K.toList == s.toList) = false := by rw [same_text]; exact decide_eq_false (fun g => hl (HKS.out.1 g))
    have HLO := Lib.hid hl
    clear hl
    go_wp2_with ((first
      | (with_reducible refine Hold.build (t := 28) (parts := #[]) (cs := zeroS) rfl rfl ?_ ?_; focus (kernel_rfl))
      | (with_reducible refine Hold.store HM.out 0 (v' := zeroS) rfl rfl rfl rfl rfl (by rw [Nat.zero_add]; exact Nat.le_refl _) (Hold.lay_all rfl) (zero_one) (by rw [zero_len]; exact signRow) ?_; clear HM; intro w HM; simp only [List.set_cons_zero] at HM; replace HM := Lib.hid HM)))

    refine bodyPost_ret (Hold.resultsCT HM.out 0 rfl _ rfl rfl rfl (by rw [zero_len]; exact signRow)) rfl ?_
    rw [zero_agg]
    exact ⟨.inr ⟨HLO.out, rfl⟩, HM.out.below⟩
end Go.Proofs.YtkchbilkmoemaaaDoor.Stp
