/-
  Leaf of package chains answers what the plain mathematics of the text Chn says, and leaves all memory that was there as it was. Conditions: seed and room have together no more than 2^36 bytes, the constant table of package digest lies as the program's text lays it.
-/
import Derived.Test.YtncafbejgidliaaDoorChnRun
import Derived.Test.YtncafbejgidliaaDoorUseF
namespace Go.Proofs.YtncafbejgidliaaDoor.Chn
open Go.RowKit Mur Sha
set_option maxRecDepth 100000

theorem leaf_no (n h : Int) (hr : ¬ Right n h) (seed room : ByteArray) (leaf : Int) (w : World) :
    Calls Tryd.prog 14 #[.agg #[.int .i64 n, .int .i64 h], .string seed, .string room, .int .i64 leaf] w fun e w' => e = .returned (.string ⟨#[]⟩) ∧ Below w.heap.size w w' := by
  have R1 := Lib.hid (fun u => right_no n h hr u)
  clear hr
  go_enter Tryd.func14, Tryd.ntmps14
  go_wp2_with fail
  refine (R1.out _).mono ?_
  rintro e w1 ⟨rfl, hb⟩
  have HB := Lib.hid (((Below.refl w.heap.size w).alloc (Nat.le_refl _) (.cells #[.int .i64 n, .int .i64 h] 23)).trans (hb.mono (by simp)))
  clear hb
  go_wp2
  go_ret
  exact ⟨rfl, HB.out⟩

/-- So many pieces, as long as a value, are short. -/
theorem pieces_le (N k : Nat) (hN : N ≤ 32) (hk : k ≤ 2 * N + 3) : N * k ≤ 2144 := Nat.le_trans (Nat.mul_le_mul hN (show k ≤ 67 by omega)) (by decide)

set_option maxHeartbeats 3200000 in
theorem leaf_any (N : Nat) (h : Int) (seed room : ByteArray) (leaf : Int) (V : ByteArray) (w : World) (hr : Right (N : Int) h) (hs : seed.size + room.size ≤ 68719476736) (hV : V = tx (leafOf N seed.data.toList room.data.toList leaf)) (hk : Consts w) :
    Calls Tryd.prog 14 #[.agg #[.int .i64 (N : Int), .int .i64 h], .string seed, .string room, .int .i64 leaf] w fun e w' => e = .returned (.string V) ∧ Below w.heap.size w w' := by
  have R1 := Lib.hid (fun u => right_yes N h hr u)
  have R2 := Lib.hid (fun u => count_yes N h hr u)
  have hN : N ≤ 32 := by have := hr.2.1; omega
  have hl := leafP_length N seed.data.toList room.data.toList leaf hN
  have RB := Lib.hid (fun (c : Nat) (T : ByteArray) (hT : T = tx (begins N seed.data.toList leaf (c : Int))) (u : World) (hu : Consts u) => begin_any N h seed leaf (c : Int) T u hN (by omega) hT hu)
  have RR := Lib.hid (fun (c : Nat) (T P : ByteArray) (hT : T = tx (begins N seed.data.toList leaf (c : Int))) (hP : P = tx (leafP N seed.data.toList room.data.toList leaf c)) (u : World) (hu : Consts u) =>
    run_any N h room T leaf (c : Int) 0 15 P u hr (by rw [hT]; have := begins_length N seed.data.toList leaf (c : Int) hN; show room.size + (begins N seed.data.toList leaf (c : Int)).length ≤ _; omega) (by rw [hP, hT]; rfl) hu)
  obtain ⟨F, hF⟩ : ∃ F, F = leafP N seed.data.toList room.data.toList leaf := ⟨_, rfl⟩
  rw [← hF] at hl RR
  have hul := upto_length F N hl
  have RT := Lib.hid (fun (u : World) (hu : Consts u) => together_any N h room (tx (upto F (2 * N + 3))) leaf V u hN (by have := hul (2 * N + 3); have := pieces_le N (2 * N + 3) hN (Nat.le_refl _); show room.size + (upto F (2 * N + 3)).length ≤ _; omega) (by rw [hV, leafOf, ← hF]) hu)
  have HUL := Lib.hid hul
  have HFL := Lib.hid hl
  clear hV hs hF hr hl hul
  have hB0 := (Below.refl w.heap.size w).alloc (Nat.le_refl _) (.cells #[.int .i64 (N : Int), .int .i64 h] 23)
  have hc0 : (w.alloc (.cells #[.int .i64 (N : Int), .int .i64 h] 23)).cell? ⟨w.heap.size, 0, none⟩ = some (.int .i64 (N : Int)) := by simp
  have hc1 : (w.alloc (.cells #[.int .i64 (N : Int), .int .i64 h] 23)).cell? ⟨w.heap.size, 1, none⟩ = some (.int .i64 h) := by simp
  have hlt : w.heap.size < (w.alloc (.cells #[.int .i64 (N : Int), .int .i64 h] 23)).heap.size := by simp
  go_enter Tryd.func14, Tryd.ntmps14
  go_wp2_with fail
  generalize w.alloc (.cells #[.int .i64 (N : Int), .int .i64 h] 23) = wz at *
  have HC := Lib.hid (fun (u : World) (q : Below wz.heap.size wz u) => (⟨(q.cell (p := ⟨w.heap.size, 0, none⟩) hlt).trans hc0, (q.cell (p := ⟨w.heap.size, 1, none⟩) hlt).trans hc1, hk.below hk.1 (hB0.trans (q.mono hB0.size))⟩ : u.cell? ⟨w.heap.size, 0, none⟩ = some (.int .i64 (N : Int)) ∧ u.cell? ⟨w.heap.size, 1, none⟩ = some (.int .i64 h) ∧ Consts u))
  have HB0 := Lib.hid hB0
  clear hB0 hc0 hc1 hlt hk
  refine (R1.out _).mono ?_
  rintro e w1 ⟨rfl, hb1⟩
  have HB1 := Lib.hid hb1
  clear hb1
  go_upto_region 4 with (fail)
  have HBU := Lib.hid (Use.builder_new w1.heap.size w1.heap.size _ (Nat.le_refl _) (_root_.Go.heap_alloc_new w1 (.cells #[.pointer none, .slice none 0 0] 49)))
  have HW1 := Lib.hid ((Below.refl w1.heap.size w1).alloc (Nat.le_refl _) (.cells #[.pointer none, .slice none 0 0] 49))
  have HZ2 := Lib.hid (HB1.out.trans (HW1.out.mono HB1.out.size))

  generalize w1.alloc (.cells #[.pointer none, .slice none 0 0] 49) = w2 at *
  obtain ⟨c0, c1, -⟩ := HC.out _ HZ2.out
  go_wp2_with fail
  refine (R2.out _).mono ?_
  rintro e w3 ⟨rfl, hb3⟩
  have HBU3 := Lib.hid (isBuilder_below HBU.out hb3)
  have HW3 := Lib.hid (HW1.out.trans (hb3.mono HW1.out.size))
  clear hb3 c0 c1 HBU HZ2
  have hn1 : (0 : Int) ≤ 2 * (N : Int) + 3 := by omega
  obtain ⟨M, hM⟩ : ∃ M, M = 2 * N + 3 := ⟨_, rfl⟩
  have hMi : (2 * (N : Int) + 3) = (M : Int) := by omega
  have hM67 : M ≤ 67 := by omega
  have hpl := fun k (hk : k ≤ M) => pieces_le N k hN (by omega)
  have HPL := Lib.hid hpl
  rw [← hM] at RT
  rw [hMi]
  clear hM hMi hn1 hpl
  go_wp2_with fail
  go_loopw [10, 17] (fun _ i wr => ∃ k : Nat, k ≤ M ∧ i = .int .i64 k ∧ Lib.IsBuilder 49 5 w1.heap.size w1.heap.size (Lib.byteCells (upto F k)) wr ∧ Below w1.heap.size w1 wr) (fun _ i _ => M - (intOf i).toNat)
  case atStart => exact ⟨0, by omega, rfl, HBU3.out, HW3.out⟩
  case round =>
    clear HBU3 HW3
    obtain ⟨k, hk, rfl, hbu, hbel⟩ := hrel
    have HBU := Lib.hid hbu
    have HW := Lib.hid hbel
    clear hbu hbel
    by_cases hlt : k < M
    · obtain ⟨T, hT⟩ : ∃ T, T = tx (begins N seed.data.toList leaf (k : Int)) := ⟨_, rfl⟩
      obtain ⟨P, hP⟩ : ∃ P, P = tx (F k) := ⟨_, rfl⟩
      have hPs : P.size = N := by rw [hP]; exact HFL.out k
      have hnx : upto F (k + 1) = upto F k ++ P.data.toList := by rw [hP]; rfl
      have hsz : (upto F k).length + P.size ≤ 140737488355328 := by have := HUL.out k; have := HPL.out k hk; omega
      have hzr := HB1.out.trans (HW.out.mono HB1.out.size)
      have RB1 := Lib.hid (fun (u : World) (q : Below wr.heap.size wr u) => RB.out k T hT u (HC.out u (hzr.trans (q.mono hzr.size))).2.2)
      have RR1 := Lib.hid (fun (u : World) (q : Below wr.heap.size wr u) => RR.out k T P hT hP u (HC.out u (hzr.trans (q.mono hzr.size))).2.2)
      have HC1 := Lib.hid (fun (u : World) (q : Below wr.heap.size wr u) => HC.out u (hzr.trans (q.mono hzr.size)))
      have HNX := Lib.hid hnx
      have HSZ := Lib.hid hsz
      clear hT hP hPs hnx hsz hzr
      go_upto_region 7 with (fail)
      refine Steady.region 11 (by kernel_rfl) (by kernel_rfl) (fun u => Below wr.heap.size wr u) ((Below.refl _ _).drew) ?_
      simp only [List.take_succ_cons, List.take_zero, List.drop_succ_cons, List.drop_zero]
      refine Steady.take ?_ rfl (by intro u hu; obtain ⟨c0, c1, -⟩ := HC1.out u hu; go_simp; with_reducible rfl) ?_
      simp only [Act.put, List.setIfInBounds_toArray, List.set_cons_zero, List.set_cons_succ]
      refine Steady.take ?_ rfl (by intro u hu; go_simp; with_reducible rfl) ?_
      simp only [Act.put, List.setIfInBounds_toArray, List.set_cons_zero, List.set_cons_succ]
      refine Steady.take ?_ rfl (by intro u hu; go_simp; with_reducible rfl) ?_
      simp only [Act.put, List.setIfInBounds_toArray, List.set_cons_zero, List.set_cons_succ]
      refine Steady.take ?_ rfl (by intro u hu; go_simp; with_reducible rfl) ?_
      simp only [Act.put, List.setIfInBounds_toArray, List.set_cons_zero, List.set_cons_succ]
      refine Steady.take ?_ rfl (by intro u hu; go_simp; with_reducible rfl) ?_
      simp only [Act.put, List.setIfInBounds_toArray, List.set_cons_zero, List.set_cons_succ]
      refine Steady.take ?_ rfl (by intro u hu; obtain ⟨c0, c1, -⟩ := HC1.out u hu; go_simp; with_reducible rfl) ?_
      simp only [Act.put, List.setIfInBounds_toArray, List.set_cons_zero, List.set_cons_succ]
      refine Steady.take ?_ rfl (by intro u hu; go_simp; with_reducible rfl) ?_
      simp only [Act.put, List.setIfInBounds_toArray, List.set_cons_zero, List.set_cons_succ]
      refine Steady.take ?_ rfl (by intro u hu; go_simp; with_reducible rfl) ?_
      simp only [Act.put, List.setIfInBounds_toArray, List.set_cons_zero, List.set_cons_succ]
      refine Steady.take ?_ rfl (by intro u hu; go_simp; with_reducible rfl) ?_
      simp only [Act.put, List.setIfInBounds_toArray, List.set_cons_zero, List.set_cons_succ]
      refine Steady.call _ _ _ rfl ?_ (keptIf RB1.out) ?_
      · intro u
        go_simp
      simp only [Act.put, List.setIfInBounds_toArray, List.set_cons_zero, List.set_cons_succ]
      refine Steady.call _ _ _ rfl ?_ (keptIf RR1.out) ?_
      · intro u
        go_simp
      simp only [Act.put, List.setIfInBounds_toArray, List.set_cons_zero, List.set_cons_succ]
      refine Steady.nil ?_
      intro w5 hb5
      have HBU5 := Lib.hid (isBuilder_below HBU.out hb5)
      have HW5 := Lib.hid (HW.out.trans (hb5.mono HW.out.size))
      clear hb5
      go_wp2_with fail
      refine (Use.write_any w1.heap.size w1.heap.size (upto F k) _ _ HBU5.out HSZ.out HW5.out.size).mono ?_
      rintro e w6 ⟨rfl, hbu6, hb6⟩
      rw [← HNX.out] at hbu6
      have HBU6 := Lib.hid hbu6
      have HW6 := Lib.hid (HW5.out.trans hb6)
      clear hbu6 hb6
      go_wp2
      go_roundw
      case rel => exact ⟨k + 1, by omega, by go_num, HBU6.out, HW6.out⟩
      case measure => simp [intOf]; omega
    · obtain rfl : k = M := by omega
      have RS := Lib.hid (fun (u : World) (q : Below w1.heap.size wr u ∧ Lib.IsBuilderF 49 5 w1.heap.size w1.heap.size (Lib.byteCells (upto F k)) u) =>
        (Use.string_f w1.heap.size w1.heap.size (upto F k) u q.2 (HW.out.trans q.1).size).mono (fun e w' (y : e = .returned (.string ⟨(upto F k).toArray⟩) ∧ _) => (⟨y.1, q.1.trans y.2.2, y.2.1⟩ : e = .returned (.string (tx (upto F k))) ∧ (Below w1.heap.size wr w' ∧ Lib.IsBuilderF 49 5 w1.heap.size w1.heap.size (Lib.byteCells (upto F k)) w'))))
      have hzr := HB1.out.trans (HW.out.mono HB1.out.size)
      have HZU := Lib.hid (fun (u : World) (q : Below w1.heap.size wr u) => HB1.out.trans ((HW.out.trans q).mono HB1.out.size))
      have HST := Lib.hid (show Below w1.heap.size wr wr.drew ∧ Lib.IsBuilderF 49 5 w1.heap.size w1.heap.size (Lib.byteCells (upto F k)) wr.drew from ⟨(Below.refl _ _).drew, Lib.IsBuilderF.of (isBuilder_below HBU.out (Below.refl _ _).drew)⟩)
      clear hzr
      generalize tx (upto F k) = E at *
      go_upto_region 9 with (fail)
      refine Steady.region 4 (by kernel_rfl) (by kernel_rfl) (fun u => Below w1.heap.size wr u ∧ Lib.IsBuilderF 49 5 w1.heap.size w1.heap.size (Lib.byteCells (upto F k)) u) HST.out ?_
      simp only [List.take_succ_cons, List.take_zero, List.drop_succ_cons, List.drop_zero]
      refine Steady.take ?_ rfl (by intro u hu; obtain ⟨c0, c1, -⟩ := HC.out u (HZU.out u hu.1); go_simp; with_reducible rfl) ?_
      simp only [Act.put, List.setIfInBounds_toArray, List.set_cons_zero, List.set_cons_succ]
      refine Steady.take ?_ rfl (by intro u hu; go_simp; with_reducible rfl) ?_
      simp only [Act.put, List.setIfInBounds_toArray, List.set_cons_zero, List.set_cons_succ]
      refine Steady.take ?_ rfl (by intro u hu; go_simp; with_reducible rfl) ?_
      simp only [Act.put, List.setIfInBounds_toArray, List.set_cons_zero, List.set_cons_succ]
      refine Steady.call _ _ _ rfl ?_ (id RS.out) ?_
      · intro u
        go_simp
      simp only [Act.put, List.setIfInBounds_toArray, List.set_cons_zero, List.set_cons_succ]
      refine Steady.nil ?_
      intro w5 hb5
      have HZ5 := Lib.hid (HZU.out w5 hb5.1)
      clear hb5
      go_wp2_with fail
      refine (RT.out _ (HC.out _ HZ5.out).2.2).mono ?_
      rintro e w6 ⟨rfl, hb6⟩
      have HZ6 := Lib.hid (HB0.out.trans ((HZ5.out.trans (hb6.mono HZ5.out.size)).mono HB0.out.size))
      clear hb6
      go_wp2
      go_ret
      exact ⟨rfl, HZ6.out⟩
end Go.Proofs.YtncafbejgidliaaDoor.Chn
