/-
  ChainsRun: so far, and then farther, is as far in one run; a run of nothing changes nothing: for every input, the law answers true and changes nothing that was there. Condition: the constant table lies as the program's text lays it (the card ties it).
-/
import Derived.Test.YtjhilaiilckalaaDoorChnAwake
import Derived.Test.YtjhilaiilckalaaDoorConstFrame
import Derived.Test.YtjhilaiilckalaaDoorBoxed
import Derived.Test.YtjhilaiilckalaaDoorCards
import Derived.Test.YtjhilaiilckalaaDoorOpen
import Derived.Test.YtjhilaiilckalaaDoorTie
import Derived.SevenTiedAt
namespace Go.Proofs.YtjhilaiilckalaaDoor.LawRun
open Go.ChangeShapes Go.WideShapes Go.ChangeAt Go.ChangeMaps Go.RowKit Mur Sha Chn
set_option maxRecDepth 100000

theorem rest_of (x : Int) (q : Nat) (h1 : 0 < q) (h2 : q ≤ 1000) : ∃ m : Nat, m < q ∧ wrap64 ((IntKind.u64.wrap x).tmod (q : Int)) = (m : Int) := by
  rw [IntKind.wrap_u64, Int.tmod_eq_emod_of_nonneg (by omega)]
  have h3 : 0 ≤ x % 18446744073709551616 % (q : Int) := Int.emod_nonneg _ (by omega)
  have h4 : x % 18446744073709551616 % (q : Int) < q := Int.emod_lt_of_pos _ (by omega)
  refine ⟨(x % 18446744073709551616 % (q : Int)).toNat, by omega, ?_⟩
  rw [IntWalk.wrap64_in _ (by omega)]
  omega

set_option maxHeartbeats 6400000 in
theorem law_small (s0 s1 n0 n1 n2 : Int) (room v : ByteArray) (w : World) (hg : room.size + v.size ≤ 600) (hk : Consts w) :
    Calls Tryd.prog 5 #[.agg #[.int .i64 s0, .int .i64 s1], .agg #[.int .i64 n0, .int .i64 n1, .int .i64 n2], .agg #[.string room, .string v]] w
      fun e w' => e = .returned (.bool true) ∧ Below w.heap.size w w' := by
  have hd1 : decide (600 < (room.size : Int) + (v.size : Int)) = false := by simp; omega
  obtain ⟨a, ha, ha2⟩ := rest_of n0 16 (by omega) (by omega)
  obtain ⟨m, hm, hm2⟩ := rest_of n1 (16 - a) (by omega) (by omega)
  obtain ⟨b, hb⟩ : ∃ b, b = a + m := ⟨_, rfl⟩
  obtain ⟨l, hl, hl2⟩ := rest_of n2 (16 - b) (by omega) (by omega)
  obtain ⟨c, hc⟩ : ∃ c, c = b + l := ⟨_, rfl⟩
  have hc15 : c ≤ 15 := by omega
  have hb15 : b ≤ 15 := by omega
  have hbc : b ≤ c := by omega
  have hab : a ≤ b := by omega
  obtain ⟨q1, hq1⟩ : ∃ q, q = 16 - a := ⟨_, rfl⟩
  obtain ⟨q2, hq2⟩ : ∃ q, q = 16 - b := ⟨_, rfl⟩
  rw [← hq1] at hm2
  rw [← hq2] at hl2
  have e1 : (16 : Int) - (a : Int) = (q1 : Int) := by omega
  have e2 : (16 : Int) - (b : Int) = (q2 : Int) := by omega
  have e3 : (a : Int) + (m : Int) = (b : Int) := by omega
  have e4 : (b : Int) + (l : Int) = (c : Int) := by omega
  have q1p : 0 < q1 ∧ q1 ≤ 16 := by omega
  have q2p : 0 < q2 ∧ q2 ≤ 16 := by omega
  have u1 : IntKind.u64.wrap (q1 : Int) = (q1 : Int) := by rw [IntKind.wrap_u64]; omega
  have u2 : IntKind.u64.wrap (q2 : Int) = (q2 : Int) := by rw [IntKind.wrap_u64]; omega
  obtain ⟨X, hX⟩ : ∃ X : ByteArray, X = tx (runI 2 room.data.toList s0 s1 (a : Int) (b : Int) v.data.toList) := ⟨_, rfl⟩
  obtain ⟨Y, hY⟩ : ∃ X : ByteArray, X = tx (runI 2 room.data.toList s0 s1 (a : Int) (c : Int) v.data.toList) := ⟨_, rfl⟩
  have hXs : X.size ≤ v.size + 32 := by rw [hX]; exact run_le 2 _ _ _ _ _ _ (by omega)
  have hXY : Y = tx (runI 2 room.data.toList s0 s1 (b : Int) (c : Int) X.data.toList) := by rw [hY, hX, tx_list, runI_add 2 _ _ _ a b c _ hab hbc hc15]
  have hvv : v = tx (runI 2 room.data.toList s0 s1 (a : Int) (a : Int) v.data.toList) := by rw [runI_none 2 _ _ _ a _ (by omega)]
  have R0 := Lib.hid (fun u => shape_any u)
  have RA := Lib.hid (fun u hu => awake_any u hu)
  have R1 := Lib.hid (show ∀ u, Consts u → Calls Tryd.prog 15 #[.agg #[.int .i64 2, .int .i64 2], .string room, .agg #[.int .i64 s0, .int .i64 s1], .int .i64 (a : Int), .int .i64 (b : Int), .string v] u fun e w' => e = .returned (.string X) ∧ Below u.heap.size u w' from fun u hu => run_any 2 2 room v s0 s1 a b X u right_22 (by omega) hX hu)
  have R2 := Lib.hid (show ∀ u, Consts u → Calls Tryd.prog 15 #[.agg #[.int .i64 2, .int .i64 2], .string room, .agg #[.int .i64 s0, .int .i64 s1], .int .i64 (b : Int), .int .i64 (c : Int), .string X] u fun e w' => e = .returned (.string Y) ∧ Below u.heap.size u w' from fun u hu => run_any 2 2 room X s0 s1 b c Y u right_22 (by omega) hXY hu)
  have R3 := Lib.hid (show ∀ u, Consts u → Calls Tryd.prog 15 #[.agg #[.int .i64 2, .int .i64 2], .string room, .agg #[.int .i64 s0, .int .i64 s1], .int .i64 (a : Int), .int .i64 (c : Int), .string v] u fun e w' => e = .returned (.string Y) ∧ Below u.heap.size u w' from fun u hu => run_any 2 2 room v s0 s1 a c Y u right_22 (by omega) hY hu)
  have R4 := Lib.hid (show ∀ u, Consts u → Calls Tryd.prog 15 #[.agg #[.int .i64 2, .int .i64 2], .string room, .agg #[.int .i64 s0, .int .i64 s1], .int .i64 (a : Int), .int .i64 (a : Int), .string v] u fun e w' => e = .returned (.string v) ∧ Below u.heap.size u w' from fun u hu => run_any 2 2 room v s0 s1 a a v u right_22 (by omega) hvv hu)
  have HA2 := Lib.hid ha2
  have HM2 := Lib.hid hm2
  have HL2 := Lib.hid hl2
  have E1 := Lib.hid e1
  have E2 := Lib.hid e2
  have E3 := Lib.hid e3
  have E4 := Lib.hid e4
  have U1 := Lib.hid u1
  have U2 := Lib.hid u2
  clear hX hY hXs hXY hvv ha2 hm2 hl2 e1 e2 e3 e4 u1 u2 hq1 hq2 hb hc
  have hB0 := (((Below.refl w.heap.size w).alloc (Nat.le_refl _) (.cells #[.int .i64 s0, .int .i64 s1] 27)).alloc (by simp) (.cells #[.int .i64 n0, .int .i64 n1, .int .i64 n2] 25)).alloc (by simp; omega) (.cells #[.string room, .string v] 41)
  have hx0 := Boxed.cells_three w #[.int .i64 s0, .int .i64 s1] #[.int .i64 n0, .int .i64 n1, .int .i64 n2] #[.string room, .string v] 27 25 41
  go_enter Tryd.func5, Tryd.ntmps5
  go_upto_region 1 with (fail)
  generalize ((w.alloc (.cells #[.int .i64 s0, .int .i64 s1] 27)).alloc (.cells #[.int .i64 n0, .int .i64 n1, .int .i64 n2] 25)).alloc (.cells #[.string room, .string v] 41) = wz at *
  obtain ⟨hz, hcell⟩ := hx0
  have hz0 : w.heap.size < wz.heap.size := by omega
  have hz1 : w.heap.size + 1 < wz.heap.size := by omega
  have hz2 : w.heap.size + 1 + 1 < wz.heap.size := by omega
  have HC := Lib.hid (fun (u : World) (q : Below wz.heap.size wz u) => (⟨(q.cell (p := ⟨w.heap.size, 0, none⟩) hz0).trans (hcell.1 0 _ rfl), (q.cell (p := ⟨w.heap.size, 1, none⟩) hz0).trans (hcell.1 1 _ rfl),
    (q.cell (p := ⟨w.heap.size + 1, 0, none⟩) hz1).trans (hcell.2.1 0 _ rfl), (q.cell (p := ⟨w.heap.size + 1, 1, none⟩) hz1).trans (hcell.2.1 1 _ rfl), (q.cell (p := ⟨w.heap.size + 1, 2, none⟩) hz1).trans (hcell.2.1 2 _ rfl),
    (q.cell (p := ⟨w.heap.size + 1 + 1, 0, none⟩) hz2).trans (hcell.2.2 0 _ rfl), (q.cell (p := ⟨w.heap.size + 1 + 1, 1, none⟩) hz2).trans (hcell.2.2 1 _ rfl), hk.below hk.1 (hB0.trans (q.mono hB0.size))⟩ :
    u.cell? ⟨w.heap.size, 0, none⟩ = some (.int .i64 s0) ∧ u.cell? ⟨w.heap.size, 1, none⟩ = some (.int .i64 s1) ∧ u.cell? ⟨w.heap.size + 1, 0, none⟩ = some (.int .i64 n0) ∧ u.cell? ⟨w.heap.size + 1, 1, none⟩ = some (.int .i64 n1) ∧ u.cell? ⟨w.heap.size + 1, 2, none⟩ = some (.int .i64 n2) ∧ u.cell? ⟨w.heap.size + 1 + 1, 0, none⟩ = some (.string room) ∧ u.cell? ⟨w.heap.size + 1 + 1, 1, none⟩ = some (.string v) ∧ Consts u))
  have HB0 := Lib.hid hB0
  clear hB0 hz hz0 hz1 hz2 hcell hk
  obtain ⟨c0, c1, c2, c3, c4, c5, c6, -⟩ := HC.out _ (Below.refl _ _)
  go_wp2_with fail
  refine (R0.out _).mono ?_
  rintro e w1 ⟨rfl, hb1⟩
  clear c0 c1 c2 c3 c4 c5 c6
  go_upto_region 4 with (fail)
  have hb2 := hb1.alloc hb1.size (.cells #[.int .i64 2, .int .i64 2] 23)
  have hp0 : (w1.alloc (.cells #[.int .i64 2, .int .i64 2] 23)).cell? ⟨w1.heap.size, 0, none⟩ = some (.int .i64 2) := by simp
  have hp1 : (w1.alloc (.cells #[.int .i64 2, .int .i64 2] 23)).cell? ⟨w1.heap.size, 1, none⟩ = some (.int .i64 2) := by simp
  have hpl : w1.heap.size < (w1.alloc (.cells #[.int .i64 2, .int .i64 2] 23)).heap.size := by simp
  generalize w1.alloc (.cells #[.int .i64 2, .int .i64 2] 23) = w2 at *
  generalize w1.heap.size = np at *
  have HC2 := Lib.hid (fun (u : World) (q : Below w2.heap.size w2 u) => HC.out u (hb2.trans (q.mono hb2.size)))
  have HP := Lib.hid (fun (u : World) (q : Below w2.heap.size w2 u) => (⟨(q.cell (p := ⟨np, 0, none⟩) hpl).trans hp0, (q.cell (p := ⟨np, 1, none⟩) hpl).trans hp1⟩ : u.cell? ⟨np, 0, none⟩ = some (.int .i64 2) ∧ u.cell? ⟨np, 1, none⟩ = some (.int .i64 2)))
  have HB2 := Lib.hid (HB0.out.trans (hb2.mono HB0.out.size))
  clear hb1 hb2 hp0 hp1 hpl HC
  obtain ⟨c0, c1, c2, c3, c4, c5, c6, hk2⟩ := HC2.out _ (Below.refl _ _)
  have HK2 := Lib.hid hk2
  clear hk2
  have g1 := HA2.out
  rw [show ((16 : Nat) : Int) = 16 from rfl] at g1
  go_upto_region 5 with (fail)
  try rw [g1]
  clear g1
  have x1 := E1.out
  have x2 := U1.out
  have x3 := HM2.out
  have x4 := E3.out
  have x5 : (0 : Int) < (q1 : Int) := by omega
  go_upto_region 6 with (fail)
  clear x1 x2 x3 x4 x5
  have x1 := E2.out
  have x2 := U2.out
  have x3 := HL2.out
  have x4 := E4.out
  have x5 : (0 : Int) < (q2 : Int) := by omega
  go_upto_region 7 with (fail)
  clear x1 x2 x3 x4 x5
  obtain ⟨p0, p1⟩ := HP.out _ (Below.refl _ _)
  go_wp2_with fail
  refine (R1.out _ HK2.out).mono ?_
  rintro e w3 ⟨rfl, hb3⟩
  clear c0 c1 c2 c3 c4 c5 c6 p0 p1
  have HW3 := Lib.hid hb3
  clear hb3
  go_upto_region 8 with (fail)
  have HC3 := Lib.hid (fun (u : World) (q : Below w3.heap.size w3 u) => HC2.out u (HW3.out.trans (q.mono HW3.out.size)))
  have HP3 := Lib.hid (fun (u : World) (q : Below w3.heap.size w3 u) => HP.out u (HW3.out.trans (q.mono HW3.out.size)))
  have S2 := Lib.hid (fun (u : World) (q : Below w3.heap.size w3 u) => R2.out u (HC3.out u q).2.2.2.2.2.2.2)
  have S3 := Lib.hid (fun (u : World) (q : Below w3.heap.size w3 u) => R3.out u (HC3.out u q).2.2.2.2.2.2.2)
  have S4 := Lib.hid (fun (u : World) (q : Below w3.heap.size w3 u) => R4.out u (HC3.out u q).2.2.2.2.2.2.2)
  have SA := Lib.hid (fun (u : World) (q : Below w3.heap.size w3 u) => RA.out u (HC3.out u q).2.2.2.2.2.2.2)
  refine Steady.region 35 (by kernel_rfl) (by kernel_rfl) (fun u => Below w3.heap.size w3 u) ((Below.refl _ _).drew) ?_
  simp only [List.take_succ_cons, List.take_zero, List.drop_succ_cons, List.drop_zero]
  refine Steady.take ?_ rfl (by intro u hu; obtain ⟨p0, p1⟩ := HP3.out u hu; go_simp; with_reducible rfl) ?_
  simp only [Act.put, List.setIfInBounds_toArray, List.set_cons_zero, List.set_cons_succ]
  refine Steady.take ?_ rfl (by intro u hu; go_simp; with_reducible rfl) ?_
  simp only [Act.put, List.setIfInBounds_toArray, List.set_cons_zero, List.set_cons_succ]
  refine Steady.take ?_ rfl (by intro u hu; obtain ⟨-, -, -, -, -, c5, c6, -⟩ := HC3.out u hu; go_simp; with_reducible rfl) ?_
  simp only [Act.put, List.setIfInBounds_toArray, List.set_cons_zero, List.set_cons_succ]
  refine Steady.take ?_ rfl (by intro u hu; obtain ⟨c0, c1, -⟩ := HC3.out u hu; go_simp; with_reducible rfl) ?_
  simp only [Act.put, List.setIfInBounds_toArray, List.set_cons_zero, List.set_cons_succ]
  refine Steady.take ?_ rfl (by intro u hu; go_simp; with_reducible rfl) ?_
  simp only [Act.put, List.setIfInBounds_toArray, List.set_cons_zero, List.set_cons_succ]
  refine Steady.take ?_ rfl (by intro u hu; go_simp; with_reducible rfl) ?_
  simp only [Act.put, List.setIfInBounds_toArray, List.set_cons_zero, List.set_cons_succ]
  refine Steady.take ?_ rfl (by intro u hu; go_simp; with_reducible rfl) ?_
  simp only [Act.put, List.setIfInBounds_toArray, List.set_cons_zero, List.set_cons_succ]
  refine Steady.call _ _ _ rfl ?_ (keptIf S2.out) ?_
  · intro u
    go_simp
  simp only [Act.put, List.setIfInBounds_toArray, List.set_cons_zero, List.set_cons_succ]
  refine Steady.take ?_ rfl (by intro u hu; obtain ⟨p0, p1⟩ := HP3.out u hu; go_simp; with_reducible rfl) ?_
  simp only [Act.put, List.setIfInBounds_toArray, List.set_cons_zero, List.set_cons_succ]
  refine Steady.take ?_ rfl (by intro u hu; go_simp; with_reducible rfl) ?_
  simp only [Act.put, List.setIfInBounds_toArray, List.set_cons_zero, List.set_cons_succ]
  refine Steady.take ?_ rfl (by intro u hu; obtain ⟨-, -, -, -, -, c5, c6, -⟩ := HC3.out u hu; go_simp; with_reducible rfl) ?_
  simp only [Act.put, List.setIfInBounds_toArray, List.set_cons_zero, List.set_cons_succ]
  refine Steady.take ?_ rfl (by intro u hu; obtain ⟨c0, c1, -⟩ := HC3.out u hu; go_simp; with_reducible rfl) ?_
  simp only [Act.put, List.setIfInBounds_toArray, List.set_cons_zero, List.set_cons_succ]
  refine Steady.take ?_ rfl (by intro u hu; go_simp; with_reducible rfl) ?_
  simp only [Act.put, List.setIfInBounds_toArray, List.set_cons_zero, List.set_cons_succ]
  refine Steady.take ?_ rfl (by intro u hu; go_simp; with_reducible rfl) ?_
  simp only [Act.put, List.setIfInBounds_toArray, List.set_cons_zero, List.set_cons_succ]
  refine Steady.take ?_ rfl (by intro u hu; go_simp; with_reducible rfl) ?_
  simp only [Act.put, List.setIfInBounds_toArray, List.set_cons_zero, List.set_cons_succ]
  refine Steady.take ?_ rfl (by intro u hu; obtain ⟨-, -, -, -, -, c5, c6, -⟩ := HC3.out u hu; go_simp; with_reducible rfl) ?_
  simp only [Act.put, List.setIfInBounds_toArray, List.set_cons_zero, List.set_cons_succ]
  refine Steady.call _ _ _ rfl ?_ (keptIf S3.out) ?_
  · intro u
    go_simp
  simp only [Act.put, List.setIfInBounds_toArray, List.set_cons_zero, List.set_cons_succ]
  refine Steady.take ?_ rfl (by intro u hu; go_simp; with_reducible rfl) ?_
  simp only [Act.put, List.setIfInBounds_toArray, List.set_cons_zero, List.set_cons_succ]
  refine Steady.take ?_ rfl (by intro u hu; go_simp; with_reducible rfl) ?_
  simp only [Act.put, List.setIfInBounds_toArray, List.set_cons_zero, List.set_cons_succ]
  refine Steady.take ?_ rfl (by intro u hu; obtain ⟨p0, p1⟩ := HP3.out u hu; go_simp; with_reducible rfl) ?_
  simp only [Act.put, List.setIfInBounds_toArray, List.set_cons_zero, List.set_cons_succ]
  refine Steady.take ?_ rfl (by intro u hu; go_simp; with_reducible rfl) ?_
  simp only [Act.put, List.setIfInBounds_toArray, List.set_cons_zero, List.set_cons_succ]
  refine Steady.take ?_ rfl (by intro u hu; obtain ⟨-, -, -, -, -, c5, c6, -⟩ := HC3.out u hu; go_simp; with_reducible rfl) ?_
  simp only [Act.put, List.setIfInBounds_toArray, List.set_cons_zero, List.set_cons_succ]
  refine Steady.take ?_ rfl (by intro u hu; obtain ⟨c0, c1, -⟩ := HC3.out u hu; go_simp; with_reducible rfl) ?_
  simp only [Act.put, List.setIfInBounds_toArray, List.set_cons_zero, List.set_cons_succ]
  refine Steady.take ?_ rfl (by intro u hu; go_simp; with_reducible rfl) ?_
  simp only [Act.put, List.setIfInBounds_toArray, List.set_cons_zero, List.set_cons_succ]
  refine Steady.take ?_ rfl (by intro u hu; go_simp; with_reducible rfl) ?_
  simp only [Act.put, List.setIfInBounds_toArray, List.set_cons_zero, List.set_cons_succ]
  refine Steady.take ?_ rfl (by intro u hu; go_simp; with_reducible rfl) ?_
  simp only [Act.put, List.setIfInBounds_toArray, List.set_cons_zero, List.set_cons_succ]
  refine Steady.take ?_ rfl (by intro u hu; obtain ⟨-, -, -, -, -, c5, c6, -⟩ := HC3.out u hu; go_simp; with_reducible rfl) ?_
  simp only [Act.put, List.setIfInBounds_toArray, List.set_cons_zero, List.set_cons_succ]
  refine Steady.call _ _ _ rfl ?_ (keptIf S4.out) ?_
  · intro u
    go_simp
  simp only [Act.put, List.setIfInBounds_toArray, List.set_cons_zero, List.set_cons_succ]
  refine Steady.take ?_ rfl (by intro u hu; go_simp; with_reducible rfl) ?_
  simp only [Act.put, List.setIfInBounds_toArray, List.set_cons_zero, List.set_cons_succ]
  refine Steady.take ?_ rfl (by intro u hu; obtain ⟨-, -, -, -, -, c5, c6, -⟩ := HC3.out u hu; go_simp; with_reducible rfl) ?_
  simp only [Act.put, List.setIfInBounds_toArray, List.set_cons_zero, List.set_cons_succ]
  refine Steady.take ?_ rfl (by intro u hu; go_simp; with_reducible rfl) ?_
  simp only [Act.put, List.setIfInBounds_toArray, List.set_cons_zero, List.set_cons_succ]
  refine Steady.take ?_ rfl (by intro u hu; go_simp; with_reducible rfl) ?_
  simp only [Act.put, List.setIfInBounds_toArray, List.set_cons_zero, List.set_cons_succ]
  refine Steady.take ?_ rfl (by intro u hu; go_simp; with_reducible rfl) ?_
  simp only [Act.put, List.setIfInBounds_toArray, List.set_cons_zero, List.set_cons_succ]
  refine Steady.call _ _ _ rfl ?_ (keptIf SA.out) ?_
  · intro u
    go_simp
  simp only [Act.put, List.setIfInBounds_toArray, List.set_cons_zero, List.set_cons_succ]
  refine Steady.take ?_ rfl (by intro u hu; go_simp; with_reducible rfl) ?_
  simp only [Act.put, List.setIfInBounds_toArray, List.set_cons_zero, List.set_cons_succ]
  refine Steady.nil ?_
  intro w5 hb5
  have HB5 := Lib.hid (HB2.out.trans ((HW3.out.trans (hb5.mono HW3.out.size)).mono HB2.out.size))
  clear hb5
  go_wp2
  go_ret
  exact ⟨rfl, HB5.out⟩

set_option maxHeartbeats 1600000 in
theorem law_great (s0 s1 n0 n1 n2 : Int) (room v : ByteArray) (w : World) (hg : ¬ room.size + v.size ≤ 600) (h1 : room.size ≤ 140737488351232) (h2 : v.size ≤ 140737488351232) (hk : Consts w) :
    Calls Tryd.prog 5 #[.agg #[.int .i64 s0, .int .i64 s1], .agg #[.int .i64 n0, .int .i64 n1, .int .i64 n2], .agg #[.string room, .string v]] w
      fun e w' => e = .returned (.bool true) ∧ Below w.heap.size w w' := by
  have hd1 : decide (600 < (room.size : Int) + (v.size : Int)) = true := by simp; omega
  have RA := Lib.hid (fun u hu => awake_any u hu)
  have hB0 := (((Below.refl w.heap.size w).alloc (Nat.le_refl _) (.cells #[.int .i64 s0, .int .i64 s1] 27)).alloc (by simp) (.cells #[.int .i64 n0, .int .i64 n1, .int .i64 n2] 25)).alloc (by simp; omega) (.cells #[.string room, .string v] 41)
  have HK := Lib.hid (hk.below hk.1 hB0)
  have HB := Lib.hid hB0
  clear hk hB0
  go_enter Tryd.func5, Tryd.ntmps5
  go_wp2_with fail
  refine (RA.out _ HK.out).mono ?_
  rintro e w1 ⟨rfl, hb1⟩
  have HB1 := Lib.hid (HB.out.trans (hb1.mono HB.out.size))
  clear hb1
  go_wp2
  go_ret
  exact ⟨rfl, HB1.out⟩

theorem walk (s0 s1 n0 n1 n2 : Int) (room v : ByteArray) (w : World) (h1 : room.size ≤ 140737488351232) (h2 : v.size ≤ 140737488351232) (hk : Consts w) :
    Calls Tryd.prog 5 #[.agg #[.int .i64 s0, .int .i64 s1], .agg #[.int .i64 n0, .int .i64 n1, .int .i64 n2], .agg #[.string room, .string v]] w
      fun e w' => e = .returned (.bool true) ∧ Below w.heap.size w w' := by
  by_cases hg : room.size + v.size ≤ 600
  · exact law_small s0 s1 n0 n1 n2 room v w hg hk
  · exact law_great s0 s1 n0 n1 n2 room v w hg h1 h2 hk

theorem two_of {α : Type} (l : List α) (h : l.length = 2) : ∃ a b, l = [a, b] := by
  match l, h with
  | [a, b], _ => exact ⟨a, b, rfl⟩
theorem three_of {α : Type} (l : List α) (h : l.length = 3) : ∃ a b c, l = [a, b, c] := by
  match l, h with
  | [a, b, c], _ => exact ⟨a, b, c, rfl⟩
theorem laidOut : laidOutB Tryd.prog = true := by kernel_rfl

set_option maxRecDepth 100000 in
theorem lifted (os : Os) (started : os.Started) (H : Type) (enc : TypeId × Value → H) :
    ReturnsInHanded {} Tryd.checked os 5 .any (fun w args => (Rows.chainsRunSpec.pre enc Tryd.prog Tryd.f5 [] false w args ∧ laidMetH Tryd.prog laidL w) ∧ sizedMet enc Tryd.prog Tryd.f5 (OpenSpec.ofChange Rows.chainsRunSpec) false w args)
      (Rows.chainsRunSpec.post enc Tryd.prog Tryd.f5 false true false false) := by
  refine returnsInHanded_of_change_and (C := Tryd.checked) (X := fun w _ => laidMetH Tryd.prog laidL w) (fun _ _ _ hh h => h.of_heap hh) own started (by kernel_rfl) Tryd.func5
    (ChangeSpec.witness_shaped (enc := enc) (C := Tryd.checked) (os := os) (X := fun w _ => laidMetH Tryd.prog laidL w) false (World.doorLaid Tryd.prog 400 os) #[.agg #[.int .i64 0, .int .i64 0], .agg #[.int .i64 0, .int .i64 0, .int .i64 0], .agg #[.string ByteArray.empty, .string ByteArray.empty]] 8 rfl (World.shaped_of_RefB (by kernel_rfl) (by kernel_rfl)) (by kernel_rfl) (by kernel_rfl) (by kernel_rfl) (door_met os _)) ?_
  intro W base args ds gs before hval0 hW _ hsz0 hL _
  have hval : ∀ (j : Nat) t v, Tryd.f5.params[j]? = some t → args[j]? = some v → Value.okWide Tryd.prog W .any base t v := hval0
  have hsz : (DataW.weightsEach Tryd.prog (Tryd.f5.params.toList ++ Rows.chainsRunSpec.plain.varTypes Tryd.prog) (ds ++ gs)).all (· ≤ reachBytes) = true := hsz0
  clear hsz0
  have hW' := hW
  obtain ⟨p, q, hA0, hV, rfl, hfz, hnd⟩ := hW
  have hA : DataW.TrodAll enc Tryd.prog W 0 (fun _ => true) true Tryd.f5.params.toList args.toList ds p := hA0
  rw [Tryd.params5] at hA hval hsz
  obtain ⟨v0, vs0, d0, ds0, p0, q0, hargs, rfl, rfl, h0, r0⟩ := trodAll_cons hA
  obtain ⟨v1, vs1, d1, ds1, p1, q1, rfl, rfl, rfl, h1, r1⟩ := trodAll_cons r0
  obtain ⟨v2, vs2, d2, ds2, p2, q2, rfl, rfl, rfl, h2, r2⟩ := trodAll_cons r1
  obtain ⟨rfl, rfl, rfl⟩ := trodAll_nil r2
  obtain rfl : args = #[v0, v1, v2] := by cases args; simp_all
  obtain ⟨rfl, rfl⟩ := trodVars_none hV
  have k0 := h0
  have lt0 : ∀ x ∈ p0, x.block < W.heap.size := by obtain ⟨m, hm⟩ := k0; exact DataW.trod_lt m _ _ _ hm
  have k1 := h1
  have lt1 : ∀ x ∈ p1, x.block < W.heap.size := by obtain ⟨m, hm⟩ := k1; exact DataW.trod_lt m _ _ _ hm
  have k2 := h2
  have lt2 : ∀ x ∈ p2, x.block < W.heap.size := by obtain ⟨m, hm⟩ := k2; exact DataW.trod_lt m _ _ _ hm
  obtain ⟨ns0, hnl0, rfl, rfl, rfl, w0⟩ := Open.open_int_array Tryd.underlying27 Tryd.underlying3 (by kernel_rfl) (by kernel_rfl) (hval 0 27 v0 rfl rfl) h0
  obtain ⟨m0a, m0b, rfl⟩ := two_of ns0 hnl0
  obtain ⟨ns1, hnl1, rfl, rfl, rfl, w1⟩ := Open.open_int_array Tryd.underlying25 Tryd.underlying3 (by kernel_rfl) (by kernel_rfl) (hval 1 25 v1 rfl rfl) h1
  obtain ⟨m1a, m1b, m1c, rfl⟩ := three_of ns1 hnl1
  obtain ⟨ss2, hsl2, rfl, rfl, rfl, w2⟩ := Open.open_string_array Tryd.underlying41 Tryd.underlying9 (by kernel_rfl) (by kernel_rfl) (hval 2 41 v2 rfl rfl) h2
  have z2 := Open.sized_string_array hsz (j := 2) (t := 41) (ss := ss2) rfl rfl Tryd.underlying41
  obtain ⟨s2a, s2b, rfl⟩ := two_of ss2 hsl2
  have hcl := of_laid hL
  clear hA0 hval0
  refine (walk m0a m0b m1a m1b m1c s2a s2b W (z2 s2a (by simp)) (z2 s2b (by simp)) hcl).mono fun e W' ⟨he, bel⟩ => ?_
  subst he
  exact ⟨_, rfl, _, _, _, [], _, [], hW', trodAll_mk1 (shut_bool Tryd.underlying4 _), (trodAll_cons_mk (Below.trod laidOut (by kernel_rfl) (of_decide_eq_true (by kernel_rfl)) k0 bel lt0) (trodAll_cons_mk (Below.trod laidOut (by kernel_rfl) (of_decide_eq_true (by kernel_rfl)) k1 bel lt1) (trodAll_cons_mk (Below.trod laidOut (by kernel_rfl) (of_decide_eq_true (by kernel_rfl)) k2 bel lt2) trodAll_mk0))), rfl, bel.frame _, fun h => by cases h⟩

theorem over : Rows.ChainsRunSaid :=
  OpenClaim.holds_of_wide 5 Tryd.f5 rfl rfl rfl rfl rfl rfl rfl ⟨rfl, rfl, rfl, rfl, rfl⟩ rfl rfl rfl rfl rfl (by kernel_rfl) Tryd.func5 (by kernel_rfl)
    (of_decide_eq_true (by kernel_rfl)) (by unfold Func.isWrapper; first | (rw [if_pos (by decide +kernel)]; kernel_rfl) | (rw [if_neg (by decide +kernel)]; exact ⟨rfl, rfl⟩))
    (fun os started H enc _ => lifted os started H enc)

theorem proved : Rows.ChainsRunCardSaid :=
  Claim7.holds_tied_plain_at .later [] [.data] true Rows.chainsRunCard.stood.harness false
    over (fun _ h => by cases h) (by kernel_rfl) (fun _ h => by cases h) chainsRun_row_tie rfl ⟨rfl, rfl⟩ (by kernel_rfl) rfl
    (fun f fn hf hfn => by
      obtain rfl : f = 5 := Option.some.inj ((show Tryd.prog.funcNamed "murmur/murmurlaw07.ChainsRun" = some 5 by kernel_rfl).symm.trans hf) |>.symm
      obtain rfl : fn = Tryd.f5 := (Option.some.inj (Tryd.func5.symm.trans hfn)).symm
      exact ⟨by kernel_rfl, fun j t ht => by
        rw [Tryd.params5] at ht
        have hm : t ∈ [27, 25, 41] := by simpa using Array.mem_of_getElem? ht
        have hall : ([27, 25, 41].all fun u => !Tryd.prog.wantsStandIn u) = true := by kernel_rfl
        exact (show Tryd.prog.wantsStandIn t = false by simpa using List.all_eq_true.1 hall t hm)⟩)
    (by kernel_rfl)
#print axioms proved
end Go.Proofs.YtjhilaiilckalaaDoor.LawRun
