/-
  ChainsSay: digits, runs, leaves, signatures and what is found of them are those of the document's own answer, of any shapes and texts: for every input, the law answers true and changes nothing that was there. Condition: the constant table lies as the program's text lays it (the card ties it).
-/
import Derived.Test.YtjhilaiilckalaaDoorRChnTwo
import Derived.Test.YtjhilaiilckalaaDoorConstFrame
import Derived.Test.YtjhilaiilckalaaDoorBoxed
import Derived.Test.YtjhilaiilckalaaDoorOpenP
import Derived.Test.YtjhilaiilckalaaDoorCards
import Derived.Test.YtjhilaiilckalaaDoorTie
import Derived.SevenTiedAt
import Derived.Test.YtjhilaiilckalaaDoorSteadyH
namespace Go.Proofs.YtjhilaiilckalaaDoor.LawSay7
open Go.ChangeShapes Go.WideShapes Go.ChangeAt Go.ChangeMaps Go.RowKit Mur Sha Chn
set_option maxRecDepth 100000

theorem same (x : ByteArray) : (x.toList == x.toList) = true := by simp
/-- What is kept of the world through the last statement. -/
structure Keep (w0 : World) (w : World) : Prop where
  consts : Consts w
  below : Below w0.heap.size w0 w

set_option maxHeartbeats 3200000 in
theorem law_great (n h : Int) (seed room d sig : ByteArray) (n0 n1 n2 : Int) (w : World) (hg : ¬ (seed.size + room.size + d.size + sig.size ≤ 1500 ∧ n ≤ 6)) (h1 : seed.size ≤ 140737488351232) (h2 : room.size ≤ 140737488351232) (h3 : d.size ≤ 140737488351232) (h4 : sig.size ≤ 140737488351232) (hk : Consts w) :
    Calls Tryd.prog 3 #[.agg #[.int .i64 n, .int .i64 h], .agg #[.string seed, .string room, .string d, .string sig], .agg #[.int .i64 n0, .int .i64 n1, .int .i64 n2]] w
      fun e w' => e = .returned (.bool true) ∧ Below w.heap.size w w' := by
  have RA := Lib.hid (fun u hu => awake_any u hu)
  by_cases hs : seed.size + room.size + d.size + sig.size ≤ 1500
  · have hd1 : decide (1500 < (seed.size : Int) + (room.size : Int) + (d.size : Int) + (sig.size : Int)) = false := by simp; omega
    have hd2 : decide (6 < n) = true := by simp; omega
    clear hg
    have hB0 := (((Below.refl w.heap.size w).alloc (Nat.le_refl _) (.cells #[.int .i64 n, .int .i64 h] 23)).alloc (by simp) (.cells #[.string seed, .string room, .string d, .string sig] 24)).alloc (by simp; omega) (.cells #[.int .i64 n0, .int .i64 n1, .int .i64 n2] 25)
    have hx0 := Boxed.cells_three w #[.int .i64 n, .int .i64 h] #[.string seed, .string room, .string d, .string sig] #[.int .i64 n0, .int .i64 n1, .int .i64 n2] 23 24 25
    go_enter Tryd.func3, Tryd.ntmps3
    go_upto_region 1 with (fail)
    generalize ((w.alloc (.cells #[.int .i64 n, .int .i64 h] 23)).alloc (.cells #[.string seed, .string room, .string d, .string sig] 24)).alloc (.cells #[.int .i64 n0, .int .i64 n1, .int .i64 n2] 25) = wz at *
    obtain ⟨hz, hcell⟩ := hx0
    have hz0 : w.heap.size < wz.heap.size := by omega
    have hz1 : w.heap.size + 1 < wz.heap.size := by omega
    have hz2 : w.heap.size + 1 + 1 < wz.heap.size := by omega
    have HC := Lib.hid (fun (u : World) (q : Below wz.heap.size wz u) => (⟨(q.cell (p := ⟨w.heap.size, 0, none⟩) hz0).trans (hcell.1 0 _ rfl), (q.cell (p := ⟨w.heap.size, 1, none⟩) hz0).trans (hcell.1 1 _ rfl),
      (q.cell (p := ⟨w.heap.size + 1, 0, none⟩) hz1).trans (hcell.2.1 0 _ rfl), (q.cell (p := ⟨w.heap.size + 1, 1, none⟩) hz1).trans (hcell.2.1 1 _ rfl), (q.cell (p := ⟨w.heap.size + 1, 2, none⟩) hz1).trans (hcell.2.1 2 _ rfl), (q.cell (p := ⟨w.heap.size + 1, 3, none⟩) hz1).trans (hcell.2.1 3 _ rfl),
      (q.cell (p := ⟨w.heap.size + 1 + 1, 0, none⟩) hz2).trans (hcell.2.2 0 _ rfl), (q.cell (p := ⟨w.heap.size + 1 + 1, 1, none⟩) hz2).trans (hcell.2.2 1 _ rfl), (q.cell (p := ⟨w.heap.size + 1 + 1, 2, none⟩) hz2).trans (hcell.2.2 2 _ rfl), hk.below hk.1 (hB0.trans (q.mono hB0.size))⟩ :
      u.cell? ⟨w.heap.size, 0, none⟩ = some (.int .i64 n) ∧ u.cell? ⟨w.heap.size, 1, none⟩ = some (.int .i64 h) ∧ u.cell? ⟨w.heap.size + 1, 0, none⟩ = some (.string seed) ∧ u.cell? ⟨w.heap.size + 1, 1, none⟩ = some (.string room) ∧ u.cell? ⟨w.heap.size + 1, 2, none⟩ = some (.string d) ∧ u.cell? ⟨w.heap.size + 1, 3, none⟩ = some (.string sig) ∧ u.cell? ⟨w.heap.size + 1 + 1, 0, none⟩ = some (.int .i64 n0) ∧ u.cell? ⟨w.heap.size + 1 + 1, 1, none⟩ = some (.int .i64 n1) ∧ u.cell? ⟨w.heap.size + 1 + 1, 2, none⟩ = some (.int .i64 n2) ∧ Consts u))
    have HB0 := Lib.hid hB0
    clear hB0 hz hz0 hz1 hz2 hcell hk
    obtain ⟨-, -, c2, c3, c4, c5, -, -, -, -⟩ := HC.out _ (Below.refl _ _)
    go_quiet (fail)
    clear c2 c3 c4 c5
    have HW0 := Lib.hid (belowN (Below.refl wz.heap.size wz) nq)
    generalize wz.drewN nq = w0 at *
    obtain ⟨c0, c1, -⟩ := HC.out _ HW0.out
    go_wp2_with fail
    refine (RA.out _ (HC.out _ HW0.out).2.2.2.2.2.2.2.2.2).mono ?_
    rintro e w1 ⟨rfl, hb1⟩
    have HB1 := Lib.hid (HB0.out.trans ((HW0.out.trans (hb1.mono HW0.out.size)).mono HB0.out.size))
    clear hb1 c0 c1
    go_wp2
    go_ret
    exact ⟨rfl, HB1.out⟩
  · have hd1 : decide (1500 < (seed.size : Int) + (room.size : Int) + (d.size : Int) + (sig.size : Int)) = true := by simp; omega
    clear hg
    have hB0 := (((Below.refl w.heap.size w).alloc (Nat.le_refl _) (.cells #[.int .i64 n, .int .i64 h] 23)).alloc (by simp) (.cells #[.string seed, .string room, .string d, .string sig] 24)).alloc (by simp; omega) (.cells #[.int .i64 n0, .int .i64 n1, .int .i64 n2] 25)
    have hx0 := Boxed.cells_three w #[.int .i64 n, .int .i64 h] #[.string seed, .string room, .string d, .string sig] #[.int .i64 n0, .int .i64 n1, .int .i64 n2] 23 24 25
    go_enter Tryd.func3, Tryd.ntmps3
    go_upto_region 1 with (fail)
    generalize ((w.alloc (.cells #[.int .i64 n, .int .i64 h] 23)).alloc (.cells #[.string seed, .string room, .string d, .string sig] 24)).alloc (.cells #[.int .i64 n0, .int .i64 n1, .int .i64 n2] 25) = wz at *
    obtain ⟨hz, hcell⟩ := hx0
    have hz0 : w.heap.size < wz.heap.size := by omega
    have hz1 : w.heap.size + 1 < wz.heap.size := by omega
    have hz2 : w.heap.size + 1 + 1 < wz.heap.size := by omega
    have HC := Lib.hid (fun (u : World) (q : Below wz.heap.size wz u) => (⟨(q.cell (p := ⟨w.heap.size, 0, none⟩) hz0).trans (hcell.1 0 _ rfl), (q.cell (p := ⟨w.heap.size, 1, none⟩) hz0).trans (hcell.1 1 _ rfl),
      (q.cell (p := ⟨w.heap.size + 1, 0, none⟩) hz1).trans (hcell.2.1 0 _ rfl), (q.cell (p := ⟨w.heap.size + 1, 1, none⟩) hz1).trans (hcell.2.1 1 _ rfl), (q.cell (p := ⟨w.heap.size + 1, 2, none⟩) hz1).trans (hcell.2.1 2 _ rfl), (q.cell (p := ⟨w.heap.size + 1, 3, none⟩) hz1).trans (hcell.2.1 3 _ rfl),
      (q.cell (p := ⟨w.heap.size + 1 + 1, 0, none⟩) hz2).trans (hcell.2.2 0 _ rfl), (q.cell (p := ⟨w.heap.size + 1 + 1, 1, none⟩) hz2).trans (hcell.2.2 1 _ rfl), (q.cell (p := ⟨w.heap.size + 1 + 1, 2, none⟩) hz2).trans (hcell.2.2 2 _ rfl), hk.below hk.1 (hB0.trans (q.mono hB0.size))⟩ :
      u.cell? ⟨w.heap.size, 0, none⟩ = some (.int .i64 n) ∧ u.cell? ⟨w.heap.size, 1, none⟩ = some (.int .i64 h) ∧ u.cell? ⟨w.heap.size + 1, 0, none⟩ = some (.string seed) ∧ u.cell? ⟨w.heap.size + 1, 1, none⟩ = some (.string room) ∧ u.cell? ⟨w.heap.size + 1, 2, none⟩ = some (.string d) ∧ u.cell? ⟨w.heap.size + 1, 3, none⟩ = some (.string sig) ∧ u.cell? ⟨w.heap.size + 1 + 1, 0, none⟩ = some (.int .i64 n0) ∧ u.cell? ⟨w.heap.size + 1 + 1, 1, none⟩ = some (.int .i64 n1) ∧ u.cell? ⟨w.heap.size + 1 + 1, 2, none⟩ = some (.int .i64 n2) ∧ Consts u))
    have HB0 := Lib.hid hB0
    clear hB0 hz hz0 hz1 hz2 hcell hk
    obtain ⟨-, -, c2, c3, c4, c5, -, -, -, -⟩ := HC.out _ (Below.refl _ _)
    go_quiet (fail)
    clear c2 c3 c4 c5
    have HW0 := Lib.hid (belowN (Below.refl wz.heap.size wz) nq)
    generalize wz.drewN nq = w0 at *
    go_wp2_with fail
    refine (RA.out _ (HC.out _ HW0.out).2.2.2.2.2.2.2.2.2).mono ?_
    rintro e w1 ⟨rfl, hb1⟩
    have HB1 := Lib.hid (HB0.out.trans ((HW0.out.trans (hb1.mono HW0.out.size)).mono HB0.out.size))
    clear hb1
    go_wp2
    go_ret
    exact ⟨rfl, HB1.out⟩

set_option maxHeartbeats 12800000 in
theorem law_small (n h : Int) (seed room d sig : ByteArray) (n0 n1 n2 : Int) (w : World) (hg : seed.size + room.size + d.size + sig.size ≤ 1500) (hn : n ≤ 6) (hk : Consts w) :
    Calls Tryd.prog 3 #[.agg #[.int .i64 n, .int .i64 h], .agg #[.string seed, .string room, .string d, .string sig], .agg #[.int .i64 n0, .int .i64 n1, .int .i64 n2]] w
      fun e w' => e = .returned (.bool true) ∧ Below w.heap.size w w' := by
  have hd1 : decide (1500 < (seed.size : Int) + (room.size : Int) + (d.size : Int) + (sig.size : Int)) = false := by simp; omega
  have hd2 : decide (6 < n) = false := by simp; omega
  obtain ⟨RT, hRT⟩ : ∃ b, b = decide (Right n h) := ⟨_, rfl⟩
  have A1 := Lib.hid (show ∀ u, Calls Tryd.prog 8 #[.agg #[.int .i64 n, .int .i64 h]] u fun e w' => e = .returned (.bool RT) ∧ Below u.heap.size u w' from fun u => by rw [hRT]; exact right_any n h u)
  have A2 := Lib.hid (show ∀ u, Calls Tryd.prog 9 #[.agg #[.int .i64 n, .int .i64 h]] u fun e w' => e = .returned (.bool RT) ∧ Below u.heap.size u w' from fun u => by rw [hRT]; exact RefChn.right_any n h u)
  obtain ⟨CT, hCT⟩ : ∃ b, b = countR n h := ⟨_, rfl⟩
  have B1 := Lib.hid (show ∀ u, Calls Tryd.prog 10 #[.agg #[.int .i64 n, .int .i64 h]] u fun e w' => e = .returned (.int .i64 CT) ∧ Below u.heap.size u w' from fun u => by rw [hCT]; exact count_all n h u)
  have B2 := Lib.hid (show ∀ u, Calls Tryd.prog 11 #[.agg #[.int .i64 n, .int .i64 h]] u fun e w' => e = .returned (.int .i64 CT) ∧ Below u.heap.size u w' from fun u => by rw [hCT]; exact count_ref n h u)
  obtain ⟨L, hL⟩ : ∃ b, b = digR n h d := ⟨_, rfl⟩
  have D1 := Lib.hid (show ∀ u, Calls Tryd.prog 13 #[.agg #[.int .i64 n, .int .i64 h], .string d] u fun e w' => ∃ v, e = .returned v ∧ Rowed v L w' ∧ Below u.heap.size u w' from fun u => by rw [hL]; exact digits_all n h d u)
  have D2 := Lib.hid (show ∀ u, Calls Tryd.prog 14 #[.agg #[.int .i64 n, .int .i64 h], .string d] u fun e w' => ∃ v, e = .returned v ∧ Rowed v L w' ∧ Below u.heap.size u w' from fun u => by rw [hL]; exact digits_ref n h d u (by omega))
  have D3 := Lib.hid (fun (v v' : Value) (u : World) (hv : Rowed v L u) (hv' : Rowed v' L u) => ints_rows L v v' u hv hv' (by rw [hL]; exact digR_le n h d))
  obtain ⟨RN, hRN⟩ : ∃ b, b = runR n h room n0 n1 n1 n2 d := ⟨_, rfl⟩
  have E1 := Lib.hid (show ∀ u, Consts u → Calls Tryd.prog 15 #[.agg #[.int .i64 n, .int .i64 h], .string room, .agg #[.int .i64 n0, .int .i64 n1], .int .i64 n1, .int .i64 n2, .string d] u fun e w' => e = .returned (.string RN) ∧ Below u.heap.size u w' from fun u hu => by rw [hRN]; exact run_all n h room n0 n1 n1 n2 d u (by omega) hu)
  have E2 := Lib.hid (show ∀ u, Calls Tryd.prog 16 #[.agg #[.int .i64 n, .int .i64 h], .string room, .agg #[.int .i64 n0, .int .i64 n1], .int .i64 n1, .int .i64 n2, .string d] u fun e w' => e = .returned (.string RN) ∧ Below u.heap.size u w' from fun u => by rw [hRN]; exact run_ref n h room n0 n1 n1 n2 d u (by omega))
  obtain ⟨LF, hLF⟩ : ∃ b, b = leafR n h seed room n0 := ⟨_, rfl⟩
  have F1 := Lib.hid (show ∀ u, Consts u → Calls Tryd.prog 17 #[.agg #[.int .i64 n, .int .i64 h], .string seed, .string room, .int .i64 n0] u fun e w' => e = .returned (.string LF) ∧ Below u.heap.size u w' from fun u hu => by rw [hLF]; exact leaf_all n h seed room n0 u (by omega) hu)
  have F2 := Lib.hid (show ∀ u, Calls Tryd.prog 18 #[.agg #[.int .i64 n, .int .i64 h], .string seed, .string room, .int .i64 n0] u fun e w' => e = .returned (.string LF) ∧ Below u.heap.size u w' from fun u => by rw [hLF]; exact leaf_ref n h seed room n0 u (by omega))
  obtain ⟨SG, hSG⟩ : ∃ b, b = signR n h seed room n0 d := ⟨_, rfl⟩
  have G1 := Lib.hid (show ∀ u, Consts u → Calls Tryd.prog 19 #[.agg #[.int .i64 n, .int .i64 h], .string seed, .string room, .int .i64 n0, .string d] u fun e w' => e = .returned (.string SG) ∧ Below u.heap.size u w' from fun u hu => by rw [hSG]; exact sign_all n h seed room n0 d u (by omega) hu)
  have G2 := Lib.hid (show ∀ u, Calls Tryd.prog 20 #[.agg #[.int .i64 n, .int .i64 h], .string seed, .string room, .int .i64 n0, .string d] u fun e w' => e = .returned (.string SG) ∧ Below u.heap.size u w' from fun u => by rw [hSG]; exact sign_ref n h seed room n0 d u (by omega) (by omega))
  obtain ⟨FD, hFD⟩ : ∃ b, b = foundR n h room n0 sig d := ⟨_, rfl⟩
  have H1 := Lib.hid (show ∀ u, Consts u → Calls Tryd.prog 21 #[.agg #[.int .i64 n, .int .i64 h], .string room, .int .i64 n0, .string sig, .string d] u fun e w' => e = .returned (.string FD) ∧ Below u.heap.size u w' from fun u hu => by rw [hFD]; exact found_all n h room n0 sig d u (by omega) hu)
  have H2 := Lib.hid (show ∀ u, Calls Tryd.prog 22 #[.agg #[.int .i64 n, .int .i64 h], .string room, .int .i64 n0, .string sig, .string d] u fun e w' => e = .returned (.string FD) ∧ Below u.heap.size u w' from fun u => by rw [hFD]; exact found_ref n h room n0 sig d u (by omega) (by omega))
  have RA := Lib.hid (fun u hu => awake_any u hu)
  clear hRT hCT hL hRN hLF hSG hFD
  have hB0 := (((Below.refl w.heap.size w).alloc (Nat.le_refl _) (.cells #[.int .i64 n, .int .i64 h] 23)).alloc (by simp) (.cells #[.string seed, .string room, .string d, .string sig] 24)).alloc (by simp; omega) (.cells #[.int .i64 n0, .int .i64 n1, .int .i64 n2] 25)
  have hx0 := Boxed.cells_three w #[.int .i64 n, .int .i64 h] #[.string seed, .string room, .string d, .string sig] #[.int .i64 n0, .int .i64 n1, .int .i64 n2] 23 24 25
  go_enter Tryd.func3, Tryd.ntmps3
  go_upto_region 1 with (fail)
  generalize ((w.alloc (.cells #[.int .i64 n, .int .i64 h] 23)).alloc (.cells #[.string seed, .string room, .string d, .string sig] 24)).alloc (.cells #[.int .i64 n0, .int .i64 n1, .int .i64 n2] 25) = wz at *
  obtain ⟨hz, hcell⟩ := hx0
  have hz0 : w.heap.size < wz.heap.size := by omega
  have hz1 : w.heap.size + 1 < wz.heap.size := by omega
  have hz2 : w.heap.size + 1 + 1 < wz.heap.size := by omega
  have HC := Lib.hid (fun (u : World) (q : Below wz.heap.size wz u) => (⟨(q.cell (p := ⟨w.heap.size, 0, none⟩) hz0).trans (hcell.1 0 _ rfl), (q.cell (p := ⟨w.heap.size, 1, none⟩) hz0).trans (hcell.1 1 _ rfl),
    (q.cell (p := ⟨w.heap.size + 1, 0, none⟩) hz1).trans (hcell.2.1 0 _ rfl), (q.cell (p := ⟨w.heap.size + 1, 1, none⟩) hz1).trans (hcell.2.1 1 _ rfl), (q.cell (p := ⟨w.heap.size + 1, 2, none⟩) hz1).trans (hcell.2.1 2 _ rfl), (q.cell (p := ⟨w.heap.size + 1, 3, none⟩) hz1).trans (hcell.2.1 3 _ rfl),
    (q.cell (p := ⟨w.heap.size + 1 + 1, 0, none⟩) hz2).trans (hcell.2.2 0 _ rfl), (q.cell (p := ⟨w.heap.size + 1 + 1, 1, none⟩) hz2).trans (hcell.2.2 1 _ rfl), (q.cell (p := ⟨w.heap.size + 1 + 1, 2, none⟩) hz2).trans (hcell.2.2 2 _ rfl), hk.below hk.1 (hB0.trans (q.mono hB0.size))⟩ :
    u.cell? ⟨w.heap.size, 0, none⟩ = some (.int .i64 n) ∧ u.cell? ⟨w.heap.size, 1, none⟩ = some (.int .i64 h) ∧ u.cell? ⟨w.heap.size + 1, 0, none⟩ = some (.string seed) ∧ u.cell? ⟨w.heap.size + 1, 1, none⟩ = some (.string room) ∧ u.cell? ⟨w.heap.size + 1, 2, none⟩ = some (.string d) ∧ u.cell? ⟨w.heap.size + 1, 3, none⟩ = some (.string sig) ∧ u.cell? ⟨w.heap.size + 1 + 1, 0, none⟩ = some (.int .i64 n0) ∧ u.cell? ⟨w.heap.size + 1 + 1, 1, none⟩ = some (.int .i64 n1) ∧ u.cell? ⟨w.heap.size + 1 + 1, 2, none⟩ = some (.int .i64 n2) ∧ Consts u))
  have HB0 := Lib.hid hB0
  clear hB0 hz hz0 hz1 hz2 hcell hk
  obtain ⟨-, -, c2, c3, c4, c5, -, -, -, -⟩ := HC.out _ (Below.refl _ _)
  go_quiet (fail)
  clear c2 c3 c4 c5
  have HW0 := Lib.hid (belowN (Below.refl wz.heap.size wz) nq)
  generalize wz.drewN nq = w0 at *
  obtain ⟨c0, c1, -⟩ := HC.out _ HW0.out
  go_upto_region 4 with (fail)
  clear c0 c1 hd1 hd2
  obtain ⟨c0, c1, -, -, -, -, c6, c7, c8, -⟩ := HC.out _ HW0.out
  go_wp2_with fail
  clear c0 c1 c6 c7 c8
  have hw5 := HW0.out.alloc HW0.out.size (.cells #[.int .i64 n0, .int .i64 n1] 27)
  have hp0 : (w0.alloc (.cells #[.int .i64 n0, .int .i64 n1] 27)).cell? ⟨w0.heap.size, 0, none⟩ = some (.int .i64 n0) := by simp
  have hp1 : (w0.alloc (.cells #[.int .i64 n0, .int .i64 n1] 27)).cell? ⟨w0.heap.size, 1, none⟩ = some (.int .i64 n1) := by simp
  have hpl : w0.heap.size < (w0.alloc (.cells #[.int .i64 n0, .int .i64 n1] 27)).heap.size := by simp
  generalize w0.alloc (.cells #[.int .i64 n0, .int .i64 n1] 27) = ws at *
  generalize w0.heap.size = sp at *
  have HB5 := Lib.hid (HB0.out.trans (hw5.mono HB0.out.size))
  have HALL := Lib.hid (fun (w' : World) (q : Below ws.heap.size ws w') => show w'.cell? ⟨w.heap.size, 0, none⟩ = some (.int .i64 n) ∧ w'.cell? ⟨w.heap.size, 1, none⟩ = some (.int .i64 h) ∧ w'.cell? ⟨w.heap.size + 1 + 1, 0, none⟩ = some (.int .i64 n0) ∧ w'.cell? ⟨w.heap.size + 1 + 1, 1, none⟩ = some (.int .i64 n1) ∧ w'.cell? ⟨w.heap.size + 1 + 1, 2, none⟩ = some (.int .i64 n2) ∧ w'.cell? ⟨sp, 0, none⟩ = some (.int .i64 n0) ∧ w'.cell? ⟨sp, 1, none⟩ = some (.int .i64 n1) ∧ Keep ws w' from by
    obtain ⟨c0, c1, -, -, -, -, c6, c7, c8, ck⟩ := HC.out w' (hw5.trans (q.mono hw5.size))
    exact ⟨c0, c1, c6, c7, c8, (q.cell (p := ⟨sp, 0, none⟩) hpl).trans hp0, (q.cell (p := ⟨sp, 1, none⟩) hpl).trans hp1, ck, q⟩)
  clear hw5 hp0 hp1 hpl HC HW0 HB0 hg hn
  have SA := Lib.hid (fun (u : World) (q : Below ws.heap.size ws u) => (HALL.out u q).2.2.2.2.2.2.2.consts)
  have E1' := Lib.hid (fun (u : World) (q : Below ws.heap.size ws u) => E1.out u (SA.out u q))
  have F1' := Lib.hid (fun (u : World) (q : Below ws.heap.size ws u) => F1.out u (SA.out u q))
  have G1' := Lib.hid (fun (u : World) (q : Below ws.heap.size ws u) => G1.out u (SA.out u q))
  have H1' := Lib.hid (fun (u : World) (q : Below ws.heap.size ws u) => H1.out u (SA.out u q))
  have RA' := Lib.hid (fun (u : World) (q : Below ws.heap.size ws u) => RA.out u (SA.out u q))
  simp only [List.append_eq, List.cons_append, List.nil_append]
  refine wp_region_held (S := fun u => Below ws.heap.size ws u) (by kernel_rfl) ?_
  refine Steady.phase 0 13 82 (by kernel_rfl) (by as_aux_lemma => kernel_rfl) ((Below.refl _ _).drew) ?_
  simp only [List.take_succ_cons, List.take_zero, List.drop_succ_cons, List.drop_zero]
  refine Steady.take ?_ rfl (by intro u hu; obtain ⟨c0, c1, -⟩ := HALL.out u hu; go_simp; with_reducible rfl) ?_
  simp only [Act.put, List.setIfInBounds_toArray, List.set_cons_zero, List.set_cons_succ]
  refine Steady.call _ _ _ rfl ?_ (Steady.kept A1.out) ?_
  · intro u
    go_simp
  simp only [Act.put, List.setIfInBounds_toArray, List.set_cons_zero, List.set_cons_succ]
  refine Steady.take ?_ rfl (by intro u hu; obtain ⟨c0, c1, -⟩ := HALL.out u hu; go_simp; with_reducible rfl) ?_
  simp only [Act.put, List.setIfInBounds_toArray, List.set_cons_zero, List.set_cons_succ]
  refine Steady.call _ _ _ rfl ?_ (Steady.kept A2.out) ?_
  · intro u
    go_simp
  simp only [Act.put, List.setIfInBounds_toArray, List.set_cons_zero, List.set_cons_succ]
  refine Steady.take ?_ rfl (by intro u hu; go_simp; with_reducible rfl) ?_
  simp only [Act.put, List.setIfInBounds_toArray, List.set_cons_zero, List.set_cons_succ]
  refine Steady.take ?_ rfl (by intro u hu; go_simp; with_reducible rfl) ?_
  simp only [Act.put, List.setIfInBounds_toArray, List.set_cons_zero, List.set_cons_succ]
  refine Steady.take ?_ rfl (by intro u hu; obtain ⟨c0, c1, -⟩ := HALL.out u hu; go_simp; with_reducible rfl) ?_
  simp only [Act.put, List.setIfInBounds_toArray, List.set_cons_zero, List.set_cons_succ]
  refine Steady.call _ _ _ rfl ?_ (Steady.kept B1.out) ?_
  · intro u
    go_simp
  simp only [Act.put, List.setIfInBounds_toArray, List.set_cons_zero, List.set_cons_succ]
  refine Steady.take ?_ rfl (by intro u hu; obtain ⟨c0, c1, -⟩ := HALL.out u hu; go_simp; with_reducible rfl) ?_
  simp only [Act.put, List.setIfInBounds_toArray, List.set_cons_zero, List.set_cons_succ]
  refine Steady.call _ _ _ rfl ?_ (Steady.kept B2.out) ?_
  · intro u
    go_simp
  simp only [Act.put, List.setIfInBounds_toArray, List.set_cons_zero, List.set_cons_succ]
  refine Steady.take ?_ rfl (by intro u hu; go_simp; with_reducible rfl) ?_
  simp only [Act.put, List.setIfInBounds_toArray, List.set_cons_zero, List.set_cons_succ]
  refine Steady.take ?_ rfl (by intro u hu; go_simp; with_reducible rfl) ?_
  simp only [Act.put, List.setIfInBounds_toArray, List.set_cons_zero, List.set_cons_succ]
  refine Steady.take ?_ rfl (by intro u hu; go_simp; with_reducible rfl) ?_
  simp only [Act.put, List.setIfInBounds_toArray, List.set_cons_zero, List.set_cons_succ]
  refine Steady.nil ?_
  intro w5 hb5
  have HBX := Lib.hid hb5
  clear hb5
  refine wpAnyH_take (i := 13) rfl (by kernel_rfl) (by as_aux_lemma => kernel_rfl) (by as_aux_lemma => kernel_rfl) (fun _ _ _ h => h) (.inl ⟨rfl, fun u hu => by obtain ⟨c0, c1, -⟩ := HALL.out u hu; go_simp; with_reducible rfl⟩) HBX.out ?_
  simp only [List.getElem_toArray, List.getElem_cons_succ, List.getElem_cons_zero, Act.put, List.setIfInBounds_toArray, List.set_cons_zero, List.set_cons_succ]
  refine wpAnyH_take (i := 14) rfl (by kernel_rfl) (by as_aux_lemma => kernel_rfl) (by as_aux_lemma => kernel_rfl) (fun _ _ _ h => h) (.inl ⟨rfl, fun u hu => by go_simp; with_reducible rfl⟩) HBX.out ?_
  simp only [List.getElem_toArray, List.getElem_cons_succ, List.getElem_cons_zero, Act.put, List.setIfInBounds_toArray, List.set_cons_zero, List.set_cons_succ]
  refine wpAnyH_take (i := 16) rfl (by kernel_rfl) (by as_aux_lemma => kernel_rfl) (by as_aux_lemma => kernel_rfl) (fun _ _ _ h => h) (.inl ⟨rfl, fun u hu => by obtain ⟨c0, c1, -⟩ := HALL.out u hu; go_simp; with_reducible rfl⟩) HBX.out ?_
  simp only [List.getElem_toArray, List.getElem_cons_succ, List.getElem_cons_zero, Act.put, List.setIfInBounds_toArray, List.set_cons_zero, List.set_cons_succ]
  refine wpAnyH_take (i := 17) rfl (by kernel_rfl) (by as_aux_lemma => kernel_rfl) (by as_aux_lemma => kernel_rfl) (fun _ _ _ h => h) (.inl ⟨rfl, fun u hu => by go_simp; with_reducible rfl⟩) HBX.out ?_
  simp only [List.getElem_toArray, List.getElem_cons_succ, List.getElem_cons_zero, Act.put, List.setIfInBounds_toArray, List.set_cons_zero, List.set_cons_succ]
  refine Steady.call_next (i := 15) (by kernel_rfl) (by simp only [List.getElem?_toArray, List.getElem?_cons_succ, List.getElem?_cons_zero]; rfl) (by kernel_rfl) _ _ (by go_simp) (fun v w' => Rowed v L w' ∧ Below w5.heap.size w5 w') (D1.out w5) ?_
  rintro v1 w6 ⟨hr6, hb6⟩
  have HBX6 := Lib.hid (HBX.out.trans (hb6.mono HBX.out.size))
  have HR6 := Lib.hid hr6
  clear hr6 hb6 HBX
  refine ⟨HBX6.out, ?_⟩
  simp only [List.getElem_toArray, List.getElem_cons_succ, List.getElem_cons_zero, Act.put, List.setIfInBounds_toArray, List.set_cons_zero, List.set_cons_succ]
  refine Steady.call_next (i := 18) (by kernel_rfl) (by simp only [List.getElem?_toArray, List.getElem?_cons_succ, List.getElem?_cons_zero]; rfl) (by kernel_rfl) _ _ (by go_simp) (fun v w' => Rowed v L w' ∧ Below w6.heap.size w6 w') (D2.out w6) ?_
  rintro v2 w7 ⟨hr7, hb7⟩
  have HBX7 := Lib.hid (HBX6.out.trans (hb7.mono HBX6.out.size))
  have HR7 := Lib.hid hr7
  have HQ7 := Lib.hid (HR6.out.below hb7)
  clear hr7 hb7 HBX6 HR6
  refine ⟨HBX7.out, ?_⟩
  simp only [List.getElem_toArray, List.getElem_cons_succ, List.getElem_cons_zero, Act.put, List.setIfInBounds_toArray, List.set_cons_zero, List.set_cons_succ]
  refine Steady.call_next (i := 19) (by kernel_rfl) (by simp only [List.getElem?_toArray, List.getElem?_cons_succ, List.getElem?_cons_zero]; rfl) (by kernel_rfl) _ _ (by go_simp) (fun v w' => v = .bool true ∧ Below w7.heap.size w7 w') ((D3.out v1 v2 w7 HQ7.out HR7.out).mono (fun e w' h => ⟨_, h.1, rfl, h.2⟩)) ?_
  rintro v3 w8 ⟨rfl, hb8⟩
  have HBX := Lib.hid (HBX7.out.trans (hb8.mono HBX7.out.size))
  clear hb8 HBX7 HR7 HQ7
  refine ⟨HBX.out, ?_⟩
  simp only [List.getElem_toArray, List.getElem_cons_succ, List.getElem_cons_zero, Act.put, List.setIfInBounds_toArray, List.set_cons_zero, List.set_cons_succ]
  refine wpAnyH_take (i := 20) rfl (by kernel_rfl) (by as_aux_lemma => kernel_rfl) (by as_aux_lemma => kernel_rfl) (fun _ _ _ h => h) (.inl ⟨rfl, fun u hu => by go_simp; with_reducible rfl⟩) HBX.out ?_
  simp only [List.getElem_toArray, List.getElem_cons_succ, List.getElem_cons_zero, Act.put, List.setIfInBounds_toArray, List.set_cons_zero, List.set_cons_succ]
  refine wpAnyH_take (i := 21) rfl (by kernel_rfl) (by as_aux_lemma => kernel_rfl) (by as_aux_lemma => kernel_rfl) (fun _ _ _ h => h) (.inl ⟨rfl, fun u hu => by go_simp; with_reducible rfl⟩) HBX.out ?_
  simp only [List.getElem_toArray, List.getElem_cons_succ, List.getElem_cons_zero, Act.put, List.setIfInBounds_toArray, List.set_cons_zero, List.set_cons_succ]
  refine Steady.phase 22 43 52 (by kernel_rfl) (by as_aux_lemma => kernel_rfl) HBX.out ?_
  simp only [List.take_succ_cons, List.take_zero, List.drop_succ_cons, List.drop_zero]
  refine Steady.take ?_ rfl (by intro u hu; obtain ⟨c0, c1, -⟩ := HALL.out u hu; go_simp; with_reducible rfl) ?_
  simp only [Act.put, List.setIfInBounds_toArray, List.set_cons_zero, List.set_cons_succ]
  refine Steady.take ?_ rfl (by intro u hu; go_simp; with_reducible rfl) ?_
  simp only [Act.put, List.setIfInBounds_toArray, List.set_cons_zero, List.set_cons_succ]
  refine Steady.take ?_ rfl (by intro u hu; obtain ⟨-, -, -, -, -, s0, s1, -⟩ := HALL.out u hu; go_simp; with_reducible rfl) ?_
  simp only [Act.put, List.setIfInBounds_toArray, List.set_cons_zero, List.set_cons_succ]
  refine Steady.take ?_ rfl (by intro u hu; go_simp; with_reducible rfl) ?_
  simp only [Act.put, List.setIfInBounds_toArray, List.set_cons_zero, List.set_cons_succ]
  refine Steady.take ?_ rfl (by intro u hu; obtain ⟨-, -, c6, c7, c8, -⟩ := HALL.out u hu; go_simp; with_reducible rfl) ?_
  simp only [Act.put, List.setIfInBounds_toArray, List.set_cons_zero, List.set_cons_succ]
  refine Steady.take ?_ rfl (by intro u hu; go_simp; with_reducible rfl) ?_
  simp only [Act.put, List.setIfInBounds_toArray, List.set_cons_zero, List.set_cons_succ]
  refine Steady.take ?_ rfl (by intro u hu; obtain ⟨-, -, c6, c7, c8, -⟩ := HALL.out u hu; go_simp; with_reducible rfl) ?_
  simp only [Act.put, List.setIfInBounds_toArray, List.set_cons_zero, List.set_cons_succ]
  refine Steady.take ?_ rfl (by intro u hu; go_simp; with_reducible rfl) ?_
  simp only [Act.put, List.setIfInBounds_toArray, List.set_cons_zero, List.set_cons_succ]
  refine Steady.call _ _ _ rfl ?_ (Chn.keptIf E1'.out) ?_
  · intro u
    go_simp
  simp only [Act.put, List.setIfInBounds_toArray, List.set_cons_zero, List.set_cons_succ]
  refine Steady.take ?_ rfl (by intro u hu; obtain ⟨c0, c1, -⟩ := HALL.out u hu; go_simp; with_reducible rfl) ?_
  simp only [Act.put, List.setIfInBounds_toArray, List.set_cons_zero, List.set_cons_succ]
  refine Steady.take ?_ rfl (by intro u hu; go_simp; with_reducible rfl) ?_
  simp only [Act.put, List.setIfInBounds_toArray, List.set_cons_zero, List.set_cons_succ]
  refine Steady.take ?_ rfl (by intro u hu; obtain ⟨-, -, -, -, -, s0, s1, -⟩ := HALL.out u hu; go_simp; with_reducible rfl) ?_
  simp only [Act.put, List.setIfInBounds_toArray, List.set_cons_zero, List.set_cons_succ]
  refine Steady.take ?_ rfl (by intro u hu; go_simp; with_reducible rfl) ?_
  simp only [Act.put, List.setIfInBounds_toArray, List.set_cons_zero, List.set_cons_succ]
  refine Steady.take ?_ rfl (by intro u hu; obtain ⟨-, -, c6, c7, c8, -⟩ := HALL.out u hu; go_simp; with_reducible rfl) ?_
  simp only [Act.put, List.setIfInBounds_toArray, List.set_cons_zero, List.set_cons_succ]
  refine Steady.take ?_ rfl (by intro u hu; go_simp; with_reducible rfl) ?_
  simp only [Act.put, List.setIfInBounds_toArray, List.set_cons_zero, List.set_cons_succ]
  refine Steady.take ?_ rfl (by intro u hu; obtain ⟨-, -, c6, c7, c8, -⟩ := HALL.out u hu; go_simp; with_reducible rfl) ?_
  simp only [Act.put, List.setIfInBounds_toArray, List.set_cons_zero, List.set_cons_succ]
  refine Steady.take ?_ rfl (by intro u hu; go_simp; with_reducible rfl) ?_
  simp only [Act.put, List.setIfInBounds_toArray, List.set_cons_zero, List.set_cons_succ]
  refine Steady.call _ _ _ rfl ?_ (Steady.kept E2.out) ?_
  · intro u
    go_simp
  simp only [Act.put, List.setIfInBounds_toArray, List.set_cons_zero, List.set_cons_succ]
  refine Steady.take ?_ rfl (by intro u hu; go_simp; with_reducible rfl) ?_
  simp only [Act.put, List.setIfInBounds_toArray, List.set_cons_zero, List.set_cons_succ]
  refine Steady.take ?_ rfl (by intro u hu; go_simp; with_reducible rfl) ?_
  simp only [Act.put, List.setIfInBounds_toArray, List.set_cons_zero, List.set_cons_succ]
  refine Steady.take ?_ rfl (by intro u hu; go_simp; with_reducible rfl) ?_
  simp only [Act.put, List.setIfInBounds_toArray, List.set_cons_zero, List.set_cons_succ]
  refine Steady.nil ?_
  intro w143 h9
  have HX43 := Lib.hid h9
  clear h9
  refine Steady.phase 43 58 37 (by kernel_rfl) (by as_aux_lemma => kernel_rfl) HX43.out ?_
  simp only [List.take_succ_cons, List.take_zero, List.drop_succ_cons, List.drop_zero]
  refine Steady.take ?_ rfl (by intro u hu; obtain ⟨c0, c1, -⟩ := HALL.out u hu; go_simp; with_reducible rfl) ?_
  simp only [Act.put, List.setIfInBounds_toArray, List.set_cons_zero, List.set_cons_succ]
  refine Steady.take ?_ rfl (by intro u hu; go_simp; with_reducible rfl) ?_
  simp only [Act.put, List.setIfInBounds_toArray, List.set_cons_zero, List.set_cons_succ]
  refine Steady.take ?_ rfl (by intro u hu; go_simp; with_reducible rfl) ?_
  simp only [Act.put, List.setIfInBounds_toArray, List.set_cons_zero, List.set_cons_succ]
  refine Steady.take ?_ rfl (by intro u hu; go_simp; with_reducible rfl) ?_
  simp only [Act.put, List.setIfInBounds_toArray, List.set_cons_zero, List.set_cons_succ]
  refine Steady.take ?_ rfl (by intro u hu; obtain ⟨-, -, c6, c7, c8, -⟩ := HALL.out u hu; go_simp; with_reducible rfl) ?_
  simp only [Act.put, List.setIfInBounds_toArray, List.set_cons_zero, List.set_cons_succ]
  refine Steady.call _ _ _ rfl ?_ (Chn.keptIf F1'.out) ?_
  · intro u
    go_simp
  simp only [Act.put, List.setIfInBounds_toArray, List.set_cons_zero, List.set_cons_succ]
  refine Steady.take ?_ rfl (by intro u hu; obtain ⟨c0, c1, -⟩ := HALL.out u hu; go_simp; with_reducible rfl) ?_
  simp only [Act.put, List.setIfInBounds_toArray, List.set_cons_zero, List.set_cons_succ]
  refine Steady.take ?_ rfl (by intro u hu; go_simp; with_reducible rfl) ?_
  simp only [Act.put, List.setIfInBounds_toArray, List.set_cons_zero, List.set_cons_succ]
  refine Steady.take ?_ rfl (by intro u hu; go_simp; with_reducible rfl) ?_
  simp only [Act.put, List.setIfInBounds_toArray, List.set_cons_zero, List.set_cons_succ]
  refine Steady.take ?_ rfl (by intro u hu; go_simp; with_reducible rfl) ?_
  simp only [Act.put, List.setIfInBounds_toArray, List.set_cons_zero, List.set_cons_succ]
  refine Steady.take ?_ rfl (by intro u hu; obtain ⟨-, -, c6, c7, c8, -⟩ := HALL.out u hu; go_simp; with_reducible rfl) ?_
  simp only [Act.put, List.setIfInBounds_toArray, List.set_cons_zero, List.set_cons_succ]
  refine Steady.call _ _ _ rfl ?_ (Steady.kept F2.out) ?_
  · intro u
    go_simp
  simp only [Act.put, List.setIfInBounds_toArray, List.set_cons_zero, List.set_cons_succ]
  refine Steady.take ?_ rfl (by intro u hu; go_simp; with_reducible rfl) ?_
  simp only [Act.put, List.setIfInBounds_toArray, List.set_cons_zero, List.set_cons_succ]
  refine Steady.take ?_ rfl (by intro u hu; go_simp; with_reducible rfl) ?_
  simp only [Act.put, List.setIfInBounds_toArray, List.set_cons_zero, List.set_cons_succ]
  refine Steady.take ?_ rfl (by intro u hu; go_simp; with_reducible rfl) ?_
  simp only [Act.put, List.setIfInBounds_toArray, List.set_cons_zero, List.set_cons_succ]
  refine Steady.nil ?_
  intro w158 h9
  have HX58 := Lib.hid h9
  clear h9
  refine Steady.phase 58 75 20 (by kernel_rfl) (by as_aux_lemma => kernel_rfl) HX58.out ?_
  simp only [List.take_succ_cons, List.take_zero, List.drop_succ_cons, List.drop_zero]
  refine Steady.take ?_ rfl (by intro u hu; obtain ⟨c0, c1, -⟩ := HALL.out u hu; go_simp; with_reducible rfl) ?_
  simp only [Act.put, List.setIfInBounds_toArray, List.set_cons_zero, List.set_cons_succ]
  refine Steady.take ?_ rfl (by intro u hu; go_simp; with_reducible rfl) ?_
  simp only [Act.put, List.setIfInBounds_toArray, List.set_cons_zero, List.set_cons_succ]
  refine Steady.take ?_ rfl (by intro u hu; go_simp; with_reducible rfl) ?_
  simp only [Act.put, List.setIfInBounds_toArray, List.set_cons_zero, List.set_cons_succ]
  refine Steady.take ?_ rfl (by intro u hu; go_simp; with_reducible rfl) ?_
  simp only [Act.put, List.setIfInBounds_toArray, List.set_cons_zero, List.set_cons_succ]
  refine Steady.take ?_ rfl (by intro u hu; obtain ⟨-, -, c6, c7, c8, -⟩ := HALL.out u hu; go_simp; with_reducible rfl) ?_
  simp only [Act.put, List.setIfInBounds_toArray, List.set_cons_zero, List.set_cons_succ]
  refine Steady.take ?_ rfl (by intro u hu; go_simp; with_reducible rfl) ?_
  simp only [Act.put, List.setIfInBounds_toArray, List.set_cons_zero, List.set_cons_succ]
  refine Steady.call _ _ _ rfl ?_ (Chn.keptIf G1'.out) ?_
  · intro u
    go_simp
  simp only [Act.put, List.setIfInBounds_toArray, List.set_cons_zero, List.set_cons_succ]
  refine Steady.take ?_ rfl (by intro u hu; obtain ⟨c0, c1, -⟩ := HALL.out u hu; go_simp; with_reducible rfl) ?_
  simp only [Act.put, List.setIfInBounds_toArray, List.set_cons_zero, List.set_cons_succ]
  refine Steady.take ?_ rfl (by intro u hu; go_simp; with_reducible rfl) ?_
  simp only [Act.put, List.setIfInBounds_toArray, List.set_cons_zero, List.set_cons_succ]
  refine Steady.take ?_ rfl (by intro u hu; go_simp; with_reducible rfl) ?_
  simp only [Act.put, List.setIfInBounds_toArray, List.set_cons_zero, List.set_cons_succ]
  refine Steady.take ?_ rfl (by intro u hu; go_simp; with_reducible rfl) ?_
  simp only [Act.put, List.setIfInBounds_toArray, List.set_cons_zero, List.set_cons_succ]
  refine Steady.take ?_ rfl (by intro u hu; obtain ⟨-, -, c6, c7, c8, -⟩ := HALL.out u hu; go_simp; with_reducible rfl) ?_
  simp only [Act.put, List.setIfInBounds_toArray, List.set_cons_zero, List.set_cons_succ]
  refine Steady.take ?_ rfl (by intro u hu; go_simp; with_reducible rfl) ?_
  simp only [Act.put, List.setIfInBounds_toArray, List.set_cons_zero, List.set_cons_succ]
  refine Steady.call _ _ _ rfl ?_ (Steady.kept G2.out) ?_
  · intro u
    go_simp
  simp only [Act.put, List.setIfInBounds_toArray, List.set_cons_zero, List.set_cons_succ]
  refine Steady.take ?_ rfl (by intro u hu; go_simp; with_reducible rfl) ?_
  simp only [Act.put, List.setIfInBounds_toArray, List.set_cons_zero, List.set_cons_succ]
  refine Steady.take ?_ rfl (by intro u hu; go_simp; with_reducible rfl) ?_
  simp only [Act.put, List.setIfInBounds_toArray, List.set_cons_zero, List.set_cons_succ]
  refine Steady.take ?_ rfl (by intro u hu; go_simp; with_reducible rfl) ?_
  simp only [Act.put, List.setIfInBounds_toArray, List.set_cons_zero, List.set_cons_succ]
  refine Steady.nil ?_
  intro w175 h9
  have HX75 := Lib.hid h9
  clear h9
  refine Steady.phase 75 92 3 (by kernel_rfl) (by as_aux_lemma => kernel_rfl) HX75.out ?_
  simp only [List.take_succ_cons, List.take_zero, List.drop_succ_cons, List.drop_zero]
  refine Steady.take ?_ rfl (by intro u hu; obtain ⟨c0, c1, -⟩ := HALL.out u hu; go_simp; with_reducible rfl) ?_
  simp only [Act.put, List.setIfInBounds_toArray, List.set_cons_zero, List.set_cons_succ]
  refine Steady.take ?_ rfl (by intro u hu; go_simp; with_reducible rfl) ?_
  simp only [Act.put, List.setIfInBounds_toArray, List.set_cons_zero, List.set_cons_succ]
  refine Steady.take ?_ rfl (by intro u hu; go_simp; with_reducible rfl) ?_
  simp only [Act.put, List.setIfInBounds_toArray, List.set_cons_zero, List.set_cons_succ]
  refine Steady.take ?_ rfl (by intro u hu; obtain ⟨-, -, c6, c7, c8, -⟩ := HALL.out u hu; go_simp; with_reducible rfl) ?_
  simp only [Act.put, List.setIfInBounds_toArray, List.set_cons_zero, List.set_cons_succ]
  refine Steady.take ?_ rfl (by intro u hu; go_simp; with_reducible rfl) ?_
  simp only [Act.put, List.setIfInBounds_toArray, List.set_cons_zero, List.set_cons_succ]
  refine Steady.take ?_ rfl (by intro u hu; go_simp; with_reducible rfl) ?_
  simp only [Act.put, List.setIfInBounds_toArray, List.set_cons_zero, List.set_cons_succ]
  refine Steady.call _ _ _ rfl ?_ (Chn.keptIf H1'.out) ?_
  · intro u
    go_simp
  simp only [Act.put, List.setIfInBounds_toArray, List.set_cons_zero, List.set_cons_succ]
  refine Steady.take ?_ rfl (by intro u hu; obtain ⟨c0, c1, -⟩ := HALL.out u hu; go_simp; with_reducible rfl) ?_
  simp only [Act.put, List.setIfInBounds_toArray, List.set_cons_zero, List.set_cons_succ]
  refine Steady.take ?_ rfl (by intro u hu; go_simp; with_reducible rfl) ?_
  simp only [Act.put, List.setIfInBounds_toArray, List.set_cons_zero, List.set_cons_succ]
  refine Steady.take ?_ rfl (by intro u hu; go_simp; with_reducible rfl) ?_
  simp only [Act.put, List.setIfInBounds_toArray, List.set_cons_zero, List.set_cons_succ]
  refine Steady.take ?_ rfl (by intro u hu; obtain ⟨-, -, c6, c7, c8, -⟩ := HALL.out u hu; go_simp; with_reducible rfl) ?_
  simp only [Act.put, List.setIfInBounds_toArray, List.set_cons_zero, List.set_cons_succ]
  refine Steady.take ?_ rfl (by intro u hu; go_simp; with_reducible rfl) ?_
  simp only [Act.put, List.setIfInBounds_toArray, List.set_cons_zero, List.set_cons_succ]
  refine Steady.take ?_ rfl (by intro u hu; go_simp; with_reducible rfl) ?_
  simp only [Act.put, List.setIfInBounds_toArray, List.set_cons_zero, List.set_cons_succ]
  refine Steady.call _ _ _ rfl ?_ (Steady.kept H2.out) ?_
  · intro u
    go_simp
  simp only [Act.put, List.setIfInBounds_toArray, List.set_cons_zero, List.set_cons_succ]
  refine Steady.take ?_ rfl (by intro u hu; go_simp; with_reducible rfl) ?_
  simp only [Act.put, List.setIfInBounds_toArray, List.set_cons_zero, List.set_cons_succ]
  refine Steady.take ?_ rfl (by intro u hu; go_simp; with_reducible rfl) ?_
  simp only [Act.put, List.setIfInBounds_toArray, List.set_cons_zero, List.set_cons_succ]
  refine Steady.take ?_ rfl (by intro u hu; go_simp; with_reducible rfl) ?_
  simp only [Act.put, List.setIfInBounds_toArray, List.set_cons_zero, List.set_cons_succ]
  refine Steady.nil ?_
  intro w192 h9
  have HX92 := Lib.hid h9
  clear h9
  refine Steady.phase 92 94 1 (by kernel_rfl) (by as_aux_lemma => kernel_rfl) HX92.out ?_
  simp only [List.take_succ_cons, List.take_zero, List.drop_succ_cons, List.drop_zero]
  refine Steady.call _ _ _ rfl ?_ (Chn.keptIf RA'.out) ?_
  · intro u
    go_simp
  simp only [Act.put, List.setIfInBounds_toArray, List.set_cons_zero, List.set_cons_succ]
  refine Steady.take ?_ rfl (by intro u hu; go_simp; with_reducible rfl) ?_
  simp only [Act.put, List.setIfInBounds_toArray, List.set_cons_zero, List.set_cons_succ]
  refine Steady.nil ?_
  intro w194 h9
  have HX94 := Lib.hid h9
  clear h9
  refine wpAnyH_take (i := 94) (by simp only [List.getElem?_toArray, List.getElem?_cons_succ, List.getElem?_cons_zero]; rfl) (by kernel_rfl) (by as_aux_lemma => kernel_rfl) (by as_aux_lemma => kernel_rfl) (fun _ _ _ h => by exact h) (.inl ⟨rfl, fun u hu => by go_simp; with_reducible rfl⟩) HX94.out ?_
  simp only [List.getElem_toArray, List.getElem_cons_succ, List.getElem_cons_zero, Act.put, List.setIfInBounds_toArray, List.set_cons_zero, List.set_cons_succ]
  refine wpAnyH_done (by kernel_rfl) ?_ 0
  have HB9 := Lib.hid (HB5.out.trans (HX94.out.mono HB5.out.size))
  go_wp2
  go_ret
  exact ⟨rfl, HB9.out⟩

theorem walk (n h : Int) (seed room d sig : ByteArray) (n0 n1 n2 : Int) (w : World) (h1 : seed.size ≤ 140737488351232) (h2 : room.size ≤ 140737488351232) (h3 : d.size ≤ 140737488351232) (h4 : sig.size ≤ 140737488351232) (hk : Consts w) :
    Calls Tryd.prog 3 #[.agg #[.int .i64 n, .int .i64 h], .agg #[.string seed, .string room, .string d, .string sig], .agg #[.int .i64 n0, .int .i64 n1, .int .i64 n2]] w
      fun e w' => e = .returned (.bool true) ∧ Below w.heap.size w w' := by
  by_cases hg : seed.size + room.size + d.size + sig.size ≤ 1500 ∧ n ≤ 6
  · exact law_small n h seed room d sig n0 n1 n2 w hg.1 hg.2 hk
  · exact law_great n h seed room d sig n0 n1 n2 w hg h1 h2 h3 h4 hk

theorem three_of {α : Type} (l : List α) (h : l.length = 3) : ∃ a b c, l = [a, b, c] := by
  match l, h with
  | [a, b, c], _ => exact ⟨a, b, c, rfl⟩
theorem four_of {α : Type} (l : List α) (h : l.length = 4) : ∃ a b c d, l = [a, b, c, d] := by
  match l, h with
  | [a, b, c, d], _ => exact ⟨a, b, c, d, rfl⟩
theorem laidOut : laidOutB Tryd.prog = true := by kernel_rfl

set_option maxRecDepth 100000 in
theorem lifted (os : Os) (started : os.Started) (H : Type) (enc : TypeId × Value → H) :
    ReturnsInHanded {} Tryd.checked os 3 .any (fun w args => (Rows.chainsSaySpec.pre enc Tryd.prog Tryd.f3 [] false w args ∧ laidMetH Tryd.prog laidL w) ∧ sizedMet enc Tryd.prog Tryd.f3 (OpenSpec.ofChange Rows.chainsSaySpec) false w args)
      (Rows.chainsSaySpec.post enc Tryd.prog Tryd.f3 false true false false) := by
  refine returnsInHanded_of_change_and (C := Tryd.checked) (X := fun w _ => laidMetH Tryd.prog laidL w) (fun _ _ _ hh h => h.of_heap hh) own started (by kernel_rfl) Tryd.func3
    (ChangeSpec.witness_shaped (enc := enc) (C := Tryd.checked) (os := os) (X := fun w _ => laidMetH Tryd.prog laidL w) false (World.doorLaid Tryd.prog 400 os) #[.agg #[.int .i64 0, .int .i64 0], .agg #[.string ByteArray.empty, .string ByteArray.empty, .string ByteArray.empty, .string ByteArray.empty], .agg #[.int .i64 0, .int .i64 0, .int .i64 0]] 8 rfl (World.shaped_of_RefB (by kernel_rfl) (by kernel_rfl)) (by kernel_rfl) (by kernel_rfl) (by kernel_rfl) (door_met os _)) ?_
  intro W base args ds gs before hval0 hW _ hsz0 hL _
  have hval : ∀ (j : Nat) t v, Tryd.f3.params[j]? = some t → args[j]? = some v → Value.okWide Tryd.prog W .any base t v := hval0
  have hsz : (DataW.weightsEach Tryd.prog (Tryd.f3.params.toList ++ Rows.chainsSaySpec.plain.varTypes Tryd.prog) (ds ++ gs)).all (· ≤ reachBytes) = true := hsz0
  clear hsz0
  have hW' := hW
  obtain ⟨p, q, hA0, hV, rfl, hfz, hnd⟩ := hW
  have hA : DataW.TrodAll enc Tryd.prog W 0 (fun _ => true) true Tryd.f3.params.toList args.toList ds p := hA0
  rw [Tryd.params3] at hA hval hsz
  obtain ⟨v0, vs0, d0, ds0, p0, q0, hargs, rfl, rfl, h0, r0⟩ := trodAll_cons hA
  obtain ⟨v1, vs1, d1, ds1, p1, q1, rfl, rfl, rfl, h1, r1⟩ := trodAll_cons r0
  obtain ⟨v2, vs2, d2, ds2, p2, q2, rfl, rfl, rfl, h2, r2⟩ := trodAll_cons r1
  obtain ⟨rfl, rfl, rfl⟩ := trodAll_nil r2
  obtain rfl : args = #[v0, v1, v2] := by cases args; simp_all
  obtain ⟨rfl, rfl⟩ := trodVars_none hV
  have k0 := h0
  have lt0 : ∀ x ∈ p0, x.block < W.heap.size := by obtain ⟨m, hm⟩ := k0; exact DataW.trod_lt m _ _ _ hm
  have k1 := h1
  have lt1 : ∀ x ∈ p1, x.block < W.heap.size := by obtain ⟨m, hm⟩ := k1; exact DataW.trod_lt m _ _ _ hm
  have k2 := h2
  have lt2 : ∀ x ∈ p2, x.block < W.heap.size := by obtain ⟨m, hm⟩ := k2; exact DataW.trod_lt m _ _ _ hm
  obtain ⟨a0, b0, rfl, rfl, rfl⟩ := Open.open_shape (hval 0 23 v0 rfl rfl) h0
  obtain ⟨ss1, hsl1, rfl, rfl, rfl, w1⟩ := Open.open_string_array Tryd.underlying24 Tryd.underlying9 (by kernel_rfl) (by kernel_rfl) (hval 1 24 v1 rfl rfl) h1
  have z1 := Open.sized_string_array hsz (j := 1) (t := 24) (ss := ss1) rfl rfl Tryd.underlying24
  obtain ⟨s1a, s1b, s1c, s1d, rfl⟩ := four_of ss1 hsl1
  obtain ⟨ns2, hnl2, rfl, rfl, rfl, w2⟩ := Open.open_int_array Tryd.underlying25 Tryd.underlying3 (by kernel_rfl) (by kernel_rfl) (hval 2 25 v2 rfl rfl) h2
  obtain ⟨m2a, m2b, m2c, rfl⟩ := three_of ns2 hnl2
  have hcl := of_laid hL
  clear hA0 hval0
  refine (walk a0 b0 s1a s1b s1c s1d m2a m2b m2c W (z1 s1a (by simp)) (z1 s1b (by simp)) (z1 s1c (by simp)) (z1 s1d (by simp)) hcl).mono fun e W' ⟨he, bel⟩ => ?_
  subst he
  exact ⟨_, rfl, _, _, _, [], _, [], hW', trodAll_mk1 (shut_bool Tryd.underlying4 _), (trodAll_cons_mk (Below.trod laidOut (by kernel_rfl) (of_decide_eq_true (by kernel_rfl)) k0 bel lt0) (trodAll_cons_mk (Below.trod laidOut (by kernel_rfl) (of_decide_eq_true (by kernel_rfl)) k1 bel lt1) (trodAll_cons_mk (Below.trod laidOut (by kernel_rfl) (of_decide_eq_true (by kernel_rfl)) k2 bel lt2) trodAll_mk0))), rfl, bel.frame _, fun h => by cases h⟩

theorem over : Rows.ChainsSaySaid :=
  OpenClaim.holds_of_wide 3 Tryd.f3 rfl rfl rfl rfl rfl rfl rfl ⟨rfl, rfl, rfl, rfl, rfl⟩ rfl rfl rfl rfl rfl (by kernel_rfl) Tryd.func3 (by kernel_rfl)
    (of_decide_eq_true (by kernel_rfl)) (by unfold Func.isWrapper; first | (rw [if_pos (by decide +kernel)]; kernel_rfl) | (rw [if_neg (by decide +kernel)]; exact ⟨rfl, rfl⟩))
    (fun os started H enc _ => lifted os started H enc)

theorem proved : Rows.ChainsSayCardSaid :=
  Claim7.holds_tied_plain_at .later [] [.data] true Rows.chainsSayCard.stood.harness false
    over (fun _ h => by cases h) (by kernel_rfl) (fun _ h => by cases h) chainsSay_row_tie rfl ⟨rfl, rfl⟩ (by kernel_rfl) rfl
    (fun f fn hf hfn => by
      obtain rfl : f = 3 := Option.some.inj ((show Tryd.prog.funcNamed "murmur/murmurlaw07.ChainsSay" = some 3 by kernel_rfl).symm.trans hf) |>.symm
      obtain rfl : fn = Tryd.f3 := (Option.some.inj (Tryd.func3.symm.trans hfn)).symm
      exact ⟨by kernel_rfl, fun j t ht => by
        rw [Tryd.params3] at ht
        have hm : t ∈ [23, 24, 25] := by simpa using Array.mem_of_getElem? ht
        have hall : ([23, 24, 25].all fun u => !Tryd.prog.wantsStandIn u) = true := by kernel_rfl
        exact (show Tryd.prog.wantsStandIn t = false by simpa using List.all_eq_true.1 hall t hm)⟩)
    (by kernel_rfl)
#print axioms proved
end Go.Proofs.YtjhilaiilckalaaDoor.LawSay7
