/-
  GroveClimbs: climbing from any leaf by its path ends at the root: for every input, the law answers true and changes nothing that was there. Condition: the constant table lies as the program's text lays it (the card ties it).
-/
import Derived.Test.YtncafbejgidliaaDoorGrvAwake
import Derived.Test.YtncafbejgidliaaDoorConstFrame
import Derived.Test.YtncafbejgidliaaDoorBoxed
import Derived.Test.YtncafbejgidliaaDoorCards
import Derived.Test.YtncafbejgidliaaDoorOpen
import Derived.Test.YtncafbejgidliaaDoorTie
import Derived.SevenTiedAt
namespace Go.Proofs.YtncafbejgidliaaDoor.LawClimbs
open Go.ChangeShapes Go.WideShapes Go.ChangeAt Go.ChangeMaps Go.RowKit Mur Sha Chn Grv
set_option maxRecDepth 100000

theorem rest_of (x : Int) (q : Nat) (h1 : 0 < q) (h2 : q ≤ 1000) : ∃ m : Nat, m < q ∧ wrap64 ((IntKind.u64.wrap x).tmod (q : Int)) = (m : Int) := by
  rw [IntKind.wrap_u64, Int.tmod_eq_emod_of_nonneg (by omega)]
  have h3 : 0 ≤ x % 18446744073709551616 % (q : Int) := Int.emod_nonneg _ (by omega)
  have h4 : x % 18446744073709551616 % (q : Int) < q := Int.emod_lt_of_pos _ (by omega)
  refine ⟨(x % 18446744073709551616 % (q : Int)).toNat, by omega, ?_⟩
  rw [IntWalk.wrap64_in _ (by omega)]
  omega

set_option maxHeartbeats 6400000 in
theorem law_small (h lf0 : Int) (seed room : ByteArray) (w : World) (hg : seed.size + room.size ≤ 600) (hk : Consts w) :
    Calls Tryd.prog 4 #[.int .i64 h, .int .i64 lf0, .agg #[.string seed, .string room]] w
      fun e w' => e = .returned (.bool true) ∧ Below w.heap.size w w' := by
  have hd1 : decide (600 < (seed.size : Int) + (room.size : Int)) = false := by simp; omega
  obtain ⟨H, hH, hH2⟩ := rest_of h 4 (by omega) (by omega)
  obtain ⟨p, hp⟩ : ∃ p, p = 2 ^ H := ⟨_, rfl⟩
  have hp8 : p ≤ 256 := by rw [hp]; exact pow_256 H (by omega)
  have hp0 : 0 < p := by rw [hp]; exact Nat.two_pow_pos H
  obtain ⟨lf, hlf, hlf2⟩ := rest_of lf0 p hp0 (by omega)
  have hpz : (2 : Int) ^ H = (p : Int) := by rw [hp, Int.natCast_pow]; rfl
  have hr : Right ((2 : Nat) : Int) (H : Int) := by unfold Right; omega
  have hlf3 : lf < 2 ^ H := by rw [← hp]; exact hlf
  obtain ⟨RT, hRT⟩ : ∃ M : ByteArray, M = tx (node 2 seed.data.toList room.data.toList H 0) := ⟨_, rfl⟩
  obtain ⟨PA, hPA⟩ : ∃ M : ByteArray, M = tx (path 2 H seed.data.toList room.data.toList lf) := ⟨_, rfl⟩
  obtain ⟨LF, hLF⟩ : ∃ M : ByteArray, M = tx (leafOf 2 seed.data.toList room.data.toList (lf : Int)) := ⟨_, rfl⟩
  have hs : PA.size = 2 * H := by rw [hPA]; exact path_length 2 H _ _ _ (by omega)
  have hl : RT.size = 2 := by rw [hRT]; exact node_length 2 _ _ _ _ (by omega)
  have hll : LF.size = 2 := by rw [hLF]; exact leafOf_length 2 _ _ _ (by omega)
  have hcl : RT = tx (climb 2 room.data.toList lf LF.data.toList PA.data.toList H) := by
    rw [hRT, hLF, hPA, tx_list, tx_list, climb_path 2 H _ _ lf (by omega) H (Nat.le_refl _), Nat.div_eq_of_lt hlf3]
  have R1 := Lib.hid (show ∀ u, Consts u → Calls Tryd.prog 8 #[.agg #[.int .i64 2, .int .i64 (H : Int)], .string seed, .string room, .agg #[.int .i64 (H : Int), .int .i64 0]] u fun e w' => e = .returned (.string RT) ∧ Below u.heap.size u w' from
    fun u hu => node_any 2 H H 0 seed room RT u hr (by omega) (Nat.two_pow_pos _) (by omega) hRT hu)
  have R2 := Lib.hid (show ∀ u, Consts u → Calls Tryd.prog 10 #[.agg #[.int .i64 2, .int .i64 (H : Int)], .string seed, .string room, .int .i64 (lf : Int)] u fun e w' => e = .returned (.string PA) ∧ Below u.heap.size u w' from
    fun u hu => path_any 2 H lf seed room PA u hr hlf3 (by omega) hPA hu)
  have R3 := Lib.hid (show ∀ u, Consts u → Calls Tryd.prog 14 #[.agg #[.int .i64 2, .int .i64 (H : Int)], .string seed, .string room, .int .i64 (lf : Int)] u fun e w' => e = .returned (.string LF) ∧ Below u.heap.size u w' from
    fun u hu => leaf_any 2 H seed room lf LF u hr (by omega) hLF hu)
  have R4 := Lib.hid (show ∀ u, Consts u → Calls Tryd.prog 12 #[.agg #[.int .i64 2, .int .i64 (H : Int)], .string room, .int .i64 (lf : Int), .string LF, .string PA] u fun e w' => e = .returned (.string RT) ∧ Below u.heap.size u w' from
    fun u hu => climb_any 2 H lf room LF PA RT u hr hlf3 hs (by omega) hcl hu)
  have RA := Lib.hid (fun u hu => awake_any u hu)
  have t1 : (RT.size : Int) = 2 := by rw [hl]; rfl
  have t2 : (PA.size : Int) = 2 * (H : Int) := by rw [hs]; omega
  have HM2 := Lib.hid hH2
  have HL2 := Lib.hid hlf2
  have HPZ := Lib.hid hpz
  have T1 := Lib.hid t1
  have T2 := Lib.hid t2
  clear hRT hPA hLF hs hl hll hcl hr hH2 hlf2 hpz hp t1 t2 hlf3
  have hB0 := ((Below.refl w.heap.size w).alloc (Nat.le_refl _) (.cells #[.string seed, .string room] 31))
  have hc0 : (w.alloc (.cells #[.string seed, .string room] 31)).cell? ⟨w.heap.size, 0, none⟩ = some (.string seed) := by simp
  have hc1 : (w.alloc (.cells #[.string seed, .string room] 31)).cell? ⟨w.heap.size, 1, none⟩ = some (.string room) := by simp
  have hlt : w.heap.size < (w.alloc (.cells #[.string seed, .string room] 31)).heap.size := by simp
  go_enter Tryd.func4, Tryd.ntmps4
  go_upto_region 1 with (fail)
  generalize w.alloc (.cells #[.string seed, .string room] 31) = wz at *
  have HC := Lib.hid (fun (u : World) (q : Below wz.heap.size wz u) => (⟨(q.cell (p := ⟨w.heap.size, 0, none⟩) hlt).trans hc0, (q.cell (p := ⟨w.heap.size, 1, none⟩) hlt).trans hc1, hk.below hk.1 (hB0.trans (q.mono hB0.size))⟩ :
    u.cell? ⟨w.heap.size, 0, none⟩ = some (.string seed) ∧ u.cell? ⟨w.heap.size, 1, none⟩ = some (.string room) ∧ Consts u))
  have HB0 := Lib.hid hB0
  clear hB0 hc0 hc1 hlt hk
  obtain ⟨c0, c1, -⟩ := HC.out _ (Below.refl _ _)
  have g1 := HM2.out
  rw [show ((4 : Nat) : Int) = 4 from rfl] at g1
  go_upto_region 4 with (fail)
  clear g1 c0 c1
  have hb2 := (Below.refl wz.heap.size wz).alloc (Nat.le_refl _) (.cells #[.int .i64 2, .int .i64 (H : Int)] 23)
  have hp0 : (wz.alloc (.cells #[.int .i64 2, .int .i64 (H : Int)] 23)).cell? ⟨wz.heap.size, 0, none⟩ = some (.int .i64 2) := by simp
  have hp1 : (wz.alloc (.cells #[.int .i64 2, .int .i64 (H : Int)] 23)).cell? ⟨wz.heap.size, 1, none⟩ = some (.int .i64 (H : Int)) := by simp
  have hpl : wz.heap.size < (wz.alloc (.cells #[.int .i64 2, .int .i64 (H : Int)] 23)).heap.size := by simp
  generalize wz.alloc (.cells #[.int .i64 2, .int .i64 (H : Int)] 23) = w2 at *
  have HC2 := Lib.hid (fun (u : World) (q : Below w2.heap.size w2 u) => HC.out u (hb2.trans (q.mono hb2.size)))
  have HP := Lib.hid (fun (u : World) (q : Below w2.heap.size w2 u) => (⟨(q.cell (p := ⟨wz.heap.size, 0, none⟩) hpl).trans hp0, (q.cell (p := ⟨wz.heap.size, 1, none⟩) hpl).trans hp1⟩ : u.cell? ⟨wz.heap.size, 0, none⟩ = some (.int .i64 2) ∧ u.cell? ⟨wz.heap.size, 1, none⟩ = some (.int .i64 (H : Int))))
  have HB2 := Lib.hid (HB0.out.trans (hb2.mono HB0.out.size))
  clear hb2 hp0 hp1 hpl HC HB0
  obtain ⟨c0, c1, hk2⟩ := HC2.out _ (Below.refl _ _)
  obtain ⟨p0, p1⟩ := HP.out _ (Below.refl _ _)
  have HK2 := Lib.hid hk2
  clear hk2
  have hpz := HPZ.out
  have g2 := HL2.out
  go_upto_region 5 with (fail)
  rw [g2]
  clear g2 hpz HL2 HM2
  generalize (IntKind.u64.wrap lf0).tmod (p : Int) = y0
  generalize IntKind.u64.wrap lf0 = y1
  generalize (IntKind.u64.wrap h).tmod 4 = y2
  generalize IntKind.u64.wrap h = y3
  generalize wrap64 y2 = y4
  go_wp2_with fail
  refine (R2.out _ HK2.out).mono ?_
  rintro e w3 ⟨rfl, hb3⟩
  clear c0 c1 p0 p1
  have HW3 := Lib.hid hb3
  clear hb3
  obtain ⟨c0, c1, hk3⟩ := HC2.out _ HW3.out
  obtain ⟨p0, p1⟩ := HP.out _ HW3.out
  have HK3 := Lib.hid hk3
  clear hk3
  go_wp2_with fail
  refine (R1.out _ HK3.out).mono ?_
  rintro e w4 ⟨rfl, hb4⟩
  clear c0 c1 p0 p1
  have HW4 := Lib.hid (HW3.out.trans (hb4.mono HW3.out.size))
  clear hb4
  go_upto_region 7 with (fail)
  have HC4 := Lib.hid (fun (u : World) (q : Below w4.heap.size w4 u) => HC2.out u (HW4.out.trans (q.mono HW4.out.size)))
  have HP4 := Lib.hid (fun (u : World) (q : Below w4.heap.size w4 u) => HP.out u (HW4.out.trans (q.mono HW4.out.size)))
  have S3 := Lib.hid (fun (u : World) (q : Below w4.heap.size w4 u) => R3.out u (HC4.out u q).2.2)
  have S4 := Lib.hid (fun (u : World) (q : Below w4.heap.size w4 u) => R4.out u (HC4.out u q).2.2)
  have SA := Lib.hid (fun (u : World) (q : Below w4.heap.size w4 u) => RA.out u (HC4.out u q).2.2)
  have t1 := T1.out
  have t2 := T2.out
  have hw : IntKind.i64.wrap (2 * (H : Int)) = 2 * (H : Int) := by rw [IntKind.wrap_i64]; omega
  refine Steady.region 31 (by kernel_rfl) (by kernel_rfl) (fun u => Below w4.heap.size w4 u) ((Below.refl _ _).drew) ?_
  simp only [List.take_succ_cons, List.take_zero, List.drop_succ_cons, List.drop_zero]
  refine Steady.take ?_ rfl (by intro u hu; go_simp; with_reducible rfl) ?_
  simp only [Act.put, List.setIfInBounds_toArray, List.set_cons_zero, List.set_cons_succ]
  refine Steady.take ?_ rfl (by intro u hu; go_simp; with_reducible rfl) ?_
  simp only [Act.put, List.setIfInBounds_toArray, List.set_cons_zero, List.set_cons_succ]
  refine Steady.take ?_ rfl (by intro u hu; go_simp; with_reducible rfl) ?_
  simp only [Act.put, List.setIfInBounds_toArray, List.set_cons_zero, List.set_cons_succ]
  refine Steady.take ?_ rfl (by intro u hu; go_simp; with_reducible rfl) ?_
  simp only [Act.put, List.setIfInBounds_toArray, List.set_cons_zero, List.set_cons_succ]
  refine Steady.take ?_ rfl (by intro u hu; go_simp; with_reducible rfl) ?_
  simp only [Act.put, List.setIfInBounds_toArray, List.set_cons_zero, List.set_cons_succ]
  refine Steady.take ?_ rfl (by intro u hu; go_simp; with_reducible rfl) ?_
  simp only [Act.put, List.setIfInBounds_toArray, List.set_cons_zero, List.set_cons_succ]
  refine Steady.take ?_ rfl (by intro u hu; go_simp; with_reducible rfl) ?_
  simp only [Act.put, List.setIfInBounds_toArray, List.set_cons_zero, List.set_cons_succ]
  refine Steady.take ?_ rfl (by intro u hu; obtain ⟨p0, p1⟩ := HP4.out u hu; go_simp; with_reducible rfl) ?_
  simp only [Act.put, List.setIfInBounds_toArray, List.set_cons_zero, List.set_cons_succ]
  refine Steady.take ?_ rfl (by intro u hu; go_simp; with_reducible rfl) ?_
  simp only [Act.put, List.setIfInBounds_toArray, List.set_cons_zero, List.set_cons_succ]
  refine Steady.take ?_ rfl (by intro u hu; go_simp; with_reducible rfl) ?_
  simp only [Act.put, List.setIfInBounds_toArray, List.set_cons_zero, List.set_cons_succ]
  refine Steady.take ?_ rfl (by intro u hu; go_simp; with_reducible rfl) ?_
  simp only [Act.put, List.setIfInBounds_toArray, List.set_cons_zero, List.set_cons_succ]
  refine Steady.take ?_ rfl (by intro u hu; go_simp; with_reducible rfl) ?_
  simp only [Act.put, List.setIfInBounds_toArray, List.set_cons_zero, List.set_cons_succ]
  refine Steady.take ?_ rfl (by intro u hu; obtain ⟨p0, p1⟩ := HP4.out u hu; go_simp; with_reducible rfl) ?_
  simp only [Act.put, List.setIfInBounds_toArray, List.set_cons_zero, List.set_cons_succ]
  refine Steady.take ?_ rfl (by intro u hu; go_simp; with_reducible rfl) ?_
  simp only [Act.put, List.setIfInBounds_toArray, List.set_cons_zero, List.set_cons_succ]
  refine Steady.take ?_ rfl (by intro u hu; obtain ⟨c0, c1, -⟩ := HC4.out u hu; go_simp; with_reducible rfl) ?_
  simp only [Act.put, List.setIfInBounds_toArray, List.set_cons_zero, List.set_cons_succ]
  refine Steady.take ?_ rfl (by intro u hu; go_simp; with_reducible rfl) ?_
  simp only [Act.put, List.setIfInBounds_toArray, List.set_cons_zero, List.set_cons_succ]
  refine Steady.take ?_ rfl (by intro u hu; obtain ⟨p0, p1⟩ := HP4.out u hu; go_simp; with_reducible rfl) ?_
  simp only [Act.put, List.setIfInBounds_toArray, List.set_cons_zero, List.set_cons_succ]
  refine Steady.take ?_ rfl (by intro u hu; go_simp; with_reducible rfl) ?_
  simp only [Act.put, List.setIfInBounds_toArray, List.set_cons_zero, List.set_cons_succ]
  refine Steady.take ?_ rfl (by intro u hu; obtain ⟨c0, c1, -⟩ := HC4.out u hu; go_simp; with_reducible rfl) ?_
  simp only [Act.put, List.setIfInBounds_toArray, List.set_cons_zero, List.set_cons_succ]
  refine Steady.take ?_ rfl (by intro u hu; go_simp; with_reducible rfl) ?_
  simp only [Act.put, List.setIfInBounds_toArray, List.set_cons_zero, List.set_cons_succ]
  refine Steady.take ?_ rfl (by intro u hu; obtain ⟨c0, c1, -⟩ := HC4.out u hu; go_simp; with_reducible rfl) ?_
  simp only [Act.put, List.setIfInBounds_toArray, List.set_cons_zero, List.set_cons_succ]
  refine Steady.take ?_ rfl (by intro u hu; go_simp; with_reducible rfl) ?_
  simp only [Act.put, List.setIfInBounds_toArray, List.set_cons_zero, List.set_cons_succ]
  refine Steady.call _ _ _ rfl ?_ (keptIf S3.out) ?_
  · intro u
    go_simp
  simp only [Act.put, List.setIfInBounds_toArray, List.set_cons_zero, List.set_cons_succ]
  refine Steady.take ?_ rfl (by intro u hu; go_simp; with_reducible rfl) ?_
  simp only [Act.put, List.setIfInBounds_toArray, List.set_cons_zero, List.set_cons_succ]
  refine Steady.call _ _ _ rfl ?_ (keptIf S4.out) ?_
  · intro u
    go_simp
  simp only [Act.put, List.setIfInBounds_toArray, List.set_cons_zero, List.set_cons_succ]
  refine Steady.take ?_ rfl (by intro u hu; go_simp; with_reducible rfl) ?_
  simp only [Act.put, List.setIfInBounds_toArray, List.set_cons_zero, List.set_cons_succ]
  refine Steady.take ?_ rfl (by intro u hu; go_simp; with_reducible rfl) ?_
  simp only [Act.put, List.setIfInBounds_toArray, List.set_cons_zero, List.set_cons_succ]
  refine Steady.take ?_ rfl (by intro u hu; go_simp; with_reducible rfl) ?_
  simp only [Act.put, List.setIfInBounds_toArray, List.set_cons_zero, List.set_cons_succ]
  refine Steady.take ?_ rfl (by intro u hu; go_simp; with_reducible rfl) ?_
  simp only [Act.put, List.setIfInBounds_toArray, List.set_cons_zero, List.set_cons_succ]
  refine Steady.call _ _ _ rfl ?_ (keptIf SA.out) ?_
  · intro u
    go_simp
  simp only [Act.put, List.setIfInBounds_toArray, List.set_cons_zero, List.set_cons_succ]
  refine Steady.take ?_ rfl (by intro u hu; go_simp; with_reducible rfl) ?_
  simp only [Act.put, List.setIfInBounds_toArray, List.set_cons_zero, List.set_cons_succ]
  refine Steady.nil ?_
  intro w5 hb5
  have HB5 := Lib.hid (HB2.out.trans ((HW4.out.trans (hb5.mono HW4.out.size)).mono HB2.out.size))
  clear hb5 t1 t2 hw
  go_wp2
  go_ret
  exact ⟨rfl, HB5.out⟩

set_option maxHeartbeats 1600000 in
theorem law_great (h lf0 : Int) (seed room : ByteArray) (w : World) (hg : ¬ seed.size + room.size ≤ 600) (h1 : seed.size ≤ 140737488351232) (h2 : room.size ≤ 140737488351232) (hk : Consts w) :
    Calls Tryd.prog 4 #[.int .i64 h, .int .i64 lf0, .agg #[.string seed, .string room]] w
      fun e w' => e = .returned (.bool true) ∧ Below w.heap.size w w' := by
  have hd1 : decide (600 < (seed.size : Int) + (room.size : Int)) = true := by simp; omega
  have RA := Lib.hid (fun u hu => awake_any u hu)
  have hB0 := ((Below.refl w.heap.size w).alloc (Nat.le_refl _) (.cells #[.string seed, .string room] 31))
  have HK := Lib.hid (hk.below hk.1 hB0)
  have HB := Lib.hid hB0
  clear hk hB0
  go_enter Tryd.func4, Tryd.ntmps4
  go_wp2_with fail
  refine (RA.out _ HK.out).mono ?_
  rintro e w1 ⟨rfl, hb1⟩
  have HB1 := Lib.hid (HB.out.trans (hb1.mono HB.out.size))
  clear hb1
  go_wp2
  go_ret
  exact ⟨rfl, HB1.out⟩

theorem walk (h lf0 : Int) (seed room : ByteArray) (w : World) (h1 : seed.size ≤ 140737488351232) (h2 : room.size ≤ 140737488351232) (hk : Consts w) :
    Calls Tryd.prog 4 #[.int .i64 h, .int .i64 lf0, .agg #[.string seed, .string room]] w
      fun e w' => e = .returned (.bool true) ∧ Below w.heap.size w w' := by
  by_cases hg : seed.size + room.size ≤ 600
  · exact law_small h lf0 seed room w hg hk
  · exact law_great h lf0 seed room w hg h1 h2 hk

theorem two_of {α : Type} (l : List α) (h : l.length = 2) : ∃ a b, l = [a, b] := by
  match l, h with
  | [a, b], _ => exact ⟨a, b, rfl⟩
theorem laidOut : laidOutB Tryd.prog = true := by kernel_rfl

set_option maxRecDepth 100000 in
theorem lifted (os : Os) (started : os.Started) (H : Type) (enc : TypeId × Value → H) :
    ReturnsInHanded {} Tryd.checked os 4 .any (fun w args => (Rows.groveClimbsSpec.pre enc Tryd.prog Tryd.f4 [] false w args ∧ laidMetH Tryd.prog laidL w) ∧ sizedMet enc Tryd.prog Tryd.f4 (OpenSpec.ofChange Rows.groveClimbsSpec) false w args)
      (Rows.groveClimbsSpec.post enc Tryd.prog Tryd.f4 false true false false) := by
  refine returnsInHanded_of_change_and (C := Tryd.checked) (X := fun w _ => laidMetH Tryd.prog laidL w) (fun _ _ _ hh h => h.of_heap hh) own started (by kernel_rfl) Tryd.func4
    (ChangeSpec.witness_shaped (enc := enc) (C := Tryd.checked) (os := os) (X := fun w _ => laidMetH Tryd.prog laidL w) false (World.doorLaid Tryd.prog 400 os) #[.int .i64 0, .int .i64 0, .agg #[.string ByteArray.empty, .string ByteArray.empty]] 8 rfl (World.shaped_of_RefB (by kernel_rfl) (by kernel_rfl)) (by kernel_rfl) (by kernel_rfl) (by kernel_rfl) (door_met os _)) ?_
  intro W base args ds gs before hval0 hW _ hsz0 hL _
  have hval : ∀ (j : Nat) t v, Tryd.f4.params[j]? = some t → args[j]? = some v → Value.okWide Tryd.prog W .any base t v := hval0
  have hsz : (DataW.weightsEach Tryd.prog (Tryd.f4.params.toList ++ Rows.groveClimbsSpec.plain.varTypes Tryd.prog) (ds ++ gs)).all (· ≤ reachBytes) = true := hsz0
  clear hsz0
  have hW' := hW
  obtain ⟨p, q, hA0, hV, rfl, hfz, hnd⟩ := hW
  have hA : DataW.TrodAll enc Tryd.prog W 0 (fun _ => true) true Tryd.f4.params.toList args.toList ds p := hA0
  rw [Tryd.params4] at hA hval hsz
  obtain ⟨v0, vs0, d0, ds0, p0, q0, hargs, rfl, rfl, h0, r0⟩ := trodAll_cons hA
  obtain ⟨v1, vs1, d1, ds1, p1, q1, rfl, rfl, rfl, h1, r1⟩ := trodAll_cons r0
  obtain ⟨v2, vs2, d2, ds2, p2, q2, rfl, rfl, rfl, h2, r2⟩ := trodAll_cons r1
  obtain ⟨rfl, rfl, rfl⟩ := trodAll_nil r2
  obtain rfl : args = #[v0, v1, v2] := by cases args; simp_all
  obtain ⟨rfl, rfl⟩ := trodVars_none hV
  have k2 := h2
  have lt2 : ∀ x ∈ p2, x.block < W.heap.size := by obtain ⟨m, hm⟩ := k2; exact DataW.trod_lt m _ _ _ hm
  obtain ⟨n0, rfl, rfl, rfl, w0⟩ := open_int Tryd.underlying3 (hval 0 3 v0 rfl rfl) h0
  obtain ⟨n1, rfl, rfl, rfl, w1⟩ := open_int Tryd.underlying3 (hval 1 3 v1 rfl rfl) h1
  obtain ⟨ss2, hsl2, rfl, rfl, rfl, w2⟩ := Open.open_string_array Tryd.underlying31 Tryd.underlying9 (by kernel_rfl) (by kernel_rfl) (hval 2 31 v2 rfl rfl) h2
  have z2 := Open.sized_string_array hsz (j := 2) (t := 31) (ss := ss2) rfl rfl Tryd.underlying31
  obtain ⟨s2a, s2b, rfl⟩ := two_of ss2 hsl2
  have hcl := of_laid hL
  clear hA0 hval0
  refine (walk n0 n1 s2a s2b W (z2 s2a (by simp)) (z2 s2b (by simp)) hcl).mono fun e W' ⟨he, bel⟩ => ?_
  subst he
  exact ⟨_, rfl, _, _, _, [], _, [], hW', trodAll_mk1 (shut_bool Tryd.underlying4 _), (trodAll_cons_mk (shut_int Tryd.underlying3 w0) (trodAll_cons_mk (shut_int Tryd.underlying3 w1) (trodAll_cons_mk (Below.trod laidOut (by kernel_rfl) (of_decide_eq_true (by kernel_rfl)) k2 bel lt2) trodAll_mk0))), rfl, bel.frame _, fun h => by cases h⟩

theorem over : Rows.GroveClimbsSaid :=
  OpenClaim.holds_of_wide 4 Tryd.f4 rfl rfl rfl rfl rfl rfl rfl ⟨rfl, rfl, rfl, rfl, rfl⟩ rfl rfl rfl rfl rfl (by kernel_rfl) Tryd.func4 (by kernel_rfl)
    (of_decide_eq_true (by kernel_rfl)) (by unfold Func.isWrapper; first | (rw [if_pos (by decide +kernel)]; kernel_rfl) | (rw [if_neg (by decide +kernel)]; exact ⟨rfl, rfl⟩))
    (fun os started H enc _ => lifted os started H enc)

theorem proved : Rows.GroveClimbsCardSaid :=
  Claim7.holds_tied_plain_at .later [] [.data] true Rows.groveClimbsCard.stood.harness false
    over (fun _ h => by cases h) (by kernel_rfl) (fun _ h => by cases h) groveClimbs_row_tie rfl ⟨rfl, rfl⟩ (by kernel_rfl) rfl
    (fun f fn hf hfn => by
      obtain rfl : f = 4 := Option.some.inj ((show Tryd.prog.funcNamed "murmur/murmurlaw08.GroveClimbs" = some 4 by kernel_rfl).symm.trans hf) |>.symm
      obtain rfl : fn = Tryd.f4 := (Option.some.inj (Tryd.func4.symm.trans hfn)).symm
      exact ⟨by kernel_rfl, fun j t ht => by
        rw [Tryd.params4] at ht
        have hm : t ∈ [3, 3, 31] := by simpa using Array.mem_of_getElem? ht
        have hall : ([3, 3, 31].all fun u => !Tryd.prog.wantsStandIn u) = true := by kernel_rfl
        exact (show Tryd.prog.wantsStandIn t = false by simpa using List.all_eq_true.1 hall t hm)⟩)
    (by kernel_rfl)
#print axioms proved
end Go.Proofs.YtncafbejgidliaaDoor.LawClimbs
