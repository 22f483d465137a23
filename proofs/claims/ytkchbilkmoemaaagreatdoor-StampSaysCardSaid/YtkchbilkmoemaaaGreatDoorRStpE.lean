/-
  The document's own answers for Sign and Check of layer 9 answer what the plain mathematics of the text Stp says. Conditions: a Seed has no more than 390000 bytes, a text no more than 400000; how many leaves are used fits into an int.
-/
import Derived.Test.YtkchbilkmoemaaaGreatDoorRStpD
namespace Go.Proofs.YtkchbilkmoemaaaGreatDoor.RefStp
open Go.RowKit Mur Sha Chn Grv Stp
set_option maxRecDepth 100000

set_option maxHeartbeats 1600000 in
theorem sign_bad (n h nx : Int) (seed msg : ByteArray) (w : World) (hbad : ¬ (Right n h ∧ 0 ≤ nx)) :
    Calls Tryz.prog 8 #[.agg #[.int .i64 n, .int .i64 h, .string seed, .int .i64 nx], .string msg] w fun e w' => e = .returned (.tuple #[.string ⟨#[]⟩, .agg #[.int .i64 n, .int .i64 h, .string seed, .int .i64 nx], .int .i64 1]) ∧ Below w.heap.size w w' := by
  obtain ⟨X, hX, -⟩ := named n h seed nx
  obtain ⟨Y, hY, hYc⟩ := named_shape n h
  have hXY : Hold.Part X 0 Y := by rw [hYc]; exact hX.shape
  have R1 := Lib.hid (fun u => RefStp.right_any n h u)
  rw [← hY.agg] at R1
  rw [← hX.agg]
  have HX := Lib.hid hX
  have HY := Lib.hid hY
  have HXY := Lib.hid hXY
  have HXL := Lib.hid (show X.length = zeroS.length by rw [hX.len]; rfl)
  have HM := Lib.hid (Hold.Hld.start w)
  clear hX hY hYc hXY
  by_cases hr : Right n h
  · have hd : decide (nx < 0) = true := by
      have : ¬ 0 ≤ nx := fun g => hbad ⟨hr, g⟩
      simp; omega
    rw [decide_eq_true hr] at R1
    clear hbad hr
    go_enter Tryz.func8, Tryz.ntmps8
    go_upto_region 2 with ((first
      | (with_reducible refine Hold.box HM.out rfl rfl rfl ?_; clear HM; intro b0 w HM; simp only [List.nil_append] at HM; replace HM := Lib.hid HM)
      | (with_reducible refine Hold.alloc HM.out rfl rfl zeroS zero_sign ?_; clear HM; intro b1 w HM; simp only [List.nil_append, List.cons_append] at HM; replace HM := Lib.hid HM)
      | (with_reducible refine Hold.load HM.out 0 (cs := Y) rfl rfl rfl rfl (HXY.out) (by rw [HY.out.len]; exact shapeRow) ?_)
      | (with_reducible refine (R1.out _).mono ?_; rintro e w ⟨rfl, hb⟩; replace HM := Lib.hid (HM.out.next hb); clear hb; have c3 : w.cell? ⟨b0, 3, none⟩ = some (.int .i64 nx) := (HM.out.at 0 rfl).row.cell HX.out.next3)))

    clear c3
    refine Steady.region 2 (by kernel_rfl) (by kernel_rfl) (fun u => Hold.Hld _ _ u) HM.out.drew ?_
    simp only [List.take_succ_cons, List.take_zero, List.drop_succ_cons, List.drop_zero]
    refine Steady.take (.agg (X).toArray) rfl (fun u hu => Hold.load_run hu 0 rfl rfl rfl (Hold.Part.all _) (by rw [HX.out.len]; exact signRow)) ?_
    simp only [Act.put, List.setIfInBounds_toArray, List.set_cons_zero, List.set_cons_succ]
    refine Steady.take ?_ rfl (by intro u hu; go_simp; with_reducible rfl) ?_
    simp only [Act.put, List.setIfInBounds_toArray, List.set_cons_zero, List.set_cons_succ]
    refine Steady.nil ?_
    clear HM
    intro w HM
    replace HM := Lib.hid HM

    go_wp2_with ((first
      | (with_reducible refine Hold.store HM.out 1 (v' := X) rfl rfl rfl rfl rfl (by rw [HXL.out]; exact Nat.le_of_eq (Nat.zero_add _)) (Hold.lay_all HXL.out.symm) (HX.out.one) (by rw [HX.out.len]; exact signRow) ?_; clear HM; intro w HM; simp only [List.set_cons_zero, List.set_cons_succ] at HM; replace HM := Lib.hid HM)))

    exact bodyPost_ret (results_tct rfl _ rfl rfl rfl (by rw [HX.out.len]; exact signRow) (HM.out.range 1 rfl (Hold.Part.all _))) rfl ⟨rfl, HM.out.below⟩
  · rw [decide_eq_false hr] at R1
    clear hbad hr
    go_enter Tryz.func8, Tryz.ntmps8
    go_upto_region 2 with ((first
      | (with_reducible refine Hold.box HM.out rfl rfl rfl ?_; clear HM; intro b0 w HM; simp only [List.nil_append] at HM; replace HM := Lib.hid HM)
      | (with_reducible refine Hold.alloc HM.out rfl rfl zeroS zero_sign ?_; clear HM; intro b1 w HM; simp only [List.nil_append, List.cons_append] at HM; replace HM := Lib.hid HM)
      | (with_reducible refine Hold.load HM.out 0 (cs := Y) rfl rfl rfl rfl (HXY.out) (by rw [HY.out.len]; exact shapeRow) ?_)
      | (with_reducible refine (R1.out _).mono ?_; rintro e w ⟨rfl, hb⟩; replace HM := Lib.hid (HM.out.next hb); clear hb)))

    refine Steady.region 2 (by kernel_rfl) (by kernel_rfl) (fun u => Hold.Hld _ _ u) HM.out.drew ?_
    simp only [List.take_succ_cons, List.take_zero, List.drop_succ_cons, List.drop_zero]
    refine Steady.take (.agg (X).toArray) rfl (fun u hu => Hold.load_run hu 0 rfl rfl rfl (Hold.Part.all _) (by rw [HX.out.len]; exact signRow)) ?_
    simp only [Act.put, List.setIfInBounds_toArray, List.set_cons_zero, List.set_cons_succ]
    refine Steady.take ?_ rfl (by intro u hu; go_simp; with_reducible rfl) ?_
    simp only [Act.put, List.setIfInBounds_toArray, List.set_cons_zero, List.set_cons_succ]
    refine Steady.nil ?_
    clear HM
    intro w HM
    replace HM := Lib.hid HM

    go_wp2_with ((first
      | (with_reducible refine Hold.store HM.out 1 (v' := X) rfl rfl rfl rfl rfl (by rw [HXL.out]; exact Nat.le_of_eq (Nat.zero_add _)) (Hold.lay_all HXL.out.symm) (HX.out.one) (by rw [HX.out.len]; exact signRow) ?_; clear HM; intro w HM; simp only [List.set_cons_zero, List.set_cons_succ] at HM; replace HM := Lib.hid HM)))

    exact bodyPost_ret (results_tct rfl _ rfl rfl rfl (by rw [HX.out.len]; exact signRow) (HM.out.range 1 rfl (Hold.Part.all _))) rfl ⟨rfl, HM.out.below⟩

set_option maxHeartbeats 1600000 in
theorem sign_spent (n h nx : Int) (seed msg : ByteArray) (w : World) (hr : Right n h) (h0 : 0 ≤ nx) (hsp : (leavesI h : Int) ≤ nx) :
    Calls Tryz.prog 8 #[.agg #[.int .i64 n, .int .i64 h, .string seed, .int .i64 nx], .string msg] w fun e w' => e = .returned (.tuple #[.string ⟨#[]⟩, .agg #[.int .i64 n, .int .i64 h, .string seed, .int .i64 nx], .int .i64 6]) ∧ Below w.heap.size w w' := by
  obtain ⟨X, hX, -⟩ := named n h seed nx
  obtain ⟨Y, hY, hYc⟩ := named_shape n h
  have hXY : Hold.Part X 0 Y := by rw [hYc]; exact hX.shape
  have R1 := Lib.hid (fun u => right_yes n h hr u)
  have hl : leftI n h nx < 1 := by unfold leftI; split <;> omega
  have hl0 : leftI n h nx = 0 := by have := (leftI_bounds n h nx).1; omega
  have RU := Lib.hid (show ∀ u, Calls Tryz.prog 14 #[.agg #[.int .i64 n, .int .i64 h, .string seed, .int .i64 nx]] u fun e w' => e = .returned (.int .i64 0) ∧ Below u.heap.size u w' from
    fun u => RefStp.left_any n h nx seed 0 u hl0.symm)
  have hd : decide (nx < 0) = false := by simp; omega
  rw [← hY.agg] at R1
  rw [← hX.agg] at RU ⊢
  have HX := Lib.hid hX
  have HY := Lib.hid hY
  have HXY := Lib.hid hXY
  have HXL := Lib.hid (show X.length = zeroS.length by rw [hX.len]; rfl)
  have HXA := Lib.hid hX.agg
  have HM := Lib.hid (Hold.Hld.start w)
  clear hX hY hYc hXY hl hl0 hr h0 hsp
  go_enter Tryz.func8, Tryz.ntmps8
  go_upto_region 3 with ((first
    | (with_reducible refine Hold.box HM.out rfl rfl rfl ?_; clear HM; intro b0 w HM; simp only [List.nil_append] at HM; replace HM := Lib.hid HM)
    | (with_reducible refine Hold.alloc HM.out rfl rfl zeroS zero_sign ?_; clear HM; intro b1 w HM; simp only [List.nil_append, List.cons_append] at HM; replace HM := Lib.hid HM)
    | (with_reducible refine Hold.load HM.out 0 (cs := Y) rfl rfl rfl rfl (HXY.out) (by rw [HY.out.len]; exact shapeRow) ?_)
    | (with_reducible refine (R1.out _).mono ?_; rintro e w ⟨rfl, hb⟩; replace HM := Lib.hid (HM.out.next hb); clear hb; have c3 : w.cell? ⟨b0, 3, none⟩ = some (.int .i64 nx) := (HM.out.at 0 rfl).row.cell HX.out.next3)))

  clear c3
  go_upto_region 4 with ((first
    | (with_reducible refine Hold.load HM.out 0 (cs := X) rfl rfl rfl rfl (Hold.Part.all _) (by rw [HX.out.len]; exact signRow) ?_)
    | (with_reducible refine (RU.out _).mono ?_; rintro e w ⟨rfl, hb⟩; replace HM := Lib.hid (HM.out.next hb); clear hb)))

  refine Steady.region 2 (by kernel_rfl) (by kernel_rfl) (fun u => Hold.Hld _ _ u) HM.out.drew ?_
  simp only [List.take_succ_cons, List.take_zero, List.drop_succ_cons, List.drop_zero]
  refine Steady.take (.agg (X).toArray) rfl (fun u hu => Hold.load_run hu 0 rfl rfl rfl (Hold.Part.all _) (by rw [HX.out.len]; exact signRow)) ?_
  simp only [Act.put, List.setIfInBounds_toArray, List.set_cons_zero, List.set_cons_succ]
  refine Steady.take ?_ rfl (by intro u hu; go_simp; with_reducible rfl) ?_
  simp only [Act.put, List.setIfInBounds_toArray, List.set_cons_zero, List.set_cons_succ]
  refine Steady.nil ?_
  clear HM
  intro w HM
  replace HM := Lib.hid HM

  go_wp2_with ((first
    | (with_reducible refine Hold.store HM.out 1 (v' := X) rfl rfl rfl rfl rfl (by rw [HXL.out]; exact Nat.le_of_eq (Nat.zero_add _)) (Hold.lay_all HXL.out.symm) (HX.out.one) (by rw [HX.out.len]; exact signRow) ?_; clear HM; intro w HM; simp only [List.set_cons_zero, List.set_cons_succ] at HM; replace HM := Lib.hid HM)))

  exact bodyPost_ret (results_tct rfl _ rfl rfl rfl (by rw [HX.out.len]; exact signRow) (HM.out.range 1 rfl (Hold.Part.all _))) rfl ⟨rfl, HM.out.below⟩

set_option maxHeartbeats 3200000 in
theorem sign_any (N H leaf : Nat) (seed msg V : ByteArray) (w : World) (hr : Right (N : Int) (H : Int)) (hlf : leaf < 2 ^ H) (hs : seed.size ≤ 390000) (hm : msg.size ≤ 400000) (hV : V = tx (signature N H seed.data.toList leaf msg.data.toList)) :
    Calls Tryz.prog 8 #[.agg #[.int .i64 (N : Int), .int .i64 (H : Int), .string seed, .int .i64 (leaf : Int)], .string msg] w fun e w' => e = .returned (.tuple #[.string V, .agg #[.int .i64 (N : Int), .int .i64 (H : Int), .string seed, .int .i64 (leaf + 1 : Nat)], .int .i64 0]) ∧ Below w.heap.size w w' := by
  have hN : N ≤ 32 := by have := hr.2.1; omega
  have hH : H ≤ 8 := by have := hr.2.2.2; omega
  have h8 := two_pow_le H hH
  obtain ⟨X, hX, hXc⟩ := named N H seed leaf
  obtain ⟨X', hX', hXc'⟩ := named N H seed ((leaf + 1 : Nat) : Int)
  obtain ⟨Y, hY, hYc⟩ := named_shape N H
  have hXY : Hold.Part X 0 Y := by rw [hYc]; exact hX.shape
  obtain ⟨R, hR⟩ : ∃ R, R = tx (roomOf seed.data.toList) := ⟨_, rfl⟩
  obtain ⟨D, hD⟩ : ∃ D, D = tx (says N (roomOf seed.data.toList) (leaf : Int) msg.data.toList) := ⟨_, rfl⟩
  obtain ⟨G, hG⟩ : ∃ G, G = tx (sign N seed.data.toList (roomOf seed.data.toList) (leaf : Int) (says N (roomOf seed.data.toList) (leaf : Int) msg.data.toList)) := ⟨_, rfl⟩
  obtain ⟨T, hT⟩ : ∃ T, T = tx (path N H seed.data.toList (roomOf seed.data.toList) leaf) := ⟨_, rfl⟩
  obtain ⟨M, hM⟩ : ∃ M, M = tx (num (leaf : Int) 2) := ⟨_, rfl⟩
  obtain ⟨A, hA⟩ : ∃ A, A = M ++ G := ⟨_, rfl⟩
  have hRs : R.size = 8 := by rw [hR, tx_size, roomOf_length]
  have hMs : M.size = 2 := by rw [hM, tx_size, num_length]
  have hGs : G.size ≤ 32 * 67 := by
    rw [hG, tx_size, sign_length _ _ _ _ _ hN]
    exact Nat.mul_le_mul hN (by omega)
  have hTs : T.size ≤ 32 * 8 := by
    rw [hT, tx_size, path_length _ _ _ _ _ hN]
    exact Nat.mul_le_mul hN hH
  have hAs : A.size = M.size + G.size := by rw [hA, ByteArray.size_append]
  have hAT : A ++ T = V := by
    apply ByteArray.ext
    apply Array.ext'
    rw [hA, hV, hM, hG, hT]
    simp [signature]
  have hp : leavesI (H : Int) = 2 ^ H := by unfold leavesI; rw [Int.toNat_natCast]
  have hl : leftI (N : Int) (H : Int) (leaf : Int) = (2 ^ H : Nat) - (leaf : Int) := by
    unfold leftI
    rw [hp, if_pos ⟨hr, by omega, by omega⟩]
  obtain ⟨L, hL⟩ : ∃ L : Int, L = (2 ^ H : Nat) - (leaf : Int) := ⟨_, rfl⟩
  obtain ⟨nx, hnx⟩ : ∃ z : Int, z = ((leaf + 1 : Nat) : Int) := ⟨_, rfl⟩
  have R1 := Lib.hid (fun u => right_yes N H hr u)
  have RU := Lib.hid (show ∀ u, Calls Tryz.prog 14 #[.agg #[.int .i64 (N : Int), .int .i64 (H : Int), .string seed, .int .i64 (leaf : Int)]] u fun e w' => e = .returned (.int .i64 L) ∧ Below u.heap.size u w' from
    fun u => RefStp.left_any N H leaf seed L u (by rw [hL, hl]))
  have hL0 : (L == 0) = false := by simp; omega
  have hul : IntKind.u64.wrap (leaf : Int) = (leaf : Int) := by rw [IntKind.wrap_u64]; omega
  have hwn : IntKind.i64.wrap ((leaf : Int) + 1) = nx := by rw [hnx, IntWalk.i64_in _ (by omega)]; omega
  have RR := Lib.hid (fun (u : World) => RefStp.room_any seed R u hs hR)
  have RT := Lib.hid (fun (u : World) => RefStp.says_any N H leaf R msg D u hN (by omega) (by omega) (by rw [hD, hR]))
  have RG := Lib.hid (fun (u : World) => RefChn.sign_any N H seed R D leaf G u hr (by omega) (by rw [hD, tx_size, says_length _ _ _ _ hN]; omega) (by rw [hG, hR, hD]))
  have RP := Lib.hid (fun (u : World) => RefGrv.path_any N H leaf seed R T u hr hlf (by omega) (by rw [hT, hR]))
  have RN := Lib.hid (show ∀ u, Calls Tryz.prog 29 #[.int .u64 (leaf : Int), .int .i64 2] u fun e w' => e = .returned (.string M) ∧ Below u.heap.size u w' from fun u => num_ref leaf 2 M u (by omega) (by omega) hM)
  have hd : decide ((leaf : Int) < 0) = false := by simp
  rw [← hY.agg] at R1 RT RG RP
  rw [← hX.agg] at RU ⊢
  rw [← hX'.agg]
  have HSET := Lib.hid (show X.set 3 (.int .i64 nx) = X' by rw [hXc, hXc', hnx]; rfl)
  have HUL := Lib.hid hul
  have HWN := Lib.hid hwn
  have HX := Lib.hid hX
  have HX' := Lib.hid hX'
  have HY := Lib.hid hY
  have HXY := Lib.hid hXY
  have HXL := Lib.hid (show X.length = zeroS.length by rw [hX.len]; rfl)
  have HXL' := Lib.hid (show X'.length = zeroS.length by rw [hX'.len]; rfl)
  have HXA := Lib.hid hX.agg
  have HXA' := Lib.hid hX'.agg
  have HNE := Lib.hid (show ¬ (((leaf + 1 : Nat) : Int) = (leaf : Int)) by omega)
  have HA := Lib.hid hA.symm
  have HAT := Lib.hid hAT
  have HN1 := Lib.hid (show ¬ 9223372036854775807 < M.size + G.size by omega)
  have HN2 := Lib.hid (show ¬ 9223372036854775807 < A.size + T.size by omega)
  have HM := Lib.hid (Hold.Hld.start w)
  clear hX hX' hY hYc hXY hR hD hG hT hM hA hRs hMs hGs hTs hAs hAT hp hl hL hnx hul hwn hXc hXc' hr hlf hs hm hV h8 hN hH
  go_enter Tryz.func8, Tryz.ntmps8
  go_upto_region 3 with ((first
    | (with_reducible refine Hold.box HM.out rfl rfl rfl ?_; clear HM; intro b0 w HM; simp only [List.nil_append] at HM; replace HM := Lib.hid HM)
    | (with_reducible refine Hold.alloc HM.out rfl rfl zeroS zero_sign ?_; clear HM; intro b1 w HM; simp only [List.nil_append, List.cons_append] at HM; replace HM := Lib.hid HM)
    | (with_reducible refine Hold.load HM.out 0 (cs := Y) rfl rfl rfl rfl (HXY.out) (by rw [HY.out.len]; exact shapeRow) ?_)
    | (with_reducible refine (R1.out _).mono ?_; rintro e w ⟨rfl, hb⟩; replace HM := Lib.hid (HM.out.next hb); clear hb; have c3 : w.cell? ⟨b0, 3, none⟩ = some (.int .i64 (leaf : Int)) := (HM.out.at 0 rfl).row.cell HX.out.next3)))

  clear c3
  go_upto_region 5 with ((first
    | (with_reducible refine Hold.load HM.out 0 (cs := X) rfl rfl rfl rfl (Hold.Part.all _) (by rw [HX.out.len]; exact signRow) ?_)
    | (with_reducible refine (RU.out _).mono ?_; rintro e w ⟨rfl, hb⟩; replace HM := Lib.hid (HM.out.next hb); clear hb)))

  clear hL0
  go_upto_region 6 with ((first
    | (with_reducible refine Hold.load1 HM.out 0 (c := .string seed) rfl rfl rfl rfl (HX.out.seed2) (cellStr) ?_)
    | (with_reducible refine (RR.out _).mono ?_; rintro e w ⟨rfl, hb⟩; replace HM := Lib.hid (HM.out.next hb); clear hb)))

  go_upto_region 7 with ((first
    | (with_reducible refine Hold.load HM.out 0 (cs := Y) rfl rfl rfl rfl (HXY.out) (by rw [HY.out.len]; exact shapeRow) ?_)
    | (with_reducible refine Hold.load1 HM.out 0 (c := .int .i64 (leaf : Int)) rfl rfl rfl rfl (HX.out.next3) (cellInt) ?_)
    | (with_reducible refine (RT.out _).mono ?_; rintro e w ⟨rfl, hb⟩; replace HM := Lib.hid (HM.out.next hb); clear hb)))

  have hul := HUL.out
  have hA := HA.out
  have hAT := HAT.out
  have hn1 := HN1.out
  have hn2 := HN2.out
  refine Steady.region 23 (by kernel_rfl) (by kernel_rfl) (fun u => Hold.Hld _ _ u) HM.out.drew ?_
  simp only [List.take_succ_cons, List.take_zero, List.drop_succ_cons, List.drop_zero]
  refine Steady.take ?_ rfl (by intro u hu; go_simp; with_reducible rfl) ?_
  simp only [Act.put, List.setIfInBounds_toArray, List.set_cons_zero, List.set_cons_succ]
  refine Steady.take (.int .i64 (leaf : Int)) rfl (fun u hu => Hold.load1_run hu 0 rfl rfl rfl (HX.out.next3) (cellInt)) ?_
  simp only [Act.put, List.setIfInBounds_toArray, List.set_cons_zero, List.set_cons_succ]
  refine Steady.take ?_ rfl (by intro u hu; go_simp; with_reducible rfl) ?_
  simp only [Act.put, List.setIfInBounds_toArray, List.set_cons_zero, List.set_cons_succ]
  refine Steady.call _ _ _ rfl ?_ (Hold.kept RN.out) ?_
  · intro u
    go_simp
  simp only [Act.put, List.setIfInBounds_toArray, List.set_cons_zero, List.set_cons_succ]
  refine Steady.take ?_ rfl (by intro u hu; go_simp; with_reducible rfl) ?_
  simp only [Act.put, List.setIfInBounds_toArray, List.set_cons_zero, List.set_cons_succ]
  refine Steady.take (.agg (Y).toArray) rfl (fun u hu => Hold.load_run hu 0 rfl rfl rfl (HXY.out) (by rw [HY.out.len]; exact shapeRow)) ?_
  simp only [Act.put, List.setIfInBounds_toArray, List.set_cons_zero, List.set_cons_succ]
  refine Steady.take ?_ rfl (by intro u hu; go_simp; with_reducible rfl) ?_
  simp only [Act.put, List.setIfInBounds_toArray, List.set_cons_zero, List.set_cons_succ]
  refine Steady.take (.string seed) rfl (fun u hu => Hold.load1_run hu 0 rfl rfl rfl (HX.out.seed2) (cellStr)) ?_
  simp only [Act.put, List.setIfInBounds_toArray, List.set_cons_zero, List.set_cons_succ]
  refine Steady.take ?_ rfl (by intro u hu; go_simp; with_reducible rfl) ?_
  simp only [Act.put, List.setIfInBounds_toArray, List.set_cons_zero, List.set_cons_succ]
  refine Steady.take ?_ rfl (by intro u hu; go_simp; with_reducible rfl) ?_
  simp only [Act.put, List.setIfInBounds_toArray, List.set_cons_zero, List.set_cons_succ]
  refine Steady.take (.int .i64 (leaf : Int)) rfl (fun u hu => Hold.load1_run hu 0 rfl rfl rfl (HX.out.next3) (cellInt)) ?_
  simp only [Act.put, List.setIfInBounds_toArray, List.set_cons_zero, List.set_cons_succ]
  refine Steady.take ?_ rfl (by intro u hu; go_simp; with_reducible rfl) ?_
  simp only [Act.put, List.setIfInBounds_toArray, List.set_cons_zero, List.set_cons_succ]
  refine Steady.call _ _ _ rfl ?_ (Hold.kept RG.out) ?_
  · intro u
    go_simp
  simp only [Act.put, List.setIfInBounds_toArray, List.set_cons_zero, List.set_cons_succ]
  refine Steady.take ?_ rfl (by intro u hu; go_simp; with_reducible rfl) ?_
  simp only [Act.put, List.setIfInBounds_toArray, List.set_cons_zero, List.set_cons_succ]
  refine Steady.take ?_ rfl (by intro u hu; go_simp; with_reducible rfl) ?_
  simp only [Act.put, List.setIfInBounds_toArray, List.set_cons_zero, List.set_cons_succ]
  refine Steady.take (.agg (Y).toArray) rfl (fun u hu => Hold.load_run hu 0 rfl rfl rfl (HXY.out) (by rw [HY.out.len]; exact shapeRow)) ?_
  simp only [Act.put, List.setIfInBounds_toArray, List.set_cons_zero, List.set_cons_succ]
  refine Steady.take ?_ rfl (by intro u hu; go_simp; with_reducible rfl) ?_
  simp only [Act.put, List.setIfInBounds_toArray, List.set_cons_zero, List.set_cons_succ]
  refine Steady.take (.string seed) rfl (fun u hu => Hold.load1_run hu 0 rfl rfl rfl (HX.out.seed2) (cellStr)) ?_
  simp only [Act.put, List.setIfInBounds_toArray, List.set_cons_zero, List.set_cons_succ]
  refine Steady.take ?_ rfl (by intro u hu; go_simp; with_reducible rfl) ?_
  simp only [Act.put, List.setIfInBounds_toArray, List.set_cons_zero, List.set_cons_succ]
  refine Steady.take ?_ rfl (by intro u hu; go_simp; with_reducible rfl) ?_
  simp only [Act.put, List.setIfInBounds_toArray, List.set_cons_zero, List.set_cons_succ]
  refine Steady.take (.int .i64 (leaf : Int)) rfl (fun u hu => Hold.load1_run hu 0 rfl rfl rfl (HX.out.next3) (cellInt)) ?_
  simp only [Act.put, List.setIfInBounds_toArray, List.set_cons_zero, List.set_cons_succ]
  refine Steady.call _ _ _ rfl ?_ (Hold.kept RP.out) ?_
  · intro u
    go_simp
  simp only [Act.put, List.setIfInBounds_toArray, List.set_cons_zero, List.set_cons_succ]
  refine Steady.take ?_ rfl (by intro u hu; go_simp; with_reducible rfl) ?_
  simp only [Act.put, List.setIfInBounds_toArray, List.set_cons_zero, List.set_cons_succ]
  refine Steady.nil ?_
  clear HM
  intro w HM
  replace HM := Lib.hid HM

  clear hul hA hAT hn1 hn2
  have hwn := HWN.out
  go_upto_region 9 with ((first
    | (with_reducible refine Hold.load1 HM.out 0 (c := .int .i64 (leaf : Int)) rfl rfl rfl rfl (HX.out.next3) (cellInt) ?_)
    | (with_reducible refine Hold.store1 HM.out 0 (c := .int .i64 nx) (v' := X') rfl rfl rfl rfl rfl (by rw [HX.out.len]; decide) (HSET.out) (Hold.cell_int _ _) (cellInt) ?_; clear HM; intro w HM; simp only [List.set_cons_zero] at HM; replace HM := Lib.hid HM)))

  clear hwn
  refine Steady.region 3 (by kernel_rfl) (by kernel_rfl) (fun u => Hold.Hld _ _ u) HM.out.drew ?_
  simp only [List.take_succ_cons, List.take_zero, List.drop_succ_cons, List.drop_zero]
  refine Steady.take ?_ rfl (by intro u hu; go_simp; with_reducible rfl) ?_
  simp only [Act.put, List.setIfInBounds_toArray, List.set_cons_zero, List.set_cons_succ]
  refine Steady.take (.agg (X').toArray) rfl (fun u hu => Hold.load_run hu 0 rfl rfl rfl (Hold.Part.all _) (by rw [HX'.out.len]; exact signRow)) ?_
  simp only [Act.put, List.setIfInBounds_toArray, List.set_cons_zero, List.set_cons_succ]
  refine Steady.take ?_ rfl (by intro u hu; go_simp; with_reducible rfl) ?_
  simp only [Act.put, List.setIfInBounds_toArray, List.set_cons_zero, List.set_cons_succ]
  refine Steady.nil ?_
  clear HM
  intro w HM
  replace HM := Lib.hid HM

  go_wp2_with ((first
    | (with_reducible refine Hold.store HM.out 1 (v' := X') rfl rfl rfl rfl rfl (by rw [HXL'.out]; exact Nat.le_of_eq (Nat.zero_add _)) (Hold.lay_all HXL'.out.symm) (HX'.out.one) (by rw [HX'.out.len]; exact signRow) ?_; clear HM; intro w HM; simp only [List.set_cons_zero, List.set_cons_succ] at HM; replace HM := Lib.hid HM)))

  exact bodyPost_ret (results_tct rfl _ rfl rfl rfl (by rw [HX'.out.len]; exact signRow) (HM.out.range 1 rfl (Hold.Part.all _))) rfl ⟨rfl, HM.out.below⟩

theorem check_no (n h : Int) (p msg s : ByteArray) (w : World) (hr : ¬ Right n h) :
    Calls Tryz.prog 16 #[.agg #[.int .i64 n, .int .i64 h], .string p, .string msg, .string s] w fun e w' => e = .returned (.bool false) ∧ Below w.heap.size w w' := by
  have R1 := Lib.hid (fun u => right_no n h hr u)
  have hB0 := (Below.refl w.heap.size w).alloc (Nat.le_refl _) (.cells #[.int .i64 n, .int .i64 h] 23)
  clear hr
  go_enter Tryz.func16, Tryz.ntmps16
  go_wp2_with fail
  refine (R1.out _).mono ?_
  rintro e w1 ⟨rfl, hb1⟩
  have HW1 := Lib.hid (hB0.trans (hb1.mono hB0.size))
  clear hb1 hB0
  go_wp2
  go_ret
  exact ⟨rfl, HW1.out⟩

set_option maxHeartbeats 3200000 in
theorem check_any (N H : Nat) (p msg s : ByteArray) (B : Bool) (w : World) (hr : Right (N : Int) (H : Int)) (hs1 : s.size ≤ 140737488351232) (hm : msg.size ≤ 400000) (hB : B = check N H p.data.toList msg.data.toList s.data.toList) :
    Calls Tryz.prog 16 #[.agg #[.int .i64 (N : Int), .int .i64 (H : Int)], .string p, .string msg, .string s] w fun e w' => e = .returned (.bool B) ∧ Below w.heap.size w w' := by
  have hN : N ≤ 32 := by have := hr.2.1; omega
  have hN2 : 2 ≤ N := by have := hr.1; omega
  have hH : H ≤ 8 := by have := hr.2.2.2; omega
  obtain ⟨L, hL⟩ : ∃ L : Nat, L = long N H := ⟨_, rfl⟩
  obtain ⟨E, hE⟩ : ∃ E : Nat, E = 2 + N * (2 * N + 3) := ⟨_, rfl⟩
  have hE32 : N * (2 * N + 3) ≤ 32 * 67 := Nat.mul_le_mul hN (by omega)
  have hH32 : N * H ≤ 32 * 8 := Nat.mul_le_mul hN hH
  have hLE : L = E + N * H := by rw [hL, hE]; exact long_split N H
  have R1 := Lib.hid (fun u => right_yes N H hr u)
  have R2 := Lib.hid (fun u => RefStp.long_yes N H (L : Int) hr u (by rw [hL]))
  have hw8 : IntKind.i64.wrap (8 + (N : Int)) = 8 + (N : Int) := IntWalk.i64_in _ (by omega)
  have hB0 := (Below.refl w.heap.size w).alloc (Nat.le_refl _) (.cells #[.int .i64 (N : Int), .int .i64 (H : Int)] 23)
  have hc0 : (w.alloc (.cells #[.int .i64 (N : Int), .int .i64 (H : Int)] 23)).cell? ⟨w.heap.size, 0, none⟩ = some (.int .i64 (N : Int)) := by simp
  have hc1 : (w.alloc (.cells #[.int .i64 (N : Int), .int .i64 (H : Int)] 23)).cell? ⟨w.heap.size, 1, none⟩ = some (.int .i64 (H : Int)) := by simp
  have hlt : w.heap.size < (w.alloc (.cells #[.int .i64 (N : Int), .int .i64 (H : Int)] 23)).heap.size := by simp
  have HBV := Lib.hid hB
  have HW8 := Lib.hid hw8
  have HR := Lib.hid hr
  clear hB hw8 hr
  go_enter Tryz.func16, Tryz.ntmps16
  go_upto_region 1 with (fail)
  generalize w.alloc (.cells #[.int .i64 (N : Int), .int .i64 (H : Int)] 23) = wz at *
  have HC := Lib.hid (fun (u : World) (q : Below wz.heap.size wz u) => (⟨(q.cell (p := ⟨w.heap.size, 0, none⟩) hlt).trans hc0, (q.cell (p := ⟨w.heap.size, 1, none⟩) hlt).trans hc1⟩ :
    u.cell? ⟨w.heap.size, 0, none⟩ = some (.int .i64 (N : Int)) ∧ u.cell? ⟨w.heap.size, 1, none⟩ = some (.int .i64 (H : Int))))
  have HB0 := Lib.hid hB0
  clear hB0 hlt
  go_wp2_with fail
  refine (R1.out _).mono ?_
  rintro e w1 ⟨rfl, hb1⟩
  have HW1 := Lib.hid hb1
  clear hb1 hc0 hc1
  obtain ⟨c0, c1⟩ := HC.out _ HW1.out
  have hw8 := HW8.out
  by_cases hp : p.size = 8 + N
  · have hd1 : ((p.size : Int) != 8 + (N : Int)) = false := by rw [hp]; simp
    by_cases hz : s.size = L
    · have hd2 : ((s.size : Int) != (L : Int)) = false := by rw [hz]; simp
      have HZ := Lib.hid hz
      have HP := Lib.hid hp
      have HL := Lib.hid hL
      have HE := Lib.hid hE
      have HLE := Lib.hid hLE
      clear hz hp hL hE hLE hE32 hH32
      go_wp2_with fail
      refine (R2.out _).mono ?_
      rintro e w2 ⟨rfl, hb2⟩
      have HW2 := Lib.hid (HW1.out.trans (hb2.mono HW1.out.size))
      clear hb2 c0 c1 hw8
      go_upto_region 3 with (fail)
      have hz := HZ.out
      have hp := HP.out
      have hL := HL.out
      have hE := HE.out
      have hLE := HLE.out
      have hE32 : N * (2 * N + 3) ≤ 32 * 67 := Nat.mul_le_mul hN (by omega)
      have hH32 : N * H ≤ 32 * 8 := Nat.mul_le_mul hN hH
      obtain ⟨PR, hPR⟩ : ∃ PR, PR = p.extract 0 8 := ⟨_, rfl⟩
      obtain ⟨PT, hPT⟩ : ∃ PT, PT = p.extract 8 p.size := ⟨_, rfl⟩
      obtain ⟨SG, hSG⟩ : ∃ SG, SG = s.extract 2 E := ⟨_, rfl⟩
      obtain ⟨ST, hST⟩ : ∃ ST, ST = s.extract E s.size := ⟨_, rfl⟩
      obtain ⟨lf, hlf⟩ : ∃ lf, lf = leafNum s.data.toList := ⟨_, rfl⟩
      have hPRt : PR = tx (p.data.toList.take 8) := by rw [hPR]; exact take_cut p 8
      have hPTt : PT = tx (p.data.toList.drop 8) := by rw [hPT]; exact drop_all p 8
      have hSGt : SG = tx ((s.data.toList.drop 2).take (N * (2 * N + 3))) := by rw [hSG]; exact drop_cut s 2 _ E hE
      have hSTt : ST = tx (s.data.toList.drop E) := by rw [hST]; exact drop_all s E
      have hpl : p.data.toList.length = p.size := rfl
      have hsl : s.data.toList.length = s.size := rfl
      have hPRs : PR.size = 8 := by rw [hPRt, tx_size, List.length_take]; omega
      have hPTs : PT.size = N := by rw [hPTt, tx_size, List.length_drop]; omega
      have hSGs : SG.size = N * (2 * N + 3) := by rw [hSGt, tx_size, List.length_take, List.length_drop]; omega
      have hSTs : ST.size = N * H := by rw [hSTt, tx_size, List.length_drop]; omega
      obtain ⟨D, hD⟩ : ∃ D, D = tx (says N (p.data.toList.take 8) (lf : Int) msg.data.toList) := ⟨_, rfl⟩
      obtain ⟨F, hF⟩ : ∃ F, F = tx (found N (p.data.toList.take 8) (lf : Int) ((s.data.toList.drop 2).take (N * (2 * N + 3))) (says N (p.data.toList.take 8) (lf : Int) msg.data.toList)) := ⟨_, rfl⟩
      have hFs : F.size = N := by rw [hF, tx_size]; exact value_length N _ hN
      have h1s : 1 < s.size := by omega
      have h0s : 0 < s.size := by omega
      have hor : bits .or .i64 (wrap64 (wrap64 (s[0].toNat : Int) * 256)) (wrap64 (s[1].toNat : Int)) = (lf : Int) := by
        rw [Stp.or_bytes _ _ s[0].toNat_lt s[1].toNat_lt, hlf, leafNum, at_getD s 0 h0s, at_getD s 1 h1s]
      have HOR := Lib.hid hor
      have HOR2 := Lib.hid (show bits .or .i64 (IntKind.i64.wrap (IntKind.i64.wrap (s[0].toNat : Int) * 256)) (IntKind.i64.wrap (s[1].toNat : Int)) = (lf : Int) by
        have g0 := s[0].toNat_lt
        have g1 := s[1].toNat_lt
        rw [IntWalk.i64_in (s[0].toNat : Int) (by omega), IntWalk.i64_in (s[1].toNat : Int) (by omega), IntWalk.i64_in ((s[0].toNat : Int) * 256) (by omega)]
        rw [← hor, IntWalk.wrap64_in (s[0].toNat : Int) (by omega), IntWalk.wrap64_in (s[1].toNat : Int) (by omega), IntWalk.wrap64_in ((s[0].toNat : Int) * 256) (by omega)])
      have hi1 : (1 : Int) < (s.size : Int) := by omega
      have RC := Lib.hid (fun u => RefChn.count_yes N H HR.out u)
      have hlf2 : lf < 65536 := by rw [hlf]; exact leafNum_lt _
      have RT := Lib.hid (fun (u : World) => RefStp.says_any N H lf PR msg D u hN (by omega) hlf2 (by rw [hD, hPRt]))
      have RF := Lib.hid (fun (u : World) => RefChn.found_any N H PR SG D lf F u HR.out hSGs (by omega) (by rw [hD, tx_size, says_length _ _ _ _ hN]; omega) (by rw [hF, hPRt, hSGt, hD]))
      have hcl : ∃ V : ByteArray, (∀ u, Calls Tryz.prog 42 #[.agg #[.int .i64 (N : Int), .int .i64 (H : Int)], .string PR, .int .i64 (lf : Int), .string F, .string ST] u fun e w' => e = .returned (.string V) ∧ Below u.heap.size u w') ∧ (B = decide (V.data.toList = PT.data.toList)) ∧ V.size ≤ 64 := by
        by_cases h2 : lf < 2 ^ H
        · refine ⟨tx (climb N PR.data.toList lf F.data.toList ST.data.toList H), fun u => RefGrv.climb_any N H lf PR F ST _ u HR.out h2 hSTs (by omega) rfl, ?_, ?_⟩
          · rw [HBV.out, check, ← hlf, hPTt, hPRt, hF, hSTt, tx_list, tx_list, tx_list, tx_list, tx_list, hE]
            exact decide_eq_decide.2 ⟨fun g => g.2.2.2, fun g => ⟨hp, hz.trans hL, h2, g⟩⟩
          · have g1 := climb_length N PR.data.toList lf F.data.toList ST.data.toList H hN
            have g2 : F.data.toList.length = F.size := rfl
            rw [tx_size]
            omega
        · refine ⟨⟨#[]⟩, fun u => RefGrv.climb_no N H lf PR F ST u (fun g => h2 ?_), ?_, Nat.zero_le _⟩
          · have g2 := g.2.2.1
            rw [Int.toNat_natCast] at g2
            have e : (2 : Int) ^ H = ((2 ^ H : Nat) : Int) := by rw [Int.natCast_pow]; rfl
            rw [e] at g2
            exact Int.ofNat_lt.1 g2
          · rw [HBV.out, check, ← hlf]
            refine decide_eq_decide.2 ⟨fun g => absurd g.2.2.1 h2, fun g => ?_⟩
            have := congrArg List.length g
            have e1 : PT.data.toList.length = PT.size := rfl
            rw [e1, hPTs] at this
            simp at this
            omega
      obtain ⟨V, hcl, hBe, hVs⟩ := hcl
      have RK := Lib.hid hcl
      have HBE := Lib.hid hBe
      have HPR := Lib.hid hPR.symm
      have HPT := Lib.hid hPT.symm
      have HSG := Lib.hid hSG.symm
      have HST := Lib.hid hST.symm
      have h8 : (8 : Int) ≤ p.size := by omega
      have hEs : (E : Int) ≤ s.size := by omega
      have h2E : (2 : Int) ≤ (E : Int) := by omega
      have hEn : (E : Int).toNat = E := by omega
      obtain ⟨C, hC⟩ : ∃ C, C = 2 * (N : Int) + 3 := ⟨_, rfl⟩
      rw [← hC] at RC
      have hm1 : (N : Int) * C = ((N * (2 * N + 3) : Nat) : Int) := by rw [hC, Int.natCast_mul]; rfl
      have hw1 : IntKind.i64.wrap ((N : Int) * C) = (E : Int) - 2 := by rw [hm1, IntWalk.i64_in _ (by omega)]; omega
      have hw2 : IntKind.i64.wrap (2 + ((E : Int) - 2)) = (E : Int) := by rw [show 2 + ((E : Int) - 2) = (E : Int) by omega]; exact IntWalk.i64_in _ (by omega)
      have HWA := Lib.hid hw1
      have HWB := Lib.hid hw2
      have HEN := Lib.hid hEn
      have HES := Lib.hid hEs
      have H2E := Lib.hid h2E
      have HAL := Lib.hid (fun (u : World) => RefOne.alike_any V PT u (by omega) (by omega))
      have hVE : V.size = 0 → B = false := fun g => by
        rw [hBe]
        refine decide_eq_false (fun q => ?_)
        have q2 : V.size = PT.size := congrArg List.length q
        omega
      have HVE := Lib.hid hVE
      have H8 := Lib.hid h8
      have HI1 := Lib.hid hi1
      clear hPR hPT hSG hST hPRt hPTt hSGt hSTt hpl hsl hPRs hPTs hSGs hSTs hD hF hFs hcl hBe hlf hC hm1 hw1 hw2 hEn hEs h2E hE hL hLE hE32 hH32 hN hN2 hH hp hz hd1 hd2 HZ HP HL HE HLE hor hi1 hlf2 hVE hVs h8
      have hor := HOR.out
      have hi1 := HI1.out
      have hor2 := HOR2.out
      go_quiet (fail)
      have HW3 := Lib.hid (belowN HW2.out nq)
      generalize w2.drewN nq = w3 at *
      have h8 := H8.out
      have hpr := HPR.out
      go_upto_region 5 with (fail)
      clear hpr
      have HC3 := Lib.hid (fun (u : World) (q : Below w3.heap.size w3 u) => HC.out u (HW3.out.trans (q.mono HW3.out.size)))
      have hw3 := HWA.out
      have hw4 := HWB.out
      refine Steady.region 6 (by kernel_rfl) (by kernel_rfl) (fun u => Below w3.heap.size w3 u) ((Below.refl _ _).drew) ?_
      simp only [List.take_succ_cons, List.take_zero, List.drop_succ_cons, List.drop_zero]
      refine Steady.take ?_ rfl (by intro u hu; go_simp; with_reducible rfl) ?_
      simp only [Act.put, List.setIfInBounds_toArray, List.set_cons_zero, List.set_cons_succ]
      refine Steady.take ?_ rfl (by intro u hu; obtain ⟨c0, c1⟩ := HC3.out u hu; go_simp; with_reducible rfl) ?_
      simp only [Act.put, List.setIfInBounds_toArray, List.set_cons_zero, List.set_cons_succ]
      refine Steady.take ?_ rfl (by intro u hu; obtain ⟨c0, c1⟩ := HC3.out u hu; go_simp; with_reducible rfl) ?_
      simp only [Act.put, List.setIfInBounds_toArray, List.set_cons_zero, List.set_cons_succ]
      refine Steady.call _ _ _ rfl ?_ (Steady.kept RC.out) ?_
      · intro u
        go_simp
      simp only [Act.put, List.setIfInBounds_toArray, List.set_cons_zero, List.set_cons_succ]
      refine Steady.take ?_ rfl (by intro u hu; go_simp; with_reducible rfl) ?_
      simp only [Act.put, List.setIfInBounds_toArray, List.set_cons_zero, List.set_cons_succ]
      refine Steady.take ?_ rfl (by intro u hu; go_simp; with_reducible rfl) ?_
      simp only [Act.put, List.setIfInBounds_toArray, List.set_cons_zero, List.set_cons_succ]
      refine Steady.nil ?_
      intro w6 hu
      have HW6 := Lib.hid (HW3.out.trans (hu.mono HW3.out.size))
      clear hu hw3 hw4 HC3
      go_upto_region 6 with (fail)
      have HC6 := Lib.hid (fun (u : World) (q : Below w6.heap.size w6 u) => HC.out u (HW6.out.trans (q.mono HW6.out.size)))
      have hen := HEN.out
      have hes := HES.out
      have h2e := H2E.out
      have hsg := HSG.out
      refine Steady.region 12 (by kernel_rfl) (by kernel_rfl) (fun u => Below w6.heap.size w6 u) ((Below.refl _ _).drew) ?_
      simp only [List.take_succ_cons, List.take_zero, List.drop_succ_cons, List.drop_zero]
      refine Steady.take ?_ rfl (by intro u hu; obtain ⟨c0, c1⟩ := HC6.out u hu; go_simp; with_reducible rfl) ?_
      simp only [Act.put, List.setIfInBounds_toArray, List.set_cons_zero, List.set_cons_succ]
      refine Steady.take ?_ rfl (by intro u hu; go_simp; with_reducible rfl) ?_
      simp only [Act.put, List.setIfInBounds_toArray, List.set_cons_zero, List.set_cons_succ]
      refine Steady.take ?_ rfl (by intro u hu; go_simp; with_reducible rfl) ?_
      simp only [Act.put, List.setIfInBounds_toArray, List.set_cons_zero, List.set_cons_succ]
      refine Steady.take ?_ rfl (by intro u hu; go_simp; with_reducible rfl) ?_
      simp only [Act.put, List.setIfInBounds_toArray, List.set_cons_zero, List.set_cons_succ]
      refine Steady.take ?_ rfl (by intro u hu; go_simp; with_reducible rfl) ?_
      simp only [Act.put, List.setIfInBounds_toArray, List.set_cons_zero, List.set_cons_succ]
      refine Steady.take ?_ rfl (by intro u hu; go_simp; with_reducible rfl) ?_
      simp only [Act.put, List.setIfInBounds_toArray, List.set_cons_zero, List.set_cons_succ]
      refine Steady.take ?_ rfl (by intro u hu; obtain ⟨c0, c1⟩ := HC6.out u hu; go_simp; with_reducible rfl) ?_
      simp only [Act.put, List.setIfInBounds_toArray, List.set_cons_zero, List.set_cons_succ]
      refine Steady.take ?_ rfl (by intro u hu; go_simp; with_reducible rfl) ?_
      simp only [Act.put, List.setIfInBounds_toArray, List.set_cons_zero, List.set_cons_succ]
      refine Steady.take ?_ rfl (by intro u hu; go_simp; with_reducible rfl) ?_
      simp only [Act.put, List.setIfInBounds_toArray, List.set_cons_zero, List.set_cons_succ]
      refine Steady.take ?_ rfl (by intro u hu; go_simp; with_reducible rfl) ?_
      simp only [Act.put, List.setIfInBounds_toArray, List.set_cons_zero, List.set_cons_succ]
      refine Steady.call _ _ _ rfl ?_ (Steady.kept RT.out) ?_
      · intro u
        go_simp
      simp only [Act.put, List.setIfInBounds_toArray, List.set_cons_zero, List.set_cons_succ]
      refine Steady.call _ _ _ rfl ?_ (Steady.kept RF.out) ?_
      · intro u
        go_simp
      simp only [Act.put, List.setIfInBounds_toArray, List.set_cons_zero, List.set_cons_succ]
      refine Steady.nil ?_
      intro w7 hu
      have HW7 := Lib.hid (HW6.out.trans (hu.mono HW6.out.size))
      clear hu HC6 hsg
      go_upto_region 7 with (fail)
      have HC7 := Lib.hid (fun (u : World) (q : Below w7.heap.size w7 u) => HC.out u (HW7.out.trans (q.mono HW7.out.size)))
      have hst := HST.out
      refine Steady.region 8 (by kernel_rfl) (by kernel_rfl) (fun u => Below w7.heap.size w7 u) ((Below.refl _ _).drew) ?_
      simp only [List.take_succ_cons, List.take_zero, List.drop_succ_cons, List.drop_zero]
      refine Steady.take ?_ rfl (by intro u hu; obtain ⟨c0, c1⟩ := HC7.out u hu; go_simp; with_reducible rfl) ?_
      simp only [Act.put, List.setIfInBounds_toArray, List.set_cons_zero, List.set_cons_succ]
      refine Steady.take ?_ rfl (by intro u hu; go_simp; with_reducible rfl) ?_
      simp only [Act.put, List.setIfInBounds_toArray, List.set_cons_zero, List.set_cons_succ]
      refine Steady.take ?_ rfl (by intro u hu; go_simp; with_reducible rfl) ?_
      simp only [Act.put, List.setIfInBounds_toArray, List.set_cons_zero, List.set_cons_succ]
      refine Steady.take ?_ rfl (by intro u hu; go_simp; with_reducible rfl) ?_
      simp only [Act.put, List.setIfInBounds_toArray, List.set_cons_zero, List.set_cons_succ]
      refine Steady.take ?_ rfl (by intro u hu; go_simp; with_reducible rfl) ?_
      simp only [Act.put, List.setIfInBounds_toArray, List.set_cons_zero, List.set_cons_succ]
      refine Steady.take ?_ rfl (by intro u hu; go_simp; with_reducible rfl) ?_
      simp only [Act.put, List.setIfInBounds_toArray, List.set_cons_zero, List.set_cons_succ]
      refine Steady.take ?_ rfl (by intro u hu; go_simp; with_reducible rfl) ?_
      simp only [Act.put, List.setIfInBounds_toArray, List.set_cons_zero, List.set_cons_succ]
      refine Steady.call _ _ _ rfl ?_ (Steady.kept RK.out) ?_
      · intro u
        go_simp
      simp only [Act.put, List.setIfInBounds_toArray, List.set_cons_zero, List.set_cons_succ]
      refine Steady.nil ?_
      intro w8 hu
      have HW8' := Lib.hid (HB0.out.trans ((HW7.out.trans (hu.mono HW7.out.size)).mono HB0.out.size))
      clear hu hst
      have hpt := HPT.out
      by_cases hv : V.size = 0
      · have hbf := HVE.out hv
        have hve : V.toList = [] := by rw [ByteArray.toList_eq]; exact List.eq_nil_of_length_eq_zero hv
        have hv1 : V.toList.isEmpty = true := by rw [hve]; rfl
        have hv2 : (!V.toList.isEmpty) = false := by rw [hv1]; rfl
        have HBF := Lib.hid hbf
        clear hbf hv hve
        go_wp2
        go_ret
        rw [HBF.out]
        exact ⟨rfl, HW8'.out⟩
      · have hve : V.toList ≠ [] := fun g => hv (by rw [ByteArray.toList_eq] at g; exact congrArg List.length g)
        have hv1 : V.toList.isEmpty = false := by simpa using hve
        have hv2 : (!V.toList.isEmpty) = true := by rw [hv1]; rfl
        have HRB := Lib.hid (show B = (V.toList == PT.toList) by rw [HBE.out, same_text])
        clear hv hve
        go_wp2_with fail
        refine (HAL.out _).mono ?_
        rintro e w9 ⟨rfl, hb9⟩
        have HW9 := Lib.hid (HW8'.out.trans (hb9.mono HW8'.out.size))
        clear hb9
        go_wp2
        go_ret
        rw [HRB.out]
        exact ⟨rfl, HW9.out⟩
    · have hd2 : ((s.size : Int) != (L : Int)) = true := by simp; omega
      have HV := Lib.hid (show false = B by rw [HBV.out, check]; exact (decide_eq_false (fun g => hz (by rw [hL]; exact g.2.1))).symm)
      clear hz hp hL hE hLE hE32 hH32 hN hN2 hH
      go_wp2_with fail
      refine (R2.out _).mono ?_
      rintro e w2 ⟨rfl, hb2⟩
      have HW2 := Lib.hid (HW1.out.trans (hb2.mono HW1.out.size))
      clear hb2 c0 c1
      go_wp2
      go_ret
      rw [← HV.out]
      exact ⟨rfl, HB0.out.trans (HW2.out.mono HB0.out.size)⟩
  · have hd1 : ((p.size : Int) != 8 + (N : Int)) = true := by simp; omega
    have HV := Lib.hid (show false = B by rw [HBV.out, check]; exact (decide_eq_false (fun g => hp g.1)).symm)
    clear hp hL hE hLE hE32 hH32 hN hN2 hH
    go_wp2
    go_ret
    rw [← HV.out]
    exact ⟨rfl, HB0.out.trans (HW1.out.mono HB0.out.size)⟩
end Go.Proofs.YtkchbilkmoemaaaGreatDoor.RefStp
