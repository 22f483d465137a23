/-
  LimbsBack: of reduced limbs reading of their bytes is they; all answers are reduced; the highest bit of bytes is 0: for every input, the law answers true and changes nothing that was there. No condition.
-/
import Derived.Test.YtblheplpaiokkabLmbAwake
import Derived.Test.YtblheplpaiokkabRows
import Derived.Test.YtblheplpaiokkabOpen
import Derived.ChangeMaps5
namespace Go.Proofs.Ytblheplpaiokkab.LawBackL
open Go.ChangeShapes Go.WideShapes Go.ChangeAt Go.ChangeMaps Go.RowKit Mur Lanes Limb
set_option maxRecDepth 100000

theorem lims_any (n : Nat) : Lims (limV n) (n % 57896044618658097711785492504343953926634992332820282019728792003956564819968) := by
  have := lims_lim (N := n % 57896044618658097711785492504343953926634992332820282019728792003956564819968) (Nat.mod_lt _ (by decide))
  have e : limV (n % 57896044618658097711785492504343953926634992332820282019728792003956564819968) = limV n := by
    unfold limV
    have h := lim_add (n % 57896044618658097711785492504343953926634992332820282019728792003956564819968) (n / 57896044618658097711785492504343953926634992332820282019728792003956564819968)
    rw [Nat.mod_add_div] at h
    rw [h]
  rwa [e] at this
theorem num_more (l : List UInt8) : num (l ++ [0]) = num l := by
  have h := lowN_out (l ++ [0]) 0
  have e : ∀ k, k ≤ l.length → lowN (l ++ [0]) k = lowN l k := fun k hk => by
    induction k with
    | zero => rfl
    | succ k ih =>
      rw [lowN, lowN, ih (by omega)]
      congr 2
      unfold byt
      rw [List.getD, List.getD, List.getElem?_append_left (by omega)]
  unfold num
  rw [List.length_append, List.length_singleton, lowN, e _ (Nat.le_refl _)]
  have : byt (l ++ [0]) l.length = 0 := by
    unfold byt
    simp [List.getD]
  rw [this, Nat.zero_mul, Nat.add_zero]
theorem top_byte (n : Nat) (h : n < 57896044618658097711785492504343953926634992332820282019728792003956564819968) : byt (numT n).data.toList 31 < 128 := by
  have : (numT n).data.toList = bytesOf n := rfl
  rw [this, byt_bytes n 31 (by decide)]
  show n / 452312848583266388373324160190187140051835877600158453279131187530910662656 % 256 < 128
  omega

theorem index0 (x0 x1 x2 x3 x4 : Nat) (u : World) : (Instr.index 24 (five x0 x1 x2 x3 x4) (.int .i64 ((0 : Nat) : Int))).run Try.prog u = .ok (.int .u64 (x0 : Int)) u := by kernel_rfl
theorem index1 (x0 x1 x2 x3 x4 : Nat) (u : World) : (Instr.index 24 (five x0 x1 x2 x3 x4) (.int .i64 ((1 : Nat) : Int))).run Try.prog u = .ok (.int .u64 (x1 : Int)) u := by kernel_rfl
theorem index2 (x0 x1 x2 x3 x4 : Nat) (u : World) : (Instr.index 24 (five x0 x1 x2 x3 x4) (.int .i64 ((2 : Nat) : Int))).run Try.prog u = .ok (.int .u64 (x2 : Int)) u := by kernel_rfl
theorem index3 (x0 x1 x2 x3 x4 : Nat) (u : World) : (Instr.index 24 (five x0 x1 x2 x3 x4) (.int .i64 ((3 : Nat) : Int))).run Try.prog u = .ok (.int .u64 (x3 : Int)) u := by kernel_rfl
theorem index4 (x0 x1 x2 x3 x4 : Nat) (u : World) : (Instr.index 24 (five x0 x1 x2 x3 x4) (.int .i64 ((4 : Nat) : Int))).run Try.prog u = .ok (.int .u64 (x4 : Int)) u := by kernel_rfl
theorem wpList_index {ops : Array Oper} {rest : List Oper} {o : Oper} {a : Act} {w : World} {Q : Exit → Act → World → Prop} (hg : o.guard = none) (t : TypeId) (x y : Operand) (ho : o.op = .index t x y) (vx vy : Value) (hx : a.eval x = vx) (hy : a.eval y = vy) (v : Value)
    (hr : ∀ u, (Instr.index t vx vy).run Try.prog u = .ok v u) (h : wpList Try.prog ops Q rest (a.put o.dst v) w) : wpList Try.prog ops Q (o :: rest) a w := by
  refine wpList_plain hg fun K hK => ?_
  unfold Oper.wp execOp
  simp only [ho, hx, hy, Sem.run_bind, hr, Result.andThen_ok]
  exact hK _ _ h

set_option maxHeartbeats 6400000 in
theorem walk (a0 b0 c0 d0 e0 : Nat) (s : ByteArray) (w : World) (h0 : Words5 a0 b0 c0 d0 e0) (hs : s.size ≤ 140737488351232) :
    Calls Try.prog 5 #[five a0 b0 c0 d0 e0, .string s] w fun e w' => e = .returned (.bool true) ∧ Below w.heap.size w w' := by
  have TL := Lib.hid (fun u => live_any u)
  have BA := Lib.hid (Whole.made' w 24 (fiveL a0 b0 c0 d0 e0).toArray _ rfl)
  have HB := Lib.hid ((Below.refl w.heap.size w).alloc (Nat.le_refl _) (.cells (fiveL a0 b0 c0 d0 e0).toArray 24))
  by_cases hg : s.size ≤ 300
  case neg =>
    have hd : decide (300 < (s.size : Int)) = true := by simp; omega
    clear hg
    go_enter Try.func5, Try.ntmps5
    go_wp2_with fail
    refine (TL.out _).mono ?_
    rintro e w3 ⟨rfl, hb⟩
    have HB3 := Lib.hid (HB.out.trans (hb.mono HB.out.size))
    clear hb
    go_wp2
    go_ret
    exact ⟨rfl, HB3.out⟩
  case pos =>
  have hd : decide (300 < (s.size : Int)) = false := by simp; omega
  have lA := lims_five h0
  obtain ⟨N, hN⟩ : ∃ N, N = wor a0 b0 c0 d0 e0 := ⟨_, rfl⟩
  rw [← hN] at lA
  have R1 := fun u => carry_val lA u
  have R2 := fun u => bytes_val lA (numT (N % Prime.P)) rfl u
  have bX : N % Prime.P < 57896044618658097711785492504343953926634992332820282019728792003956564819968 := Nat.lt_trans (Nat.mod_lt _ P_pos) P_lt
  have mX := Nat.mod_mod N Prime.P
  generalize N % Prime.P = X at *
  have lX := lims_lim bX
  have R4 := fun u => carry_val lX u
  rw [mX] at R4
  have R5 := fun u => bytes_val lX (numT X) (by rw [mX]; rfl) u
  have R3 := fun u => read_any (numT X) u (by rw [numT_size]; decide)
  rw [show num (numT X).data.toList = X from num_bytes X (Nat.lt_trans bX (by decide))] at R3
  have hsz := numT_size X
  have htop := top_byte X bX
  obtain ⟨T, hT⟩ : ∃ T, T = numT X := ⟨_, rfl⟩
  rw [← hT] at R2 R3 R5 hsz htop
  obtain ⟨x0, x1, x2, x3, x4, hX⟩ := limV_five X
  have hxs : x0 < 2251799813685248 ∧ x1 < 2251799813685248 ∧ x2 < 2251799813685248 ∧ x3 < 2251799813685248 ∧ x4 < 2251799813685248 := by
    have e : five (X % 2251799813685248) (X / 2251799813685248 % 2251799813685248) (X / 5070602400912917605986812821504 % 2251799813685248) (X / 11417981541647679048466287755595961091061972992 % 2251799813685248) (X / 25711008708143844408671393477458601640355247900524685364822016 % 2251799813685248) = five x0 x1 x2 x3 x4 := hX
    obtain ⟨rfl, rfl, rfl, rfl, rfl⟩ := five_inj e
    exact ⟨Nat.mod_lt _ (by decide), Nat.mod_lt _ (by decide), Nat.mod_lt _ (by decide), Nat.mod_lt _ (by decide), Nat.mod_lt _ (by decide)⟩
  have R6 := fun u => read_any s u hs
  have lY := lims_any (num s.data.toList)
  have hsx : (s ++ ⟨#[0]⟩ : ByteArray).data.toList = s.data.toList ++ [0] := by simp
  have R8 := fun u => read_any (s ++ ⟨#[0]⟩) u (by rw [ByteArray.size_append]; show s.size + 1 ≤ _; omega)
  rw [hsx, num_more] at R8
  generalize num s.data.toList = Y at *
  obtain ⟨y0, y1, y2, y3, y4, hY⟩ := limV_five Y
  have R7 := fun u => swap_val (n := 1) lX lY (by decide) u
  rw [if_pos (by decide), if_pos (by decide), hX, hY] at R7
  have bY : Y % 57896044618658097711785492504343953926634992332820282019728792003956564819968 < 57896044618658097711785492504343953926634992332820282019728792003956564819968 := Nat.mod_lt _ (by decide)
  have eY : limV (Y % 57896044618658097711785492504343953926634992332820282019728792003956564819968) = limV Y := by
    unfold limV
    have h := lim_add (Y % 57896044618658097711785492504343953926634992332820282019728792003956564819968) (Y / 57896044618658097711785492504343953926634992332820282019728792003956564819968)
    rw [Nat.mod_add_div] at h
    rw [h]
  rw [← eY] at hY R8
  generalize Y % 57896044618658097711785492504343953926634992332820282019728792003956564819968 = Z at *
  rw [hX] at R1
  have R4 := Lib.hid (show ∀ u, Calls Try.prog 11 #[five x0 x1 x2 x3 x4] u fun r w' => r = .returned (limV X) ∧ Below u.heap.size u w' from fun u => by rw [← hX]; exact R4 u)
  have R5 := Lib.hid (show ∀ u, Calls Try.prog 15 #[five x0 x1 x2 x3 x4] u fun r w' => r = .returned (.string T) ∧ Below u.heap.size u w' from fun u => by rw [← hX]; exact R5 u)
  have R6 := Lib.hid (show ∀ u, Calls Try.prog 16 #[.string s] u fun r w' => r = .returned (five y0 y1 y2 y3 y4) ∧ Below u.heap.size u w' from fun u => by rw [← hY, eY]; exact R6 u)
  have R7 := Lib.hid (show ∀ u, Calls Try.prog 17 #[five x0 x1 x2 x3 x4, five y0 y1 y2 y3 y4, .int .i64 1] u fun r w' => r = .returned (.tuple #[five y0 y1 y2 y3 y4, five x0 x1 x2 x3 x4]) ∧ Below u.heap.size u w' from R7)
  have R1 := Lib.hid R1
  have R2 := Lib.hid R2
  have R3 := Lib.hid R3
  have R8 := Lib.hid R8
  have HX := Lib.hid hX
  have HY := Lib.hid hY
  have BX := Lib.hid bX
  have BZ := Lib.hid bY
  have q1 : ((T.size : Int) != 32) = false := by rw [hsz]; rfl
  have q2 : (31 : Int) < (T.size : Int) := by omega
  have q2' : 31 < T.size := by omega
  have q3 : (T.toList != T.toList) = false := by simp
  have q4 : decide ((127 : Int) < (T[31].toNat : Int)) = false := by
    have e : byt T.data.toList 31 = T[31].toNat := byt_get (l := T.data.toList) (i := 31) (by have : T.data.toList.length = T.size := rfl; omega)
    simp
    omega
  have HSZ := Lib.hid hs
  clear hX hY eY lX lY lA hN h0 bX mX hsx hT hsz htop hs hg bY
  go_enter Try.func5, Try.ntmps5
  go_wp2_with fail
  refine (R1.out _).mono ?_
  rintro e w1 ⟨rfl, hb⟩
  have BA1 := Lib.hid ((BA.out.below BA.out.lt hb).alloc (.cells (fiveL x0 x1 x2 x3 x4).toArray 24))
  have BX1 := Lib.hid (Whole.made' w1 24 (fiveL x0 x1 x2 x3 x4).toArray _ rfl)
  have HB1 := Lib.hid ((HB.out.trans (hb.mono HB.out.size)).alloc (HB.out.trans (hb.mono HB.out.size)).size (.cells (fiveL x0 x1 x2 x3 x4).toArray 24))
  clear hb
  go_upto_region 4 with (fail)
  generalize hwz : w1.alloc (.cells #[.int .u64 (x0 : Int), .int .u64 (x1 : Int), .int .u64 (x2 : Int), .int .u64 (x3 : Int), .int .u64 (x4 : Int)] 24) = wz at *
  clear hwz
  generalize w1.heap.size = nx at *
  obtain ⟨t0, t1, t2, t3, t4⟩ := cells5 BA1.out
  go_wp2_with fail
  refine (R2.out _).mono ?_
  rintro e w2 ⟨rfl, hb⟩
  have BX2 := Lib.hid (BX1.out.below BX1.out.lt hb)
  have HB2 := Lib.hid (HB1.out.trans (hb.mono HB1.out.size))
  clear hb t0 t1 t2 t3 t4
  go_upto_region 5 with (fail)
  refine Steady.region 25 (by kernel_rfl) (by kernel_rfl) (fun u => Below w2.drew.heap.size w2.drew u) (Below.refl _ _) ?_
  simp only [List.take_succ_cons, List.take_zero, List.drop_succ_cons, List.drop_zero]
  refine Steady.take ?_ rfl (by intro u hu; go_simp; with_reducible rfl) ?_
  simp only [Act.put, List.setIfInBounds_toArray, List.set_cons_zero, List.set_cons_succ]
  refine Steady.take ?_ rfl (by intro u hu; go_simp; with_reducible rfl) ?_
  simp only [Act.put, List.setIfInBounds_toArray, List.set_cons_zero, List.set_cons_succ]
  refine Steady.take ?_ rfl (by intro u hu; go_simp; with_reducible rfl) ?_
  simp only [Act.put, List.setIfInBounds_toArray, List.set_cons_zero, List.set_cons_succ]
  refine Steady.take ?_ rfl (by intro u hu; go_simp; with_reducible rfl) ?_
  simp only [Act.put, List.setIfInBounds_toArray, List.set_cons_zero, List.set_cons_succ]
  refine Steady.take ?_ rfl (by intro u hu; go_simp; with_reducible rfl) ?_
  simp only [Act.put, List.setIfInBounds_toArray, List.set_cons_zero, List.set_cons_succ]
  refine Steady.take ?_ rfl (by intro u hu; go_simp; with_reducible rfl) ?_
  simp only [Act.put, List.setIfInBounds_toArray, List.set_cons_zero, List.set_cons_succ]
  refine Steady.take ?_ rfl (by intro u hu; go_simp; with_reducible rfl) ?_
  simp only [Act.put, List.setIfInBounds_toArray, List.set_cons_zero, List.set_cons_succ]
  refine Steady.take ?_ rfl (by intro u hu; go_simp; with_reducible rfl) ?_
  simp only [Act.put, List.setIfInBounds_toArray, List.set_cons_zero, List.set_cons_succ]
  refine Steady.take ?_ rfl (by intro u hu; go_simp; with_reducible rfl) ?_
  simp only [Act.put, List.setIfInBounds_toArray, List.set_cons_zero, List.set_cons_succ]
  refine Steady.take ?_ rfl (by intro u hu; go_simp; with_reducible rfl) ?_
  simp only [Act.put, List.setIfInBounds_toArray, List.set_cons_zero, List.set_cons_succ]
  refine Steady.call _ _ _ rfl ?_ (Steady.kept R3.out) ?_
  · intro u
    go_simp
  simp only [Act.put, List.setIfInBounds_toArray, List.set_cons_zero, List.set_cons_succ]
  refine Steady.take ?_ rfl (by intro u hu; obtain ⟨t0, t1, t2, t3, t4⟩ := cells5 (BX2.out.drew.below BX2.out.lt hu); go_simp; with_reducible rfl) ?_
  simp only [Act.put, List.setIfInBounds_toArray, List.set_cons_zero, List.set_cons_succ]
  refine Steady.take (.bool false) rfl (fun u _ => neq_no X rfl BX.out (by rfl) (by exact HX.out.symm) u) ?_
  simp only [Act.put, List.setIfInBounds_toArray, List.set_cons_zero, List.set_cons_succ]
  refine Steady.take ?_ rfl (by intro u hu; go_simp; with_reducible rfl) ?_
  simp only [Act.put, List.setIfInBounds_toArray, List.set_cons_zero, List.set_cons_succ]
  refine Steady.take ?_ rfl (by intro u hu; go_simp; with_reducible rfl) ?_
  simp only [Act.put, List.setIfInBounds_toArray, List.set_cons_zero, List.set_cons_succ]
  refine Steady.take ?_ rfl (by intro u hu; obtain ⟨t0, t1, t2, t3, t4⟩ := cells5 (BX2.out.drew.below BX2.out.lt hu); go_simp; with_reducible rfl) ?_
  simp only [Act.put, List.setIfInBounds_toArray, List.set_cons_zero, List.set_cons_succ]
  refine Steady.call _ _ _ rfl ?_ (Steady.kept R4.out) ?_
  · intro u
    go_simp
  simp only [Act.put, List.setIfInBounds_toArray, List.set_cons_zero, List.set_cons_succ]
  refine Steady.take ?_ rfl (by intro u hu; obtain ⟨t0, t1, t2, t3, t4⟩ := cells5 (BX2.out.drew.below BX2.out.lt hu); go_simp; with_reducible rfl) ?_
  simp only [Act.put, List.setIfInBounds_toArray, List.set_cons_zero, List.set_cons_succ]
  refine Steady.take (.bool false) rfl (fun u _ => neq_no X rfl BX.out (by rfl) (by exact HX.out.symm) u) ?_
  simp only [Act.put, List.setIfInBounds_toArray, List.set_cons_zero, List.set_cons_succ]
  refine Steady.take ?_ rfl (by intro u hu; go_simp; with_reducible rfl) ?_
  simp only [Act.put, List.setIfInBounds_toArray, List.set_cons_zero, List.set_cons_succ]
  refine Steady.take ?_ rfl (by intro u hu; go_simp; with_reducible rfl) ?_
  simp only [Act.put, List.setIfInBounds_toArray, List.set_cons_zero, List.set_cons_succ]
  refine Steady.take ?_ rfl (by intro u hu; obtain ⟨t0, t1, t2, t3, t4⟩ := cells5 (BX2.out.drew.below BX2.out.lt hu); go_simp; with_reducible rfl) ?_
  simp only [Act.put, List.setIfInBounds_toArray, List.set_cons_zero, List.set_cons_succ]
  refine Steady.call _ _ _ rfl ?_ (Steady.kept R5.out) ?_
  · intro u
    go_simp
  simp only [Act.put, List.setIfInBounds_toArray, List.set_cons_zero, List.set_cons_succ]
  refine Steady.take ?_ rfl (by intro u hu; go_simp; with_reducible rfl) ?_
  simp only [Act.put, List.setIfInBounds_toArray, List.set_cons_zero, List.set_cons_succ]
  refine Steady.take ?_ rfl (by intro u hu; go_simp; with_reducible rfl) ?_
  simp only [Act.put, List.setIfInBounds_toArray, List.set_cons_zero, List.set_cons_succ]
  refine Steady.nil ?_
  intro w9 h9
  have BX9 := Lib.hid (BX2.out.drew.below BX2.out.lt h9)
  have HB9 := Lib.hid (HB2.out.drew.trans (h9.mono HB2.out.size))
  clear h9
  obtain ⟨m0, m1, m2, m3, m4⟩ := hxs
  have d0 : decide ((2251799813685247 : Int) < (x0 : Int)) = false := by simp; omega
  have d1 : decide ((2251799813685247 : Int) < (x1 : Int)) = false := by simp; omega
  have d2 : decide ((2251799813685247 : Int) < (x2 : Int)) = false := by simp; omega
  have d3 : decide ((2251799813685247 : Int) < (x3 : Int)) = false := by simp; omega
  have d4 : decide ((2251799813685247 : Int) < (x4 : Int)) = false := by simp; omega
  obtain ⟨t0, t1, t2, t3, t4⟩ := cells5 BX9.out
  go_wp2
  clear t0 t1 t2 t3 t4
  go_loop [8, 47] (fun _ i => ∃ k : Nat, k ≤ 5 ∧ i = .int .i64 k) (fun _ i => 5 - (intOf i).toNat)
  case atStart => exact ⟨0, by omega, rfl⟩
  case round =>
    obtain ⟨k, hk5, rfl⟩ := hrel
    by_cases hlt : k < 5
    · have hd2 : decide ((k : Int) < 5) = true := by simp; omega
      have hk : k = 0 ∨ k = 1 ∨ k = 2 ∨ k = 3 ∨ k = 4 := by omega
      clear hk5 hlt hd2
      rcases hk with rfl | rfl | rfl | rfl | rfl
      · go_wp2_with (refine wpList_index rfl 24 (.tmp 46) (.tmp 47) rfl _ _ rfl rfl (.int .u64 (x0 : Int)) (fun u => index0 _ _ _ _ _ u) ?_)
        go_round
        case rel => exact ⟨1, by omega, rfl⟩
        case measure => simp [intOf]
      · go_wp2_with (refine wpList_index rfl 24 (.tmp 46) (.tmp 47) rfl _ _ rfl rfl (.int .u64 (x1 : Int)) (fun u => index1 _ _ _ _ _ u) ?_)
        go_round
        case rel => exact ⟨2, by omega, rfl⟩
        case measure => simp [intOf]
      · go_wp2_with (refine wpList_index rfl 24 (.tmp 46) (.tmp 47) rfl _ _ rfl rfl (.int .u64 (x2 : Int)) (fun u => index2 _ _ _ _ _ u) ?_)
        go_round
        case rel => exact ⟨3, by omega, rfl⟩
        case measure => simp [intOf]
      · go_wp2_with (refine wpList_index rfl 24 (.tmp 46) (.tmp 47) rfl _ _ rfl rfl (.int .u64 (x3 : Int)) (fun u => index3 _ _ _ _ _ u) ?_)
        go_round
        case rel => exact ⟨4, by omega, rfl⟩
        case measure => simp [intOf]
      · go_wp2_with (refine wpList_index rfl 24 (.tmp 46) (.tmp 47) rfl _ _ rfl rfl (.int .u64 (x4 : Int)) (fun u => index4 _ _ _ _ _ u) ?_)
        go_round
        case rel => exact ⟨5, by omega, rfl⟩
        case measure => simp [intOf]
    · have hd2 : decide ((k : Int) < 5) = false := by simp; omega
      obtain rfl : k = 5 := by omega
      go_wp2_with fail
      refine (R6.out _).mono ?_
      rintro e w10 ⟨rfl, hb⟩
      have BX10 := Lib.hid ((BX9.out.below BX9.out.lt hb).alloc (.cells (fiveL y0 y1 y2 y3 y4).toArray 24))
      have BY10 := Lib.hid (Whole.made' w10 24 (fiveL y0 y1 y2 y3 y4).toArray _ rfl)
      have HB10 := Lib.hid ((HB9.out.trans (hb.mono HB9.out.size)).alloc (HB9.out.trans (hb.mono HB9.out.size)).size (.cells (fiveL y0 y1 y2 y3 y4).toArray 24))
      clear hb
      go_upto_region 14 with (fail)
      generalize hwz : w10.alloc (.cells #[.int .u64 (y0 : Int), .int .u64 (y1 : Int), .int .u64 (y2 : Int), .int .u64 (y3 : Int), .int .u64 (y4 : Int)] 24) = wz at *
      clear hwz
      generalize w10.heap.size = ny at *
      obtain ⟨t0, t1, t2, t3, t4⟩ := cells5 BX10.out
      obtain ⟨s0, s1, s2, s3, s4⟩ := cells5 BY10.out
      go_wp2_with fail
      refine (R7.out _).mono ?_
      rintro e w11 ⟨rfl, hb⟩
      clear t0 t1 t2 t3 t4 s0 s1 s2 s3 s4
      have BX11 := Lib.hid (((BX10.out.below BX10.out.lt hb).alloc (.cells (fiveL y0 y1 y2 y3 y4).toArray 24)).alloc (.cells (fiveL x0 x1 x2 x3 x4).toArray 24))
      have BY11 := Lib.hid (((BY10.out.below BY10.out.lt hb).alloc (.cells (fiveL y0 y1 y2 y3 y4).toArray 24)).alloc (.cells (fiveL x0 x1 x2 x3 x4).toArray 24))
      have BZ11 := Lib.hid ((Whole.made' w11 24 (fiveL y0 y1 y2 y3 y4).toArray _ rfl).alloc (.cells (fiveL x0 x1 x2 x3 x4).toArray 24))
      have BW11 := Lib.hid (Whole.made' (w11.alloc (.cells (fiveL y0 y1 y2 y3 y4).toArray 24)) 24 (fiveL x0 x1 x2 x3 x4).toArray (w11.heap.size + 1) (by simp))
      have HB11 := Lib.hid (Below.alloc (Below.alloc (HB10.out.trans (hb.mono HB10.out.size)) (HB10.out.trans (hb.mono HB10.out.size)).size (.cells (fiveL y0 y1 y2 y3 y4).toArray 24)) (by have := (HB10.out.trans (hb.mono HB10.out.size)).size; simp; omega) (.cells (fiveL x0 x1 x2 x3 x4).toArray 24))
      clear hb
      go_upto_region 15 with (fail)
      generalize hwz : (w11.alloc (.cells #[.int .u64 (y0 : Int), .int .u64 (y1 : Int), .int .u64 (y2 : Int), .int .u64 (y3 : Int), .int .u64 (y4 : Int)] 24)).alloc (.cells #[.int .u64 (x0 : Int), .int .u64 (x1 : Int), .int .u64 (x2 : Int), .int .u64 (x3 : Int), .int .u64 (x4 : Int)] 24) = wv at *
      clear hwz
      generalize w11.heap.size = nz at *
      have nsz : ¬ 9223372036854775807 < s.size + 1 := by have := HSZ.out; omega
      refine Steady.region 18 (by kernel_rfl) (by kernel_rfl) (fun u => Below wv.drew.heap.size wv.drew u) (Below.refl _ _) ?_
      simp only [List.take_succ_cons, List.take_zero, List.drop_succ_cons, List.drop_zero]
      refine Steady.take ?_ rfl (by intro u hu; go_simp; with_reducible rfl) ?_
      simp only [Act.put, List.setIfInBounds_toArray, List.set_cons_zero, List.set_cons_succ]
      refine Steady.take ?_ rfl (by intro u hu; go_simp; with_reducible rfl) ?_
      simp only [Act.put, List.setIfInBounds_toArray, List.set_cons_zero, List.set_cons_succ]
      refine Steady.call _ _ _ rfl ?_ (Steady.kept R8.out) ?_
      · intro u
        go_simp
      simp only [Act.put, List.setIfInBounds_toArray, List.set_cons_zero, List.set_cons_succ]
      refine Steady.take ?_ rfl (by intro u hu; obtain ⟨t0, t1, t2, t3, t4⟩ := cells5 (BY11.out.drew.below BY11.out.lt hu); go_simp; with_reducible rfl) ?_
      simp only [Act.put, List.setIfInBounds_toArray, List.set_cons_zero, List.set_cons_succ]
      refine Steady.take (.bool true) rfl (fun u _ => eql_yes Z rfl BZ.out (by rfl) (by exact HY.out.symm) u) ?_
      simp only [Act.put, List.setIfInBounds_toArray, List.set_cons_zero, List.set_cons_succ]
      refine Steady.take ?_ rfl (by intro u hu; go_simp; with_reducible rfl) ?_
      simp only [Act.put, List.setIfInBounds_toArray, List.set_cons_zero, List.set_cons_succ]
      refine Steady.take ?_ rfl (by intro u hu; obtain ⟨t0, t1, t2, t3, t4⟩ := cells5 (BZ11.out.drew.below BZ11.out.lt hu); go_simp; with_reducible rfl) ?_
      simp only [Act.put, List.setIfInBounds_toArray, List.set_cons_zero, List.set_cons_succ]
      refine Steady.take ?_ rfl (by intro u hu; obtain ⟨t0, t1, t2, t3, t4⟩ := cells5 (BY11.out.drew.below BY11.out.lt hu); go_simp; with_reducible rfl) ?_
      simp only [Act.put, List.setIfInBounds_toArray, List.set_cons_zero, List.set_cons_succ]
      refine Steady.take (.bool true) rfl (fun u _ => eql_yes Z rfl BZ.out (by exact HY.out.symm) (by exact HY.out.symm) u) ?_
      simp only [Act.put, List.setIfInBounds_toArray, List.set_cons_zero, List.set_cons_succ]
      refine Steady.take ?_ rfl (by intro u hu; go_simp; with_reducible rfl) ?_
      simp only [Act.put, List.setIfInBounds_toArray, List.set_cons_zero, List.set_cons_succ]
      refine Steady.take ?_ rfl (by intro u hu; go_simp; with_reducible rfl) ?_
      simp only [Act.put, List.setIfInBounds_toArray, List.set_cons_zero, List.set_cons_succ]
      refine Steady.take ?_ rfl (by intro u hu; obtain ⟨t0, t1, t2, t3, t4⟩ := cells5 (BW11.out.drew.below BW11.out.lt hu); go_simp; with_reducible rfl) ?_
      simp only [Act.put, List.setIfInBounds_toArray, List.set_cons_zero, List.set_cons_succ]
      refine Steady.take ?_ rfl (by intro u hu; obtain ⟨t0, t1, t2, t3, t4⟩ := cells5 (BX11.out.drew.below BX11.out.lt hu); go_simp; with_reducible rfl) ?_
      simp only [Act.put, List.setIfInBounds_toArray, List.set_cons_zero, List.set_cons_succ]
      refine Steady.take (.bool true) rfl (fun u _ => eql_yes X rfl BX.out (by exact HX.out.symm) (by exact HX.out.symm) u) ?_
      simp only [Act.put, List.setIfInBounds_toArray, List.set_cons_zero, List.set_cons_succ]
      refine Steady.take ?_ rfl (by intro u hu; go_simp; with_reducible rfl) ?_
      simp only [Act.put, List.setIfInBounds_toArray, List.set_cons_zero, List.set_cons_succ]
      refine Steady.take ?_ rfl (by intro u hu; go_simp; with_reducible rfl) ?_
      simp only [Act.put, List.setIfInBounds_toArray, List.set_cons_zero, List.set_cons_succ]
      refine Steady.call _ _ _ rfl ?_ (Steady.kept TL.out) ?_
      · intro u
        go_simp
      simp only [Act.put, List.setIfInBounds_toArray, List.set_cons_zero, List.set_cons_succ]
      refine Steady.take ?_ rfl (by intro u hu; go_simp; with_reducible rfl) ?_
      simp only [Act.put, List.setIfInBounds_toArray, List.set_cons_zero, List.set_cons_succ]
      refine Steady.nil ?_
      intro w12 h12
      have HB12 := Lib.hid (HB11.out.drew.trans (h12.mono HB11.out.size))
      clear h12
      go_wp2
      go_ret
      exact ⟨rfl, HB12.out⟩

theorem own : ownKnob Try.prog.godebug = none := by kernel_rfl
theorem laidOut : laidOutB Try.prog = true := by kernel_rfl
theorem word_in {n : Int} (h : (Lit.int .u64 n).wf = true) : ∃ k : Nat, n = k ∧ k < 18446744073709551616 := by
  have h0 : IntKind.u64.min ≤ n ∧ n ≤ IntKind.u64.max := by simpa [Lit.wf] using h
  have e1 : IntKind.u64.min = 0 := by decide
  have e2 : IntKind.u64.max = 18446744073709551615 := by decide
  exact ⟨n.toNat, by omega, by omega⟩
/-- Five words, as numbers from 0 on. -/
theorem limbs_of (ns : List Int) (hl : ns.length = 5) (h : ∀ n ∈ ns, (Lit.int .u64 n).wf = true) : ∃ a b c d e : Nat, ns = [(a : Int), b, c, d, e] ∧ Words5 a b c d e := by
  match ns, hl with
  | [n0, n1, n2, n3, n4], _ =>
    obtain ⟨a, rfl, ha⟩ := word_in (h n0 (by simp))
    obtain ⟨b, rfl, hb⟩ := word_in (h n1 (by simp))
    obtain ⟨c, rfl, hc⟩ := word_in (h n2 (by simp))
    obtain ⟨d, rfl, hd⟩ := word_in (h n3 (by simp))
    obtain ⟨e, rfl, he⟩ := word_in (h n4 (by simp))
    exact ⟨a, b, c, d, e, rfl, ha, hb, hc, hd, he⟩

set_option maxRecDepth 100000 in
theorem lifted (os : Os) (started : os.Started) (H : Type) (enc : TypeId × Value → H) :
    ReturnsInHanded {} Try.checked os 5 .any (Rows.limbsBackSpec.pre6 enc Try.prog Try.f5 Rows.limbsBackRow.domain false) (Rows.limbsBackSpec.post enc Try.prog Try.f5 false true false false) := by
  refine returnsInHanded_of_change_sized (C := Try.checked) own started (by kernel_rfl) Try.func5
    (ChangeSpec.witness6 (enc := enc) (C := Try.checked) false ⟨#[], #[.agg #[.int .u64 0, .int .u64 0, .int .u64 0, .int .u64 0, .int .u64 0], .string ByteArray.empty], []⟩ 8 (by kernel_rfl) (by kernel_rfl) (by kernel_rfl) (by kernel_rfl)) ?_
  intro W base args ds gs before hval0 hW hcnd hsz0 _
  have hsz : (DataW.weightsEach Try.prog (Try.f5.params.toList ++ Rows.limbsBackSpec.plain.varTypes Try.prog) (ds ++ gs)).all (· ≤ reachBytes) = true := hsz0
  clear hsz0
  have hval : ∀ (j : Nat) t v, Try.f5.params[j]? = some t → args[j]? = some v → Value.okWide Try.prog W .any base t v := hval0
  have hW' := hW
  obtain ⟨p, q, hA0, hV, rfl, hfz, hnd⟩ := hW
  have hA : DataW.TrodAll enc Try.prog W 0 (fun _ => true) true Try.f5.params.toList args.toList ds p := hA0
  rw [Try.params5] at hA hval hsz
  obtain ⟨v0, vs0, d0, ds0, p0, q0, hargs, rfl, rfl, h0, r0⟩ := trodAll_cons hA
  obtain ⟨v1, vs1, d1, ds1, p1, q1, rfl, rfl, rfl, h1, r1⟩ := trodAll_cons r0
  obtain ⟨rfl, rfl, rfl⟩ := trodAll_nil r1
  obtain rfl : args = #[v0, v1] := by cases args; simp_all
  obtain ⟨rfl, rfl⟩ := trodVars_none hV
  have k0 := h0
  have lt0 : ∀ x ∈ p0, x.block < W.heap.size := by obtain ⟨m, hm⟩ := k0; exact DataW.trod_lt m _ _ _ hm
  obtain ⟨ns0, hnl0, rfl, rfl, rfl, w0⟩ := Open.open_int_array Try.underlying24 Try.underlying22 (by kernel_rfl) (by kernel_rfl) (hval 0 24 v0 rfl rfl) h0
  obtain ⟨a0, b0, c0, d0, e0, rfl, hw0⟩ := limbs_of ns0 hnl0 w0
  obtain ⟨s1, rfl, rfl, rfl, w1⟩ := open_string Try.underlying9 (hval 1 9 v1 rfl rfl) h1
  have z1 := sized_string hsz (j := 1) (t := 9) (bytes := s1.data.toList) rfl rfl
  clear hA0 hval0
  have hwk := walk a0 b0 c0 d0 e0 s1 W hw0 z1
  refine hwk.mono fun e W' ⟨he, bel⟩ => ?_
  subst he
  exact ⟨_, rfl, _, _, _, [], _, [], hW', trodAll_mk1 (shut_bool Try.underlying4 _), (trodAll_cons_mk (Below.trod laidOut (by kernel_rfl) (of_decide_eq_true (by kernel_rfl)) k0 bel lt0) (trodAll_cons_mk (shut_string Try.underlying9 w1) trodAll_mk0)), rfl, bel.frame _, fun h => by cases h⟩

theorem over : Rows.limbsBackRow.holds Try.pinned (OpenSpec.ofChange Rows.limbsBackSpec) :=
  OpenClaim.holds_of_wide 5 Try.f5 rfl rfl rfl rfl rfl rfl rfl ⟨rfl, rfl, rfl, rfl, rfl⟩ rfl rfl rfl rfl rfl (by kernel_rfl) Try.func5 (by kernel_rfl)
    (of_decide_eq_true (by kernel_rfl)) (by unfold Func.isWrapper; first | (rw [if_pos (by decide +kernel)]; kernel_rfl) | (rw [if_neg (by decide +kernel)]; exact ⟨rfl, rfl⟩))
    (fun os started H enc _ => lifted os started H enc)

theorem proved : Rows.LimbsBackSaid := over
#print axioms proved
end Go.Proofs.Ytblheplpaiokkab.LawBackL
