/-
  Path of package grove answers what the plain mathematics of the text Grv says, and leaves all memory that was there as it was. Conditions: seed and room have together no more than 2^35 bytes; the constant table of package digest lies as the program's text lays it.
-/
import Derived.Test.YtncafbejgidliaaDoorGrvC
import Derived.Test.YtncafbejgidliaaDoorUseF
namespace Go.Proofs.YtncafbejgidliaaDoor.Grv
open Go.RowKit Mur Sha Chn
set_option maxRecDepth 100000

theorem xor_one (x : Nat) (h : x < 4611686018427387904) : bits .xor .i64 (x : Int) 1 = (sib x : Int) := by
  have := xor_i64_nat x 1 (by omega) (by omega)
  rw [sib_xor] at this
  exact this
theorem sib_lt (x m : Nat) (h : x < 2 * m) : sib x < 2 * m := by
  by_cases e : x % 2 = 1
  · rw [sib, if_pos e]; omega
  · rw [sib, if_neg e]; omega
theorem half_lt (x i H : Nat) (h : x < 2 ^ H) (hi : i ≤ H) : x / 2 ^ i < 2 ^ (H - i) := by
  rw [Nat.div_lt_iff_lt_mul (Nat.two_pow_pos i), ← Nat.pow_add, show H - i + i = H by omega]
  exact h
theorem sib_half_lt (x i H : Nat) (h : x < 2 ^ H) (hi : i < H) : sib (x / 2 ^ i) < 2 ^ (H - i) := by
  have := half_lt x i H h (by omega)
  rw [show H - i = (H - i - 1) + 1 by omega, Nat.pow_succ, Nat.mul_comm] at this ⊢
  exact sib_lt _ _ this
theorem among_yes (a k : Nat) (hk : k ≤ 62) (h : a < 2 ^ k) (u : World) : Calls Tryd.prog 20 #[.int .i64 (a : Int), .int .i64 (k : Int)] u fun e w' => e = .returned (.bool true) ∧ Below u.heap.size u w' := by
  have g := among_any (a : Int) k hk u
  have e2 : decide (0 ≤ (a : Int) ∧ (a : Int) < 2 ^ k) = true := by
    have h2 : ((a : Nat) : Int) < ((2 ^ k : Nat) : Int) := Int.ofNat_lt.2 h
    rw [Int.natCast_pow] at h2
    simp only [decide_eq_true_eq]
    exact ⟨by omega, h2⟩
  rw [e2] at g
  exact g
theorem among_no (a h : Int) (h0 : 0 ≤ h) (h8 : h ≤ 8) (hno : ¬ (0 ≤ a ∧ a < 2 ^ h.toNat)) (u : World) : Calls Tryd.prog 20 #[.int .i64 a, .int .i64 h] u fun e w' => e = .returned (.bool false) ∧ Below u.heap.size u w' := by
  have g := among_any a h.toNat (by omega) u
  rw [decide_eq_false hno, show ((h.toNat : Nat) : Int) = h by omega] at g
  exact g

set_option maxHeartbeats 3200000 in
theorem path_no (n h lf : Int) (seed room : ByteArray) (w : World) (hno : ¬ (Right n h ∧ 0 ≤ lf ∧ lf < 2 ^ h.toNat)) :
    Calls Tryd.prog 10 #[.agg #[.int .i64 n, .int .i64 h], .string seed, .string room, .int .i64 lf] w fun e w' => e = .returned (.string ⟨#[]⟩) ∧ Below w.heap.size w w' := by
  have hB0 := (Below.refl w.heap.size w).alloc (Nat.le_refl _) (.cells #[.int .i64 n, .int .i64 h] 23)
  have hc0 : (w.alloc (.cells #[.int .i64 n, .int .i64 h] 23)).cell? ⟨w.heap.size, 0, none⟩ = some (.int .i64 n) := by simp
  have hc1 : (w.alloc (.cells #[.int .i64 n, .int .i64 h] 23)).cell? ⟨w.heap.size, 1, none⟩ = some (.int .i64 h) := by simp
  have hl0 : w.heap.size < (w.alloc (.cells #[.int .i64 n, .int .i64 h] 23)).heap.size := by simp
  go_enter Tryd.func10, Tryd.ntmps10
  go_upto_region 1 with (fail)
  generalize w.alloc (.cells #[.int .i64 n, .int .i64 h] 23) = wz at *
  have HC := Lib.hid (fun (u : World) (q : Below wz.heap.size wz u) => (⟨(q.cell (p := ⟨w.heap.size, 0, none⟩) hl0).trans hc0, (q.cell (p := ⟨w.heap.size, 1, none⟩) hl0).trans hc1⟩ :
    u.cell? ⟨w.heap.size, 0, none⟩ = some (.int .i64 n) ∧ u.cell? ⟨w.heap.size, 1, none⟩ = some (.int .i64 h)))
  have HB0 := Lib.hid hB0
  have HL0 := Lib.hid hl0
  have HNO := Lib.hid hno
  clear hB0 hl0 hno
  by_cases hr : Right n h
  · have R1 := Lib.hid (fun u => right_yes n h hr u)
    have R2 := Lib.hid (fun u => among_no lf h hr.2.2.1 hr.2.2.2 (fun hx => HNO.out ⟨hr, hx.1, hx.2⟩) u)
    clear hr
    go_wp2_with fail
    refine (R1.out _).mono ?_
    rintro e w1 ⟨rfl, hb1⟩
    have HW1 := Lib.hid hb1
    clear hb1 hc0 hc1
    obtain ⟨c0, c1⟩ := HC.out _ HW1.out
    go_wp2_with fail
    refine (R2.out _).mono ?_
    rintro e w2 ⟨rfl, hb2⟩
    have HW2 := Lib.hid (HW1.out.trans (hb2.mono HW1.out.size))
    clear hb2
    go_wp2
    go_ret
    exact ⟨rfl, HB0.out.trans (HW2.out.mono (Nat.le_of_lt HL0.out))⟩
  · have R1 := Lib.hid (fun u => right_no n h hr u)
    clear hr
    go_wp2_with fail
    refine (R1.out _).mono ?_
    rintro e w1 ⟨rfl, hb1⟩
    have HW1 := Lib.hid hb1
    clear hb1
    go_wp2
    go_ret
    exact ⟨rfl, HB0.out.trans (HW1.out.mono (Nat.le_of_lt HL0.out))⟩

set_option maxHeartbeats 3200000 in
theorem path_any (N H lf : Nat) (seed room V : ByteArray) (w : World) (hr : Right (N : Int) (H : Int)) (hlf : lf < 2 ^ H) (hs : seed.size + room.size ≤ 34359738368) (hV : V = tx (path N H seed.data.toList room.data.toList lf)) (hk : Consts w) :
    Calls Tryd.prog 10 #[.agg #[.int .i64 (N : Int), .int .i64 (H : Int)], .string seed, .string room, .int .i64 (lf : Int)] w fun e w' => e = .returned (.string V) ∧ Below w.heap.size w w' := by
  have hN : N ≤ 32 := by have := hr.2.1; omega
  have hH : H ≤ 8 := by have := hr.2.2.2; omega
  have hl8 := pow_256 H hH
  have R1 := Lib.hid (fun u => right_yes N H hr u)
  have R2 := Lib.hid (fun u => among_yes lf H (by omega) hlf u)
  have RN := Lib.hid (fun (i : Nat) (hi : i < H) (P : ByteArray) (hP : P = tx (pathP N seed.data.toList room.data.toList lf i)) (u : World) (hu : Consts u) => node_any N H i (sib (lf / 2 ^ i)) seed room P u hr (by omega) (sib_half_lt lf i H hlf hi) hs hP hu)
  have hl := pathP_length N seed.data.toList room.data.toList lf hN
  obtain ⟨F, hF⟩ : ∃ F, F = pathP N seed.data.toList room.data.toList lf := ⟨_, rfl⟩
  rw [← hF] at hl RN
  have hul := upto_length F N hl
  have HV := Lib.hid (show V = tx (upto F H) from by rw [hV, path, hF])
  have HUL := Lib.hid hul
  have HFL := Lib.hid hl
  have HLF := Lib.hid hlf
  clear hV hF hul hl hs hr hlf
  have hB0 := (Below.refl w.heap.size w).alloc (Nat.le_refl _) (.cells #[.int .i64 (N : Int), .int .i64 (H : Int)] 23)
  have hc0 : (w.alloc (.cells #[.int .i64 (N : Int), .int .i64 (H : Int)] 23)).cell? ⟨w.heap.size, 0, none⟩ = some (.int .i64 (N : Int)) := by simp
  have hc1 : (w.alloc (.cells #[.int .i64 (N : Int), .int .i64 (H : Int)] 23)).cell? ⟨w.heap.size, 1, none⟩ = some (.int .i64 (H : Int)) := by simp
  have hlt : w.heap.size < (w.alloc (.cells #[.int .i64 (N : Int), .int .i64 (H : Int)] 23)).heap.size := by simp
  go_enter Tryd.func10, Tryd.ntmps10
  go_upto_region 1 with (fail)
  generalize w.alloc (.cells #[.int .i64 (N : Int), .int .i64 (H : Int)] 23) = wz at *
  have HC := Lib.hid (fun (u : World) (q : Below wz.heap.size wz u) => (⟨(q.cell (p := ⟨w.heap.size, 0, none⟩) hlt).trans hc0, (q.cell (p := ⟨w.heap.size, 1, none⟩) hlt).trans hc1, hk.below hk.1 (hB0.trans (q.mono hB0.size))⟩ : u.cell? ⟨w.heap.size, 0, none⟩ = some (.int .i64 (N : Int)) ∧ u.cell? ⟨w.heap.size, 1, none⟩ = some (.int .i64 (H : Int)) ∧ Consts u))
  have HB0 := Lib.hid hB0
  clear hB0 hlt hk
  go_wp2_with fail
  refine (R1.out _).mono ?_
  rintro e w1 ⟨rfl, hb1⟩
  have HY1 := Lib.hid hb1
  clear hb1 hc0 hc1
  obtain ⟨c0, c1, -⟩ := HC.out _ HY1.out
  go_wp2_with fail
  refine (R2.out _).mono ?_
  rintro e w2 ⟨rfl, hb2⟩
  have HB1 := Lib.hid (HY1.out.trans (hb2.mono HY1.out.size))
  clear hb2 c0 c1 HY1
  go_upto_region 4 with (fail)
  have HBU := Lib.hid (Use.builder_new w2.heap.size w2.heap.size _ (Nat.le_refl _) (_root_.Go.heap_alloc_new w2 (.cells #[.pointer none, .slice none 0 0] 49)))
  have HW1 := Lib.hid ((Below.refl w2.heap.size w2).alloc (Nat.le_refl _) (.cells #[.pointer none, .slice none 0 0] 49))
  have HZ2 := Lib.hid (HB1.out.trans (HW1.out.mono HB1.out.size))
  generalize w2.alloc (.cells #[.pointer none, .slice none 0 0] 49) = w3 at *
  obtain ⟨c0, c1, -⟩ := HC.out _ HZ2.out
  go_wp2_with fail
  clear c0 c1 HZ2
  go_loopw [10, 24] (fun _ i wr => ∃ k : Nat, k ≤ H ∧ i = .int .i64 k ∧ Lib.IsBuilder 49 5 w2.heap.size w2.heap.size (Lib.byteCells (upto F k)) wr ∧ Below w2.heap.size w2 wr) (fun _ i _ => H - (intOf i).toNat)
  case atStart => exact ⟨0, by omega, rfl, HBU.out, HW1.out⟩
  case round =>
    clear HBU HW1
    obtain ⟨k, hk, rfl, hbu, hbel⟩ := hrel
    have HBU := Lib.hid hbu
    have HW := Lib.hid hbel
    clear hbu hbel
    by_cases hlt : k < H
    · obtain ⟨P, hP⟩ : ∃ P, P = tx (F k) := ⟨_, rfl⟩
      have hPs : P.size = N := by rw [hP]; exact HFL.out k
      have hnx : upto F (k + 1) = upto F k ++ P.data.toList := by rw [hP]; rfl
      have hsz : (upto F k).length + P.size ≤ 140737488355328 := by
        have h1 := HUL.out k
        have h2 : N * k ≤ 32 * 8 := Nat.mul_le_mul hN (by omega)
        omega
      have hzr := HB1.out.trans (HW.out.mono HB1.out.size)
      obtain ⟨x, hx⟩ : ∃ x, x = lf / 2 ^ k := ⟨_, rfl⟩
      obtain ⟨y, hy⟩ : ∃ y, y = sib x := ⟨_, rfl⟩
      have hxl : x ≤ 256 := by have := Nat.div_le_self lf (2 ^ k); have := HLF.out; omega
      have hsh : (lf : Int) / 2 ^ k = (x : Int) := by rw [hx, Int.natCast_ediv, Int.natCast_pow]; rfl
      have hxo : bits .xor .i64 (x : Int) 1 = (y : Int) := by rw [hy]; exact xor_one x (by omega)
      have RN1 := Lib.hid (show ∀ (u : World), Below wr.heap.size wr u → Calls Tryd.prog 8 #[.agg #[.int .i64 (N : Int), .int .i64 (H : Int)], .string seed, .string room, .agg #[.int .i64 (k : Int), .int .i64 (y : Int)]] u fun e w' => e = .returned (.string P) ∧ Below u.heap.size u w' from fun u q => by
        rw [hy, hx]
        exact RN.out k hlt P hP u (HC.out u (hzr.trans (q.mono hzr.size))).2.2)
      have HC1 := Lib.hid (fun (u : World) (q : Below wr.heap.size wr u) => HC.out u (hzr.trans (q.mono hzr.size)))
      have HNX := Lib.hid hnx
      have HSZ := Lib.hid hsz
      clear hP hPs hnx hsz hzr hx hy
      go_upto_region 7 with (fail)
      refine Steady.region 10 (by kernel_rfl) (by kernel_rfl) (fun u => Below wr.heap.size wr u) ((Below.refl _ _).drew) ?_
      simp only [List.take_succ_cons, List.take_zero, List.drop_succ_cons, List.drop_zero]
      refine Steady.take ?_ rfl (by intro u hu; obtain ⟨c0, c1, -⟩ := HC1.out u hu; go_simp; with_reducible rfl) ?_
      simp only [Act.put, List.setIfInBounds_toArray, List.set_cons_zero, List.set_cons_succ]
      refine Steady.take ?_ rfl (by intro u hu; go_simp; with_reducible rfl) ?_
      simp only [Act.put, List.setIfInBounds_toArray, List.set_cons_zero, List.set_cons_succ]
      refine Steady.take ?_ rfl (by intro u hu; go_simp; with_reducible rfl) ?_
      simp only [Act.put, List.setIfInBounds_toArray, List.set_cons_zero, List.set_cons_succ]
      refine Steady.take ?_ rfl (by intro u hu; go_simp; with_reducible rfl) ?_
      simp only [Act.put, List.setIfInBounds_toArray, List.set_cons_zero, List.set_cons_succ]
      refine Steady.take ?_ rfl (by intro u hu; go_simp; with_reducible rfl) ?_
      simp only [Act.put, List.setIfInBounds_toArray, List.set_cons_zero, List.set_cons_succ]
      refine Steady.take ?_ rfl (by intro u hu; go_simp; with_reducible rfl) ?_
      simp only [Act.put, List.setIfInBounds_toArray, List.set_cons_zero, List.set_cons_succ]
      refine Steady.take ?_ rfl (by intro u hu; go_simp; with_reducible rfl) ?_
      simp only [Act.put, List.setIfInBounds_toArray, List.set_cons_zero, List.set_cons_succ]
      refine Steady.take ?_ rfl (by intro u hu; go_simp; with_reducible rfl) ?_
      simp only [Act.put, List.setIfInBounds_toArray, List.set_cons_zero, List.set_cons_succ]
      refine Steady.take ?_ rfl (by intro u hu; go_simp; with_reducible rfl) ?_
      simp only [Act.put, List.setIfInBounds_toArray, List.set_cons_zero, List.set_cons_succ]
      refine Steady.call _ _ _ rfl ?_ (keptIf RN1.out) ?_
      · intro u
        go_simp
      simp only [Act.put, List.setIfInBounds_toArray, List.set_cons_zero, List.set_cons_succ]
      refine Steady.nil ?_
      intro w5 hb5
      have HBU5 := Lib.hid (isBuilder_below HBU.out hb5)
      have HW5 := Lib.hid (HW.out.trans (hb5.mono HW.out.size))
      clear hb5 hsh hxo
      go_wp2_with fail
      refine (Use.write_any w2.heap.size w2.heap.size (upto F k) _ _ HBU5.out HSZ.out HW5.out.size).mono ?_
      rintro e w6 ⟨rfl, hbu6, hb6⟩
      rw [← HNX.out] at hbu6
      have HBU6 := Lib.hid hbu6
      have HW6 := Lib.hid (HW5.out.trans hb6)
      clear hbu6 hb6
      go_wp2
      go_roundw
      case rel => exact ⟨k + 1, by omega, by go_num, HBU6.out, HW6.out⟩
      case measure => simp [intOf]; omega
    · obtain rfl : k = H := by omega
      go_wp2_with fail
      refine (Use.string_any w2.heap.size w2.heap.size (upto F k) wr HBU.out HW.out.size).mono ?_
      rintro e w5 ⟨rfl, hb5⟩
      have HZ5 := Lib.hid (HB0.out.trans ((HB1.out.trans ((HW.out.trans hb5).mono HB1.out.size)).mono HB0.out.size))
      have hVV : (⟨(upto F k).toArray⟩ : ByteArray) = V := HV.out.symm
      rw [hVV]
      clear hb5 hVV
      go_wp2
      go_ret
      exact ⟨rfl, HZ5.out⟩
end Go.Proofs.YtncafbejgidliaaDoor.Grv
