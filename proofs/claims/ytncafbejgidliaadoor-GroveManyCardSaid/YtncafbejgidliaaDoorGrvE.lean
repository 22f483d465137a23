/-
  Climb of package grove answers what the plain mathematics of the text Grv says, and leaves all memory that was there as it was. Conditions: room and node have together no more than 2^35 bytes; the constant table of package digest lies as the program's text lays it.
-/
import Derived.Test.YtncafbejgidliaaDoorGrvD
import Derived.IntWalk
namespace Go.Proofs.YtncafbejgidliaaDoor.Grv
open Go.RowKit Mur Sha Chn
set_option maxRecDepth 100000

theorem piece_cut (s : ByteArray) (a n b : Nat) (hb : b = a + n) : s.extract a b = tx ((s.data.toList.drop a).take n) := by
  apply ByteArray.ext
  apply Array.ext'
  rw [hb]
  simp [ByteArray.data_extract, Array.toList_extract, List.extract]

set_option maxHeartbeats 3200000 in
theorem climb_no (n h lf : Int) (room nd pa : ByteArray) (w : World) (hno : ¬ (Right n h ∧ 0 ≤ lf ∧ lf < 2 ^ h.toNat ∧ (pa.size : Int) = n * h)) :
    Calls Tryd.prog 12 #[.agg #[.int .i64 n, .int .i64 h], .string room, .int .i64 lf, .string nd, .string pa] w fun e w' => e = .returned (.string ⟨#[]⟩) ∧ Below w.heap.size w w' := by
  have hB0 := (Below.refl w.heap.size w).alloc (Nat.le_refl _) (.cells #[.int .i64 n, .int .i64 h] 23)
  have hc0 : (w.alloc (.cells #[.int .i64 n, .int .i64 h] 23)).cell? ⟨w.heap.size, 0, none⟩ = some (.int .i64 n) := by simp
  have hc1 : (w.alloc (.cells #[.int .i64 n, .int .i64 h] 23)).cell? ⟨w.heap.size, 1, none⟩ = some (.int .i64 h) := by simp
  have hl0 : w.heap.size < (w.alloc (.cells #[.int .i64 n, .int .i64 h] 23)).heap.size := by simp
  go_enter Tryd.func12, Tryd.ntmps12
  go_upto_region 1 with (fail)
  generalize w.alloc (.cells #[.int .i64 n, .int .i64 h] 23) = wz at *
  have HC := Lib.hid (fun (u : World) (q : Below wz.heap.size wz u) => (⟨(q.cell (p := ⟨w.heap.size, 0, none⟩) hl0).trans hc0, (q.cell (p := ⟨w.heap.size, 1, none⟩) hl0).trans hc1⟩ :
    u.cell? ⟨w.heap.size, 0, none⟩ = some (.int .i64 n) ∧ u.cell? ⟨w.heap.size, 1, none⟩ = some (.int .i64 h)))
  have HB0 := Lib.hid hB0
  have HL0 := Lib.hid hl0
  have HNO := Lib.hid hno
  clear hB0 hl0 hno
  by_cases hr : Right n h
  · have R1 := Lib.hid (fun u => right_yes n h hr u)
    have hn0 := hr.1
    have hn1 := hr.2.1
    have hh0 := hr.2.2.1
    have hh1 := hr.2.2.2
    have HR := Lib.hid hr
    clear hr
    go_wp2_with fail
    refine (R1.out _).mono ?_
    rintro e w1 ⟨rfl, hb1⟩
    have HW1 := Lib.hid hb1
    clear hb1 hc0 hc1
    obtain ⟨c0, c1⟩ := HC.out _ HW1.out
    by_cases hlf : 0 ≤ lf ∧ lf < 2 ^ h.toNat
    · have R2 := Lib.hid (show ∀ u, Calls Tryd.prog 20 #[.int .i64 lf, .int .i64 h] u fun e w' => e = .returned (.bool true) ∧ Below u.heap.size u w' from fun u => by
        have g := among_any lf h.toNat (by omega) u
        rw [decide_eq_true hlf, show ((h.toNat : Nat) : Int) = h by omega] at g
        exact g)
      obtain ⟨A, hA⟩ : ∃ A, A = n * h := ⟨_, rfl⟩
      have hA1 : A ≤ 256 := by
        have h1 : n * h ≤ 32 * 8 := Int.mul_le_mul hn1 hh1 hh0 (by omega)
        omega
      have hA0 : 0 ≤ A := by rw [hA]; exact Int.mul_nonneg (by omega) hh0
      have hwA : IntKind.i64.wrap (n * h) = A := by rw [← hA]; exact IntWalk.i64_in _ (by omega)
      have hne : ((pa.size : Int) != A) = true := by
        rw [bne_iff_ne]
        exact fun e => HNO.out ⟨HR.out, hlf.1, hlf.2, by rw [e, hA]⟩
      clear hlf hA
      go_wp2_with fail
      refine (R2.out _).mono ?_
      rintro e w2 ⟨rfl, hb2⟩
      have HW2 := Lib.hid (HW1.out.trans (hb2.mono HW1.out.size))
      clear hb2 c0 c1
      obtain ⟨c0, c1⟩ := HC.out _ HW2.out
      go_wp2
      go_ret
      exact ⟨rfl, HB0.out.trans (HW2.out.mono (Nat.le_of_lt HL0.out))⟩
    · have R2 := Lib.hid (fun u => among_no lf h hh0 hh1 hlf u)
      clear hlf
      go_wp2_with fail
      refine (R2.out _).mono ?_
      rintro e w2 ⟨rfl, hb2⟩
      have HW2 := Lib.hid (HW1.out.trans (hb2.mono HW1.out.size))
      clear hb2
      go_wp2
      go_ret
      exact ⟨rfl, HB0.out.trans (HW2.out.mono (Nat.le_of_lt HL0.out))⟩
  · have R1 := Lib.hid (fun u => right_no n h hr u)
    clear hr
    go_wp2_with fail
    refine (R1.out _).mono ?_
    rintro e w1 ⟨rfl, hb1⟩
    have HW1 := Lib.hid hb1
    clear hb1
    go_wp2
    go_ret
    exact ⟨rfl, HB0.out.trans (HW1.out.mono (Nat.le_of_lt HL0.out))⟩

set_option maxHeartbeats 3200000 in
theorem climb_any (N H lf : Nat) (room nd pa V : ByteArray) (w : World) (hr : Right (N : Int) (H : Int)) (hlf : lf < 2 ^ H) (hpa : pa.size = N * H) (hs : room.size + nd.size ≤ 34359738368) (hV : V = tx (climb N room.data.toList lf nd.data.toList pa.data.toList H)) (hk : Consts w) :
    Calls Tryd.prog 12 #[.agg #[.int .i64 (N : Int), .int .i64 (H : Int)], .string room, .int .i64 (lf : Int), .string nd, .string pa] w fun e w' => e = .returned (.string V) ∧ Below w.heap.size w w' := by
  have hN : N ≤ 32 := by have := hr.2.1; omega
  have hH : H ≤ 8 := by have := hr.2.2.2; omega
  have hl8 := pow_256 H hH
  have R1 := Lib.hid (fun u => right_yes N H hr u)
  have R2 := Lib.hid (fun u => among_yes lf H (by omega) hlf u)
  have RA := Lib.hid (fun (i n : Nat) (hi : i < H) (hn : n ≤ 256) (x y V : ByteArray) (hx : x.size ≤ nd.size + 32) (hy : y.size ≤ 1000) (hV : V = tx (asOneT N room.data.toList i n x.data.toList y.data.toList)) (u : World) (hu : Consts u) => asOne_any N i n H room x y V u hN (by omega) (by omega) (by omega) hV hu)
  have hcl := fun k => climb_length N room.data.toList lf nd.data.toList pa.data.toList k hN
  have hmul := fun k (hk : k ≤ H) => show N * k ≤ N * H from Nat.mul_le_mul_left _ hk
  have hNH : N * H ≤ 32 * 8 := Nat.mul_le_mul hN hH
  obtain ⟨A, hA⟩ : ∃ A, A = N * H := ⟨_, rfl⟩
  have hwA : IntKind.i64.wrap ((N : Int) * (H : Int)) = (A : Int) := by
    rw [← Int.natCast_mul, ← hA]
    exact IntWalk.i64_in _ (by omega)
  have heq : ((pa.size : Int) != (A : Int)) = false := by simp; omega
  have HWR := Lib.hid (fun (k : Nat) (hk : k < H) => show IntKind.i64.wrap ((N : Int) * (k : Int)) = ((N * k : Nat) : Int) ∧ IntKind.i64.wrap ((N : Int) * ((k : Int) + 1)) = ((N * (k + 1) : Nat) : Int) ∧ IntKind.i64.wrap ((k : Int) + 1) = (k : Int) + 1 ∧ ((N * k : Nat) : Int) ≤ ((N * (k + 1) : Nat) : Int) ∧ ((N * (k + 1) : Nat) : Int) ≤ (pa.size : Int) from by
    have h1 := hmul k (by omega)
    have h2 := hmul (k + 1) hk
    have h3 : N * (k + 1) = N * k + N := Nat.mul_succ _ _
    have e1 : (N : Int) * (k : Int) = ((N * k : Nat) : Int) := by push_cast; rfl
    have e2 : (N : Int) * ((k : Int) + 1) = ((N * (k + 1) : Nat) : Int) := by push_cast; rfl
    refine ⟨by rw [e1]; exact IntWalk.i64_in _ (by omega), by rw [e2]; exact IntWalk.i64_in _ (by omega), IntWalk.i64_in _ (by omega), by omega, by omega⟩)
  obtain ⟨K, hK⟩ : ∃ K, K = climb N room.data.toList lf nd.data.toList pa.data.toList := ⟨_, rfl⟩
  have HKS := Lib.hid (show ∀ k, K (k + 1) = asOneT N room.data.toList k (lf / 2 ^ k) (K k) ((pa.data.toList.drop (N * k)).take N) from fun k => by rw [hK]; rfl)
  have HK0 := Lib.hid (show nd = tx (K 0) from by rw [hK]; rfl)
  have HV := Lib.hid (show V = tx (K H) from by rw [hV, hK])
  have HCL := Lib.hid (show ∀ k, (K k).length ≤ nd.size + 32 from by rw [hK]; exact hcl)
  have HLF := Lib.hid hlf
  clear hV hs hr hlf hpa hcl hmul hNH hA hK
  have hB0 := (Below.refl w.heap.size w).alloc (Nat.le_refl _) (.cells #[.int .i64 (N : Int), .int .i64 (H : Int)] 23)
  have hc0 : (w.alloc (.cells #[.int .i64 (N : Int), .int .i64 (H : Int)] 23)).cell? ⟨w.heap.size, 0, none⟩ = some (.int .i64 (N : Int)) := by simp
  have hc1 : (w.alloc (.cells #[.int .i64 (N : Int), .int .i64 (H : Int)] 23)).cell? ⟨w.heap.size, 1, none⟩ = some (.int .i64 (H : Int)) := by simp
  have hlt : w.heap.size < (w.alloc (.cells #[.int .i64 (N : Int), .int .i64 (H : Int)] 23)).heap.size := by simp
  go_enter Tryd.func12, Tryd.ntmps12
  go_upto_region 1 with (fail)
  generalize w.alloc (.cells #[.int .i64 (N : Int), .int .i64 (H : Int)] 23) = wz at *
  have HC := Lib.hid (fun (u : World) (q : Below wz.heap.size wz u) => (⟨(q.cell (p := ⟨w.heap.size, 0, none⟩) hlt).trans hc0, (q.cell (p := ⟨w.heap.size, 1, none⟩) hlt).trans hc1, hk.below hk.1 (hB0.trans (q.mono hB0.size))⟩ : u.cell? ⟨w.heap.size, 0, none⟩ = some (.int .i64 (N : Int)) ∧ u.cell? ⟨w.heap.size, 1, none⟩ = some (.int .i64 (H : Int)) ∧ Consts u))
  have HB0 := Lib.hid hB0
  clear hB0 hlt hk
  go_wp2_with fail
  refine (R1.out _).mono ?_
  rintro e w1 ⟨rfl, hb1⟩
  have HY1 := Lib.hid hb1
  clear hb1 hc0 hc1
  obtain ⟨c0, c1, -⟩ := HC.out _ HY1.out
  go_wp2_with fail
  refine (R2.out _).mono ?_
  rintro e w2 ⟨rfl, hb2⟩
  have HB1 := Lib.hid (HY1.out.trans (hb2.mono HY1.out.size))
  clear hb2 c0 c1 HY1
  obtain ⟨c0, c1, -⟩ := HC.out _ HB1.out
  go_wp2_with fail
  clear c0 c1 hwA heq
  go_loopw [3, 11, 34] (fun x _ i wr => ∃ (k : Nat) (t : ByteArray), k ≤ H ∧ i = .int .i64 k ∧ x = .string t ∧ t = tx (K k) ∧ Below wz.heap.size wz wr) (fun _ _ i _ => H - (intOf i).toNat)
  case atStart => exact ⟨0, nd, by omega, rfl, rfl, HK0.out, HB1.out⟩
  case round =>
    clear HB1
    obtain ⟨k, t, hk, rfl, rfl, ht, hbel⟩ := hrel
    have HW := Lib.hid hbel
    have HT := Lib.hid ht
    clear hbel ht
    by_cases hlt : k < H
    · obtain ⟨e1, e2, e3, e4, e5⟩ := HWR.out k hlt
      have hT := piece_cut pa (N * k) N (N * (k + 1)) (Nat.mul_succ _ _)
      obtain ⟨T, hTT⟩ : ∃ T, T = pa.extract (N * k) (N * (k + 1)) := ⟨_, rfl⟩
      rw [← hTT] at hT
      have hcut := hTT.symm
      have hTs : T.size ≤ 1000 := by rw [hT]; show ((pa.data.toList.drop (N * k)).take N).length ≤ 1000; rw [List.length_take]; omega
      obtain ⟨x, hx⟩ : ∃ x, x = lf / 2 ^ k := ⟨_, rfl⟩
      have hxl : x ≤ 256 := by have := Nat.div_le_self lf (2 ^ k); have := HLF.out; omega
      have hsh : (lf : Int) / 2 ^ k = (x : Int) := by rw [hx, Int.natCast_ediv, Int.natCast_pow]; rfl
      obtain ⟨V2, hV2⟩ : ∃ V2, V2 = tx (K (k + 1)) := ⟨_, rfl⟩
      have RA1 := Lib.hid (fun (u : World) (q : Below wr.heap.size wr u) => RA.out k x hlt hxl t T V2 (by rw [HT.out]; exact HCL.out k) hTs (by rw [hV2, HKS.out, ← hx, HT.out, hT]) u (HC.out u (HW.out.trans (q.mono HW.out.size))).2.2)
      have HC1 := Lib.hid (fun (u : World) (q : Below wr.heap.size wr u) => HC.out u (HW.out.trans (q.mono HW.out.size)))
      have HV2 := Lib.hid hV2
      clear hT hTT hTs hx hV2
      obtain ⟨a, ha⟩ : ∃ a, a = N * k := ⟨_, rfl⟩
      obtain ⟨b, hb⟩ : ∃ b, b = N * (k + 1) := ⟨_, rfl⟩
      rw [← ha] at e1 e4 hcut
      rw [← hb] at e2 e4 e5 hcut
      have e6 : (0 : Int) ≤ (a : Int) := by omega
      have e7 : (0 : Int) ≤ (b : Int) := by omega
      have e8 : (a : Int).toNat = a := by omega
      have e9 : (b : Int).toNat = b := by omega
      clear ha hb
      go_upto_region 6 with (fail)
      refine Steady.region 20 (by kernel_rfl) (by kernel_rfl) (fun u => Below wr.heap.size wr u) ((Below.refl _ _).drew) ?_
      simp only [List.take_succ_cons, List.take_zero, List.drop_succ_cons, List.drop_zero]
      refine Steady.take ?_ rfl (by intro u hu; obtain ⟨c0, c1, -⟩ := HC1.out u hu; go_simp; with_reducible rfl) ?_
      simp only [Act.put, List.setIfInBounds_toArray, List.set_cons_zero, List.set_cons_succ]
      refine Steady.take ?_ rfl (by intro u hu; go_simp; with_reducible rfl) ?_
      simp only [Act.put, List.setIfInBounds_toArray, List.set_cons_zero, List.set_cons_succ]
      refine Steady.take ?_ rfl (by intro u hu; go_simp; with_reducible rfl) ?_
      simp only [Act.put, List.setIfInBounds_toArray, List.set_cons_zero, List.set_cons_succ]
      refine Steady.take ?_ rfl (by intro u hu; go_simp; with_reducible rfl) ?_
      simp only [Act.put, List.setIfInBounds_toArray, List.set_cons_zero, List.set_cons_succ]
      refine Steady.take ?_ rfl (by intro u hu; go_simp; with_reducible rfl) ?_
      simp only [Act.put, List.setIfInBounds_toArray, List.set_cons_zero, List.set_cons_succ]
      refine Steady.take ?_ rfl (by intro u hu; go_simp; with_reducible rfl) ?_
      simp only [Act.put, List.setIfInBounds_toArray, List.set_cons_zero, List.set_cons_succ]
      refine Steady.take ?_ rfl (by intro u hu; go_simp; with_reducible rfl) ?_
      simp only [Act.put, List.setIfInBounds_toArray, List.set_cons_zero, List.set_cons_succ]
      refine Steady.take ?_ rfl (by intro u hu; go_simp; with_reducible rfl) ?_
      simp only [Act.put, List.setIfInBounds_toArray, List.set_cons_zero, List.set_cons_succ]
      refine Steady.take ?_ rfl (by intro u hu; go_simp; with_reducible rfl) ?_
      simp only [Act.put, List.setIfInBounds_toArray, List.set_cons_zero, List.set_cons_succ]
      refine Steady.take ?_ rfl (by intro u hu; go_simp; with_reducible rfl) ?_
      simp only [Act.put, List.setIfInBounds_toArray, List.set_cons_zero, List.set_cons_succ]
      refine Steady.take ?_ rfl (by intro u hu; obtain ⟨c0, c1, -⟩ := HC1.out u hu; go_simp; with_reducible rfl) ?_
      simp only [Act.put, List.setIfInBounds_toArray, List.set_cons_zero, List.set_cons_succ]
      refine Steady.take ?_ rfl (by intro u hu; go_simp; with_reducible rfl) ?_
      simp only [Act.put, List.setIfInBounds_toArray, List.set_cons_zero, List.set_cons_succ]
      refine Steady.take ?_ rfl (by intro u hu; go_simp; with_reducible rfl) ?_
      simp only [Act.put, List.setIfInBounds_toArray, List.set_cons_zero, List.set_cons_succ]
      refine Steady.take ?_ rfl (by intro u hu; go_simp; with_reducible rfl) ?_
      simp only [Act.put, List.setIfInBounds_toArray, List.set_cons_zero, List.set_cons_succ]
      refine Steady.take ?_ rfl (by intro u hu; obtain ⟨c0, c1, -⟩ := HC1.out u hu; go_simp; with_reducible rfl) ?_
      simp only [Act.put, List.setIfInBounds_toArray, List.set_cons_zero, List.set_cons_succ]
      refine Steady.take ?_ rfl (by intro u hu; go_simp; with_reducible rfl) ?_
      simp only [Act.put, List.setIfInBounds_toArray, List.set_cons_zero, List.set_cons_succ]
      refine Steady.take ?_ rfl (by intro u hu; go_simp; with_reducible rfl) ?_
      simp only [Act.put, List.setIfInBounds_toArray, List.set_cons_zero, List.set_cons_succ]
      refine Steady.take ?_ rfl (by intro u hu; go_simp; with_reducible rfl) ?_
      simp only [Act.put, List.setIfInBounds_toArray, List.set_cons_zero, List.set_cons_succ]
      refine Steady.take ?_ rfl (by intro u hu; go_simp; with_reducible rfl) ?_
      simp only [Act.put, List.setIfInBounds_toArray, List.set_cons_zero, List.set_cons_succ]
      refine Steady.call _ _ _ rfl ?_ (keptIf RA1.out) ?_
      · intro u
        go_simp
      simp only [Act.put, List.setIfInBounds_toArray, List.set_cons_zero, List.set_cons_succ]
      refine Steady.nil ?_
      intro w5 hb5
      have HW5 := Lib.hid (HW.out.trans (hb5.mono HW.out.size))
      clear hb5 hsh e1 e2 e3 e4 e5 e6 e7 e8 e9 hcut
      go_wp2
      go_roundw
      case rel => exact ⟨k + 1, V2, by omega, by go_num, rfl, HV2.out, HW5.out⟩
      case measure => simp [intOf]; omega
    · obtain rfl : k = H := by omega
      have hVV : t = V := by rw [HV.out, HT.out]
      subst hVV
      go_wp2
      go_ret
      exact ⟨rfl, HB0.out.trans (HW.out.mono HB0.out.size)⟩
end Go.Proofs.YtncafbejgidliaaDoor.Grv
