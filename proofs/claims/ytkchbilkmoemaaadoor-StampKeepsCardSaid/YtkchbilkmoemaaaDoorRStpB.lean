/-
  The document's own answers for Use, Keep and Load of layer 9 answer what the plain mathematics of the text Stp says. Conditions: how many leaves are used fits into an int; a Seed has no more bytes than the reach of the form; the bytes that are loaded are no more than 900000.
-/
import Derived.Test.YtkchbilkmoemaaaDoorRStpA
import Derived.Test.YtkchbilkmoemaaaDoorMKeep
namespace Go.Proofs.YtkchbilkmoemaaaDoor.RefStp
open Go.RowKit Mur Sha Chn Stp
set_option maxRecDepth 100000

set_option maxHeartbeats 800000 in
theorem use_any (n h nx k nx' : Int) (e : Int) (seed : ByteArray) (w : World) (h1 : -9223372036854775808 ≤ nx) (h2 : nx < 9223372036854775808) (hn : nx' = useN n h nx k) (he : e = (useE n h nx k : Int)) :
    Calls Tryd.prog 18 #[.agg #[.int .i64 n, .int .i64 h, .string seed, .int .i64 nx], .int .i64 k] w fun v w' => v = .returned (.tuple #[.agg #[.int .i64 n, .int .i64 h, .string seed, .int .i64 nx'], .int .i64 e]) ∧ Below w.heap.size w w' := by
  obtain ⟨L, hL⟩ : ∃ L, L = leftI n h nx := ⟨_, rfl⟩
  obtain ⟨X, hX, hXc⟩ := named n h seed nx
  have R1 := Lib.hid (fun u => RefStp.left_any n h nx seed L u hL)
  rw [← hX.agg] at R1 ⊢
  have HX := Lib.hid hX
  have HM := Lib.hid (Hold.Hld.start w)
  have hL0 := (leftI_bounds n h nx).1
  rw [← hL] at hL0
  have hXl : X.length = zeroS.length := by rw [hX.len]; rfl
  have HXL := Lib.hid hXl
  clear hX hXl
  by_cases hk : k < 0
  · obtain rfl : e = 1 := by rw [he, useE, if_pos hk]; rfl
    obtain rfl : nx' = nx := by rw [hn, useN, useE, if_pos hk]; rfl
    have hd1 : decide (k < 0) = true := decide_eq_true hk
    have HE := Lib.hid HX.out.agg
    clear hL hn he hk hXc h1 h2
    go_enter Tryd.func18, Tryd.ntmps18
    go_wp2_with ((first
      | (with_reducible refine Hold.box HM.out rfl rfl rfl ?_; clear HM; intro b w HM; simp only [List.nil_append] at HM; replace HM := Lib.hid HM)
      | (with_reducible refine Hold.alloc HM.out rfl rfl zeroS zero_sign ?_; clear HM; intro b w HM; simp only [List.nil_append, List.cons_append] at HM; replace HM := Lib.hid HM)
      | (with_reducible refine Hold.load HM.out 0 (cs := X) rfl rfl rfl rfl (Hold.Part.all _) (by rw [HX.out.len]; exact signRow) ?_)
      | (with_reducible refine Hold.store HM.out 1 (v' := X) rfl rfl rfl rfl rfl (by rw [HXL.out]; exact Nat.le_of_eq (Nat.zero_add _)) (Hold.lay_all HXL.out.symm) (HX.out.one) (by rw [HX.out.len]; exact signRow) ?_; clear HM; intro w HM; simp only [List.set_cons_zero, List.set_cons_succ] at HM; replace HM := Lib.hid HM)))

    refine bodyPost_ret (Hold.resultsCT HM.out 1 rfl _ rfl rfl rfl (by rw [HX.out.len]; exact signRow)) rfl ?_
    rw [HE.out]
    exact ⟨rfl, HM.out.below⟩
  · have hd1 : decide (k < 0) = false := decide_eq_false hk
    by_cases hs : L < k
    · obtain rfl : e = 6 := by rw [he, useE, if_neg hk, ← hL, if_pos hs]; rfl
      obtain rfl : nx' = nx := by rw [hn, useN, useE, if_neg hk, ← hL, if_pos hs]; rfl
      have hd2 : decide (L < k) = true := decide_eq_true hs
      have HE := Lib.hid HX.out.agg
      clear hL hn he hk hXc h1 h2
      go_enter Tryd.func18, Tryd.ntmps18
      go_wp2_with ((first
        | (with_reducible refine Hold.box HM.out rfl rfl rfl ?_; clear HM; intro b w HM; simp only [List.nil_append] at HM; replace HM := Lib.hid HM)
        | (with_reducible refine Hold.alloc HM.out rfl rfl zeroS zero_sign ?_; clear HM; intro b w HM; simp only [List.nil_append, List.cons_append] at HM; replace HM := Lib.hid HM)
        | (with_reducible refine (R1.out _).mono ?_; rintro e w ⟨rfl, hb⟩; replace HM := Lib.hid (HM.out.next hb); clear hb)
        | (with_reducible refine Hold.load HM.out 0 (cs := X) rfl rfl rfl rfl (Hold.Part.all _) (by rw [HX.out.len]; exact signRow) ?_)
        | (with_reducible refine Hold.store HM.out 1 (v' := X) rfl rfl rfl rfl rfl (by rw [HXL.out]; exact Nat.le_of_eq (Nat.zero_add _)) (Hold.lay_all HXL.out.symm) (HX.out.one) (by rw [HX.out.len]; exact signRow) ?_; clear HM; intro w HM; simp only [List.set_cons_zero, List.set_cons_succ] at HM; replace HM := Lib.hid HM)))

      refine bodyPost_ret (Hold.resultsCT HM.out 1 rfl _ rfl rfl rfl (by rw [HX.out.len]; exact signRow)) rfl ?_
      rw [HE.out]
      exact ⟨rfl, HM.out.below⟩
    · have hd2 : decide (L < k) = false := decide_eq_false hs
      have hz : useE n h nx k = 0 := by rw [useE, if_neg hk, ← hL, if_neg hs]
      obtain rfl : e = 0 := by rw [he, hz]; rfl
      have hn2 : nx' = nx + k := by rw [hn, useN, if_pos hz]
      have hw : IntKind.i64.wrap (nx + k) = nx' := by
        rw [hn2]
        refine IntWalk.i64_in _ ?_
        have hL2 := leftI_next n h nx
        rw [← hL] at hL2
        by_cases h0 : 0 < L
        · obtain ⟨g1, g2, g3, g4⟩ := hL2 h0
          have := leavesI_le n h g1
          omega
        · omega
      obtain ⟨Y, hY, hYc⟩ := named n h seed nx'
      have hset : X.set 3 (.int .i64 nx') = Y := by rw [hXc, hYc]; rfl
      have HY := Lib.hid hY
      have HSET := Lib.hid hset
      have HYL := Lib.hid (show Y.length = zeroS.length by rw [hY.len]; rfl)
      have HE := Lib.hid hY.agg
      clear hL hn he hk hXc h1 h2 hY hYc hset hz hn2 hs
      go_enter Tryd.func18, Tryd.ntmps18
      go_upto_region 5 with ((first
        | (with_reducible refine Hold.box HM.out rfl rfl rfl ?_; clear HM; intro b w HM; simp only [List.nil_append] at HM; replace HM := Lib.hid HM)
        | (with_reducible refine Hold.alloc HM.out rfl rfl zeroS zero_sign ?_; clear HM; intro b w HM; simp only [List.nil_append, List.cons_append] at HM; replace HM := Lib.hid HM)
        | (with_reducible refine (R1.out _).mono ?_; rintro e w ⟨rfl, hb⟩; replace HM := Lib.hid (HM.out.next hb); clear hb)
        | (with_reducible refine Hold.load HM.out 0 (cs := X) rfl rfl rfl rfl (Hold.Part.all _) (by rw [HX.out.len]; exact signRow) ?_)))

      go_upto_region 6 with ((first
        | (with_reducible refine Hold.load1 HM.out 0 (c := .int .i64 nx) rfl rfl rfl rfl (HX.out.next3) (cellInt) ?_)
        | (with_reducible refine Hold.store1 HM.out 0 (c := .int .i64 nx') (v' := Y) rfl rfl rfl rfl rfl (by rw [HX.out.len]; decide) (HSET.out) (Hold.cell_int _ _) (cellInt) ?_; clear HM; intro w HM; simp only [List.set_cons_zero] at HM; replace HM := Lib.hid HM)))

      go_wp2_with ((first
        | (with_reducible refine Hold.load HM.out 0 (cs := Y) rfl rfl rfl rfl (Hold.Part.all _) (by rw [HY.out.len]; exact signRow) ?_)
        | (with_reducible refine Hold.store HM.out 1 (v' := Y) rfl rfl rfl rfl rfl (by rw [HYL.out]; exact Nat.le_of_eq (Nat.zero_add _)) (Hold.lay_all HYL.out.symm) (HY.out.one) (by rw [HY.out.len]; exact signRow) ?_; clear HM; intro w HM; simp only [List.set_cons_zero, List.set_cons_succ] at HM; replace HM := Lib.hid HM)))

      refine bodyPost_ret (Hold.resultsCT HM.out 1 rfl _ rfl rfl rfl (by rw [HY.out.len]; exact signRow)) rfl ?_
      rw [HE.out]
      exact ⟨rfl, HM.out.below⟩

theorem num_ref (n wd : Nat) (M : ByteArray) (w : World) (hn : n < 18446744073709551616) (hwd : wd ≤ 64) (hM : M = tx (num (n : Int) wd)) :
    Calls Tryd.prog 35 #[.int .u64 (n : Int), .int .i64 (wd : Int)] w fun e w' => e = .returned (.string M) ∧ Below w.heap.size w w' := by
  have g := RefOne.high_any n (wd : Int) w hn (by omega) (by omega)
  have ew : Lanes.widthOf (wd : Int) = wd := by unfold Lanes.widthOf; omega
  rw [ew] at g
  rw [hM, num, low64_nat n hn]
  exact g
theorem parts_two (a0 a1 : ByteArray) (b : Nat) (D : ByteArray) (w : World) (hs : a0.size + a1.size ≤ 990000) (hD : D = tx (sha (parts [a0.data.toList, a1.data.toList]))) (hb : b < w.heap.size)
    (c0 : w.cell? ⟨b, 0, none⟩ = some (.string a0)) (c1 : w.cell? ⟨b, 1, none⟩ = some (.string a1)) :
    Calls Tryd.prog 36 #[.slice (some ⟨b, 0, none⟩) 2 2] w fun e w' => e = .returned (.string D) ∧ Below w.heap.size w w' := by
  rw [hD]
  exact RefSha.parts_ref [a0, a1] b 0 2 w hb (by show 2 ≤ _; omega) (fun i hi => match i, hi with
    | 0, _ => c0
    | 1, _ => c1)
    (by show 0 + (4 + a0.size) + (4 + a1.size) ≤ _; omega)

set_option maxHeartbeats 1600000 in
theorem keep_no (n h nx : Int) (seed : ByteArray) (w : World) (hs : seed.size ≤ 140737488351232) (hno : ¬ Keeps n h nx seed.size) :
    Calls Tryd.prog 14 #[.agg #[.int .i64 n, .int .i64 h, .string seed, .int .i64 nx]] w fun e w' => e = .returned (.tuple #[.string ⟨#[]⟩, .int .i64 1]) ∧ Below w.heap.size w w' := by
  have hB0 := (Below.refl w.heap.size w).alloc (Nat.le_refl _) (.cells #[.int .i64 n, .int .i64 h, .string seed, .int .i64 nx] 28)
  have hc0 : (w.alloc (.cells #[.int .i64 n, .int .i64 h, .string seed, .int .i64 nx] 28)).cell? ⟨w.heap.size, 0, none⟩ = some (.int .i64 n) := by simp
  have hc1 : (w.alloc (.cells #[.int .i64 n, .int .i64 h, .string seed, .int .i64 nx] 28)).cell? ⟨w.heap.size, 1, none⟩ = some (.int .i64 h) := by simp
  have hc2 : (w.alloc (.cells #[.int .i64 n, .int .i64 h, .string seed, .int .i64 nx] 28)).cell? ⟨w.heap.size, 2, none⟩ = some (.string seed) := by simp
  have hc3 : (w.alloc (.cells #[.int .i64 n, .int .i64 h, .string seed, .int .i64 nx] 28)).cell? ⟨w.heap.size, 3, none⟩ = some (.int .i64 nx) := by simp
  have hlt : w.heap.size < (w.alloc (.cells #[.int .i64 n, .int .i64 h, .string seed, .int .i64 nx] 28)).heap.size := by simp
  have HNO := Lib.hid hno
  clear hno
  by_cases hr : Right n h
  · have R1 := Lib.hid (fun u => right_yes n h hr u)
    obtain ⟨H, hH⟩ : ∃ H : Nat, h = (H : Int) := ⟨h.toNat, (Int.toNat_of_nonneg hr.2.2.1).symm⟩
    have hH8 : H ≤ 8 := by have := hr.2.2.2; omega
    obtain ⟨p, hp⟩ : ∃ p, p = 2 ^ H := ⟨_, rfl⟩
    obtain ⟨g1, g2, g3⟩ := shift_one H p hH8 hp
    have hpn : (2 : Int) ^ h.toNat = (p : Int) := by rw [hH, Int.toNat_natCast]; exact g2
    have hH0 : (H : Int) < 0 ↔ False := ⟨fun h => by omega, fun h => h.elim⟩
    subst hH
    have HR := Lib.hid hr
    have HPN := Lib.hid hpn
    clear hr hp hpn
    go_enter Tryd.func14, Tryd.ntmps14
    go_upto_region 1 with (fail)
    generalize w.alloc (.cells #[.int .i64 n, .int .i64 (H : Int), .string seed, .int .i64 nx] 28) = wz at *
    have HC := Lib.hid (fun (u : World) (q : Below wz.heap.size wz u) => (⟨(q.cell (p := ⟨w.heap.size, 0, none⟩) hlt).trans hc0, (q.cell (p := ⟨w.heap.size, 1, none⟩) hlt).trans hc1, (q.cell (p := ⟨w.heap.size, 2, none⟩) hlt).trans hc2, (q.cell (p := ⟨w.heap.size, 3, none⟩) hlt).trans hc3⟩ :
      u.cell? ⟨w.heap.size, 0, none⟩ = some (.int .i64 n) ∧ u.cell? ⟨w.heap.size, 1, none⟩ = some (.int .i64 (H : Int)) ∧ u.cell? ⟨w.heap.size, 2, none⟩ = some (.string seed) ∧ u.cell? ⟨w.heap.size, 3, none⟩ = some (.int .i64 nx)))
    have HB0 := Lib.hid hB0
    clear hB0 hlt hc2 hc3
    go_wp2_with fail
    refine (R1.out _).mono ?_
    rintro e w1 ⟨rfl, hb1⟩
    have HW1 := Lib.hid hb1
    clear hb1 hc0 hc1
    obtain ⟨c0, c1, c2, c3⟩ := HC.out _ HW1.out
    by_cases h0 : 0 ≤ nx
    · have hd1 : decide (nx < 0) = false := by simp; omega
      by_cases h1 : nx ≤ (p : Int)
      · have hd2 : decide ((p : Int) < nx) = false := by simp; omega
        have hd3 : decide (200 < (seed.size : Int)) = true := by
          have : ¬ seed.size ≤ 200 := fun g => HNO.out ⟨HR.out, h0, by rw [HPN.out]; exact h1, g⟩
          simp; omega
        go_wp2
        go_ret2
        exact ⟨rfl, HB0.out.trans (HW1.out.mono HB0.out.size)⟩
      · have hd2 : decide ((p : Int) < nx) = true := by simp; omega
        go_wp2
        go_ret2
        exact ⟨rfl, HB0.out.trans (HW1.out.mono HB0.out.size)⟩
    · have hd1 : decide (nx < 0) = true := by simp; omega
      go_wp2
      go_ret2
      exact ⟨rfl, HB0.out.trans (HW1.out.mono HB0.out.size)⟩
  · have R1 := Lib.hid (fun u => right_no n h hr u)
    clear hr hc0 hc1 hc2 hc3 hlt
    go_enter Tryd.func14, Tryd.ntmps14
    go_wp2_with fail
    refine (R1.out _).mono ?_
    rintro e w1 ⟨rfl, hb1⟩
    have HW1 := Lib.hid (hB0.trans (hb1.mono hB0.size))
    clear hb1 hB0
    go_wp2
    go_ret2
    exact ⟨rfl, HW1.out⟩

set_option maxHeartbeats 3200000 in
theorem keep_any (N H next : Nat) (seed V : ByteArray) (w : World) (hkp : Keeps (N : Int) (H : Int) (next : Int) seed.size) (hV : V = tx (kept N H next seed.data.toList)) :
    Calls Tryd.prog 14 #[.agg #[.int .i64 (N : Int), .int .i64 (H : Int), .string seed, .int .i64 (next : Int)]] w fun e w' => e = .returned (.tuple #[.string V, .int .i64 0]) ∧ Below w.heap.size w w' := by
  obtain ⟨hr, hn0, hn1, h200⟩ := hkp
  obtain ⟨A, hA⟩ : ∃ A, A = tx (num (N : Int) 1) := ⟨_, rfl⟩
  obtain ⟨B, hB⟩ : ∃ B, B = tx (num (H : Int) 1) := ⟨_, rfl⟩
  obtain ⟨C, hC⟩ : ∃ C, C = tx (num (next : Int) 2) := ⟨_, rfl⟩
  obtain ⟨D, hD⟩ : ∃ D, D = tx (num (seed.size : Int) 1) := ⟨_, rfl⟩
  obtain ⟨F, hF⟩ : ∃ F, F = A ++ B := ⟨_, rfl⟩
  obtain ⟨G, hG⟩ : ∃ G, G = F ++ C := ⟨_, rfl⟩
  obtain ⟨I, hI⟩ : ∃ I, I = G ++ D := ⟨_, rfl⟩
  obtain ⟨J, hJ⟩ : ∃ J, J = I ++ seed := ⟨_, rfl⟩
  obtain ⟨T, hT⟩ : ∃ T, T = tx (tagOf J.data.toList) := ⟨_, rfl⟩
  have hAs : A.size = 1 := by rw [hA, tx_size, num_length]
  have hBs : B.size = 1 := by rw [hB, tx_size, num_length]
  have hCs : C.size = 2 := by rw [hC, tx_size, num_length]
  have hDs : D.size = 1 := by rw [hD, tx_size, num_length]
  have hFs : F.size = 2 := by rw [hF, ByteArray.size_append, hAs, hBs]
  have hGs : G.size = 4 := by rw [hG, ByteArray.size_append, hFs, hCs]
  have hIs : I.size = 5 := by rw [hI, ByteArray.size_append, hGs, hDs]
  have hJs : J.size = 5 + seed.size := by rw [hJ, ByteArray.size_append, hIs]
  have hTs : T.size = 4 := by rw [hT, tx_size, tagOf_length]
  have hJT : J ++ T = V := by
    have e : J = tx (head N H next seed.data.toList) := by
      rw [hJ, hI, hG, hF, hA, hB, hC, hD, head]
      show tx _ ++ tx _ ++ tx _ ++ tx _ ++ tx seed.data.toList = _
      rw [tx_append, tx_append, tx_append, tx_append]
      rfl
    rw [hV, hT, e, tx_list, tx_append, kept]
  have R1 := Lib.hid (fun u => right_yes N H hr u)
  have hH8 : H ≤ 8 := by have := hr.2.2.2; omega
  have hN32 : N ≤ 32 := by have := hr.2.1; omega
  obtain ⟨p, hp⟩ : ∃ p, p = 2 ^ H := ⟨_, rfl⟩
  obtain ⟨q1, q2, q3⟩ := shift_one H p hH8 hp
  have hnp : (next : Int) ≤ (p : Int) := by rw [← q2]; rw [Int.toNat_natCast] at hn1; exact hn1
  have hH0 : (H : Int) < 0 ↔ False := ⟨fun h => by omega, fun h => h.elim⟩
  have hd1 : decide ((next : Int) < 0) = false := by simp
  have hd2 : decide (p < next) = false := by simp; omega
  have hu1 : IntKind.u64.wrap (N : Int) = (N : Int) := by rw [IntKind.wrap_u64]; omega
  have hu2 : IntKind.u64.wrap (next : Int) = (next : Int) := by rw [IntKind.wrap_u64]; omega
  have hu3 : IntKind.u64.wrap (seed.size : Int) = (seed.size : Int) := by rw [IntKind.wrap_u64]; omega
  have RA := Lib.hid (show ∀ u, Calls Tryd.prog 35 #[.int .u64 (N : Int), .int .i64 1] u fun e w' => e = .returned (.string A) ∧ Below u.heap.size u w' from fun u => num_ref N 1 A u (by omega) (by omega) hA)
  have RB := Lib.hid (show ∀ u, Calls Tryd.prog 35 #[.int .u64 (H : Int), .int .i64 1] u fun e w' => e = .returned (.string B) ∧ Below u.heap.size u w' from fun u => num_ref H 1 B u (by omega) (by omega) hB)
  have RC := Lib.hid (show ∀ u, Calls Tryd.prog 35 #[.int .u64 (next : Int), .int .i64 2] u fun e w' => e = .returned (.string C) ∧ Below u.heap.size u w' from fun u => num_ref next 2 C u (by omega) (by omega) hC)
  have RD := Lib.hid (show ∀ u, Calls Tryd.prog 35 #[.int .u64 (seed.size : Int), .int .i64 1] u fun e w' => e = .returned (.string D) ∧ Below u.heap.size u w' from fun u => num_ref seed.size 1 D u (by omega) (by omega) hD)
  obtain ⟨T0, hT0⟩ : ∃ T0, T0 = tx (sha (parts [keepT, J.data.toList])) := ⟨_, rfl⟩
  have hcut : T0.extract 0 4 = T := cut_take T0 T 4 _ hT0 hT
  have hT0s : T0.size = 32 := by rw [hT0]; exact sha_length _
  have h4 : (4 : Int) ≤ T0.size := by omega
  have RP := Lib.hid (fun (b : Nat) (u : World) (hb : b < u.heap.size) (c0 : u.cell? ⟨b, 0, none⟩ = some (.string ⟨#[107, 101, 101, 112]⟩)) (c1 : u.cell? ⟨b, 1, none⟩ = some (.string J)) => parts_two ⟨#[107, 101, 101, 112]⟩ J b T0 u (by show 4 + J.size ≤ _; omega) hT0 hb c0 c1)
  have HCUT := Lib.hid hcut
  have H44 := Lib.hid h4
  clear hT0 hcut hT0s h4
  have hd : decide (200 < (seed.size : Int)) = false := by simp; omega
  have H1 := Lib.hid (show ¬ 9223372036854775807 < A.size + B.size by omega)
  have H2 := Lib.hid (show ¬ 9223372036854775807 < F.size + C.size by omega)
  have H3 := Lib.hid (show ¬ 9223372036854775807 < G.size + D.size by omega)
  have H4 := Lib.hid (show ¬ 9223372036854775807 < I.size + seed.size by omega)
  have H5 := Lib.hid (show ¬ 9223372036854775807 < J.size + T.size by omega)
  have E1 := Lib.hid hF.symm
  have E2 := Lib.hid hG.symm
  have E3 := Lib.hid hI.symm
  have E4 := Lib.hid hJ.symm
  have E5 := Lib.hid hJT
  have hB0 := (Below.refl w.heap.size w).alloc (Nat.le_refl _) (.cells #[.int .i64 (N : Int), .int .i64 (H : Int), .string seed, .int .i64 (next : Int)] 28)
  have hc0 : (w.alloc (.cells #[.int .i64 (N : Int), .int .i64 (H : Int), .string seed, .int .i64 (next : Int)] 28)).cell? ⟨w.heap.size, 0, none⟩ = some (.int .i64 (N : Int)) := by simp
  have hc1 : (w.alloc (.cells #[.int .i64 (N : Int), .int .i64 (H : Int), .string seed, .int .i64 (next : Int)] 28)).cell? ⟨w.heap.size, 1, none⟩ = some (.int .i64 (H : Int)) := by simp
  have hc2 : (w.alloc (.cells #[.int .i64 (N : Int), .int .i64 (H : Int), .string seed, .int .i64 (next : Int)] 28)).cell? ⟨w.heap.size, 2, none⟩ = some (.string seed) := by simp
  have hc3 : (w.alloc (.cells #[.int .i64 (N : Int), .int .i64 (H : Int), .string seed, .int .i64 (next : Int)] 28)).cell? ⟨w.heap.size, 3, none⟩ = some (.int .i64 (next : Int)) := by simp
  have hlt : w.heap.size < (w.alloc (.cells #[.int .i64 (N : Int), .int .i64 (H : Int), .string seed, .int .i64 (next : Int)] 28)).heap.size := by simp
  clear hAs hBs hCs hDs hFs hGs hIs hJs hTs hA hB hC hD hF hG hI hJ hT hJT hV hr hn0 hn1 hp hnp hN32
  go_enter Tryd.func14, Tryd.ntmps14
  go_upto_region 1 with (fail)
  generalize w.alloc (.cells #[.int .i64 (N : Int), .int .i64 (H : Int), .string seed, .int .i64 (next : Int)] 28) = wz at *
  have HC := Lib.hid (fun (u : World) (q : Below wz.heap.size wz u) => (⟨(q.cell (p := ⟨w.heap.size, 0, none⟩) hlt).trans hc0, (q.cell (p := ⟨w.heap.size, 1, none⟩) hlt).trans hc1, (q.cell (p := ⟨w.heap.size, 2, none⟩) hlt).trans hc2, (q.cell (p := ⟨w.heap.size, 3, none⟩) hlt).trans hc3⟩ :
    u.cell? ⟨w.heap.size, 0, none⟩ = some (.int .i64 (N : Int)) ∧ u.cell? ⟨w.heap.size, 1, none⟩ = some (.int .i64 (H : Int)) ∧ u.cell? ⟨w.heap.size, 2, none⟩ = some (.string seed) ∧ u.cell? ⟨w.heap.size, 3, none⟩ = some (.int .i64 (next : Int))))
  have HB0 := Lib.hid hB0
  clear hB0 hlt hc2 hc3
  go_wp2_with fail
  refine (R1.out _).mono ?_
  rintro e w1 ⟨rfl, hb1⟩
  have HW1 := Lib.hid hb1
  clear hb1 hc0 hc1
  have HW2 := HW1
  obtain ⟨c0, c1, c2, c3⟩ := HC.out _ HW2.out
  go_upto_region 3 with (fail)
  clear c0 c1 c2 c3
  have HC3 := Lib.hid (fun (u : World) (q : Below w1.heap.size w1 u) => HC.out u (HW2.out.trans (q.mono HW2.out.size)))
  have hn := H1.out
  have he := E1.out
  have hn2 := H2.out
  have he2 := E2.out
  refine Steady.region 16 (by kernel_rfl) (by kernel_rfl) (fun u => Below w1.heap.size w1 u) ((Below.refl _ _).drew) ?_
  simp only [List.take_succ_cons, List.take_zero, List.drop_succ_cons, List.drop_zero]
  refine Steady.take ?_ rfl (by intro u hu; go_simp; with_reducible rfl) ?_
  simp only [Act.put, List.setIfInBounds_toArray, List.set_cons_zero, List.set_cons_succ]
  refine Steady.take ?_ rfl (by intro u hu; go_simp; with_reducible rfl) ?_
  simp only [Act.put, List.setIfInBounds_toArray, List.set_cons_zero, List.set_cons_succ]
  refine Steady.take ?_ rfl (by intro u hu; obtain ⟨c0, c1, c2, c3⟩ := HC3.out u hu; go_simp; with_reducible rfl) ?_
  simp only [Act.put, List.setIfInBounds_toArray, List.set_cons_zero, List.set_cons_succ]
  refine Steady.take ?_ rfl (by intro u hu; go_simp; with_reducible rfl) ?_
  simp only [Act.put, List.setIfInBounds_toArray, List.set_cons_zero, List.set_cons_succ]
  refine Steady.call _ _ _ rfl ?_ (Steady.kept RA.out) ?_
  · intro u
    go_simp
  simp only [Act.put, List.setIfInBounds_toArray, List.set_cons_zero, List.set_cons_succ]
  refine Steady.take ?_ rfl (by intro u hu; go_simp; with_reducible rfl) ?_
  simp only [Act.put, List.setIfInBounds_toArray, List.set_cons_zero, List.set_cons_succ]
  refine Steady.take ?_ rfl (by intro u hu; go_simp; with_reducible rfl) ?_
  simp only [Act.put, List.setIfInBounds_toArray, List.set_cons_zero, List.set_cons_succ]
  refine Steady.take ?_ rfl (by intro u hu; obtain ⟨c0, c1, c2, c3⟩ := HC3.out u hu; go_simp; with_reducible rfl) ?_
  simp only [Act.put, List.setIfInBounds_toArray, List.set_cons_zero, List.set_cons_succ]
  refine Steady.take ?_ rfl (by intro u hu; go_simp; with_reducible rfl) ?_
  simp only [Act.put, List.setIfInBounds_toArray, List.set_cons_zero, List.set_cons_succ]
  refine Steady.call _ _ _ rfl ?_ (Steady.kept RB.out) ?_
  · intro u
    go_simp
  simp only [Act.put, List.setIfInBounds_toArray, List.set_cons_zero, List.set_cons_succ]
  refine Steady.take ?_ rfl (by intro u hu; go_simp; with_reducible rfl) ?_
  simp only [Act.put, List.setIfInBounds_toArray, List.set_cons_zero, List.set_cons_succ]
  refine Steady.take ?_ rfl (by intro u hu; go_simp; with_reducible rfl) ?_
  simp only [Act.put, List.setIfInBounds_toArray, List.set_cons_zero, List.set_cons_succ]
  refine Steady.take ?_ rfl (by intro u hu; obtain ⟨c0, c1, c2, c3⟩ := HC3.out u hu; go_simp; with_reducible rfl) ?_
  simp only [Act.put, List.setIfInBounds_toArray, List.set_cons_zero, List.set_cons_succ]
  refine Steady.take ?_ rfl (by intro u hu; go_simp; with_reducible rfl) ?_
  simp only [Act.put, List.setIfInBounds_toArray, List.set_cons_zero, List.set_cons_succ]
  refine Steady.call _ _ _ rfl ?_ (Steady.kept RC.out) ?_
  · intro u
    go_simp
  simp only [Act.put, List.setIfInBounds_toArray, List.set_cons_zero, List.set_cons_succ]
  refine Steady.take ?_ rfl (by intro u hu; go_simp; with_reducible rfl) ?_
  simp only [Act.put, List.setIfInBounds_toArray, List.set_cons_zero, List.set_cons_succ]
  refine Steady.nil ?_
  intro w3 hu
  have HW3 := Lib.hid (HW2.out.trans (hu.mono HW2.out.size))
  clear hu HC3 hn he hn2 he2
  go_upto_region 4 with (fail)
  have HC4 := Lib.hid (fun (u : World) (q : Below w3.heap.size w3 u) => HC.out u (HW3.out.trans (q.mono HW3.out.size)))
  have hn3 := H3.out
  have he3 := E3.out
  have hn4 := H4.out
  have he4 := E4.out
  refine Steady.region 10 (by kernel_rfl) (by kernel_rfl) (fun u => Below w3.heap.size w3 u) ((Below.refl _ _).drew) ?_
  simp only [List.take_succ_cons, List.take_zero, List.drop_succ_cons, List.drop_zero]
  refine Steady.take ?_ rfl (by intro u hu; go_simp; with_reducible rfl) ?_
  simp only [Act.put, List.setIfInBounds_toArray, List.set_cons_zero, List.set_cons_succ]
  refine Steady.take ?_ rfl (by intro u hu; go_simp; with_reducible rfl) ?_
  simp only [Act.put, List.setIfInBounds_toArray, List.set_cons_zero, List.set_cons_succ]
  refine Steady.take ?_ rfl (by intro u hu; obtain ⟨c0, c1, c2, c3⟩ := HC4.out u hu; go_simp; with_reducible rfl) ?_
  simp only [Act.put, List.setIfInBounds_toArray, List.set_cons_zero, List.set_cons_succ]
  refine Steady.take ?_ rfl (by intro u hu; go_simp; with_reducible rfl) ?_
  simp only [Act.put, List.setIfInBounds_toArray, List.set_cons_zero, List.set_cons_succ]
  refine Steady.take ?_ rfl (by intro u hu; go_simp; with_reducible rfl) ?_
  simp only [Act.put, List.setIfInBounds_toArray, List.set_cons_zero, List.set_cons_succ]
  refine Steady.call _ _ _ rfl ?_ (Steady.kept RD.out) ?_
  · intro u
    go_simp
  simp only [Act.put, List.setIfInBounds_toArray, List.set_cons_zero, List.set_cons_succ]
  refine Steady.take ?_ rfl (by intro u hu; go_simp; with_reducible rfl) ?_
  simp only [Act.put, List.setIfInBounds_toArray, List.set_cons_zero, List.set_cons_succ]
  refine Steady.take ?_ rfl (by intro u hu; go_simp; with_reducible rfl) ?_
  simp only [Act.put, List.setIfInBounds_toArray, List.set_cons_zero, List.set_cons_succ]
  refine Steady.take ?_ rfl (by intro u hu; obtain ⟨c0, c1, c2, c3⟩ := HC4.out u hu; go_simp; with_reducible rfl) ?_
  simp only [Act.put, List.setIfInBounds_toArray, List.set_cons_zero, List.set_cons_succ]
  refine Steady.take ?_ rfl (by intro u hu; go_simp; with_reducible rfl) ?_
  simp only [Act.put, List.setIfInBounds_toArray, List.set_cons_zero, List.set_cons_succ]
  refine Steady.nil ?_
  intro w4 hu
  have HW4 := Lib.hid (HW3.out.trans (hu.mono HW3.out.size))
  clear hu HC4 hn3 he3 hn4 he4
  have hB5 := (Below.refl w4.heap.size w4).alloc (Nat.le_refl _) (.cells #[.string ⟨#[107, 101, 101, 112]⟩, .string J] 9)
  go_wp2_with fail
  refine (RP.out _ _ (by simp) (by simp) (by simp)).mono ?_
  rintro e w5 ⟨rfl, hb5⟩
  have HW5 := Lib.hid (HB0.out.trans ((HW4.out.trans ((hB5.trans (hb5.mono hB5.size)).mono HW4.out.size)).mono HB0.out.size))
  clear hb5 hB5
  have hn := H5.out
  have he := E5.out
  have hcut := HCUT.out
  have h4 := H44.out
  go_wp2
  go_ret2
  exact ⟨rfl, HW5.out⟩
end Go.Proofs.YtkchbilkmoemaaaDoor.RefStp
