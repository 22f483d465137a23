/-
  Several texts as one (RGrvA, RGrvB). The document's own answers for pair and Node of layer 8 answer what the plain mathematics of the text Grv says, and leave all memory that was there as it was. Conditions: seed, room and texts have together no more than 400000 bytes. The document's own answers for Path and Climb of layer 8 answer what the plain mathematics of the text Grv says, and leave all memory that was there as it was. Conditions: seed, room and texts have together no more than 400000 bytes.
-/
import Derived.Test.YtkchbilkmoemaaaGreatDoorMRChn
import Derived.Test.YtkchbilkmoemaaaGreatDoorMGrv
namespace Go.Proofs.YtkchbilkmoemaaaGreatDoor.RefGrv
open Go.RowKit Mur Sha Chn Grv
open RefChn (Kept num_ref)
set_option maxRecDepth 100000

theorem high_small (n wd : Nat) (M : ByteArray) (w : World) (hn : n < 9223372036854775808) (hwd : wd ≤ 64) (hM : M = tx (num (n : Int) wd)) :
    Calls Tryz.prog 29 #[.int .u64 (n : Int), .int .i64 (wd : Int)] w fun e w' => e = .returned (.string M) ∧ Below w.heap.size w w' := by
  have h := num_ref (n : Int) wd M w hwd hM
  rw [show low64 (n : Int) = n by unfold low64; omega] at h
  exact h

theorem parts_five (a0 a1 a2 a3 a4 : ByteArray) (b : Nat) (D : ByteArray) (w : World) (hs : a0.size + a1.size + a2.size + a3.size + a4.size ≤ 900000) (hD : D = tx (sha (parts [a0.data.toList, a1.data.toList, a2.data.toList, a3.data.toList, a4.data.toList]))) (hb : b < w.heap.size)
    (c0 : w.cell? ⟨b, 0, none⟩ = some (.string a0)) (c1 : w.cell? ⟨b, 1, none⟩ = some (.string a1)) (c2 : w.cell? ⟨b, 2, none⟩ = some (.string a2)) (c3 : w.cell? ⟨b, 3, none⟩ = some (.string a3)) (c4 : w.cell? ⟨b, 4, none⟩ = some (.string a4)) :
    Calls Tryz.prog 57 #[.slice (some ⟨b, 0, none⟩) 5 5] w fun e w' => e = .returned (.string D) ∧ Below w.heap.size w w' := by
  rw [hD]
  exact RefSha.parts_ref [a0, a1, a2, a3, a4] b 0 5 w hb (by show 5 ≤ _; omega) (fun i hi => match i, hi with
    | 0, _ => c0
    | 1, _ => c1
    | 2, _ => c2
    | 3, _ => c3
    | 4, _ => c4)
    (by show 0 + (4 + a0.size) + (4 + a1.size) + (4 + a2.size) + (4 + a3.size) + (4 + a4.size) ≤ _; omega)

set_option maxHeartbeats 3200000 in
theorem pair_any (N z a : Nat) (h : Int) (room s V : ByteArray) (w : World) (hN : N ≤ 32) (hz : z ≤ 1000) (ha : a ≤ 1000000) (hs : room.size + s.size ≤ 800000) (hV : V = tx (pairT N room.data.toList z a s.data.toList)) :
    Calls Tryz.prog 64 #[.agg #[.int .i64 (N : Int), .int .i64 h], .string room, .int .i64 (z : Int), .int .i64 (a : Int), .string s] w fun e w' => e = .returned (.string V) ∧ Below w.heap.size w w' := by
  obtain ⟨M0, hM0⟩ : ∃ M, M = tx (num (z : Int) 1) := ⟨_, rfl⟩
  have hs0 : M0.size = 1 := by rw [hM0]; exact num_length _ _
  have R0 := Lib.hid (show ∀ u, Calls Tryz.prog 29 #[.int .u64 (z : Int), .int .i64 1] u fun e w' => e = .returned (.string M0) ∧ Below u.heap.size u w' from fun u => high_small z 1 M0 u (by omega) (by omega) hM0)
  obtain ⟨M1, hM1⟩ : ∃ M, M = tx (num (a : Int) 4) := ⟨_, rfl⟩
  have hs1 : M1.size = 4 := by rw [hM1]; exact num_length _ _
  have R1 := Lib.hid (show ∀ u, Calls Tryz.prog 29 #[.int .u64 (a : Int), .int .i64 4] u fun e w' => e = .returned (.string M1) ∧ Below u.heap.size u w' from fun u => high_small a 4 M1 u (by omega) (by omega) hM1)
  obtain ⟨D, hD⟩ : ∃ D, D = tx (sha (parts [(⟨#[110, 111, 100, 101]⟩ : ByteArray).data.toList, room.data.toList, M0.data.toList, M1.data.toList, s.data.toList])) := ⟨_, rfl⟩
  have hDs : D.size = 32 := by rw [hD]; exact sha_length _
  have hcut : D.extract 0 N = V := cut_take D V N _ hD (by rw [hV, hM0, hM1]; rfl)
  have hN1 : (N : Int) ≤ 32 := by omega
  have hN2 : (N : Int) ≤ D.size := by omega
  have hN3 : (N : Int).toNat = N := by omega
  have RV := Lib.hid (show ∀ (b0 : Nat) (u : World), b0 < u.heap.size → u.cell? ⟨b0, 0, none⟩ = some (.string ⟨#[110, 111, 100, 101]⟩) → u.cell? ⟨b0, 1, none⟩ = some (.string room) → u.cell? ⟨b0, 2, none⟩ = some (.string M0) → u.cell? ⟨b0, 3, none⟩ = some (.string M1) → u.cell? ⟨b0, 4, none⟩ = some (.string s) → Calls Tryz.prog 57 #[.slice (some ⟨b0, 0, none⟩) 5 5] u fun e w' => e = .returned (.string D) ∧ Below u.heap.size u w' from
    fun b0 u h0 d0 d1 d2 d3 d4 => parts_five ⟨#[110, 111, 100, 101]⟩ room M0 M1 s b0 D u (by show 4 + room.size + M0.size + M1.size + s.size ≤ _; omega) hD h0 d0 d1 d2 d3 d4)
  have hw0 : IntKind.u64.wrap (z : Int) = (z : Int) := by rw [IntKind.wrap_u64]; omega
  have hw1 : IntKind.u64.wrap (a : Int) = (a : Int) := by rw [IntKind.wrap_u64]; omega
  clear hV hN hD hDs hM0 hs0 hM1 hs1 hs
  have hK : Kept w 0 (w.alloc (.cells #[.int .i64 (N : Int), .int .i64 h] 23)) := ⟨by simp, ((Below.refl w.heap.size w).alloc (Nat.le_refl _) _)⟩
  have hc0 : (w.alloc (.cells #[.int .i64 (N : Int), .int .i64 h] 23)).cell? ⟨w.heap.size, 0, none⟩ = some (.int .i64 (N : Int)) := by simp
  go_enter Tryz.func64, Tryz.ntmps64
  go_upto_region 1 with (fail)
  generalize (w.alloc (.cells #[.int .i64 (N : Int), .int .i64 h] 23)) = wz at *
  have held_next : ∀ {u u' : World}, (u.cell? ⟨w.heap.size, 0, none⟩ = some (.int .i64 (N : Int)) ∧ Kept w 0 u) → Below u.heap.size u u' → (u'.cell? ⟨w.heap.size, 0, none⟩ = some (.int .i64 (N : Int)) ∧ Kept w 0 u') := by
    rintro u u' ⟨e0, kk⟩ q
    have hr := kk.room
    have hr0 : w.heap.size < u.heap.size := by omega
    exact ⟨(q.cell (p := ⟨w.heap.size, 0, none⟩) (by assumption)).trans e0, kk.next q⟩
  have held_below : ∀ {u : World}, (u.cell? ⟨w.heap.size, 0, none⟩ = some (.int .i64 (N : Int)) ∧ Kept w 0 u) → Below w.heap.size w u := by
    rintro u ⟨-, kk⟩
    exact kk.below
  have HS := Lib.hid (show wz.drew.cell? ⟨w.heap.size, 0, none⟩ = some (.int .i64 (N : Int)) ∧ Kept w 0 wz.drew from ⟨hc0, hK.drew⟩)
  clear hK hc0
  go_region_held3 (fun w' => w'.cell? ⟨w.heap.size, 0, none⟩ = some (.int .i64 (N : Int)) ∧ Kept w 0 w')
    (first | exact HS.out | assumption | exact held_next (by assumption) (by assumption) | exact held_next (by assumption) ((Below.refl _ _).alloc (Nat.le_refl _) _))
    (first
      | (go_at_call 29; with_reducible refine Calls.mono (R0.out _) ?_; rintro e w' ⟨rfl, hb⟩)
      | (go_at_call 29; with_reducible refine Calls.mono (R1.out _) ?_; rintro e w' ⟨rfl, hb⟩)
      | (go_at_call 57; refine Calls.mono (RV.out _ _ (by first | (simp; done) | (simp; omega)) (by first | (simp; done) | (rw [World.cell?_alloc_lt _ _ _ (by simp)]; simp; done)) (by first | (simp; done) | (rw [World.cell?_alloc_lt _ _ _ (by simp)]; simp; done)) (by first | (simp; done) | (rw [World.cell?_alloc_lt _ _ _ (by simp)]; simp; done)) (by first | (simp; done) | (rw [World.cell?_alloc_lt _ _ _ (by simp)]; simp; done)) (by first | (simp; done) | (rw [World.cell?_alloc_lt _ _ _ (by simp)]; simp; done))) ?_; rintro e w' ⟨rfl, hb⟩))
  all_goals
    go_wp2
    go_ret
    exact ⟨rfl, held_below (by assumption)⟩

set_option maxHeartbeats 3200000 in
theorem node_step (N H z a : Nat) (seed room V : ByteArray) (w : World) (hr : Right (N : Int) (H : Int)) (hz : z ≤ H) (ha : a < 2 ^ (H - z)) (hs : seed.size + room.size ≤ 400000) (hV : V = tx (node N seed.data.toList room.data.toList z a))
    (IH : ∀ y, y + 1 = z → ∀ (b : Nat) (U : ByteArray) (u : World), b < 2 ^ (H - y) → U = tx (node N seed.data.toList room.data.toList y b) →
      Calls Tryz.prog 33 #[.agg #[.int .i64 (N : Int), .int .i64 (H : Int)], .string seed, .string room, .agg #[.int .i64 (y : Int), .int .i64 (b : Int)]] u fun e w' => e = .returned (.string U) ∧ Below u.heap.size u w') :
    Calls Tryz.prog 33 #[.agg #[.int .i64 (N : Int), .int .i64 (H : Int)], .string seed, .string room, .agg #[.int .i64 (z : Int), .int .i64 (a : Int)]] w fun e w' => e = .returned (.string V) ∧ Below w.heap.size w w' := by
  have hN : N ≤ 32 := by have := hr.2.1; omega
  have hH : H ≤ 8 := by have := hr.2.2.2; omega
  have R1 := Lib.hid (fun u => RefChn.right_yes N H hr u)
  have RL := Lib.hid (fun (U : ByteArray) (hU : U = tx (leafOf N seed.data.toList room.data.toList (a : Int))) (u : World) => RefChn.leaf_any N H seed room (a : Int) U u hr (by omega) hU)
  have RP := Lib.hid (fun (s U : ByteArray) (hs2 : s.size ≤ 100) (hU : U = tx (pairT N room.data.toList z a s.data.toList)) (u : World) => pair_any N z a H room s U u hN (by omega) (by have := Nat.pow_le_pow_right (show 0 < 2 by omega) (show H - z ≤ 8 by omega); omega) (by omega) hU)
  have hln := fun i j => node_length N seed.data.toList room.data.toList i j hN
  obtain ⟨d, hd⟩ : ∃ d, d = H - z := ⟨_, rfl⟩
  have hd8 : d ≤ 8 := by omega
  obtain ⟨p, hp⟩ : ∃ p, p = 2 ^ d := ⟨_, rfl⟩
  have hp8 : p ≤ 256 := by rw [hp]; exact pow_256 d (by omega)
  have hap : a < p := by rw [hp, hd]; exact ha
  have hpz : (2 : Int) ^ d = (p : Int) := by rw [hp, Int.natCast_pow]; rfl
  have hsub : IntKind.i64.wrap ((H : Int) - (z : Int)) = (d : Int) := by rw [IntKind.wrap_i64]; omega
  have hwd : IntKind.u64.wrap (d : Int) = (d : Int) := by rw [IntKind.wrap_u64]; omega
  have hd1 : decide ((z : Int) < 0) = false := by simp
  have hd2 : decide (H < z) = false := by simp; omega
  have hd3 : decide ((a : Int) < 0) = false := by simp
  have hd4 : decide (p ≤ a) = false := by simp; omega
  have HIH := Lib.hid IH
  have HV := Lib.hid hV
  have HLN := Lib.hid hln
  have HZ := Lib.hid hz
  have HA := Lib.hid ha
  have hz8 : z ≤ 8 := by omega
  clear IH hV hln hr hs hd hp ha hz
  have hB0 := ((Below.refl w.heap.size w).alloc (Nat.le_refl _) (.cells #[.int .i64 (N : Int), .int .i64 (H : Int)] 23)).alloc (by simp) (.cells #[.int .i64 (z : Int), .int .i64 (a : Int)] 49)
  have hc0 : ((w.alloc (.cells #[.int .i64 (N : Int), .int .i64 (H : Int)] 23)).alloc (.cells #[.int .i64 (z : Int), .int .i64 (a : Int)] 49)).cell? ⟨w.heap.size, 0, none⟩ = some (.int .i64 (N : Int)) := by rw [World.cell?_alloc_lt _ _ _ (by simp)]; simp
  have hc1 : ((w.alloc (.cells #[.int .i64 (N : Int), .int .i64 (H : Int)] 23)).alloc (.cells #[.int .i64 (z : Int), .int .i64 (a : Int)] 49)).cell? ⟨w.heap.size, 1, none⟩ = some (.int .i64 (H : Int)) := by rw [World.cell?_alloc_lt _ _ _ (by simp)]; simp
  have hc2 : ((w.alloc (.cells #[.int .i64 (N : Int), .int .i64 (H : Int)] 23)).alloc (.cells #[.int .i64 (z : Int), .int .i64 (a : Int)] 49)).cell? ⟨w.heap.size + 1, 0, none⟩ = some (.int .i64 (z : Int)) := by first | (simp; done) | (rw [World.cell?_alloc_lt _ _ _ (by simp)]; simp)
  have hc3 : ((w.alloc (.cells #[.int .i64 (N : Int), .int .i64 (H : Int)] 23)).alloc (.cells #[.int .i64 (z : Int), .int .i64 (a : Int)] 49)).cell? ⟨w.heap.size + 1, 1, none⟩ = some (.int .i64 (a : Int)) := by first | (simp; done) | (rw [World.cell?_alloc_lt _ _ _ (by simp)]; simp)
  have hlt : w.heap.size + 1 < ((w.alloc (.cells #[.int .i64 (N : Int), .int .i64 (H : Int)] 23)).alloc (.cells #[.int .i64 (z : Int), .int .i64 (a : Int)] 49)).heap.size := by simp
  go_enter Tryz.func33, Tryz.ntmps33
  go_upto_region 1 with (fail)
  generalize ((w.alloc (.cells #[.int .i64 (N : Int), .int .i64 (H : Int)] 23)).alloc (.cells #[.int .i64 (z : Int), .int .i64 (a : Int)] 49)) = wz at *
  have hl0 : w.heap.size < wz.heap.size := by omega
  have HC := Lib.hid (fun (u : World) (q : Below wz.heap.size wz u) => (⟨(q.cell (p := ⟨w.heap.size, 0, none⟩) hl0).trans hc0, (q.cell (p := ⟨w.heap.size, 1, none⟩) hl0).trans hc1⟩ :
    u.cell? ⟨w.heap.size, 0, none⟩ = some (.int .i64 (N : Int)) ∧ u.cell? ⟨w.heap.size, 1, none⟩ = some (.int .i64 (H : Int))))
  have HB0 := Lib.hid hB0
  have HL0 := Lib.hid hl0
  clear hB0 hlt hl0 hc0 hc1
  go_quiet (fail)
  have HY := Lib.hid (belowN (Below.refl wz.heap.size wz) nq)
  generalize wz.drewN nq = wy at *
  clear hc2 hc3
  obtain ⟨c0, c1⟩ := HC.out _ HY.out
  go_wp2_with fail
  refine (R1.out _).mono ?_
  rintro e w1 ⟨rfl, hb1⟩
  have HW1 := Lib.hid (HY.out.trans (hb1.mono HY.out.size))
  clear hb1 c0 c1
  obtain ⟨c0, c1⟩ := HC.out _ HW1.out
  by_cases hz0 : z = 0
  · have he : ((z : Int) == 0) = true := by rw [hz0]; rfl
    have RL1 := Lib.hid (RL.out V (by rw [HV.out, hz0, node]))
    clear hz0
    go_wp2_with fail
    refine (RL1.out _).mono ?_
    rintro e w2 ⟨rfl, hb2⟩
    have HW2 := Lib.hid (HW1.out.trans (hb2.mono HW1.out.size))
    clear hb2
    go_wp2
    go_ret
    exact ⟨rfl, HB0.out.trans (HW2.out.mono (Nat.le_of_lt HL0.out))⟩
  · have he : ((z : Int) == 0) = false := by simp; omega
    obtain ⟨y, hy⟩ : ∃ y, y + 1 = z := ⟨z - 1, by omega⟩
    obtain ⟨b, hb⟩ : ∃ b, b = 2 * a := ⟨_, rfl⟩
    obtain ⟨b', hb'⟩ : ∃ b', b' = b + 1 := ⟨_, rfl⟩
    have hpow : 2 ^ (H - y) = 2 * 2 ^ (H - z) := by rw [show H - y = (H - z) + 1 by have := HZ.out; omega, Nat.pow_succ]; omega
    obtain ⟨X, hX⟩ : ∃ X, X = tx (node N seed.data.toList room.data.toList y b) := ⟨_, rfl⟩
    obtain ⟨Y, hY⟩ : ∃ Y, Y = tx (node N seed.data.toList room.data.toList y b') := ⟨_, rfl⟩
    have hXs : X.size = N := by rw [hX]; exact HLN.out _ _
    have hYs : Y.size = N := by rw [hY]; exact HLN.out _ _
    have I1 := Lib.hid (fun (u : World) => HIH.out y hy b X u (by have := HA.out; omega) hX)
    have I2 := Lib.hid (fun (u : World) => HIH.out y hy b' Y u (by have := HA.out; omega) hY)
    have RP1 := Lib.hid (fun (u : World) => RP.out (X ++ Y) V (by rw [ByteArray.size_append]; omega) (by
      rw [HV.out, ← hy, node, hX, hY, hb', hb, hy]
      simp) u)
    have hw1 : IntKind.i64.wrap ((z : Int) - 1) = (y : Int) := by rw [IntKind.wrap_i64]; omega
    have hw2 : IntKind.i64.wrap (2 * (a : Int)) = (b : Int) := by rw [IntKind.wrap_i64]; omega
    have hw3 : IntKind.i64.wrap ((b : Int) + 1) = (b' : Int) := by rw [IntKind.wrap_i64]; omega
    have hcat : ¬ 9223372036854775807 < X.size + Y.size := by omega
    clear hz0 hy hb hb' hpow hX hY hXs hYs
    go_upto_region 6 with (fail)
    clear c0 c1
    have HC1 := Lib.hid (fun (u : World) (q : Below w1.heap.size w1 u) => HC.out u (HW1.out.trans (q.mono HW1.out.size)))
    refine Steady.region 25 (by kernel_rfl) (by kernel_rfl) (fun u => Below w1.heap.size w1 u) ((Below.refl _ _).drew) ?_
    simp only [List.take_succ_cons, List.take_zero, List.drop_succ_cons, List.drop_zero]
    refine Steady.take ?_ rfl (by intro u hu; obtain ⟨c0, c1⟩ := HC1.out u hu; go_simp; with_reducible rfl) ?_
    simp only [Act.put, List.setIfInBounds_toArray, List.set_cons_zero, List.set_cons_succ]
    refine Steady.take ?_ rfl (by intro u hu; go_simp; with_reducible rfl) ?_
    simp only [Act.put, List.setIfInBounds_toArray, List.set_cons_zero, List.set_cons_succ]
    refine Steady.take ?_ rfl (by intro u hu; go_simp; with_reducible rfl) ?_
    simp only [Act.put, List.setIfInBounds_toArray, List.set_cons_zero, List.set_cons_succ]
    refine Steady.take ?_ rfl (by intro u hu; go_simp; with_reducible rfl) ?_
    simp only [Act.put, List.setIfInBounds_toArray, List.set_cons_zero, List.set_cons_succ]
    refine Steady.take ?_ rfl (by intro u hu; obtain ⟨c0, c1⟩ := HC1.out u hu; go_simp; with_reducible rfl) ?_
    simp only [Act.put, List.setIfInBounds_toArray, List.set_cons_zero, List.set_cons_succ]
    refine Steady.take ?_ rfl (by intro u hu; go_simp; with_reducible rfl) ?_
    simp only [Act.put, List.setIfInBounds_toArray, List.set_cons_zero, List.set_cons_succ]
    refine Steady.take ?_ rfl (by intro u hu; go_simp; with_reducible rfl) ?_
    simp only [Act.put, List.setIfInBounds_toArray, List.set_cons_zero, List.set_cons_succ]
    refine Steady.take ?_ rfl (by intro u hu; go_simp; with_reducible rfl) ?_
    simp only [Act.put, List.setIfInBounds_toArray, List.set_cons_zero, List.set_cons_succ]
    refine Steady.take ?_ rfl (by intro u hu; go_simp; with_reducible rfl) ?_
    simp only [Act.put, List.setIfInBounds_toArray, List.set_cons_zero, List.set_cons_succ]
    refine Steady.take ?_ rfl (by intro u hu; go_simp; with_reducible rfl) ?_
    simp only [Act.put, List.setIfInBounds_toArray, List.set_cons_zero, List.set_cons_succ]
    refine Steady.take ?_ rfl (by intro u hu; go_simp; with_reducible rfl) ?_
    simp only [Act.put, List.setIfInBounds_toArray, List.set_cons_zero, List.set_cons_succ]
    refine Steady.take ?_ rfl (by intro u hu; go_simp; with_reducible rfl) ?_
    simp only [Act.put, List.setIfInBounds_toArray, List.set_cons_zero, List.set_cons_succ]
    refine Steady.call _ _ _ rfl ?_ (Steady.kept I1.out) ?_
    · intro u
      go_simp
    simp only [Act.put, List.setIfInBounds_toArray, List.set_cons_zero, List.set_cons_succ]
    refine Steady.take ?_ rfl (by intro u hu; obtain ⟨c0, c1⟩ := HC1.out u hu; go_simp; with_reducible rfl) ?_
    simp only [Act.put, List.setIfInBounds_toArray, List.set_cons_zero, List.set_cons_succ]
    refine Steady.take ?_ rfl (by intro u hu; go_simp; with_reducible rfl) ?_
    simp only [Act.put, List.setIfInBounds_toArray, List.set_cons_zero, List.set_cons_succ]
    refine Steady.take ?_ rfl (by intro u hu; go_simp; with_reducible rfl) ?_
    simp only [Act.put, List.setIfInBounds_toArray, List.set_cons_zero, List.set_cons_succ]
    refine Steady.take ?_ rfl (by intro u hu; go_simp; with_reducible rfl) ?_
    simp only [Act.put, List.setIfInBounds_toArray, List.set_cons_zero, List.set_cons_succ]
    refine Steady.take ?_ rfl (by intro u hu; go_simp; with_reducible rfl) ?_
    simp only [Act.put, List.setIfInBounds_toArray, List.set_cons_zero, List.set_cons_succ]
    refine Steady.take ?_ rfl (by intro u hu; go_simp; with_reducible rfl) ?_
    simp only [Act.put, List.setIfInBounds_toArray, List.set_cons_zero, List.set_cons_succ]
    refine Steady.take ?_ rfl (by intro u hu; go_simp; with_reducible rfl) ?_
    simp only [Act.put, List.setIfInBounds_toArray, List.set_cons_zero, List.set_cons_succ]
    refine Steady.take ?_ rfl (by intro u hu; go_simp; with_reducible rfl) ?_
    simp only [Act.put, List.setIfInBounds_toArray, List.set_cons_zero, List.set_cons_succ]
    refine Steady.take ?_ rfl (by intro u hu; go_simp; with_reducible rfl) ?_
    simp only [Act.put, List.setIfInBounds_toArray, List.set_cons_zero, List.set_cons_succ]
    refine Steady.call _ _ _ rfl ?_ (Steady.kept I2.out) ?_
    · intro u
      go_simp
    simp only [Act.put, List.setIfInBounds_toArray, List.set_cons_zero, List.set_cons_succ]
    refine Steady.take ?_ rfl (by intro u hu; go_simp; with_reducible rfl) ?_
    simp only [Act.put, List.setIfInBounds_toArray, List.set_cons_zero, List.set_cons_succ]
    refine Steady.call _ _ _ rfl ?_ (Steady.kept RP1.out) ?_
    · intro u
      go_simp
    simp only [Act.put, List.setIfInBounds_toArray, List.set_cons_zero, List.set_cons_succ]
    refine Steady.nil ?_
    intro w5 hb5
    have HW5 := Lib.hid (HW1.out.trans (hb5.mono HW1.out.size))
    clear hb5 hw1 hw2 hw3
    go_wp2
    go_ret
    exact ⟨rfl, HB0.out.trans (HW5.out.mono (Nat.le_of_lt HL0.out))⟩

theorem node_any (N H : Nat) (seed room : ByteArray) (hr : Right (N : Int) (H : Int)) (hs : seed.size + room.size ≤ 400000) (z : Nat) : z ≤ H → ∀ (a : Nat) (V : ByteArray) (w : World), a < 2 ^ (H - z) → V = tx (node N seed.data.toList room.data.toList z a) →
    Calls Tryz.prog 33 #[.agg #[.int .i64 (N : Int), .int .i64 (H : Int)], .string seed, .string room, .agg #[.int .i64 (z : Int), .int .i64 (a : Int)]] w fun e w' => e = .returned (.string V) ∧ Below w.heap.size w w' := by
  induction z with
  | zero => exact fun hz a V w ha hV => node_step N H 0 a seed room V w hr hz ha hs hV (fun y hy => by omega)
  | succ z ih =>
    refine fun hz a V w ha hV => node_step N H (z + 1) a seed room V w hr hz ha hs hV (fun y hy b U u hb hU => ?_)
    obtain rfl : y = z := by omega
    exact ih (by omega) b U u hb hU

set_option maxHeartbeats 3200000 in
theorem node_no (n h hi pl : Int) (seed room : ByteArray) (w : World) (hno : ¬ (Right n h ∧ 0 ≤ hi ∧ hi ≤ h ∧ 0 ≤ pl ∧ pl < 2 ^ (h - hi).toNat)) :
    Calls Tryz.prog 33 #[.agg #[.int .i64 n, .int .i64 h], .string seed, .string room, .agg #[.int .i64 hi, .int .i64 pl]] w fun e w' => e = .returned (.string ⟨#[]⟩) ∧ Below w.heap.size w w' := by
  have hB0 := ((Below.refl w.heap.size w).alloc (Nat.le_refl _) (.cells #[.int .i64 n, .int .i64 h] 23)).alloc (by simp) (.cells #[.int .i64 hi, .int .i64 pl] 49)
  have hc0 : ((w.alloc (.cells #[.int .i64 n, .int .i64 h] 23)).alloc (.cells #[.int .i64 hi, .int .i64 pl] 49)).cell? ⟨w.heap.size, 0, none⟩ = some (.int .i64 n) := by rw [World.cell?_alloc_lt _ _ _ (by simp)]; simp
  have hc1 : ((w.alloc (.cells #[.int .i64 n, .int .i64 h] 23)).alloc (.cells #[.int .i64 hi, .int .i64 pl] 49)).cell? ⟨w.heap.size, 1, none⟩ = some (.int .i64 h) := by rw [World.cell?_alloc_lt _ _ _ (by simp)]; simp
  have hc2 : ((w.alloc (.cells #[.int .i64 n, .int .i64 h] 23)).alloc (.cells #[.int .i64 hi, .int .i64 pl] 49)).cell? ⟨w.heap.size + 1, 0, none⟩ = some (.int .i64 hi) := by first | (simp; done) | (rw [World.cell?_alloc_lt _ _ _ (by simp)]; simp)
  have hc3 : ((w.alloc (.cells #[.int .i64 n, .int .i64 h] 23)).alloc (.cells #[.int .i64 hi, .int .i64 pl] 49)).cell? ⟨w.heap.size + 1, 1, none⟩ = some (.int .i64 pl) := by first | (simp; done) | (rw [World.cell?_alloc_lt _ _ _ (by simp)]; simp)
  have hlt : w.heap.size + 1 < ((w.alloc (.cells #[.int .i64 n, .int .i64 h] 23)).alloc (.cells #[.int .i64 hi, .int .i64 pl] 49)).heap.size := by simp
  go_enter Tryz.func33, Tryz.ntmps33
  go_upto_region 1 with (fail)
  generalize ((w.alloc (.cells #[.int .i64 n, .int .i64 h] 23)).alloc (.cells #[.int .i64 hi, .int .i64 pl] 49)) = wz at *
  have hl0 : w.heap.size < wz.heap.size := by omega
  have HC := Lib.hid (fun (u : World) (q : Below wz.heap.size wz u) => (⟨(q.cell (p := ⟨w.heap.size, 0, none⟩) hl0).trans hc0, (q.cell (p := ⟨w.heap.size, 1, none⟩) hl0).trans hc1⟩ :
    u.cell? ⟨w.heap.size, 0, none⟩ = some (.int .i64 n) ∧ u.cell? ⟨w.heap.size, 1, none⟩ = some (.int .i64 h)))
  have HB0 := Lib.hid hB0
  have HL0 := Lib.hid hl0
  clear hB0 hlt hl0 hc0 hc1
  go_quiet (fail)
  have HY := Lib.hid (belowN (Below.refl wz.heap.size wz) nq)
  generalize wz.drewN nq = wy at *
  clear hc2 hc3
  obtain ⟨c0, c1⟩ := HC.out _ HY.out
  have HNO := Lib.hid hno
  clear hno
  by_cases hr : Right n h
  · have R1 := Lib.hid (fun u => RefChn.right_yes n h hr u)
    have HR := Lib.hid hr
    clear hr
    go_wp2_with fail
    refine (R1.out _).mono ?_
    rintro e w1 ⟨rfl, hb1⟩
    have HW1 := Lib.hid (HY.out.trans (hb1.mono HY.out.size))
    clear hb1 c0 c1
    obtain ⟨c0, c1⟩ := HC.out _ HW1.out
    by_cases h1 : hi < 0
    · have hd1 : decide (hi < 0) = true := by simp [h1]
      go_wp2
      go_ret
      exact ⟨rfl, HB0.out.trans (HW1.out.mono (Nat.le_of_lt HL0.out))⟩
    · have hd1 : decide (hi < 0) = false := by simp; omega
      by_cases h2 : h < hi
      · have hd2 : decide (h < hi) = true := by simp [h2]
        go_wp2
        go_ret
        exact ⟨rfl, HB0.out.trans (HW1.out.mono (Nat.le_of_lt HL0.out))⟩
      · have hd2 : decide (h < hi) = false := by simp; omega
        by_cases h3 : pl < 0
        · have hd3 : decide (pl < 0) = true := by simp [h3]
          go_wp2
          go_ret
          exact ⟨rfl, HB0.out.trans (HW1.out.mono (Nat.le_of_lt HL0.out))⟩
        · have hd3 : decide (pl < 0) = false := by simp; omega
          obtain ⟨d, hd⟩ : ∃ d : Nat, (d : Int) = h - hi := ⟨(h - hi).toNat, by omega⟩
          have hd8 : d ≤ 8 := by have := HR.out.2.2.2; omega
          obtain ⟨p, hp⟩ : ∃ p : Nat, p = 2 ^ d := ⟨_, rfl⟩
          have hp8 : p ≤ 256 := by rw [hp]; exact pow_256 d hd8
          have hpz : (2 : Int) ^ d = (p : Int) := by rw [hp, Int.natCast_pow]; rfl
          have hge : (p : Int) ≤ pl := by
            rcases Int.lt_or_le pl (p : Int) with hx | hx
            · exact absurd ⟨HR.out, by omega, by omega, by omega, by rw [show (h - hi).toNat = d by omega, hpz]; exact hx⟩ HNO.out
            · exact hx
          have hsub : IntKind.i64.wrap (h - hi) = (d : Int) := by rw [hd, IntKind.wrap_i64]; omega
          have hwd : IntKind.u64.wrap (d : Int) = (d : Int) := by rw [IntKind.wrap_u64]; omega
          have hd4 : decide ((p : Int) ≤ pl) = true := by simp [hge]
          clear hp hd h1 h2 h3
          go_wp2
          go_ret
          exact ⟨rfl, HB0.out.trans (HW1.out.mono (Nat.le_of_lt HL0.out))⟩
  · have R1 := Lib.hid (fun u => RefChn.right_no n h hr u)
    clear hr
    go_wp2_with fail
    refine (R1.out _).mono ?_
    rintro e w1 ⟨rfl, hb1⟩
    have HW1 := Lib.hid (HY.out.trans (hb1.mono HY.out.size))
    clear hb1
    go_wp2
    go_ret
    exact ⟨rfl, HB0.out.trans (HW1.out.mono (Nat.le_of_lt HL0.out))⟩
end Go.Proofs.YtkchbilkmoemaaaGreatDoor.RefGrv

namespace Go.Proofs.YtkchbilkmoemaaaGreatDoor.RefGrv
open Go.RowKit Mur Sha Chn Grv
set_option maxRecDepth 100000

theorem le_of_not_lt (lf : Int) (k : Nat) (h : ¬ (0 ≤ lf ∧ lf < 2 ^ k)) (h0 : ¬ lf < 0) (p : Nat) (hp : (2 : Int) ^ k = (p : Int)) : (p : Int) ≤ lf := by
  rw [hp] at h
  omega

set_option maxHeartbeats 3200000 in
theorem path_no (n h lf : Int) (seed room : ByteArray) (w : World) (hno : ¬ (Right n h ∧ 0 ≤ lf ∧ lf < 2 ^ h.toNat)) :
    Calls Tryz.prog 31 #[.agg #[.int .i64 n, .int .i64 h], .string seed, .string room, .int .i64 lf] w fun e w' => e = .returned (.string ⟨#[]⟩) ∧ Below w.heap.size w w' := by
  have hB0 := (Below.refl w.heap.size w).alloc (Nat.le_refl _) (.cells #[.int .i64 n, .int .i64 h] 23)
  have hc0 : (w.alloc (.cells #[.int .i64 n, .int .i64 h] 23)).cell? ⟨w.heap.size, 0, none⟩ = some (.int .i64 n) := by simp
  have hc1 : (w.alloc (.cells #[.int .i64 n, .int .i64 h] 23)).cell? ⟨w.heap.size, 1, none⟩ = some (.int .i64 h) := by simp
  have hl0 : w.heap.size < (w.alloc (.cells #[.int .i64 n, .int .i64 h] 23)).heap.size := by simp
  go_enter Tryz.func31, Tryz.ntmps31
  go_upto_region 1 with (fail)
  generalize w.alloc (.cells #[.int .i64 n, .int .i64 h] 23) = wz at *
  have HC := Lib.hid (fun (u : World) (q : Below wz.heap.size wz u) => (⟨(q.cell (p := ⟨w.heap.size, 0, none⟩) hl0).trans hc0, (q.cell (p := ⟨w.heap.size, 1, none⟩) hl0).trans hc1⟩ :
    u.cell? ⟨w.heap.size, 0, none⟩ = some (.int .i64 n) ∧ u.cell? ⟨w.heap.size, 1, none⟩ = some (.int .i64 h)))
  have HB0 := Lib.hid hB0
  have HL0 := Lib.hid hl0
  have HNO := Lib.hid hno
  clear hB0 hl0 hno
  by_cases hr : Right n h
  · have R1 := Lib.hid (fun u => RefChn.right_yes n h hr u)
    have HR := Lib.hid hr
    clear hr
    go_wp2_with fail
    refine (R1.out _).mono ?_
    rintro e w1 ⟨rfl, hb1⟩
    have HW1 := Lib.hid hb1
    clear hb1 hc0 hc1
    obtain ⟨c0, c1⟩ := HC.out _ HW1.out
    by_cases h3 : lf < 0
    · have hd3 : decide (lf < 0) = true := by simp [h3]
      go_wp2
      go_ret
      exact ⟨rfl, HB0.out.trans (HW1.out.mono (Nat.le_of_lt HL0.out))⟩
    · have hd3 : decide (lf < 0) = false := by simp; omega
      obtain ⟨d, rfl⟩ : ∃ d : Nat, h = (d : Int) := ⟨h.toNat, by have := HR.out.2.2.1; omega⟩
      have hd8 : d ≤ 8 := by have := HR.out.2.2.2; omega
      obtain ⟨p, hp⟩ : ∃ p : Nat, p = 2 ^ d := ⟨_, rfl⟩
      have hp8 : p ≤ 256 := by rw [hp]; exact pow_256 d hd8
      have hpz : (2 : Int) ^ d = (p : Int) := by rw [hp, Int.natCast_pow]; rfl
      have hge : (p : Int) ≤ lf := le_of_not_lt lf d (fun hx => HNO.out ⟨HR.out, hx.1, hx.2⟩) h3 p hpz
      have hwd : IntKind.u64.wrap (d : Int) = (d : Int) := by rw [IntKind.wrap_u64]; omega
      have hd4 : decide ((p : Int) ≤ lf) = true := by simp [hge]
      clear hp h3
      go_wp2
      go_ret
      exact ⟨rfl, HB0.out.trans (HW1.out.mono (Nat.le_of_lt HL0.out))⟩
  · have R1 := Lib.hid (fun u => RefChn.right_no n h hr u)
    clear hr
    go_wp2_with fail
    refine (R1.out _).mono ?_
    rintro e w1 ⟨rfl, hb1⟩
    have HW1 := Lib.hid hb1
    clear hb1
    go_wp2
    go_ret
    exact ⟨rfl, HB0.out.trans (HW1.out.mono (Nat.le_of_lt HL0.out))⟩

set_option maxHeartbeats 3200000 in
theorem path_any (N H lf : Nat) (seed room V : ByteArray) (w : World) (hr : Right (N : Int) (H : Int)) (hlf : lf < 2 ^ H) (hs : seed.size + room.size ≤ 400000) (hV : V = tx (path N H seed.data.toList room.data.toList lf)) :
    Calls Tryz.prog 31 #[.agg #[.int .i64 (N : Int), .int .i64 (H : Int)], .string seed, .string room, .int .i64 (lf : Int)] w fun e w' => e = .returned (.string V) ∧ Below w.heap.size w w' := by
  have hN : N ≤ 32 := by have := hr.2.1; omega
  have hH : H ≤ 8 := by have := hr.2.2.2; omega
  have hl8 := pow_256 H hH
  have R1 := Lib.hid (fun u => RefChn.right_yes N H hr u)
  have RN := Lib.hid (fun (i : Nat) (hi : i < H) (P : ByteArray) (hP : P = tx (pathP N seed.data.toList room.data.toList lf i)) (u : World) => node_any N H seed room hr hs i (by omega) (sib (lf / 2 ^ i)) P u (sib_half_lt lf i H hlf hi) hP)
  have hl := pathP_length N seed.data.toList room.data.toList lf hN
  obtain ⟨F, hF⟩ : ∃ F, F = pathP N seed.data.toList room.data.toList lf := ⟨_, rfl⟩
  rw [← hF] at hl RN
  have hul := upto_length F N hl
  obtain ⟨p, hp⟩ : ∃ p : Nat, p = 2 ^ H := ⟨_, rfl⟩
  have hp8 : p ≤ 256 := by rw [hp]; exact hl8
  have hpz : (2 : Int) ^ H = (p : Int) := by rw [hp, Int.natCast_pow]; rfl
  have hd3 : decide ((lf : Int) < 0) = false := by simp
  have hd4 : decide (p ≤ lf) = false := by simp; omega
  have hwd : IntKind.u64.wrap (H : Int) = (H : Int) := by rw [IntKind.wrap_u64]; omega
  have HV := Lib.hid (show V = tx (upto F H) from by rw [hV, path, hF])
  have HUL := Lib.hid hul
  have HFL := Lib.hid hl
  have HLF := Lib.hid hlf
  have HL8 := Lib.hid hl8
  clear hV hF hul hl hs hr hlf hp hl8
  have hB0 := (Below.refl w.heap.size w).alloc (Nat.le_refl _) (.cells #[.int .i64 (N : Int), .int .i64 (H : Int)] 23)
  have hc0 : (w.alloc (.cells #[.int .i64 (N : Int), .int .i64 (H : Int)] 23)).cell? ⟨w.heap.size, 0, none⟩ = some (.int .i64 (N : Int)) := by simp
  have hc1 : (w.alloc (.cells #[.int .i64 (N : Int), .int .i64 (H : Int)] 23)).cell? ⟨w.heap.size, 1, none⟩ = some (.int .i64 (H : Int)) := by simp
  have hlt : w.heap.size < (w.alloc (.cells #[.int .i64 (N : Int), .int .i64 (H : Int)] 23)).heap.size := by simp
  go_enter Tryz.func31, Tryz.ntmps31
  go_upto_region 1 with (fail)
  generalize w.alloc (.cells #[.int .i64 (N : Int), .int .i64 (H : Int)] 23) = wz at *
  have HC := Lib.hid (fun (u : World) (q : Below wz.heap.size wz u) => (⟨(q.cell (p := ⟨w.heap.size, 0, none⟩) hlt).trans hc0, (q.cell (p := ⟨w.heap.size, 1, none⟩) hlt).trans hc1⟩ : u.cell? ⟨w.heap.size, 0, none⟩ = some (.int .i64 (N : Int)) ∧ u.cell? ⟨w.heap.size, 1, none⟩ = some (.int .i64 (H : Int))))
  have HB0 := Lib.hid hB0
  clear hB0 hlt
  go_wp2_with fail
  refine (R1.out _).mono ?_
  rintro e w1 ⟨rfl, hb1⟩
  have HY1 := Lib.hid hb1
  clear hb1 hc0 hc1
  obtain ⟨c0, c1⟩ := HC.out _ HY1.out
  go_wp2_with fail
  clear c0 c1 hd3 hd4 hpz hwd hp8
  go_loopw [9, 10, 28] (fun x _ i wr => ∃ (k : Nat) (t : ByteArray), k ≤ H ∧ i = .int .i64 k ∧ x = .string t ∧ t = tx (upto F k) ∧ Below wz.heap.size wz wr) (fun _ _ i _ => H - (intOf i).toNat)
  case atStart => exact ⟨0, ⟨#[]⟩, by omega, rfl, rfl, rfl, HY1.out⟩
  case round =>
    clear HY1
    obtain ⟨k, t, hk, rfl, rfl, ht, hbel⟩ := hrel
    have HW := Lib.hid hbel
    have HT := Lib.hid ht
    clear hbel ht
    by_cases hlt : k < H
    · obtain ⟨P, hP⟩ : ∃ P, P = tx (F k) := ⟨_, rfl⟩
      have hPs : P.size = N := by rw [hP]; exact HFL.out k
      have hts : t.size = N * k := by rw [HT.out]; exact HUL.out k
      have hmk : N * k ≤ 32 * 8 := Nat.mul_le_mul hN (by omega)
      have hcat : t.size + P.size ≤ 1000 := by omega
      have hnx : t ++ P = tx (upto F (k + 1)) := by rw [HT.out, hP]; exact (RefChn.upto_next F k).symm
      obtain ⟨U, hU⟩ : ∃ U, U = t ++ P := ⟨_, rfl⟩
      rw [← hU] at hnx
      obtain ⟨x, hx⟩ : ∃ x, x = lf / 2 ^ k := ⟨_, rfl⟩
      obtain ⟨y, hy⟩ : ∃ y, y = sib x := ⟨_, rfl⟩
      have hxl : x ≤ 256 := by have := Nat.div_le_self lf (2 ^ k); have := HLF.out; have := HL8.out; omega
      have hsh : (lf : Int) / 2 ^ k = (x : Int) := by rw [hx, Int.natCast_ediv, Int.natCast_pow]; rfl
      have hxo : bits .xor .i64 (x : Int) 1 = (y : Int) := by rw [hy]; exact xor_one x (by omega)
      have hwk : IntKind.u64.wrap (k : Int) = (k : Int) := by rw [IntKind.wrap_u64]; omega
      have RN1 := Lib.hid (show ∀ (u : World), Calls Tryz.prog 33 #[.agg #[.int .i64 (N : Int), .int .i64 (H : Int)], .string seed, .string room, .agg #[.int .i64 (k : Int), .int .i64 (y : Int)]] u fun e w' => e = .returned (.string P) ∧ Below u.heap.size u w' from fun u => by
        rw [hy, hx]
        exact RN.out k hlt P hP u)
      have HNX := Lib.hid hnx
      have HU := Lib.hid hU
      clear hP hPs hnx hx hy hts hmk hU
      obtain ⟨c0, c1⟩ := HC.out _ HW.out
      go_wp2_with fail
      refine (RN1.out _).mono ?_
      rintro e w5 ⟨rfl, hb5⟩
      have HW5 := Lib.hid (HW.out.trans (hb5.mono HW.out.size))
      clear hb5 hsh hxo hwk c0 c1
      go_wp2
      rw [← HU.out]
      go_roundw
      case rel => exact ⟨k + 1, U, by omega, by go_num, rfl, HNX.out, HW5.out⟩
      case measure => simp [intOf]; omega
    · obtain rfl : k = H := by omega
      have hVV : t = V := by rw [HV.out, HT.out]
      subst hVV
      go_wp2
      go_ret
      exact ⟨rfl, HB0.out.trans (HW.out.mono HB0.out.size)⟩

set_option maxHeartbeats 3200000 in
theorem climb_no (n h lf : Int) (room nd pa : ByteArray) (w : World) (hno : ¬ (Right n h ∧ 0 ≤ lf ∧ lf < 2 ^ h.toNat ∧ (pa.size : Int) = n * h)) :
    Calls Tryz.prog 42 #[.agg #[.int .i64 n, .int .i64 h], .string room, .int .i64 lf, .string nd, .string pa] w fun e w' => e = .returned (.string ⟨#[]⟩) ∧ Below w.heap.size w w' := by
  have hB0 := (Below.refl w.heap.size w).alloc (Nat.le_refl _) (.cells #[.int .i64 n, .int .i64 h] 23)
  have hc0 : (w.alloc (.cells #[.int .i64 n, .int .i64 h] 23)).cell? ⟨w.heap.size, 0, none⟩ = some (.int .i64 n) := by simp
  have hc1 : (w.alloc (.cells #[.int .i64 n, .int .i64 h] 23)).cell? ⟨w.heap.size, 1, none⟩ = some (.int .i64 h) := by simp
  have hl0 : w.heap.size < (w.alloc (.cells #[.int .i64 n, .int .i64 h] 23)).heap.size := by simp
  go_enter Tryz.func42, Tryz.ntmps42
  go_upto_region 1 with (fail)
  generalize w.alloc (.cells #[.int .i64 n, .int .i64 h] 23) = wz at *
  have HC := Lib.hid (fun (u : World) (q : Below wz.heap.size wz u) => (⟨(q.cell (p := ⟨w.heap.size, 0, none⟩) hl0).trans hc0, (q.cell (p := ⟨w.heap.size, 1, none⟩) hl0).trans hc1⟩ :
    u.cell? ⟨w.heap.size, 0, none⟩ = some (.int .i64 n) ∧ u.cell? ⟨w.heap.size, 1, none⟩ = some (.int .i64 h)))
  have HB0 := Lib.hid hB0
  have HL0 := Lib.hid hl0
  have HNO := Lib.hid hno
  clear hB0 hl0 hno
  by_cases hr : Right n h
  · have R1 := Lib.hid (fun u => RefChn.right_yes n h hr u)
    have HR := Lib.hid hr
    clear hr
    go_wp2_with fail
    refine (R1.out _).mono ?_
    rintro e w1 ⟨rfl, hb1⟩
    have HW1 := Lib.hid hb1
    clear hb1 hc0 hc1
    obtain ⟨c0, c1⟩ := HC.out _ HW1.out
    by_cases h3 : lf < 0
    · have hd3 : decide (lf < 0) = true := by simp [h3]
      go_wp2
      go_ret
      exact ⟨rfl, HB0.out.trans (HW1.out.mono (Nat.le_of_lt HL0.out))⟩
    · have hd3 : decide (lf < 0) = false := by simp; omega
      obtain ⟨d, rfl⟩ : ∃ d : Nat, h = (d : Int) := ⟨h.toNat, by have := HR.out.2.2.1; omega⟩
      have hd8 : d ≤ 8 := by have := HR.out.2.2.2; omega
      obtain ⟨p, hp⟩ : ∃ p : Nat, p = 2 ^ d := ⟨_, rfl⟩
      have hp8 : p ≤ 256 := by rw [hp]; exact pow_256 d hd8
      have hpz : (2 : Int) ^ d = (p : Int) := by rw [hp, Int.natCast_pow]; rfl
      have hwd : IntKind.u64.wrap (d : Int) = (d : Int) := by rw [IntKind.wrap_u64]; omega
      by_cases hge : (p : Int) ≤ lf
      · have hd4 : decide ((p : Int) ≤ lf) = true := by simp [hge]
        clear hp h3
        go_wp2
        go_ret
        exact ⟨rfl, HB0.out.trans (HW1.out.mono (Nat.le_of_lt HL0.out))⟩
      · have hd4 : decide ((p : Int) ≤ lf) = false := by simp; omega
        have hn0 := HR.out.1
        have hn1 := HR.out.2.1
        obtain ⟨A, hA⟩ : ∃ A, A = n * (d : Int) := ⟨_, rfl⟩
        have hA1 : A ≤ 256 := by
          have h1 : n * (d : Int) ≤ 32 * 8 := Int.mul_le_mul hn1 (by omega) (by omega) (by omega)
          omega
        have hA0 : 0 ≤ A := by rw [hA]; exact Int.mul_nonneg (by omega) (by omega)
        have hwA : IntKind.i64.wrap (n * (d : Int)) = A := by rw [← hA]; exact IntWalk.i64_in _ (by omega)
        have hne : ((pa.size : Int) != A) = true := by
          rw [bne_iff_ne]
          exact fun e => HNO.out ⟨HR.out, by omega, by rw [show ((d : Int).toNat) = d by omega, hpz]; omega, by rw [e, hA]⟩
        clear hp h3 hA
        go_wp2
        go_ret
        exact ⟨rfl, HB0.out.trans (HW1.out.mono (Nat.le_of_lt HL0.out))⟩
  · have R1 := Lib.hid (fun u => RefChn.right_no n h hr u)
    clear hr
    go_wp2_with fail
    refine (R1.out _).mono ?_
    rintro e w1 ⟨rfl, hb1⟩
    have HW1 := Lib.hid hb1
    clear hb1
    go_wp2
    go_ret
    exact ⟨rfl, HB0.out.trans (HW1.out.mono (Nat.le_of_lt HL0.out))⟩

set_option maxHeartbeats 3200000 in
theorem climb_any (N H lf : Nat) (room nd pa V : ByteArray) (w : World) (hr : Right (N : Int) (H : Int)) (hlf : lf < 2 ^ H) (hpa : pa.size = N * H) (hs : room.size + nd.size ≤ 400000) (hV : V = tx (climb N room.data.toList lf nd.data.toList pa.data.toList H)) :
    Calls Tryz.prog 42 #[.agg #[.int .i64 (N : Int), .int .i64 (H : Int)], .string room, .int .i64 (lf : Int), .string nd, .string pa] w fun e w' => e = .returned (.string V) ∧ Below w.heap.size w w' := by
  have hN : N ≤ 32 := by have := hr.2.1; omega
  have hH : H ≤ 8 := by have := hr.2.2.2; omega
  have hl8 := pow_256 H hH
  have R1 := Lib.hid (fun u => RefChn.right_yes N H hr u)
  have RP := Lib.hid (fun (z a : Nat) (s U : ByteArray) (hz : z ≤ 100) (ha : a ≤ 256) (hs2 : s.size ≤ nd.size + 10000) (hU : U = tx (pairT N room.data.toList z a s.data.toList)) (u : World) => pair_any N z a H room s U u hN (by omega) (by omega) (by omega) hU)
  have hcl := fun k => climb_length N room.data.toList lf nd.data.toList pa.data.toList k hN
  have hmul := fun k (hk : k ≤ H) => show N * k ≤ N * H from Nat.mul_le_mul_left _ hk
  have hNH : N * H ≤ 32 * 8 := Nat.mul_le_mul hN hH
  obtain ⟨A, hA⟩ : ∃ A, A = N * H := ⟨_, rfl⟩
  have hwA : IntKind.i64.wrap ((N : Int) * (H : Int)) = (A : Int) := by
    rw [← Int.natCast_mul, ← hA]
    exact IntWalk.i64_in _ (by omega)
  have heq : ((pa.size : Int) != (A : Int)) = false := by simp; omega
  have HWR := Lib.hid (fun (k : Nat) (hk : k < H) => show IntKind.i64.wrap ((k : Int) * (N : Int)) = ((N * k : Nat) : Int) ∧ IntKind.i64.wrap (((k : Int) + 1) * (N : Int)) = ((N * (k + 1) : Nat) : Int) ∧ IntKind.i64.wrap ((k : Int) + 1) = (k : Int) + 1 ∧ ((N * k : Nat) : Int) ≤ ((N * (k + 1) : Nat) : Int) ∧ ((N * (k + 1) : Nat) : Int) ≤ (pa.size : Int) from by
    have h1 := hmul k (by omega)
    have h2 := hmul (k + 1) hk
    have h3 : N * (k + 1) = N * k + N := Nat.mul_succ _ _
    have e1 : (k : Int) * (N : Int) = ((N * k : Nat) : Int) := by rw [Int.mul_comm]; push_cast; rfl
    have e2 : ((k : Int) + 1) * (N : Int) = ((N * (k + 1) : Nat) : Int) := by rw [Int.mul_comm]; push_cast; rfl
    refine ⟨by rw [e1]; exact IntWalk.i64_in _ (by omega), by rw [e2]; exact IntWalk.i64_in _ (by omega), IntWalk.i64_in _ (by omega), by omega, by omega⟩)
  obtain ⟨K, hK⟩ : ∃ K, K = climb N room.data.toList lf nd.data.toList pa.data.toList := ⟨_, rfl⟩
  have HKS := Lib.hid (show ∀ k, K (k + 1) = asOneT N room.data.toList k (lf / 2 ^ k) (K k) ((pa.data.toList.drop (N * k)).take N) from fun k => by rw [hK]; rfl)
  have HK0 := Lib.hid (show nd = tx (K 0) from by rw [hK]; rfl)
  have HV := Lib.hid (show V = tx (K H) from by rw [hV, hK])
  have HCL := Lib.hid (show ∀ k, (K k).length ≤ nd.size + 32 from by rw [hK]; exact hcl)
  obtain ⟨p, hp⟩ : ∃ p : Nat, p = 2 ^ H := ⟨_, rfl⟩
  have hp8 : p ≤ 256 := by rw [hp]; exact hl8
  have hpz : (2 : Int) ^ H = (p : Int) := by rw [hp, Int.natCast_pow]; rfl
  have hd3 : decide ((lf : Int) < 0) = false := by simp
  have hd4 : decide (p ≤ lf) = false := by simp; omega
  have hwd : IntKind.u64.wrap (H : Int) = (H : Int) := by rw [IntKind.wrap_u64]; omega
  have HLF := Lib.hid hlf
  have HL8 := Lib.hid hl8
  have hnd : nd.size ≤ 400000 := by omega
  clear hV hs hr hlf hpa hcl hmul hNH hA hK hl8 hp
  have hB0 := (Below.refl w.heap.size w).alloc (Nat.le_refl _) (.cells #[.int .i64 (N : Int), .int .i64 (H : Int)] 23)
  have hc0 : (w.alloc (.cells #[.int .i64 (N : Int), .int .i64 (H : Int)] 23)).cell? ⟨w.heap.size, 0, none⟩ = some (.int .i64 (N : Int)) := by simp
  have hc1 : (w.alloc (.cells #[.int .i64 (N : Int), .int .i64 (H : Int)] 23)).cell? ⟨w.heap.size, 1, none⟩ = some (.int .i64 (H : Int)) := by simp
  have hlt : w.heap.size < (w.alloc (.cells #[.int .i64 (N : Int), .int .i64 (H : Int)] 23)).heap.size := by simp
  go_enter Tryz.func42, Tryz.ntmps42
  go_upto_region 1 with (fail)
  generalize w.alloc (.cells #[.int .i64 (N : Int), .int .i64 (H : Int)] 23) = wz at *
  have HC := Lib.hid (fun (u : World) (q : Below wz.heap.size wz u) => (⟨(q.cell (p := ⟨w.heap.size, 0, none⟩) hlt).trans hc0, (q.cell (p := ⟨w.heap.size, 1, none⟩) hlt).trans hc1⟩ : u.cell? ⟨w.heap.size, 0, none⟩ = some (.int .i64 (N : Int)) ∧ u.cell? ⟨w.heap.size, 1, none⟩ = some (.int .i64 (H : Int))))
  have HB0 := Lib.hid hB0
  clear hB0 hlt
  go_wp2_with fail
  refine (R1.out _).mono ?_
  rintro e w1 ⟨rfl, hb1⟩
  have HB1 := Lib.hid hb1
  clear hb1 hc0 hc1
  obtain ⟨c0, c1⟩ := HC.out _ HB1.out
  go_wp2_with fail
  clear c0 c1 hwA heq hd3 hd4 hpz hwd hp8
  go_loopw [3, 11, 12, 40] (fun x _ _ i wr => ∃ (k : Nat) (t : ByteArray), k ≤ H ∧ i = .int .i64 k ∧ x = .string t ∧ t = tx (K k) ∧ Below wz.heap.size wz wr) (fun _ _ _ i _ => H - (intOf i).toNat)
  case atStart => exact ⟨0, nd, by omega, rfl, rfl, HK0.out, HB1.out⟩
  case round =>
    clear HB1
    obtain ⟨k, t, hk, rfl, rfl, ht, hbel⟩ := hrel
    have HW := Lib.hid hbel
    have HT := Lib.hid ht
    clear hbel ht
    by_cases hlt : k < H
    · obtain ⟨e1, e2, e3, e4, e5⟩ := HWR.out k hlt
      have hT := Grv.piece_cut pa (N * k) N (N * (k + 1)) (Nat.mul_succ _ _)
      obtain ⟨T, hTT⟩ : ∃ T, T = pa.extract (N * k) (N * (k + 1)) := ⟨_, rfl⟩
      rw [← hTT] at hT
      have hcut := hTT.symm
      have hTs : T.size ≤ 1000 := by rw [hT]; show ((pa.data.toList.drop (N * k)).take N).length ≤ 1000; rw [List.length_take]; omega
      have hts : t.size ≤ nd.size + 32 := by rw [HT.out]; exact HCL.out k
      have hcat : t.size + T.size ≤ 500000 := by omega
      have hcat2 : T.size + t.size ≤ 500000 := by omega
      obtain ⟨x, hx⟩ : ∃ x, x = lf / 2 ^ k := ⟨_, rfl⟩
      obtain ⟨x2, hx2⟩ : ∃ x2, x2 = x / 2 := ⟨_, rfl⟩
      have hxl : x ≤ 256 := by have := Nat.div_le_self lf (2 ^ k); have := HLF.out; have := HL8.out; omega
      have hsh : (lf : Int) / 2 ^ k = (x : Int) := by rw [hx, Int.natCast_ediv, Int.natCast_pow]; rfl
      have hsh2 : (lf : Int) / 2 ^ (k + 1) = (x2 : Int) := by rw [hx2, hx, Nat.div_div_eq_div_mul, ← Nat.pow_succ, Int.natCast_ediv, Int.natCast_pow]; rfl
      have hand : bits .and .i64 (x : Int) 1 = ((x % 2 : Nat) : Int) := and_one x (by omega)
      have hwk : IntKind.u64.wrap (k : Int) = (k : Int) := by rw [IntKind.wrap_u64]; omega
      have hwk1 : IntKind.u64.wrap ((k : Int) + 1) = (k : Int) + 1 := by rw [IntKind.wrap_u64]; omega
      obtain ⟨V2, hV2⟩ : ∃ V2, V2 = tx (K (k + 1)) := ⟨_, rfl⟩
      obtain ⟨S, hS⟩ : ∃ S, S = if x % 2 = 1 then T ++ t else t ++ T := ⟨_, rfl⟩
      have hSl : S.data.toList = if x % 2 = 1 then T.data.toList ++ t.data.toList else t.data.toList ++ T.data.toList := by rw [hS]; split <;> simp
      have RP1 := Lib.hid (show ∀ (u : World), Calls Tryz.prog 64 #[.agg #[.int .i64 (N : Int), .int .i64 (H : Int)], .string room, .int .i64 ((k : Int) + 1), .int .i64 (x2 : Int), .string S] u fun e w' => e = .returned (.string V2) ∧ Below u.heap.size u w' from fun u =>
        RP.out (k + 1) x2 S V2 (by omega) (by omega) (by rw [hS]; split <;> rw [ByteArray.size_append] <;> omega) (by
          rw [hV2, HKS.out, asOneT, hSl, ← hx, hx2, HT.out, hT]) u)
      have HV2 := Lib.hid hV2
      have HX := Lib.hid hts
      clear hT hTT hx hV2 hx2 hSl hTs hts
      obtain ⟨a, ha⟩ : ∃ a, a = N * k := ⟨_, rfl⟩
      obtain ⟨b, hb⟩ : ∃ b, b = N * (k + 1) := ⟨_, rfl⟩
      rw [← ha] at e1 e4 hcut
      rw [← hb] at e2 e4 e5 hcut
      have e6 : (0 : Int) ≤ (a : Int) := by omega
      have e7 : (0 : Int) ≤ (b : Int) := by omega
      have e8 : (a : Int).toNat = a := by omega
      have e9 : (b : Int).toNat = b := by omega
      clear ha hb
      obtain ⟨c0, c1⟩ := HC.out _ HW.out
      by_cases ho : x % 2 = 1
      · rw [if_pos ho] at hS
        have he : (((x % 2 : Nat) : Int) == 0) = false := by rw [ho]; rfl
        go_upto_region 10 with (fail)
        rw [← hS]
        clear hS he hand hcut e1 e2 e4 e5 e6 e7 e8 e9 hsh ho
        go_wp2_with fail
        refine (RP1.out _).mono ?_
        rintro e w5 ⟨rfl, hb5⟩
        have HW5 := Lib.hid (HW.out.trans (hb5.mono HW.out.size))
        clear hb5 hsh2 e3 hwk hwk1 c0 c1
        go_wp2
        go_roundw
        case rel => exact ⟨k + 1, V2, by omega, by go_num, rfl, HV2.out, HW5.out⟩
        case measure => simp [intOf]; omega
      · rw [if_neg ho] at hS
        have he : (((x % 2 : Nat) : Int) == 0) = true := by rw [show x % 2 = 0 by omega]; rfl
        go_upto_region 10 with (fail)
        rw [← hS]
        clear hS he hand hcut e1 e2 e4 e5 e6 e7 e8 e9 hsh ho
        go_wp2_with fail
        refine (RP1.out _).mono ?_
        rintro e w5 ⟨rfl, hb5⟩
        have HW5 := Lib.hid (HW.out.trans (hb5.mono HW.out.size))
        clear hb5 hsh2 e3 hwk hwk1 c0 c1
        go_wp2
        go_roundw
        case rel => exact ⟨k + 1, V2, by omega, by go_num, rfl, HV2.out, HW5.out⟩
        case measure => simp [intOf]; omega
    · obtain rfl : k = H := by omega
      have hVV : t = V := by rw [HV.out, HT.out]
      subst hVV
      go_wp2
      go_ret
      exact ⟨rfl, HB0.out.trans (HW.out.mono HB0.out.size)⟩
end Go.Proofs.YtkchbilkmoemaaaGreatDoor.RefGrv
