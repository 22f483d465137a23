/-
  Node of package grove answers what the plain mathematics of the text Grv says, and leaves all memory that was there as it was. Conditions: seed and room have together no more than 2^35 bytes; the constant table of package digest lies as the program's text lays it.
-/
import Derived.Test.YtncafbejgidliaaDoorGrvB
namespace Go.Proofs.YtncafbejgidliaaDoor.Grv
open Go.RowKit Mur Sha Chn
set_option maxRecDepth 100000

theorem pow_256 (k : Nat) (h : k ≤ 8) : 2 ^ k ≤ 256 := Nat.pow_le_pow_right (by omega) h
theorem place_lt (a z H : Nat) (hz : z ≤ H) (hH : H ≤ 8) (ha : a < 2 ^ (H - z)) : a * 2 ^ z + 2 ^ z ≤ 256 := by
  have h1 : (a + 1) * 2 ^ z ≤ 2 ^ (H - z) * 2 ^ z := Nat.mul_le_mul_right _ ha
  rw [← Nat.pow_add, show H - z + z = H by omega, Nat.succ_mul] at h1
  exact Nat.le_trans h1 (pow_256 H hH)
theorem shift_place (a z i : Nat) (hi : i ≤ z) : a * 2 ^ z / 2 ^ i = a * 2 ^ (z - i) := by
  rw [show z = (z - i) + i by omega, Nat.pow_add, ← Nat.mul_assoc, Nat.mul_div_cancel _ (Nat.two_pow_pos i), show z - i + i - i = z - i by omega]
theorem node_up (N : Nat) (seed room : List UInt8) (i c j : Nat) : node N seed room (i + 1) (c + j) = asOneT N room i (2 * c + 2 * j) (node N seed room i (2 * c + 2 * j)) (node N seed room i (2 * c + (2 * j + 1))) := by
  have h := asOne_node N seed room i (2 * c + 2 * j)
  have e : sib (2 * c + 2 * j) = 2 * c + (2 * j + 1) := by unfold sib; rw [if_neg (by omega)]; omega
  rw [e, show (2 * c + 2 * j) / 2 = c + j by omega] at h
  exact h.symm

set_option maxHeartbeats 3200000 in
theorem node_any (N H z a : Nat) (seed room V : ByteArray) (w : World) (hr : Right (N : Int) (H : Int)) (hz : z ≤ H) (ha : a < 2 ^ (H - z)) (hs : seed.size + room.size ≤ 34359738368) (hV : V = tx (node N seed.data.toList room.data.toList z a)) (hk : Consts w) :
    Calls Tryd.prog 8 #[.agg #[.int .i64 (N : Int), .int .i64 (H : Int)], .string seed, .string room, .agg #[.int .i64 (z : Int), .int .i64 (a : Int)]] w fun e w' => e = .returned (.string V) ∧ Below w.heap.size w w' := by
  have hN : N ≤ 32 := by have := hr.2.1; omega
  have hH : H ≤ 8 := by have := hr.2.2.2; omega
  have R1 := Lib.hid (fun u => right_yes N H hr u)
  have R2 := Lib.hid (show ∀ u, Calls Tryd.prog 20 #[.int .i64 (a : Int), .int .i64 ((H : Int) - (z : Int))] u fun e w' => e = .returned (.bool true) ∧ Below u.heap.size u w' from fun u => by
    have h := among_any (a : Int) (H - z) (by omega) u
    have e1 : ((H - z : Nat) : Int) = (H : Int) - (z : Int) := by omega
    have e2 : decide (0 ≤ (a : Int) ∧ (a : Int) < 2 ^ (H - z)) = true := by
      have h2 : ((a : Nat) : Int) < ((2 ^ (H - z) : Nat) : Int) := Int.ofNat_lt.2 ha
      rw [Int.natCast_pow] at h2
      simp only [decide_eq_true_eq]
      exact ⟨by omega, h2⟩
    rw [e1, e2] at h
    exact h)
  have RL := Lib.hid (fun (i : Nat) (V : ByteArray) (u : World) (hV : V = tx (leafOf N seed.data.toList room.data.toList (i : Int))) (hu : Consts u) => leaf_any N H seed room (i : Int) V u hr (by omega) hV hu)
  have RP := Lib.hid (fun (i f m : Nat) (b cap : Nat) (G F : Nat → List UInt8) (u : World) (hi : i ≤ 100) (hf : f + 2 * m ≤ 1000000) (hG : ∀ j, j < 2 * m → (G j).length ≤ 1000000) (hb : b < u.heap.size) (hc : ∀ j, j < 2 * m → u.cell? ⟨b, j, none⟩ = some (.string (tx (G j)))) (hF : ∀ j, j < m → F j = asOneT N room.data.toList i (f + 2 * j) (G (2 * j)) (G (2 * j + 1))) (hu : Consts u) =>
    paired_any N i f m H room b cap G u hN hi hf (by omega) hG hb hc F hF hu)
  have hpl := place_lt a z H hz hH ha
  obtain ⟨p, hp⟩ : ∃ p, p = 2 ^ z := ⟨_, rfl⟩
  obtain ⟨f, hf⟩ : ∃ f, f = a * p := ⟨_, rfl⟩
  rw [← hp, ← hf] at hpl
  have hpz : (2 : Int) ^ z = (p : Int) := by rw [hp, Int.natCast_pow]; rfl
  have hfw : IntKind.i64.wrap ((a : Int) * (p : Int)) = (f : Int) := by rw [hf, IntKind.wrap_i64, ← Int.natCast_mul]; omega
  have hsub : IntKind.i64.wrap ((H : Int) - (z : Int)) = (H : Int) - (z : Int) := by rw [IntKind.wrap_i64]; omega
  have hd1 : decide ((z : Int) < 0) = false := by simp
  have hd2 : decide (H < z) = false := by simp; omega
  have hl := fun i j => Nat.le_of_eq (node_length N seed.data.toList room.data.toList i j hN)
  have HP := Lib.hid hp
  have HF := Lib.hid hf
  have HV := Lib.hid hV
  have HZ := Lib.hid hz
  have HHL := Lib.hid hl
  have hz8 : z ≤ 8 := by omega
  clear hr hs hV hp hf ha hl
  have hmk : ∀ u : World, (Instr.makeSlice 36 (.int .i64 (p : Int)) (.int .i64 (p : Int))).run Tryd.prog u = .ok (.slice (some ⟨u.heap.size, 0, none⟩) p p) (u.alloc (.cells (madeCells #[.string ⟨#[]⟩] p) 9)) := fun u => Strs.make_str u p (by omega)
  have hB0 := ((Below.refl w.heap.size w).alloc (Nat.le_refl _) (.cells #[.int .i64 (N : Int), .int .i64 (H : Int)] 23)).alloc (by simp) (.cells #[.int .i64 (z : Int), .int .i64 (a : Int)] 24)
  have hc0 : ((w.alloc (.cells #[.int .i64 (N : Int), .int .i64 (H : Int)] 23)).alloc (.cells #[.int .i64 (z : Int), .int .i64 (a : Int)] 24)).cell? ⟨w.heap.size, 0, none⟩ = some (.int .i64 (N : Int)) := by rw [World.cell?_alloc_lt _ _ _ (by simp)]; simp
  have hc1 : ((w.alloc (.cells #[.int .i64 (N : Int), .int .i64 (H : Int)] 23)).alloc (.cells #[.int .i64 (z : Int), .int .i64 (a : Int)] 24)).cell? ⟨w.heap.size, 1, none⟩ = some (.int .i64 (H : Int)) := by rw [World.cell?_alloc_lt _ _ _ (by simp)]; simp
  have hc2 : ((w.alloc (.cells #[.int .i64 (N : Int), .int .i64 (H : Int)] 23)).alloc (.cells #[.int .i64 (z : Int), .int .i64 (a : Int)] 24)).cell? ⟨w.heap.size + 1, 0, none⟩ = some (.int .i64 (z : Int)) := by first | (simp; done) | (rw [World.cell?_alloc_lt _ _ _ (by simp)]; simp)
  have hc3 : ((w.alloc (.cells #[.int .i64 (N : Int), .int .i64 (H : Int)] 23)).alloc (.cells #[.int .i64 (z : Int), .int .i64 (a : Int)] 24)).cell? ⟨w.heap.size + 1, 1, none⟩ = some (.int .i64 (a : Int)) := by first | (simp; done) | (rw [World.cell?_alloc_lt _ _ _ (by simp)]; simp)
  have hlt : w.heap.size + 1 < ((w.alloc (.cells #[.int .i64 (N : Int), .int .i64 (H : Int)] 23)).alloc (.cells #[.int .i64 (z : Int), .int .i64 (a : Int)] 24)).heap.size := by simp
  have HMK := Lib.hid hmk
  clear hmk
  go_enter Tryd.func8, Tryd.ntmps8
  go_upto_region 1 with (fail)
  generalize ((w.alloc (.cells #[.int .i64 (N : Int), .int .i64 (H : Int)] 23)).alloc (.cells #[.int .i64 (z : Int), .int .i64 (a : Int)] 24)) = wz at *
  have hl0 : w.heap.size < wz.heap.size := by omega
  have HC := Lib.hid (fun (u : World) (q : Below wz.heap.size wz u) => (⟨(q.cell (p := ⟨w.heap.size, 0, none⟩) hl0).trans hc0, (q.cell (p := ⟨w.heap.size, 1, none⟩) hl0).trans hc1, hk.below hk.1 (hB0.trans (q.mono (Nat.le_of_lt hl0)))⟩ :
    u.cell? ⟨w.heap.size, 0, none⟩ = some (.int .i64 (N : Int)) ∧ u.cell? ⟨w.heap.size, 1, none⟩ = some (.int .i64 (H : Int)) ∧ Consts u))
  have HB0 := Lib.hid hB0
  have HL0 := Lib.hid hl0
  clear hB0 hk hlt hl0 hc0 hc1
  go_quiet (fail)
  have HY := Lib.hid (belowN (Below.refl wz.heap.size wz) nq)
  generalize wz.drewN nq = wy at *
  clear hc2 hc3
  obtain ⟨c0, c1, -⟩ := HC.out _ HY.out
  go_wp2_with fail
  refine (R1.out _).mono ?_
  rintro e w1 ⟨rfl, hb1⟩
  have HW1 := Lib.hid (HY.out.trans (hb1.mono HY.out.size))
  clear hb1 c0 c1
  obtain ⟨c0, c1, -⟩ := HC.out _ HW1.out
  go_wp2_with fail
  refine (R2.out _).mono ?_
  rintro e w2 ⟨rfl, hb2⟩
  have HW2 := Lib.hid (HW1.out.trans (hb2.mono HW1.out.size))
  clear hb2 c0 c1 HW1 HY
  have hmk := HMK.out
  go_upto_region 6 with (fail)
  clear hmk HMK hsub hd1 hd2 hpz hfw
  have hB3 := HW2.out.alloc HW2.out.size (.cells (madeCells #[.string ⟨#[]⟩] p) 9)
  have hrow0 := made_strs w2 p
  obtain ⟨F0, hF0⟩ : ∃ F0 : Nat → List UInt8, F0 = fun j => node N seed.data.toList room.data.toList 0 (f + j) := ⟨_, rfl⟩
  rw [← rowK_zero F0 p] at hrow0
  have hgz := HW2.out.size
  have hlt3 : w2.heap.size < (w2.alloc (.cells (madeCells #[.string ⟨#[]⟩] p) 9)).heap.size := by simp
  generalize w2.alloc (.cells (madeCells #[.string ⟨#[]⟩] p) 9) = w3 at *
  obtain ⟨g, hg⟩ : ∃ g, g = w2.heap.size := ⟨_, rfl⟩
  rw [← hg] at hrow0 hgz hlt3 ⊢
  have HROW0 := Lib.hid hrow0
  have HB3 := Lib.hid hB3
  have HGZ := Lib.hid hgz
  have HF0 := Lib.hid hF0
  clear hg hB3 hrow0 hgz HW2 hlt3 hF0
  go_wp2_with fail
  go_loopw [13, 49] (fun _ i wr => ∃ k : Nat, k ≤ p ∧ i = .int .i64 k ∧ Row wr g (Strs.strsV (rowK F0 p k)) ∧ Below wz.heap.size wz wr) (fun _ i _ => p - (intOf i).toNat)
  case atStart => exact ⟨0, by omega, rfl, HROW0.out, HB3.out⟩
  case round =>
    clear HROW0 HB3
    obtain ⟨k, hk, rfl, hrow, hbel⟩ := hrel
    have HROW := Lib.hid hrow
    have HW := Lib.hid hbel
    clear hrow hbel
    by_cases hlt : k < p
    · obtain ⟨n, hn⟩ : ∃ n, n = f + k := ⟨_, rfl⟩
      have hw1 : IntKind.i64.wrap ((f : Int) + (k : Int)) = (n : Int) := by rw [IntKind.wrap_i64]; omega
      have hw2 : (f : Int) + (k : Int) = (n : Int) := by omega
      obtain ⟨T, hT⟩ : ∃ T, T = tx (F0 k) := ⟨_, rfl⟩
      have RL1 := Lib.hid (fun u hu => RL.out n T u (by rw [hT, HF0.out, hn]; rfl) hu)
      have hst : (Strs.strsV (rowK F0 p k)).set k (.string T) = Strs.strsV (rowK F0 p (k + 1)) := by rw [hT]; exact rowK_set F0 p k
      have HST := Lib.hid hst
      clear hst hT hn
      obtain ⟨c0, c1, hk4⟩ := HC.out _ HW.out
      have HK4 := Lib.hid hk4
      clear hk4
      go_wp2_with fail
      refine (RL1.out _ HK4.out).mono ?_
      rintro e w5 ⟨rfl, hb5⟩
      have hrow5 := HROW.out.below HROW.out.lt hb5
      have hcs := hrow5.cell (i := k) (v := .string (if k < k then tx (F0 k) else ⟨#[]⟩)) (by simp [rowK, Strs.strsV, hlt])
      have hfs := hrow5.free (i := k) (by rw [Strs.strsV_length, rowK_length]; exact hlt)
      have hset := hrow5.set k (.string T)
      rw [HST.out] at hset
      have HS := Lib.hid hset
      have HW5 := Lib.hid ((HW.out.trans (hb5.mono HW.out.size)).setCell (p := ⟨g, k, none⟩) HGZ.out (.string T))
      clear hrow5 hset hb5 c0 c1
      go_wp2
      go_roundw
      case rel =>
        exact ⟨k + 1, by omega, by go_num, HS.out, HW5.out⟩
      case measure => simp [intOf]; omega
    · obtain rfl : k = p := by omega
      go_wp2_with fail
      go_loopw [12, 14, 64] (fun v _ i wr => ∃ (q g m : Nat) (F : Nat → List UInt8), q ≤ z ∧ i = .int .i64 q ∧ m = 2 ^ (z - q) ∧ v = .slice (some ⟨g, 0, none⟩) m m ∧ wz.heap.size ≤ g ∧ (∀ j, F j = node N seed.data.toList room.data.toList q (a * m + j)) ∧ Row wr g (Strs.strsV (rowK F m m)) ∧ Below wz.heap.size wz wr) (fun _ _ i _ => z - (intOf i).toNat)
      case atStart => exact ⟨0, g, k, F0, by omega, rfl, HP.out, rfl, HGZ.out, fun j => by rw [HF0.out, HF.out], HROW.out, HW.out⟩
      case round =>
        clear HROW HW HF0 HGZ
        obtain ⟨q, g, m, F, hq, rfl, hm, rfl, hgz, hFj, hrow, hbel⟩ := hrel
        have HROW := Lib.hid hrow
        have HW := Lib.hid hbel
        have HGZ := Lib.hid hgz
        have HFJ := Lib.hid hFj
        clear hrow hbel hgz hFj
        by_cases hlt : q < z
        · obtain ⟨m', hm'⟩ : ∃ m', m' = 2 ^ (z - (q + 1)) := ⟨_, rfl⟩
          obtain rfl : m = 2 * m' := by rw [hm, hm', show z - q = (z - (q + 1)) + 1 by omega, Nat.pow_succ]; omega
          obtain ⟨c, hc⟩ : ∃ c, c = a * m' := ⟨_, rfl⟩
          obtain ⟨f', hf'⟩ : ∃ f', f' = 2 * c := ⟨_, rfl⟩
          have hfm : f' = a * (2 * m') := by rw [hf', hc, Nat.mul_left_comm]
          have hfq : f / 2 ^ q = f' := by rw [HF.out, HP.out, shift_place a z q (by omega), ← hm, hfm]
          have hsh : (f : Int) / 2 ^ q = (f' : Int) := by rw [← hfq, Int.natCast_ediv, Int.natCast_pow]; rfl
          have hk2 : 2 * m' ≤ k := by rw [HP.out, hm]; exact Nat.pow_le_pow_right (by omega) (by omega)
          have hff : f' ≤ f := by rw [← hfq]; exact Nat.div_le_self _ _
          obtain ⟨F', hF'⟩ : ∃ F' : Nat → List UInt8, F' = fun j => node N seed.data.toList room.data.toList (q + 1) (c + j) := ⟨_, rfl⟩
          have RP1 := Lib.hid (fun (u : World) (hb : Below wr.heap.size wr u) => RP.out q f' m' g (2 * m') F F' u (by omega) (by omega) (fun j _ => Nat.le_trans (by rw [HFJ.out]; exact HHL.out _ _) (by omega : N ≤ 1000000)) (Nat.lt_of_lt_of_le HROW.out.lt hb.size)
            (fun j hj => (row_cell (HROW.out.below HROW.out.lt hb) (rowK_at F (2 * m') (2 * m') j hj hj)))
            (fun j _ => by rw [hF', HFJ.out, HFJ.out, ← hfm, hf']; exact node_up N _ _ q c j) (HC.out u (HW.out.trans (hb.mono HW.out.size))).2.2)
          have HF' := Lib.hid (show ∀ j, F' j = node N seed.data.toList room.data.toList (q + 1) (a * m' + j) from fun j => by rw [hF', hc])
          have HM' := Lib.hid hm'
          clear hm' hm hc hf' hfm hfq hF'
          go_upto_region 14 with (fail)
          refine Steady.region 7 (by kernel_rfl) (by kernel_rfl) (fun u => Below wr.heap.size wr u) ((Below.refl _ _).drew) ?_
          simp only [List.take_succ_cons, List.take_zero, List.drop_succ_cons, List.drop_zero]
          refine Steady.take ?_ rfl (by intro u hu; obtain ⟨c0, c1, -⟩ := HC.out u (HW.out.trans (hu.mono HW.out.size)); go_simp; with_reducible rfl) ?_
          simp only [Act.put, List.setIfInBounds_toArray, List.set_cons_zero, List.set_cons_succ]
          refine Steady.take ?_ rfl (by intro u hu; go_simp; with_reducible rfl) ?_
          simp only [Act.put, List.setIfInBounds_toArray, List.set_cons_zero, List.set_cons_succ]
          refine Steady.take ?_ rfl (by intro u hu; go_simp; with_reducible rfl) ?_
          simp only [Act.put, List.setIfInBounds_toArray, List.set_cons_zero, List.set_cons_succ]
          refine Steady.take ?_ rfl (by intro u hu; go_simp; with_reducible rfl) ?_
          simp only [Act.put, List.setIfInBounds_toArray, List.set_cons_zero, List.set_cons_succ]
          refine Steady.take ?_ rfl (by intro u hu; go_simp; with_reducible rfl) ?_
          simp only [Act.put, List.setIfInBounds_toArray, List.set_cons_zero, List.set_cons_succ]
          refine Steady.take ?_ rfl (by intro u hu; go_simp; with_reducible rfl) ?_
          simp only [Act.put, List.setIfInBounds_toArray, List.set_cons_zero, List.set_cons_succ]
          refine Steady.take ?_ rfl (by intro u hu; go_simp; with_reducible rfl) ?_
          simp only [Act.put, List.setIfInBounds_toArray, List.set_cons_zero, List.set_cons_succ]
          refine Steady.nil ?_
          intro w5 hb5
          have HB5 := Lib.hid hb5
          clear hb5
          go_wp2_with fail
          refine (RP1.out _ HB5.out).mono ?_
          rintro e w6 ⟨g', rfl, hg', hrow', hb6⟩
          have HROW' := Lib.hid hrow'
          have HW6 := Lib.hid ((HW.out.trans (HB5.out.mono HW.out.size)).trans (hb6.mono (Nat.le_trans HW.out.size HB5.out.size)))
          have HG6 := Lib.hid (show wz.heap.size ≤ g' from Nat.le_trans (Nat.le_trans HW.out.size HB5.out.size) hg')
          clear hrow' hb6 hg' hsh
          go_wp2
          go_roundw
          case rel =>
            exact ⟨q + 1, g', m', F', by omega, by go_num, HM'.out, rfl, HG6.out, HF'.out, HROW'.out, HW6.out⟩
          case measure => simp [intOf]; omega
        · obtain rfl : q = z := by omega
          rw [Nat.sub_self, Nat.pow_zero] at hm
          subst hm
          have hcell := row_cell HROW.out (rowK_at F 1 1 0 (by omega) (by omega))
          have hVV : tx (F 0) = V := by rw [HV.out, HFJ.out, Nat.mul_one, Nat.add_zero]
          rw [hVV] at hcell
          clear hVV
          go_wp2
          go_ret
          exact ⟨rfl, HB0.out.trans (HW.out.mono (Nat.le_of_lt HL0.out))⟩

set_option maxHeartbeats 3200000 in
theorem node_no (n h hi pl : Int) (seed room : ByteArray) (w : World) (hno : ¬ (Right n h ∧ 0 ≤ hi ∧ hi ≤ h ∧ 0 ≤ pl ∧ pl < 2 ^ (h - hi).toNat)) :
    Calls Tryd.prog 8 #[.agg #[.int .i64 n, .int .i64 h], .string seed, .string room, .agg #[.int .i64 hi, .int .i64 pl]] w fun e w' => e = .returned (.string ⟨#[]⟩) ∧ Below w.heap.size w w' := by
  have hB0 := ((Below.refl w.heap.size w).alloc (Nat.le_refl _) (.cells #[.int .i64 n, .int .i64 h] 23)).alloc (by simp) (.cells #[.int .i64 hi, .int .i64 pl] 24)
  have hc0 : ((w.alloc (.cells #[.int .i64 n, .int .i64 h] 23)).alloc (.cells #[.int .i64 hi, .int .i64 pl] 24)).cell? ⟨w.heap.size, 0, none⟩ = some (.int .i64 n) := by rw [World.cell?_alloc_lt _ _ _ (by simp)]; simp
  have hc1 : ((w.alloc (.cells #[.int .i64 n, .int .i64 h] 23)).alloc (.cells #[.int .i64 hi, .int .i64 pl] 24)).cell? ⟨w.heap.size, 1, none⟩ = some (.int .i64 h) := by rw [World.cell?_alloc_lt _ _ _ (by simp)]; simp
  have hc2 : ((w.alloc (.cells #[.int .i64 n, .int .i64 h] 23)).alloc (.cells #[.int .i64 hi, .int .i64 pl] 24)).cell? ⟨w.heap.size + 1, 0, none⟩ = some (.int .i64 hi) := by first | (simp; done) | (rw [World.cell?_alloc_lt _ _ _ (by simp)]; simp)
  have hc3 : ((w.alloc (.cells #[.int .i64 n, .int .i64 h] 23)).alloc (.cells #[.int .i64 hi, .int .i64 pl] 24)).cell? ⟨w.heap.size + 1, 1, none⟩ = some (.int .i64 pl) := by first | (simp; done) | (rw [World.cell?_alloc_lt _ _ _ (by simp)]; simp)
  have hlt : w.heap.size + 1 < ((w.alloc (.cells #[.int .i64 n, .int .i64 h] 23)).alloc (.cells #[.int .i64 hi, .int .i64 pl] 24)).heap.size := by simp
  go_enter Tryd.func8, Tryd.ntmps8
  go_upto_region 1 with (fail)
  generalize ((w.alloc (.cells #[.int .i64 n, .int .i64 h] 23)).alloc (.cells #[.int .i64 hi, .int .i64 pl] 24)) = wz at *
  have hl0 : w.heap.size < wz.heap.size := by omega
  have HC := Lib.hid (fun (u : World) (q : Below wz.heap.size wz u) => (⟨(q.cell (p := ⟨w.heap.size, 0, none⟩) hl0).trans hc0, (q.cell (p := ⟨w.heap.size, 1, none⟩) hl0).trans hc1⟩ :
    u.cell? ⟨w.heap.size, 0, none⟩ = some (.int .i64 n) ∧ u.cell? ⟨w.heap.size, 1, none⟩ = some (.int .i64 h)))
  have HB0 := Lib.hid hB0
  have HL0 := Lib.hid hl0
  clear hB0 hlt hl0 hc0 hc1
  go_quiet (fail)
  have HY := Lib.hid (belowN (Below.refl wz.heap.size wz) nq)
  generalize wz.drewN nq = wy at *
  clear hc2 hc3
  obtain ⟨c0, c1⟩ := HC.out _ HY.out
  have HNO := Lib.hid hno
  clear hno
  by_cases hr : Right n h
  · have R1 := Lib.hid (fun u => right_yes n h hr u)
    have HR := Lib.hid hr
    clear hr
    go_wp2_with fail
    refine (R1.out _).mono ?_
    rintro e w1 ⟨rfl, hb1⟩
    have HW1 := Lib.hid (HY.out.trans (hb1.mono HY.out.size))
    clear hb1 c0 c1
    obtain ⟨c0, c1⟩ := HC.out _ HW1.out
    by_cases h1 : hi < 0
    · have hd1 : decide (hi < 0) = true := by simp [h1]
      go_wp2
      go_ret
      exact ⟨rfl, HB0.out.trans (HW1.out.mono (Nat.le_of_lt HL0.out))⟩
    · have hd1 : decide (hi < 0) = false := by simp; omega
      by_cases h2 : h < hi
      · have hd2 : decide (h < hi) = true := by simp [h2]
        go_wp2
        go_ret
        exact ⟨rfl, HB0.out.trans (HW1.out.mono (Nat.le_of_lt HL0.out))⟩
      · have hd2 : decide (h < hi) = false := by simp; omega
        have R2 := Lib.hid (show ∀ u, Calls Tryd.prog 20 #[.int .i64 pl, .int .i64 (h - hi)] u fun e w' => e = .returned (.bool false) ∧ Below u.heap.size u w' from fun u => by
          have hh := HR.out.2.2.2
          have hg := among_any pl (h - hi).toNat (by omega) u
          have e1 : (((h - hi).toNat : Nat) : Int) = h - hi := by omega
          have e2 : decide (0 ≤ pl ∧ pl < 2 ^ (h - hi).toNat) = false := by
            rw [decide_eq_false_iff_not]
            exact fun hx => HNO.out ⟨HR.out, by omega, by omega, hx.1, hx.2⟩
          rw [e1, e2] at hg
          exact hg)
        have hsub : IntKind.i64.wrap (h - hi) = h - hi := by have := HR.out.2.2.2; rw [IntKind.wrap_i64]; omega
        go_wp2_with fail
        refine (R2.out _).mono ?_
        rintro e w2 ⟨rfl, hb2⟩
        have HW2 := Lib.hid (HW1.out.trans (hb2.mono HW1.out.size))
        clear hb2
        go_wp2
        go_ret
        exact ⟨rfl, HB0.out.trans (HW2.out.mono (Nat.le_of_lt HL0.out))⟩
  · have R1 := Lib.hid (fun u => right_no n h hr u)
    clear hr
    go_wp2_with fail
    refine (R1.out _).mono ?_
    rintro e w1 ⟨rfl, hb1⟩
    have HW1 := Lib.hid (HY.out.trans (hb1.mono HY.out.size))
    clear hb1
    go_wp2
    go_ret
    exact ⟨rfl, HB0.out.trans (HW1.out.mono (Nat.le_of_lt HL0.out))⟩
end Go.Proofs.YtncafbejgidliaaDoor.Grv
