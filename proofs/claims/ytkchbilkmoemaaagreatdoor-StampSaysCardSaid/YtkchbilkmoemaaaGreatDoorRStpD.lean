/-
  The document's own answers for Make, the room, Public, Long and what a leaf signs of layer 9 answer what the plain mathematics of the text Stp says. Conditions: a Seed has no more than 390000 bytes, room and text together no more than 900000.
-/
import Derived.Test.YtkchbilkmoemaaaGreatDoorRStpA
import Derived.Test.YtkchbilkmoemaaaGreatDoorMRKed
import Derived.Test.YtkchbilkmoemaaaGreatDoorMRGrv
namespace Go.Proofs.YtkchbilkmoemaaaGreatDoor.RefStp
open Go.RowKit Mur Sha Chn Grv Stp
set_option maxRecDepth 100000

theorem num_ref (n wd : Nat) (M : ByteArray) (w : World) (hn : n < 18446744073709551616) (hwd : wd ≤ 64) (hM : M = tx (num (n : Int) wd)) :
    Calls Tryz.prog 29 #[.int .u64 (n : Int), .int .i64 (wd : Int)] w fun e w' => e = .returned (.string M) ∧ Below w.heap.size w w' := by
  have g := RefOne.high_any n (wd : Int) w hn (by omega) (by omega)
  have ew : Lanes.widthOf (wd : Int) = wd := by unfold Lanes.widthOf; omega
  rw [ew] at g
  rw [hM, num, low64_nat n hn]
  exact g
theorem parts_four (a0 a1 a2 a3 : ByteArray) (b : Nat) (D : ByteArray) (w : World) (hs : a0.size + a1.size + a2.size + a3.size ≤ 990000) (hD : D = tx (sha (parts [a0.data.toList, a1.data.toList, a2.data.toList, a3.data.toList]))) (hb : b < w.heap.size)
    (c0 : w.cell? ⟨b, 0, none⟩ = some (.string a0)) (c1 : w.cell? ⟨b, 1, none⟩ = some (.string a1)) (c2 : w.cell? ⟨b, 2, none⟩ = some (.string a2)) (c3 : w.cell? ⟨b, 3, none⟩ = some (.string a3)) :
    Calls Tryz.prog 57 #[.slice (some ⟨b, 0, none⟩) 4 4] w fun e w' => e = .returned (.string D) ∧ Below w.heap.size w w' := by
  rw [hD]
  exact RefSha.parts_ref [a0, a1, a2, a3] b 0 4 w hb (by show 4 ≤ _; omega) (fun i hi => match i, hi with
    | 0, _ => c0
    | 1, _ => c1
    | 2, _ => c2
    | 3, _ => c3)
    (by show 0 + (4 + a0.size) + (4 + a1.size) + (4 + a2.size) + (4 + a3.size) ≤ _; omega)
/-- Derive for one text. -/
theorem derive_one (key t : ByteArray) (n : Nat) (X : ByteArray) (b : Nat) (w : World) (hkey : key.size ≤ 390000) (ht : t.size ≤ 100) (hn : n ≤ 8160) (hb : b < w.heap.size) (hc : w.cell? ⟨b, 0, none⟩ = some (.string t)) (hX : X = tx (Ked.derive key.data.toList n [t.data.toList])) :
    Calls Tryz.prog 20 #[.string key, .int .i64 (n : Int), .slice (some ⟨b, 0, none⟩) 1 1] w fun e w' => e = .returned (.string X) ∧ Below w.heap.size w w' := by
  have e : Ked.many (n : Int) = n := by unfold Ked.many; omega
  have hl : (Ked.infoOf [t.data.toList]).length ≤ 400000 := by
    have : t.data.toList.length = t.size := rfl
    simp only [Ked.infoOf, List.map_cons, List.map_nil, List.flatten_cons, List.flatten_nil, List.append_nil, List.length_append, Lanes.high, List.length_map, List.length_range]
    omega
  exact RefKed.derive_any key (n : Int) [t] X (some ⟨b, 0, none⟩) b 0 1 w (by omega) (fun _ => ⟨rfl, hb⟩) (fun i h => match i, h with | 0, _ => hc) (by show 1 ≤ _; omega) hl (fun s hs => by simp at hs; subst hs; omega) (by rw [hX, e]; rfl)

theorem room_any (seed R : ByteArray) (w : World) (hs : seed.size ≤ 390000) (hR : R = tx (roomOf seed.data.toList)) :
    Calls Tryz.prog 27 #[.string seed] w fun e w' => e = .returned (.string R) ∧ Below w.heap.size w w' := by
  have RD := Lib.hid (fun (b : Nat) (u : World) (hb : b < u.heap.size) (hc : u.cell? ⟨b, 0, none⟩ = some (.string ⟨#[114, 111, 111, 109]⟩)) => derive_one seed ⟨#[114, 111, 111, 109]⟩ 8 R b u hs (by decide) (by omega) hb hc hR)
  clear hR
  go_enter Tryz.func27, Tryz.ntmps27
  have hB := (Below.refl w.heap.size w).alloc (Nat.le_refl _) (.cells #[.string ⟨#[114, 111, 111, 109]⟩] 9)
  go_wp2_with fail
  refine (RD.out _ _ (by simp) (by simp)).mono ?_
  rintro e w1 ⟨rfl, hb⟩
  go_wp2
  go_ret
  exact ⟨rfl, hB.trans (hb.mono hB.size)⟩

theorem long_no (n h : Int) (hr : ¬ Right n h) (w : World) :
    Calls Tryz.prog 12 #[.agg #[.int .i64 n, .int .i64 h]] w fun e w' => e = .returned (.int .i64 0) ∧ Below w.heap.size w w' := by
  have R1 := Lib.hid (fun u => right_no n h hr u)
  have hB0 := (Below.refl w.heap.size w).alloc (Nat.le_refl _) (.cells #[.int .i64 n, .int .i64 h] 23)
  clear hr
  go_enter Tryz.func12, Tryz.ntmps12
  go_wp2_with fail
  refine (R1.out _).mono ?_
  rintro e w1 ⟨rfl, hb1⟩
  have HW1 := Lib.hid (hB0.trans (hb1.mono hB0.size))
  clear hb1 hB0
  go_wp2
  go_ret
  exact ⟨rfl, HW1.out⟩

set_option maxHeartbeats 800000 in
theorem long_yes (N H : Nat) (L : Int) (hr : Right (N : Int) (H : Int)) (w : World) (hL : L = (long N H : Int)) :
    Calls Tryz.prog 12 #[.agg #[.int .i64 (N : Int), .int .i64 (H : Int)]] w fun e w' => e = .returned (.int .i64 L) ∧ Below w.heap.size w w' := by
  have R1 := Lib.hid (fun u => right_yes N H hr u)
  have R2 := Lib.hid (fun u => RefChn.count_yes N H hr u)
  have hN0 := hr.1
  have hN := hr.2.1
  have hH := hr.2.2.2
  obtain ⟨C, hC⟩ : ∃ C, C = 2 * (N : Int) + 3 := ⟨_, rfl⟩
  rw [← hC] at R2
  obtain ⟨D, hD⟩ : ∃ D, D = C + (H : Int) := ⟨_, rfl⟩
  obtain ⟨E, hE⟩ : ∃ E, E = (N : Int) * D := ⟨_, rfl⟩
  have hD1 : IntKind.i64.wrap (C + (H : Int)) = D := by rw [← hD]; exact IntWalk.i64_in _ (by omega)
  have hE0 : 0 ≤ E := by rw [hE]; exact Int.mul_nonneg (by omega) (by omega)
  have hE2 : E ≤ 32 * 75 := by rw [hE]; exact Int.mul_le_mul hN (by omega) (by omega) (by omega)
  have hE1 : IntKind.i64.wrap ((N : Int) * D) = E := by rw [← hE]; exact IntWalk.i64_in _ (by omega)
  have hF1 : IntKind.i64.wrap (2 + E) = 2 + E := IntWalk.i64_in _ (by omega)
  have HV := Lib.hid (show 2 + E = L by
    rw [hL, hE, hD, hC, long]
    simp only [Int.natCast_add, Int.natCast_mul]
    rfl)
  have hB0 := (Below.refl w.heap.size w).alloc (Nat.le_refl _) (.cells #[.int .i64 (N : Int), .int .i64 (H : Int)] 23)
  have hc0 : (w.alloc (.cells #[.int .i64 (N : Int), .int .i64 (H : Int)] 23)).cell? ⟨w.heap.size, 0, none⟩ = some (.int .i64 (N : Int)) := by simp
  have hc1 : (w.alloc (.cells #[.int .i64 (N : Int), .int .i64 (H : Int)] 23)).cell? ⟨w.heap.size, 1, none⟩ = some (.int .i64 (H : Int)) := by simp
  have hlt : w.heap.size < (w.alloc (.cells #[.int .i64 (N : Int), .int .i64 (H : Int)] 23)).heap.size := by simp
  clear hr hL hC hD hE hE2 hE0 hN0 hN hH
  go_enter Tryz.func12, Tryz.ntmps12
  go_upto_region 1 with (fail)
  generalize w.alloc (.cells #[.int .i64 (N : Int), .int .i64 (H : Int)] 23) = wz at *
  have HC := Lib.hid (fun (u : World) (q : Below wz.heap.size wz u) => (⟨(q.cell (p := ⟨w.heap.size, 0, none⟩) hlt).trans hc0, (q.cell (p := ⟨w.heap.size, 1, none⟩) hlt).trans hc1⟩ :
    u.cell? ⟨w.heap.size, 0, none⟩ = some (.int .i64 (N : Int)) ∧ u.cell? ⟨w.heap.size, 1, none⟩ = some (.int .i64 (H : Int))))
  have HB0 := Lib.hid hB0
  clear hB0 hlt
  have HD1 := Lib.hid hD1
  have HE1 := Lib.hid hE1
  have HF1 := Lib.hid hF1
  clear hD1 hE1 hF1
  go_wp2_with fail
  refine (R1.out _).mono ?_
  rintro e w1 ⟨rfl, hb1⟩
  have HW1 := Lib.hid hb1
  clear hb1 hc0 hc1
  go_upto_region 3 with (fail)
  have HC1 := Lib.hid (fun (u : World) (q : Below w1.heap.size w1 u) => HC.out u (HW1.out.trans (q.mono HW1.out.size)))
  have hD1 := HD1.out
  have hE1 := HE1.out
  have hF1 := HF1.out
  refine Steady.region 9 (by kernel_rfl) (by kernel_rfl) (fun u => Below w1.heap.size w1 u) ((Below.refl _ _).drew) ?_
  simp only [List.take_succ_cons, List.take_zero, List.drop_succ_cons, List.drop_zero]
  refine Steady.take ?_ rfl (by intro u hu; go_simp; with_reducible rfl) ?_
  simp only [Act.put, List.setIfInBounds_toArray, List.set_cons_zero, List.set_cons_succ]
  refine Steady.take ?_ rfl (by intro u hu; obtain ⟨c0, c1⟩ := HC1.out u hu; go_simp; with_reducible rfl) ?_
  simp only [Act.put, List.setIfInBounds_toArray, List.set_cons_zero, List.set_cons_succ]
  refine Steady.take ?_ rfl (by intro u hu; obtain ⟨c0, c1⟩ := HC1.out u hu; go_simp; with_reducible rfl) ?_
  simp only [Act.put, List.setIfInBounds_toArray, List.set_cons_zero, List.set_cons_succ]
  refine Steady.call _ _ _ rfl ?_ (Steady.kept R2.out) ?_
  · intro u
    go_simp
  simp only [Act.put, List.setIfInBounds_toArray, List.set_cons_zero, List.set_cons_succ]
  refine Steady.take ?_ rfl (by intro u hu; go_simp; with_reducible rfl) ?_
  simp only [Act.put, List.setIfInBounds_toArray, List.set_cons_zero, List.set_cons_succ]
  refine Steady.take ?_ rfl (by intro u hu; obtain ⟨c0, c1⟩ := HC1.out u hu; go_simp; with_reducible rfl) ?_
  simp only [Act.put, List.setIfInBounds_toArray, List.set_cons_zero, List.set_cons_succ]
  refine Steady.take ?_ rfl (by intro u hu; go_simp; with_reducible rfl) ?_
  simp only [Act.put, List.setIfInBounds_toArray, List.set_cons_zero, List.set_cons_succ]
  refine Steady.take ?_ rfl (by intro u hu; go_simp; with_reducible rfl) ?_
  simp only [Act.put, List.setIfInBounds_toArray, List.set_cons_zero, List.set_cons_succ]
  refine Steady.take ?_ rfl (by intro u hu; go_simp; with_reducible rfl) ?_
  simp only [Act.put, List.setIfInBounds_toArray, List.set_cons_zero, List.set_cons_succ]
  refine Steady.nil ?_
  intro w3 hu
  have HB3 := Lib.hid (HB0.out.trans ((HW1.out.trans (hu.mono HW1.out.size)).mono HB0.out.size))
  clear hu
  go_wp2
  go_ret
  rw [← HV.out]
  exact ⟨rfl, HB3.out⟩

theorem make_no (n h : Int) (seed : ByteArray) (w : World) (hr : ¬ Right n h) :
    Calls Tryz.prog 6 #[.agg #[.int .i64 n, .int .i64 h], .string seed] w fun e w' => e = .returned (.tuple #[.agg #[.int .i64 0, .int .i64 0, .string ⟨#[]⟩, .int .i64 0], .int .i64 1]) ∧ Below w.heap.size w w' := by
  obtain ⟨Y, hY, -⟩ := named_shape n h
  have R1 := Lib.hid (fun u => right_no n h hr u)
  rw [← hY.agg] at R1 ⊢
  have HY := Lib.hid hY
  have HM := Lib.hid (Hold.Hld.start w)
  clear hr hY
  go_enter Tryz.func6, Tryz.ntmps6
  go_wp2_with ((first
    | (with_reducible refine Hold.box HM.out rfl rfl rfl ?_; clear HM; intro b w HM; simp only [List.nil_append] at HM; replace HM := Lib.hid HM)
    | (with_reducible refine Hold.alloc HM.out rfl rfl zeroS zero_sign ?_; clear HM; intro b w HM; simp only [List.nil_append, List.cons_append] at HM; replace HM := Lib.hid HM)
    | (with_reducible refine Hold.load HM.out 0 (cs := Y) rfl rfl rfl rfl (Hold.Part.all _) (by rw [HY.out.len]; exact shapeRow) ?_)
    | (with_reducible refine (R1.out _).mono ?_; rintro e w ⟨rfl, hb⟩; replace HM := Lib.hid (HM.out.next hb); clear hb)
    | (with_reducible refine Hold.build (t := 25) (parts := #[]) (cs := zeroS) rfl rfl ?_ ?_; focus (kernel_rfl))
    | (with_reducible refine Hold.store HM.out 1 (v' := zeroS) rfl rfl rfl rfl rfl (by rw [Nat.zero_add]; exact Nat.le_refl _) (Hold.lay_all rfl) (zero_one) (by rw [zero_len]; exact signRow) ?_; clear HM; intro w HM; simp only [List.set_cons_zero, List.set_cons_succ] at HM; replace HM := Lib.hid HM)))

  refine bodyPost_ret (Hold.resultsCT HM.out 1 rfl _ rfl rfl rfl (by rw [zero_len]; exact signRow)) rfl ?_
  rw [zero_agg]
  exact ⟨rfl, HM.out.below⟩

set_option maxHeartbeats 3200000 in
theorem make_any (N H : Nat) (seed S : ByteArray) (w : World) (hr : Right (N : Int) (H : Int)) (hs : seed.size ≤ 390000) (hS : S = tx (seedOf seed.data.toList)) :
    Calls Tryz.prog 6 #[.agg #[.int .i64 (N : Int), .int .i64 (H : Int)], .string seed] w fun e w' => e = .returned (.tuple #[.agg #[.int .i64 (N : Int), .int .i64 (H : Int), .string S, .int .i64 0], .int .i64 0]) ∧ Below w.heap.size w w' := by
  have R1 := Lib.hid (fun u => right_yes N H hr u)
  have RD := Lib.hid (fun (b : Nat) (u : World) (hb : b < u.heap.size) (hc : u.cell? ⟨b, 0, none⟩ = some (.string ⟨#[115, 105, 103, 110, 101, 114]⟩)) => show Calls Tryz.prog 20 #[.string seed, .int .i64 32, .slice (some ⟨b, 0, none⟩) 1 1] u _ from derive_one seed ⟨#[115, 105, 103, 110, 101, 114]⟩ 32 S b u hs (by decide) (by omega) hb hc hS)
  have hB0 := ((Below.refl w.heap.size w).alloc (Nat.le_refl _) (.cells #[.int .i64 (N : Int), .int .i64 (H : Int)] 23)).alloc (by simp) (.cells #[.int .i64 0, .int .i64 0, .string ⟨#[]⟩, .int .i64 0] 25)
  have hc0 : ((w.alloc (.cells #[.int .i64 (N : Int), .int .i64 (H : Int)] 23)).alloc (.cells #[.int .i64 0, .int .i64 0, .string ⟨#[]⟩, .int .i64 0] 25)).cell? ⟨w.heap.size, 0, none⟩ = some (.int .i64 (N : Int)) := by rw [World.cell?_alloc_lt _ _ _ (by simp)]; simp
  have hc1 : ((w.alloc (.cells #[.int .i64 (N : Int), .int .i64 (H : Int)] 23)).alloc (.cells #[.int .i64 0, .int .i64 0, .string ⟨#[]⟩, .int .i64 0] 25)).cell? ⟨w.heap.size, 1, none⟩ = some (.int .i64 (H : Int)) := by rw [World.cell?_alloc_lt _ _ _ (by simp)]; simp
  have hwh : Mur.Whole ((w.alloc (.cells #[.int .i64 (N : Int), .int .i64 (H : Int)] 23)).alloc (.cells #[.int .i64 0, .int .i64 0, .string ⟨#[]⟩, .int .i64 0] 25)) (w.heap.size + 1) 25 [.int .i64 0, .int .i64 0, .string ⟨#[]⟩, .int .i64 0] := by
    have := Mur.Whole.made (w.alloc (.cells #[.int .i64 (N : Int), .int .i64 (H : Int)] 23)) 25 [.int .i64 0, .int .i64 0, .string ⟨#[]⟩, .int .i64 0]
    simpa using this
  have hlt : w.heap.size < ((w.alloc (.cells #[.int .i64 (N : Int), .int .i64 (H : Int)] 23)).alloc (.cells #[.int .i64 0, .int .i64 0, .string ⟨#[]⟩, .int .i64 0] 25)).heap.size := by simp; omega
  clear hr hs hS
  go_enter Tryz.func6, Tryz.ntmps6
  go_upto_region 1 with (fail)
  generalize (w.alloc (.cells #[.int .i64 (N : Int), .int .i64 (H : Int)] 23)).alloc (.cells #[.int .i64 0, .int .i64 0, .string ⟨#[]⟩, .int .i64 0] 25) = wz at *
  have HC := Lib.hid (fun (u : World) (q : Below wz.heap.size wz u) => (⟨(q.cell (p := ⟨w.heap.size, 0, none⟩) hlt).trans hc0, (q.cell (p := ⟨w.heap.size, 1, none⟩) hlt).trans hc1, hwh.below hwh.lt q⟩ :
    u.cell? ⟨w.heap.size, 0, none⟩ = some (.int .i64 (N : Int)) ∧ u.cell? ⟨w.heap.size, 1, none⟩ = some (.int .i64 (H : Int)) ∧ Mur.Whole u (w.heap.size + 1) 25 [.int .i64 0, .int .i64 0, .string ⟨#[]⟩, .int .i64 0]))
  have HB0 := Lib.hid hB0
  have HLT := Lib.hid hlt
  clear hB0 hlt hwh
  go_wp2_with fail
  refine (R1.out _).mono ?_
  rintro e w1 ⟨rfl, hb1⟩
  have HW1 := Lib.hid hb1
  clear hb1 hc0 hc1
  obtain ⟨c0, c1, -⟩ := HC.out _ HW1.out
  have hlt1 : w.heap.size < w1.heap.size := Nat.lt_of_lt_of_le HLT.out HW1.out.size
  go_upto_region 3 with (fail)
  go_region_law ((first
    | (refine step_call rfl 20 Tryz.call20 #[.tmp 11, .const (.int .i64 32), .tmp 12] #[9, 3, 55] rfl #[.string seed, .int .i64 32, .slice (some ⟨w1.heap.size, 0, none⟩) 1 1] (by first | (simp [Act.eval]; done) | simp [Act.eval, Act.put]) _ _ (RD.out _ _ (by simp) (by simp)) ?_; intro w3 hb3; have HW3 := Lib.hid (HW1.out.trans ((((Below.refl w1.heap.size w1).alloc (Nat.le_refl _) (.cells #[.string ⟨#[115, 105, 103, 110, 101, 114]⟩] 9)).drew.trans (hb3.mono (by simp))).mono HW1.out.size)); clear hb3; obtain ⟨d0, d1, hwh3⟩ := HC.out _ HW3.out; obtain ⟨e0, e1, e2, e3⟩ := four_cells hwh3; obtain ⟨f0, f1, f2, f3⟩ := four_free hwh3; have HWH := Lib.hid hwh3; clear hwh3)))
  all_goals
    have HZ := Lib.hid (four_set HWH.out (.int .i64 (N : Int)) (.int .i64 (H : Int)) (.string S) (.int .i64 0))
    have HBZ := Lib.hid (((((HB0.out.trans (HW3.out.mono HB0.out.size)).setCell (p := ⟨w.heap.size + 1, 0, none⟩) (Nat.le_succ _) (.int .i64 (N : Int))).setCell (p := ⟨w.heap.size + 1, 1, none⟩) (Nat.le_succ _) (.int .i64 (H : Int))).setCell (p := ⟨w.heap.size + 1, 2, none⟩) (Nat.le_succ _) (.string S)).setCell (p := ⟨w.heap.size + 1, 3, none⟩) (Nat.le_succ _) (.int .i64 0))
    generalize ((((w3.setCell ⟨w.heap.size + 1, 0, none⟩ (.int .i64 (N : Int))).setCell ⟨w.heap.size + 1, 1, none⟩ (.int .i64 (H : Int))).setCell ⟨w.heap.size + 1, 2, none⟩ (.string S)).setCell ⟨w.heap.size + 1, 3, none⟩ (.int .i64 0)) = wq at *
    clear d0 d1 e0 e1 e2 e3 f0 f1 f2 f3 HWH HW3
    go_wp2
    exact bodyPost_ret (results_ct rfl _ rfl rfl signRow HZ.out.range) rfl ⟨rfl, HBZ.out⟩
theorem pub_no (n h nx : Int) (seed : ByteArray) (w : World) (hr : ¬ Right n h) :
    Calls Tryz.prog 10 #[.agg #[.int .i64 n, .int .i64 h, .string seed, .int .i64 nx]] w fun e w' => e = .returned (.string ⟨#[]⟩) ∧ Below w.heap.size w w' := by
  have R1 := Lib.hid (fun u => right_no n h hr u)
  have hB0 := (Below.refl w.heap.size w).alloc (Nat.le_refl _) (.cells #[.int .i64 n, .int .i64 h, .string seed, .int .i64 nx] 25)
  clear hr
  go_enter Tryz.func10, Tryz.ntmps10
  go_wp2_with fail
  refine (R1.out _).mono ?_
  rintro e w1 ⟨rfl, hb1⟩
  have HW1 := Lib.hid (hB0.trans (hb1.mono hB0.size))
  clear hb1 hB0
  go_wp2
  go_ret
  exact ⟨rfl, HW1.out⟩

set_option maxHeartbeats 800000 in
theorem pub_any (N H : Nat) (nx : Int) (seed V : ByteArray) (w : World) (hr : Right (N : Int) (H : Int)) (hs : seed.size ≤ 390000) (hV : V = tx (pub N H seed.data.toList)) :
    Calls Tryz.prog 10 #[.agg #[.int .i64 (N : Int), .int .i64 (H : Int), .string seed, .int .i64 nx]] w fun e w' => e = .returned (.string V) ∧ Below w.heap.size w w' := by
  have hN : N ≤ 32 := by have := hr.2.1; omega
  have hH : H ≤ 8 := by have := hr.2.2.2; omega
  obtain ⟨R, hR⟩ : ∃ R, R = tx (roomOf seed.data.toList) := ⟨_, rfl⟩
  obtain ⟨T, hT⟩ : ∃ T, T = tx (node N seed.data.toList (roomOf seed.data.toList) H 0) := ⟨_, rfl⟩
  have hRs : R.size = 8 := by rw [hR, tx_size, roomOf_length]
  have hTs : T.size = N := by rw [hT, tx_size, node_length N _ _ _ _ hN]
  have hRT : R ++ T = V := by
    apply ByteArray.ext
    apply Array.ext'
    rw [hV, hR, hT]
    simp [pub]
  have R1 := Lib.hid (fun u => right_yes N H hr u)
  have R2 := Lib.hid (fun (u : World) => RefStp.room_any seed R u hs hR)
  have R3 := Lib.hid (show ∀ (u : World), Calls Tryz.prog 33 #[.agg #[.int .i64 (N : Int), .int .i64 (H : Int)], .string seed, .string R, .agg #[.int .i64 (H : Int), .int .i64 0]] u fun e w' => e = .returned (.string T) ∧ Below u.heap.size u w' from
    fun u => RefGrv.node_any N H seed R hr (by omega) H (Nat.le_refl _) 0 T u (Nat.two_pow_pos _) (by rw [hT, hR]))
  have hnt : ¬ 9223372036854775807 < R.size + T.size := by omega
  have HNT := Lib.hid hnt
  have HRT := Lib.hid hRT
  have hB0 := (Below.refl w.heap.size w).alloc (Nat.le_refl _) (.cells #[.int .i64 (N : Int), .int .i64 (H : Int), .string seed, .int .i64 nx] 25)
  have hc0 : (w.alloc (.cells #[.int .i64 (N : Int), .int .i64 (H : Int), .string seed, .int .i64 nx] 25)).cell? ⟨w.heap.size, 0, none⟩ = some (.int .i64 (N : Int)) := by simp
  have hc1 : (w.alloc (.cells #[.int .i64 (N : Int), .int .i64 (H : Int), .string seed, .int .i64 nx] 25)).cell? ⟨w.heap.size, 1, none⟩ = some (.int .i64 (H : Int)) := by simp
  have hc2 : (w.alloc (.cells #[.int .i64 (N : Int), .int .i64 (H : Int), .string seed, .int .i64 nx] 25)).cell? ⟨w.heap.size, 2, none⟩ = some (.string seed) := by simp
  have hc3 : (w.alloc (.cells #[.int .i64 (N : Int), .int .i64 (H : Int), .string seed, .int .i64 nx] 25)).cell? ⟨w.heap.size, 3, none⟩ = some (.int .i64 nx) := by simp
  have hlt : w.heap.size < (w.alloc (.cells #[.int .i64 (N : Int), .int .i64 (H : Int), .string seed, .int .i64 nx] 25)).heap.size := by simp
  clear hr hV hR hT hRs hTs hRT hnt
  go_enter Tryz.func10, Tryz.ntmps10
  go_upto_region 1 with (fail)
  generalize w.alloc (.cells #[.int .i64 (N : Int), .int .i64 (H : Int), .string seed, .int .i64 nx] 25) = wz at *
  have HC := Lib.hid (fun (u : World) (q : Below wz.heap.size wz u) => (⟨(q.cell (p := ⟨w.heap.size, 0, none⟩) hlt).trans hc0, (q.cell (p := ⟨w.heap.size, 1, none⟩) hlt).trans hc1, (q.cell (p := ⟨w.heap.size, 2, none⟩) hlt).trans hc2, (q.cell (p := ⟨w.heap.size, 3, none⟩) hlt).trans hc3⟩ :
    u.cell? ⟨w.heap.size, 0, none⟩ = some (.int .i64 (N : Int)) ∧ u.cell? ⟨w.heap.size, 1, none⟩ = some (.int .i64 (H : Int)) ∧ u.cell? ⟨w.heap.size, 2, none⟩ = some (.string seed) ∧ u.cell? ⟨w.heap.size, 3, none⟩ = some (.int .i64 nx)))
  have HB0 := Lib.hid hB0
  clear hB0 hlt hc2 hc3
  go_wp2_with fail
  refine (R1.out _).mono ?_
  rintro e w1 ⟨rfl, hb1⟩
  have HW1 := Lib.hid hb1
  clear hb1 hc0 hc1
  obtain ⟨c0, c1, c2, c3⟩ := HC.out _ HW1.out
  go_wp2_with fail
  refine (R2.out _).mono ?_
  rintro e w2 ⟨rfl, hb2⟩
  have HW2 := Lib.hid (HW1.out.trans (hb2.mono HW1.out.size))
  clear hb2 c0 c1 c2 c3
  obtain ⟨c0, c1, c2, c3⟩ := HC.out _ HW2.out
  go_wp2_with fail
  refine (R3.out _).mono ?_
  rintro e w3 ⟨rfl, hb3⟩
  have HW3 := Lib.hid (HB0.out.trans ((HW2.out.trans (hb3.mono HW2.out.size)).mono HB0.out.size))
  clear hb3 c0 c1 c2 c3
  have hnt := HNT.out
  have hRT := HRT.out
  go_wp2
  go_ret
  exact ⟨rfl, HW3.out⟩

/-- What is kept of the world: room, all memory. -/
structure KeepR (w0 : World) (w : World) : Prop where
  room : w0.heap.size < w.heap.size
  below : Below w0.heap.size w0 w
theorem KeepR.next {w0 w w' : World} (h : KeepR w0 w) (k : Below w.heap.size w w') : KeepR w0 w' :=
  ⟨Nat.lt_of_lt_of_le h.room k.size, h.below.trans (k.mono h.below.size)⟩
theorem KeepR.drew {w0 w : World} (h : KeepR w0 w) : KeepR w0 w.drew := ⟨h.room, h.below.drew⟩

set_option maxHeartbeats 3200000 in
theorem says_any (N : Nat) (h : Int) (leaf : Nat) (room msg : ByteArray) (V : ByteArray) (w : World) (hN : N ≤ 32) (hs : room.size + msg.size ≤ 900000) (hlf : leaf < 65536) (hV : V = tx (says N room.data.toList (leaf : Int) msg.data.toList)) :
    Calls Tryz.prog 28 #[.agg #[.int .i64 (N : Int), .int .i64 h], .string room, .int .i64 (leaf : Int), .string msg] w fun e w' => e = .returned (.string V) ∧ Below w.heap.size w w' := by
  obtain ⟨M, hM⟩ : ∃ M, M = tx (num (leaf : Int) 2) := ⟨_, rfl⟩
  have hs0 : M.size = 2 := by rw [hM]; exact num_length _ _
  have R0 := Lib.hid (show ∀ u, Calls Tryz.prog 29 #[.int .u64 (leaf : Int), .int .i64 2] u fun e w' => e = .returned (.string M) ∧ Below u.heap.size u w' from fun u => num_ref leaf 2 M u (by omega) (by omega) hM)
  have hul : IntKind.u64.wrap (leaf : Int) = (leaf : Int) := by rw [IntKind.wrap_u64]; omega
  obtain ⟨D, hD⟩ : ∃ D, D = tx (sha (parts [toldT, room.data.toList, num (leaf : Int) 2, msg.data.toList])) := ⟨_, rfl⟩
  have hcut : D.extract 0 N = V := cut_take D V N _ hD hV
  have hDs : D.size = 32 := by rw [hD]; exact sha_length _
  have hN2 : (N : Int) ≤ D.size := by omega
  have hN3 : (N : Int).toNat = N := by omega
  have hN1 : (N : Int) ≤ 32 := by omega
  have RV := Lib.hid (show ∀ (b0 : Nat) (u : World), b0 < u.heap.size → u.cell? ⟨b0, 0, none⟩ = some (.string ⟨#[116, 111, 108, 100]⟩) → u.cell? ⟨b0, 1, none⟩ = some (.string room) → u.cell? ⟨b0, 2, none⟩ = some (.string M) → u.cell? ⟨b0, 3, none⟩ = some (.string msg) → Calls Tryz.prog 57 #[.slice (some ⟨b0, 0, none⟩) 4 4] u fun e w' => e = .returned (.string D) ∧ Below u.heap.size u w' from
    fun b0 u h0 d0 d1 d2 d3 => parts_four ⟨#[116, 111, 108, 100]⟩ room M msg b0 D u (by show 4 + room.size + M.size + msg.size ≤ _; omega) (by rw [hD, hM]; rfl) h0 d0 d1 d2 d3)
  clear hV hN hM hs0 hD hDs
  have hK : KeepR w (w.alloc (.cells #[.int .i64 (N : Int), .int .i64 h] 23)) := ⟨by simp, ((Below.refl w.heap.size w).alloc (Nat.le_refl _) _)⟩
  have hc0 : (w.alloc (.cells #[.int .i64 (N : Int), .int .i64 h] 23)).cell? ⟨w.heap.size, 0, none⟩ = some (.int .i64 (N : Int)) := by simp
  go_enter Tryz.func28, Tryz.ntmps28
  go_upto_region 1 with (fail)
  generalize (w.alloc (.cells #[.int .i64 (N : Int), .int .i64 h] 23)) = wz at *
  have held_next : ∀ {u u' : World}, (u.cell? ⟨w.heap.size, 0, none⟩ = some (.int .i64 (N : Int)) ∧ KeepR w u) → Below u.heap.size u u' → (u'.cell? ⟨w.heap.size, 0, none⟩ = some (.int .i64 (N : Int)) ∧ KeepR w u') := by
    rintro u u' ⟨e0, kk⟩ q
    have hr := kk.room
    exact ⟨(q.cell (p := ⟨w.heap.size, 0, none⟩) (by assumption)).trans e0, kk.next q⟩
  have held_below : ∀ {u : World}, (u.cell? ⟨w.heap.size, 0, none⟩ = some (.int .i64 (N : Int)) ∧ KeepR w u) → Below w.heap.size w u := by
    rintro u ⟨-, kk⟩
    exact kk.below
  have HS := Lib.hid (show wz.drew.cell? ⟨w.heap.size, 0, none⟩ = some (.int .i64 (N : Int)) ∧ KeepR w wz.drew from ⟨hc0, hK.drew⟩)
  clear hK hc0
  go_region_held3 (fun w' => w'.cell? ⟨w.heap.size, 0, none⟩ = some (.int .i64 (N : Int)) ∧ KeepR w w')
    (first | exact HS.out | assumption | exact held_next (by assumption) (by assumption) | exact held_next (by assumption) ((Below.refl _ _).alloc (Nat.le_refl _) _))
    (first
      | (go_at_call 29; with_reducible refine Calls.mono (R0.out _) ?_; rintro e w' ⟨rfl, hb⟩)
      | (go_at_call 57; refine Calls.mono (RV.out _ _ (by first | (simp; done) | (simp; omega)) (by first | (simp; done) | (rw [World.cell?_alloc_lt _ _ _ (by simp)]; simp; done)) (by first | (simp; done) | (rw [World.cell?_alloc_lt _ _ _ (by simp)]; simp; done)) (by first | (simp; done) | (rw [World.cell?_alloc_lt _ _ _ (by simp)]; simp; done)) (by first | (simp; done) | (rw [World.cell?_alloc_lt _ _ _ (by simp)]; simp; done))) ?_; rintro e w' ⟨rfl, hb⟩))
  all_goals
    go_wp2
    go_ret
    exact ⟨rfl, held_below (by assumption)⟩

end Go.Proofs.YtkchbilkmoemaaaGreatDoor.RefStp
