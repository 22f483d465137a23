/-
  StampSays: signers, public keys, signatures, and whether any bytes are one, as the document says: for every input, the law answers true and changes nothing that was there. Condition: the constant table lies as the program's text lays it (the card ties it).
-/
import Derived.Test.YtkchbilkmoemaaaGreatDoorRStpE
import Derived.Test.YtkchbilkmoemaaaGreatDoorConstFrame
import Derived.Test.YtkchbilkmoemaaaGreatDoorCards
import Derived.Test.YtkchbilkmoemaaaGreatDoorOpenS
import Derived.Test.YtkchbilkmoemaaaGreatDoorTie
import Derived.SevenTiedAt
namespace Go.Proofs.YtkchbilkmoemaaaGreatDoor.LawSSays
open Go.ChangeShapes Go.WideShapes Go.ChangeAt Go.ChangeMaps Go.RowKit Mur Sha Chn Stp
set_option maxRecDepth 100000

theorem nats (n h : Int) (hr : Right n h) : ∃ N H : Nat, n = (N : Int) ∧ h = (H : Int) ∧ N ≤ 32 ∧ H ≤ 8 := by
  obtain ⟨h1, h2, h3, h4⟩ := hr
  exact ⟨n.toNat, h.toNat, by omega, by omega, by omega, by omega⟩
theorem make_both (n h : Int) (t : ByteArray) (ht : t.size ≤ 390000) : ∃ (a b x : Int) (s : ByteArray) (e : Int),
    (∀ u, Consts u → Calls Tryz.prog 5 #[.agg #[.int .i64 n, .int .i64 h], .string t] u fun v w' => v = .returned (.tuple #[.agg #[.int .i64 a, .int .i64 b, .string s, .int .i64 x], .int .i64 e]) ∧ Below u.heap.size u w') ∧
    (∀ u, Calls Tryz.prog 6 #[.agg #[.int .i64 n, .int .i64 h], .string t] u fun v w' => v = .returned (.tuple #[.agg #[.int .i64 a, .int .i64 b, .string s, .int .i64 x], .int .i64 e]) ∧ Below u.heap.size u w') := by
  by_cases hr : Right n h
  · obtain ⟨N, H, rfl, rfl, -, -⟩ := nats n h hr
    exact ⟨_, _, _, _, _, fun u hu => Stp.make_any N H t _ u hr (by omega) rfl hu, fun u => RefStp.make_any N H t _ u hr ht rfl⟩
  · exact ⟨_, _, _, _, _, fun u _ => Stp.make_no n h t u hr, fun u => RefStp.make_no n h t u hr⟩
theorem sign_both (n h nx : Int) (seed msg : ByteArray) (hs : seed.size ≤ 390000) (hm : msg.size ≤ 400000) (hi : nx < 9223372036854775808) : ∃ (A : ByteArray) (x e : Int), A.size ≤ 1000000 ∧
    (∀ u, Consts u → Calls Tryz.prog 7 #[.agg #[.int .i64 n, .int .i64 h, .string seed, .int .i64 nx], .string msg] u fun v w' => v = .returned (.tuple #[.string A, .agg #[.int .i64 n, .int .i64 h, .string seed, .int .i64 x], .int .i64 e]) ∧ Below u.heap.size u w') ∧
    (∀ u, Calls Tryz.prog 8 #[.agg #[.int .i64 n, .int .i64 h, .string seed, .int .i64 nx], .string msg] u fun v w' => v = .returned (.tuple #[.string A, .agg #[.int .i64 n, .int .i64 h, .string seed, .int .i64 x], .int .i64 e]) ∧ Below u.heap.size u w') := by
  by_cases hr : Right n h ∧ 0 ≤ nx
  · obtain ⟨hr, h0⟩ := hr
    by_cases hsp : (leavesI h : Int) ≤ nx
    · exact ⟨⟨#[]⟩, _, _, by decide, fun u _ => Stp.sign_spent n h nx seed msg u hr h0 hi hsp, fun u => RefStp.sign_spent n h nx seed msg u hr h0 hsp⟩
    · obtain ⟨N, H, rfl, rfl, hN, hH⟩ := nats n h hr
      obtain ⟨m, rfl⟩ : ∃ m : Nat, nx = (m : Int) := ⟨nx.toNat, by omega⟩
      have hlt : m < 2 ^ H := by rw [leavesI, Int.toNat_natCast] at hsp; omega
      refine ⟨_, _, _, ?_, fun u hu => Stp.sign_any N H m seed msg _ u hr hlt (by omega) (by omega) rfl hu, fun u => RefStp.sign_any N H m seed msg _ u hr hlt hs hm rfl⟩
      rw [tx_size, signature_length _ _ _ _ _ hN, long]
      have : N * (2 * N + 3 + H) ≤ 32 * 75 := Nat.mul_le_mul hN (by omega)
      omega
  · exact ⟨⟨#[]⟩, _, _, by decide, fun u _ => Stp.sign_bad n h nx seed msg u hr, fun u => RefStp.sign_bad n h nx seed msg u hr⟩
theorem pub_both (n h nx : Int) (seed : ByteArray) (hs : seed.size ≤ 390000) : ∃ K : ByteArray, K.size ≤ 40 ∧
    (∀ u, Consts u → Calls Tryz.prog 9 #[.agg #[.int .i64 n, .int .i64 h, .string seed, .int .i64 nx]] u fun v w' => v = .returned (.string K) ∧ Below u.heap.size u w') ∧
    (∀ u, Calls Tryz.prog 10 #[.agg #[.int .i64 n, .int .i64 h, .string seed, .int .i64 nx]] u fun v w' => v = .returned (.string K) ∧ Below u.heap.size u w') := by
  by_cases hr : Right n h
  · obtain ⟨N, H, rfl, rfl, hN, hH⟩ := nats n h hr
    exact ⟨tx (pub N H seed.data.toList), by rw [tx_size, pub_length N H _ hN]; omega, fun u hu => Stp.pub_any N H nx seed _ u hr (by omega) rfl hu, fun u => RefStp.pub_any N H nx seed _ u hr hs rfl⟩
  · exact ⟨⟨#[]⟩, by decide, fun u _ => Stp.pub_no n h nx seed u hr, fun u => RefStp.pub_no n h nx seed u hr⟩
theorem long_both (n h : Int) : ∃ L : Int,
    (∀ u, Calls Tryz.prog 11 #[.agg #[.int .i64 n, .int .i64 h]] u fun v w' => v = .returned (.int .i64 L) ∧ Below u.heap.size u w') ∧
    (∀ u, Calls Tryz.prog 12 #[.agg #[.int .i64 n, .int .i64 h]] u fun v w' => v = .returned (.int .i64 L) ∧ Below u.heap.size u w') := by
  by_cases hr : Right n h
  · obtain ⟨N, H, rfl, rfl, -, -⟩ := nats n h hr
    exact ⟨_, fun u => Stp.long_yes N H _ hr u rfl, fun u => RefStp.long_yes N H _ hr u rfl⟩
  · exact ⟨_, fun u => Stp.long_no n h hr u, fun u => RefStp.long_no n h hr u⟩
theorem check_both (n h : Int) (p m s : ByteArray) (hm : m.size ≤ 400000) (hs : s.size ≤ 1000000) : ∃ B : Bool,
    (∀ u, Consts u → Calls Tryz.prog 15 #[.agg #[.int .i64 n, .int .i64 h], .string p, .string m, .string s] u fun v w' => v = .returned (.bool B) ∧ Below u.heap.size u w') ∧
    (∀ u, Calls Tryz.prog 16 #[.agg #[.int .i64 n, .int .i64 h], .string p, .string m, .string s] u fun v w' => v = .returned (.bool B) ∧ Below u.heap.size u w') := by
  by_cases hr : Right n h
  · obtain ⟨N, H, rfl, rfl, -, -⟩ := nats n h hr
    exact ⟨_, fun u hu => Stp.check_any N H p m s _ u hr (by omega) (by omega) rfl hu, fun u => RefStp.check_any N H p m s _ u hr (by omega) hm rfl⟩
  · exact ⟨false, fun u _ => Stp.check_no n h p m s u hr, fun u => RefStp.check_no n h p m s u hr⟩
/-- Four texts' cells under a name. -/
structure Txt (X : List Value) (t0 t1 t2 t3 : ByteArray) : Prop where
  e0 : X[0]? = some (.string t0)
  e1 : X[1]? = some (.string t1)
  e2 : X[2]? = some (.string t2)
  e3 : X[3]? = some (.string t3)
  agg : Value.agg X.toArray = .agg #[.string t0, .string t1, .string t2, .string t3]
theorem named_texts (t0 t1 t2 t3 : ByteArray) : ∃ X, Txt X t0 t1 t2 t3 := ⟨[.string t0, .string t1, .string t2, .string t3], rfl, rfl, rfl, rfl, rfl⟩
def total (seed t0 t1 t2 t3 : ByteArray) : Nat := seed.size + t0.size + t1.size + t2.size + t3.size

set_option maxHeartbeats 3200000 in
theorem law_great (n h nx : Int) (seed t0 t1 t2 t3 : ByteArray) (W : World) (hg : ¬ (total seed t0 t1 t2 t3 ≤ 1500 ∧ n ≤ 4 ∧ h ≤ 3)) (z : seed.size ≤ 140737488351232) (z0 : t0.size ≤ 140737488351232) (z1 : t1.size ≤ 140737488351232) (z2 : t2.size ≤ 140737488351232) (z3 : t3.size ≤ 140737488351232) (hk : Consts W) :
    Calls Tryz.prog 3 #[.agg #[.int .i64 n, .int .i64 h, .string seed, .int .i64 nx], .agg #[.string t0, .string t1, .string t2, .string t3]] W
      fun e w' => e = .returned (.bool true) ∧ Below W.heap.size W w' := by
  have RA := Lib.hid (fun u (hu : Below W.heap.size W u) => awake_any u (hk.below hk.1 hu))
  obtain ⟨X, hX, hXc⟩ := named n h seed nx
  obtain ⟨T, hT⟩ := named_texts t0 t1 t2 t3
  rw [← hX.agg, ← hT.agg]
  have HX := Lib.hid hX
  have HXC := Lib.hid hXc
  have HT := Lib.hid hT
  have HM := Lib.hid (Hold.Hld.start W)
  have HG := Lib.hid hg
  clear hX hXc hT hk hg
  go_enter Tryz.func3, Tryz.ntmps3
  go_upto_region 1 with ((first
    | (with_reducible refine Hold.box HM.out rfl rfl rfl ?_; clear HM; intro b0 w HM; simp only [List.nil_append] at HM; replace HM := Lib.hid HM)
    | (with_reducible refine Hold.box HM.out rfl rfl rfl ?_; clear HM; intro b1 w HM; simp only [List.nil_append, List.cons_append] at HM; replace HM := Lib.hid HM)))

  refine Steady.region 11 (by kernel_rfl) (by kernel_rfl) (fun u => Hold.Hld _ _ u) HM.out.drew ?_
  simp only [List.take_succ_cons, List.take_zero, List.drop_succ_cons, List.drop_zero]
  refine Steady.take ?_ rfl (by intro u hu; go_simp; with_reducible rfl) ?_
  simp only [Act.put, List.setIfInBounds_toArray, List.set_cons_zero, List.set_cons_succ]
  refine Steady.take (.string t0) rfl (fun u hu => Hold.load1_run hu 1 rfl rfl rfl (HT.out.e0) (cellStr)) ?_
  simp only [Act.put, List.setIfInBounds_toArray, List.set_cons_zero, List.set_cons_succ]
  refine Steady.take ?_ rfl (by intro u hu; go_simp; with_reducible rfl) ?_
  simp only [Act.put, List.setIfInBounds_toArray, List.set_cons_zero, List.set_cons_succ]
  refine Steady.take (.string t1) rfl (fun u hu => Hold.load1_run hu 1 rfl rfl rfl (HT.out.e1) (cellStr)) ?_
  simp only [Act.put, List.setIfInBounds_toArray, List.set_cons_zero, List.set_cons_succ]
  refine Steady.take ?_ rfl (by intro u hu; go_simp; with_reducible rfl) ?_
  simp only [Act.put, List.setIfInBounds_toArray, List.set_cons_zero, List.set_cons_succ]
  refine Steady.take (.string t2) rfl (fun u hu => Hold.load1_run hu 1 rfl rfl rfl (HT.out.e2) (cellStr)) ?_
  simp only [Act.put, List.setIfInBounds_toArray, List.set_cons_zero, List.set_cons_succ]
  refine Steady.take ?_ rfl (by intro u hu; go_simp; with_reducible rfl) ?_
  simp only [Act.put, List.setIfInBounds_toArray, List.set_cons_zero, List.set_cons_succ]
  refine Steady.take (.string t3) rfl (fun u hu => Hold.load1_run hu 1 rfl rfl rfl (HT.out.e3) (cellStr)) ?_
  simp only [Act.put, List.setIfInBounds_toArray, List.set_cons_zero, List.set_cons_succ]
  refine Steady.take ?_ rfl (by intro u hu; go_simp; with_reducible rfl) ?_
  simp only [Act.put, List.setIfInBounds_toArray, List.set_cons_zero, List.set_cons_succ]
  refine Steady.take ?_ rfl (by intro u hu; go_simp; with_reducible rfl) ?_
  simp only [Act.put, List.setIfInBounds_toArray, List.set_cons_zero, List.set_cons_succ]
  refine Steady.take ?_ rfl (by intro u hu; go_simp; with_reducible rfl) ?_
  simp only [Act.put, List.setIfInBounds_toArray, List.set_cons_zero, List.set_cons_succ]
  refine Steady.nil ?_
  clear HM
  intro w HM
  replace HM := Lib.hid HM

  go_upto_region 2 with (fail)
  have hf := sign_cells HM.out 0 rfl HXC.out
  by_cases h1 : total seed t0 t1 t2 t3 ≤ 1500
  · have hd1 : decide (1500 < (seed.size : Int) + (t0.size : Int) + (t1.size : Int) + (t2.size : Int) + (t3.size : Int)) = false := by unfold total at h1; simp; omega
    by_cases h2 : n ≤ 4
    · have hd2 : decide (4 < n) = false := by simp; omega
      have hd3 : decide (3 < h) = true := by
        have : ¬ h ≤ 3 := fun g => HG.out ⟨h1, h2, g⟩
        simp; omega
      go_wp2_with fail
      refine (RA.out _ HM.out.below).mono ?_
      rintro ev wd ⟨rfl, hbd⟩
      have HBD := Lib.hid (HM.out.below.trans (hbd.mono HM.out.below.size))
      clear hbd hf
      go_wp2
      go_ret
      exact ⟨rfl, HBD.out⟩
    · have hd2 : decide (4 < n) = true := by simp; omega
      go_wp2_with fail
      refine (RA.out _ HM.out.below).mono ?_
      rintro ev wd ⟨rfl, hbd⟩
      have HBD := Lib.hid (HM.out.below.trans (hbd.mono HM.out.below.size))
      clear hbd hf
      go_wp2
      go_ret
      exact ⟨rfl, HBD.out⟩
  · have hd1 : decide (1500 < (seed.size : Int) + (t0.size : Int) + (t1.size : Int) + (t2.size : Int) + (t3.size : Int)) = true := by unfold total at h1; simp; omega
    go_wp2_with fail
    refine (RA.out _ HM.out.below).mono ?_
    rintro ev wd ⟨rfl, hbd⟩
    have HBD := Lib.hid (HM.out.below.trans (hbd.mono HM.out.below.size))
    clear hbd hf
    go_wp2
    go_ret
    exact ⟨rfl, HBD.out⟩

set_option maxHeartbeats 12800000 in
theorem law_small (n h nx : Int) (seed t0 t1 t2 t3 : ByteArray) (W : World) (hg : seed.size + t0.size + t1.size + t2.size + t3.size ≤ 1500) (h4 : n ≤ 4) (h3 : h ≤ 3) (hi : nx < 9223372036854775808) (hk : Consts W) :
    Calls Tryz.prog 3 #[.agg #[.int .i64 n, .int .i64 h, .string seed, .int .i64 nx], .agg #[.string t0, .string t1, .string t2, .string t3]] W
      fun e w' => e = .returned (.bool true) ∧ Below W.heap.size W w' := by
  have hd1 : decide (1500 < (seed.size : Int) + (t0.size : Int) + (t1.size : Int) + (t2.size : Int) + (t3.size : Int)) = false := by simp; omega
  have hd2 : decide (4 < n) = false := by simp; omega
  have hd3 : decide (3 < h) = false := by simp; omega
  obtain ⟨a, b, x, sm, e1, m1, m2⟩ := make_both n h t0 (by omega)
  obtain ⟨A, x2, e2, hA, g1, g2⟩ := sign_both n h nx seed t1 (by omega) (by omega) hi
  obtain ⟨K, hK, p1, p2⟩ := pub_both n h nx seed (by omega)
  obtain ⟨L, l1, l2⟩ := long_both n h
  obtain ⟨F, hF⟩ : ∃ F, F = leftI n h nx := ⟨_, rfl⟩
  have f1 := fun u => Stp.left_any n h nx seed F u hF
  have f2 := fun u => RefStp.left_any n h nx seed F u hF
  obtain ⟨B, c1, c2⟩ := check_both n h t2 t1 t3 (by omega) (by omega)
  obtain ⟨B2, d1, d2⟩ := check_both n h K t1 A (by omega) (by omega)
  have RA := Lib.hid (fun u (hu : Below W.heap.size W u) => awake_any u (hk.below hk.1 hu))
  obtain ⟨X, hX, hXc⟩ := named n h seed nx
  obtain ⟨Y, hY, hYc⟩ := named_shape n h
  obtain ⟨T, hT⟩ := named_texts t0 t1 t2 t3
  obtain ⟨XM, hXM, -⟩ := named a b sm x
  obtain ⟨XS, hXS, -⟩ := named n h seed x2
  have hXY : Hold.Part X 0 Y := by rw [hYc]; exact hX.shape
  have m1' := fun u (hu : Below W.heap.size W u) => m1 u (hk.below hk.1 hu)
  have g1' := fun u (hu : Below W.heap.size W u) => g1 u (hk.below hk.1 hu)
  have p1' := fun u (hu : Below W.heap.size W u) => p1 u (hk.below hk.1 hu)
  have c1' := fun u (hu : Below W.heap.size W u) => c1 u (hk.below hk.1 hu)
  have d1' := fun u (hu : Below W.heap.size W u) => d1 u (hk.below hk.1 hu)
  rw [← hY.agg] at m1' m2 l1 l2 c1' c2 d1' d2
  rw [← hXM.agg] at m1' m2
  rw [← hX.agg] at g1' g2 p1' p2 f1 f2 ⊢
  rw [← hXS.agg] at g1' g2
  rw [← hT.agg]
  have M1 := Lib.hid m1'
  have M2 := Lib.hid m2
  have G1 := Lib.hid g1'
  have G2 := Lib.hid g2
  have P1 := Lib.hid p1'
  have P2 := Lib.hid p2
  have L1 := Lib.hid l1
  have L2 := Lib.hid l2
  have F1 := Lib.hid f1
  have F2 := Lib.hid f2
  have C1 := Lib.hid c1'
  have C2 := Lib.hid c2
  have D1 := Lib.hid d1'
  have D2 := Lib.hid d2
  have HX := Lib.hid hX
  have HY := Lib.hid hY
  have HXY := Lib.hid hXY
  have HXC := Lib.hid hXc
  have HT := Lib.hid hT
  have HXM := Lib.hid hXM
  have HXS := Lib.hid hXS
  have HM := Lib.hid (Hold.Hld.start W)
  clear m1 m2 g1 g2 p1 p2 l1 l2 f1 f2 c1 c2 d1 d2 m1' g1' p1' c1' d1' hX hY hYc hXY hXc hT hXM hXS hF hA hK hi hk
  go_enter Tryz.func3, Tryz.ntmps3
  go_upto_region 1 with ((first
    | (with_reducible refine Hold.box HM.out rfl rfl rfl ?_; clear HM; intro b0 w HM; simp only [List.nil_append] at HM; replace HM := Lib.hid HM)
    | (with_reducible refine Hold.box HM.out rfl rfl rfl ?_; clear HM; intro b1 w HM; simp only [List.nil_append, List.cons_append] at HM; replace HM := Lib.hid HM)))

  refine Steady.region 11 (by kernel_rfl) (by kernel_rfl) (fun u => Hold.Hld _ _ u) HM.out.drew ?_
  simp only [List.take_succ_cons, List.take_zero, List.drop_succ_cons, List.drop_zero]
  refine Steady.take ?_ rfl (by intro u hu; go_simp; with_reducible rfl) ?_
  simp only [Act.put, List.setIfInBounds_toArray, List.set_cons_zero, List.set_cons_succ]
  refine Steady.take (.string t0) rfl (fun u hu => Hold.load1_run hu 1 rfl rfl rfl (HT.out.e0) (cellStr)) ?_
  simp only [Act.put, List.setIfInBounds_toArray, List.set_cons_zero, List.set_cons_succ]
  refine Steady.take ?_ rfl (by intro u hu; go_simp; with_reducible rfl) ?_
  simp only [Act.put, List.setIfInBounds_toArray, List.set_cons_zero, List.set_cons_succ]
  refine Steady.take (.string t1) rfl (fun u hu => Hold.load1_run hu 1 rfl rfl rfl (HT.out.e1) (cellStr)) ?_
  simp only [Act.put, List.setIfInBounds_toArray, List.set_cons_zero, List.set_cons_succ]
  refine Steady.take ?_ rfl (by intro u hu; go_simp; with_reducible rfl) ?_
  simp only [Act.put, List.setIfInBounds_toArray, List.set_cons_zero, List.set_cons_succ]
  refine Steady.take (.string t2) rfl (fun u hu => Hold.load1_run hu 1 rfl rfl rfl (HT.out.e2) (cellStr)) ?_
  simp only [Act.put, List.setIfInBounds_toArray, List.set_cons_zero, List.set_cons_succ]
  refine Steady.take ?_ rfl (by intro u hu; go_simp; with_reducible rfl) ?_
  simp only [Act.put, List.setIfInBounds_toArray, List.set_cons_zero, List.set_cons_succ]
  refine Steady.take (.string t3) rfl (fun u hu => Hold.load1_run hu 1 rfl rfl rfl (HT.out.e3) (cellStr)) ?_
  simp only [Act.put, List.setIfInBounds_toArray, List.set_cons_zero, List.set_cons_succ]
  refine Steady.take ?_ rfl (by intro u hu; go_simp; with_reducible rfl) ?_
  simp only [Act.put, List.setIfInBounds_toArray, List.set_cons_zero, List.set_cons_succ]
  refine Steady.take ?_ rfl (by intro u hu; go_simp; with_reducible rfl) ?_
  simp only [Act.put, List.setIfInBounds_toArray, List.set_cons_zero, List.set_cons_succ]
  refine Steady.take ?_ rfl (by intro u hu; go_simp; with_reducible rfl) ?_
  simp only [Act.put, List.setIfInBounds_toArray, List.set_cons_zero, List.set_cons_succ]
  refine Steady.nil ?_
  clear HM
  intro w HM
  replace HM := Lib.hid HM

  go_upto_region 2 with (fail)
  have hf := sign_cells HM.out 0 rfl HXC.out
  go_upto_region 4 with (fail)
  clear hf
  go_upto_region 5 with ((first
    | (with_reducible refine Hold.load HM.out 0 (cs := Y) rfl rfl rfl rfl (HXY.out) (by rw [HY.out.len]; exact shapeRow) ?_)
    | (with_reducible refine (M1.out _ HM.out.below).mono ?_; rintro e w ⟨rfl, hb⟩; replace HM := Lib.hid (HM.out.next hb); clear hb)
    | (with_reducible refine Hold.alloc HM.out rfl rfl zeroS zero_sign ?_; clear HM; intro b2 w HM; simp only [List.nil_append, List.cons_append] at HM; replace HM := Lib.hid HM)
    | (with_reducible refine Hold.store HM.out 2 (v' := XM) rfl rfl rfl rfl rfl (by rw [zero_len, HXM.out.len]; exact Nat.le_of_eq (Nat.zero_add _)) (Hold.lay_all (zero_len.trans HXM.out.len.symm)) (HXM.out.one) (by rw [HXM.out.len]; exact signRow) ?_; clear HM; intro w HM; simp only [List.set_cons_zero, List.set_cons_succ] at HM; replace HM := Lib.hid HM)))

  go_upto_region 6 with ((first
    | (with_reducible refine Hold.load HM.out 0 (cs := Y) rfl rfl rfl rfl (HXY.out) (by rw [HY.out.len]; exact shapeRow) ?_)
    | (with_reducible refine (M2.out _).mono ?_; rintro e w ⟨rfl, hb⟩; replace HM := Lib.hid (HM.out.next hb); clear hb)
    | (with_reducible refine Hold.alloc HM.out rfl rfl zeroS zero_sign ?_; clear HM; intro b3 w HM; simp only [List.nil_append, List.cons_append] at HM; replace HM := Lib.hid HM)
    | (with_reducible refine Hold.store HM.out 3 (v' := XM) rfl rfl rfl rfl rfl (by rw [zero_len, HXM.out.len]; exact Nat.le_of_eq (Nat.zero_add _)) (Hold.lay_all (zero_len.trans HXM.out.len.symm)) (HXM.out.one) (by rw [HXM.out.len]; exact signRow) ?_; clear HM; intro w HM; simp only [List.set_cons_zero, List.set_cons_succ] at HM; replace HM := Lib.hid HM)))

  go_upto_region 7 with ((first
    | (with_reducible refine Hold.load HM.out 0 (cs := X) rfl rfl rfl rfl (Hold.Part.all _) (by rw [HX.out.len]; exact signRow) ?_)
    | (with_reducible refine (G1.out _ HM.out.below).mono ?_; rintro e w ⟨rfl, hb⟩; replace HM := Lib.hid (HM.out.next hb); clear hb)
    | (with_reducible refine Hold.alloc HM.out rfl rfl zeroS zero_sign ?_; clear HM; intro b4 w HM; simp only [List.nil_append, List.cons_append] at HM; replace HM := Lib.hid HM)
    | (with_reducible refine Hold.store HM.out 4 (v' := XS) rfl rfl rfl rfl rfl (by rw [zero_len, HXS.out.len]; exact Nat.le_of_eq (Nat.zero_add _)) (Hold.lay_all (zero_len.trans HXS.out.len.symm)) (HXS.out.one) (by rw [HXS.out.len]; exact signRow) ?_; clear HM; intro w HM; simp only [List.set_cons_zero, List.set_cons_succ] at HM; replace HM := Lib.hid HM)))

  go_upto_region 8 with ((first
    | (with_reducible refine Hold.load HM.out 0 (cs := X) rfl rfl rfl rfl (Hold.Part.all _) (by rw [HX.out.len]; exact signRow) ?_)
    | (with_reducible refine (G2.out _).mono ?_; rintro e w ⟨rfl, hb⟩; replace HM := Lib.hid (HM.out.next hb); clear hb)
    | (with_reducible refine Hold.alloc HM.out rfl rfl zeroS zero_sign ?_; clear HM; intro b5 w HM; simp only [List.nil_append, List.cons_append] at HM; replace HM := Lib.hid HM)
    | (with_reducible refine Hold.store HM.out 5 (v' := XS) rfl rfl rfl rfl rfl (by rw [zero_len, HXS.out.len]; exact Nat.le_of_eq (Nat.zero_add _)) (Hold.lay_all (zero_len.trans HXS.out.len.symm)) (HXS.out.one) (by rw [HXS.out.len]; exact signRow) ?_; clear HM; intro w HM; simp only [List.set_cons_zero, List.set_cons_succ] at HM; replace HM := Lib.hid HM)))

  have hsA : (A.toList == A.toList) = true := by simp
  have hsK : (K.toList == K.toList) = true := by simp
  simp only [List.append_eq, List.cons_append, List.nil_append]
  refine Steady.region 81 (by kernel_rfl) (by kernel_rfl) (fun u => Hold.Hld _ _ u) HM.out.drew ?_
  simp only [List.take_succ_cons, List.take_zero, List.drop_succ_cons, List.drop_zero]
  refine Steady.take (.agg (XM).toArray) rfl (fun u hu => Hold.load_run hu 2 rfl rfl rfl (Hold.Part.all _) (by rw [HXM.out.len]; exact signRow)) ?_
  simp only [Act.put, List.setIfInBounds_toArray, List.set_cons_zero, List.set_cons_succ]
  refine Steady.take (.agg (XM).toArray) rfl (fun u hu => Hold.load_run hu 3 rfl rfl rfl (Hold.Part.all _) (by rw [HXM.out.len]; exact signRow)) ?_
  simp only [Act.put, List.setIfInBounds_toArray, List.set_cons_zero, List.set_cons_succ]
  refine Steady.take (.bool true) rfl (fun u hu => sgn_eql HXM.out HXM.out true (decide_eq_true rfl).symm rfl rfl rfl u) ?_
  simp only [Act.put, List.setIfInBounds_toArray, List.set_cons_zero, List.set_cons_succ]
  refine Steady.take ?_ rfl (by intro u hu; go_simp; with_reducible rfl) ?_
  simp only [Act.put, List.setIfInBounds_toArray, List.set_cons_zero, List.set_cons_succ]
  refine Steady.take ?_ rfl (by intro u hu; go_simp; with_reducible rfl) ?_
  simp only [Act.put, List.setIfInBounds_toArray, List.set_cons_zero, List.set_cons_succ]
  refine Steady.take ?_ rfl (by intro u hu; go_simp; with_reducible rfl) ?_
  simp only [Act.put, List.setIfInBounds_toArray, List.set_cons_zero, List.set_cons_succ]
  refine Steady.take ?_ rfl (by intro u hu; go_simp; with_reducible rfl) ?_
  simp only [Act.put, List.setIfInBounds_toArray, List.set_cons_zero, List.set_cons_succ]
  refine Steady.take ?_ rfl (by intro u hu; go_simp; with_reducible rfl) ?_
  simp only [Act.put, List.setIfInBounds_toArray, List.set_cons_zero, List.set_cons_succ]
  refine Steady.take ?_ rfl (by intro u hu; go_simp; with_reducible rfl) ?_
  simp only [Act.put, List.setIfInBounds_toArray, List.set_cons_zero, List.set_cons_succ]
  refine Steady.take ?_ rfl (by intro u hu; go_simp; with_reducible rfl) ?_
  simp only [Act.put, List.setIfInBounds_toArray, List.set_cons_zero, List.set_cons_succ]
  refine Steady.take ?_ rfl (by intro u hu; go_simp; with_reducible rfl) ?_
  simp only [Act.put, List.setIfInBounds_toArray, List.set_cons_zero, List.set_cons_succ]
  refine Steady.take ?_ rfl (by intro u hu; go_simp; with_reducible rfl) ?_
  simp only [Act.put, List.setIfInBounds_toArray, List.set_cons_zero, List.set_cons_succ]
  refine Steady.take ?_ rfl (by intro u hu; go_simp; with_reducible rfl) ?_
  simp only [Act.put, List.setIfInBounds_toArray, List.set_cons_zero, List.set_cons_succ]
  refine Steady.take ?_ rfl (by intro u hu; go_simp; with_reducible rfl) ?_
  simp only [Act.put, List.setIfInBounds_toArray, List.set_cons_zero, List.set_cons_succ]
  refine Steady.take (.agg (XS).toArray) rfl (fun u hu => Hold.load_run hu 4 rfl rfl rfl (Hold.Part.all _) (by rw [HXS.out.len]; exact signRow)) ?_
  simp only [Act.put, List.setIfInBounds_toArray, List.set_cons_zero, List.set_cons_succ]
  refine Steady.take (.agg (XS).toArray) rfl (fun u hu => Hold.load_run hu 5 rfl rfl rfl (Hold.Part.all _) (by rw [HXS.out.len]; exact signRow)) ?_
  simp only [Act.put, List.setIfInBounds_toArray, List.set_cons_zero, List.set_cons_succ]
  refine Steady.take (.bool true) rfl (fun u hu => sgn_eql HXS.out HXS.out true (decide_eq_true rfl).symm rfl rfl rfl u) ?_
  simp only [Act.put, List.setIfInBounds_toArray, List.set_cons_zero, List.set_cons_succ]
  refine Steady.take ?_ rfl (by intro u hu; go_simp; with_reducible rfl) ?_
  simp only [Act.put, List.setIfInBounds_toArray, List.set_cons_zero, List.set_cons_succ]
  refine Steady.take ?_ rfl (by intro u hu; go_simp; with_reducible rfl) ?_
  simp only [Act.put, List.setIfInBounds_toArray, List.set_cons_zero, List.set_cons_succ]
  refine Steady.take ?_ rfl (by intro u hu; go_simp; with_reducible rfl) ?_
  simp only [Act.put, List.setIfInBounds_toArray, List.set_cons_zero, List.set_cons_succ]
  refine Steady.take ?_ rfl (by intro u hu; go_simp; with_reducible rfl) ?_
  simp only [Act.put, List.setIfInBounds_toArray, List.set_cons_zero, List.set_cons_succ]
  refine Steady.take ?_ rfl (by intro u hu; go_simp; with_reducible rfl) ?_
  simp only [Act.put, List.setIfInBounds_toArray, List.set_cons_zero, List.set_cons_succ]
  refine Steady.take ?_ rfl (by intro u hu; go_simp; with_reducible rfl) ?_
  simp only [Act.put, List.setIfInBounds_toArray, List.set_cons_zero, List.set_cons_succ]
  refine Steady.take ?_ rfl (by intro u hu; go_simp; with_reducible rfl) ?_
  simp only [Act.put, List.setIfInBounds_toArray, List.set_cons_zero, List.set_cons_succ]
  refine Steady.take (.agg (X).toArray) rfl (fun u hu => Hold.load_run hu 0 rfl rfl rfl (Hold.Part.all _) (by rw [HX.out.len]; exact signRow)) ?_
  simp only [Act.put, List.setIfInBounds_toArray, List.set_cons_zero, List.set_cons_succ]
  refine Steady.call _ _ _ rfl ?_ (kept_if P1.out) ?_
  · intro u
    go_simp
  simp only [Act.put, List.setIfInBounds_toArray, List.set_cons_zero, List.set_cons_succ]
  refine Steady.take (.agg (X).toArray) rfl (fun u hu => Hold.load_run hu 0 rfl rfl rfl (Hold.Part.all _) (by rw [HX.out.len]; exact signRow)) ?_
  simp only [Act.put, List.setIfInBounds_toArray, List.set_cons_zero, List.set_cons_succ]
  refine Steady.call _ _ _ rfl ?_ (Hold.kept P2.out) ?_
  · intro u
    go_simp
  simp only [Act.put, List.setIfInBounds_toArray, List.set_cons_zero, List.set_cons_succ]
  refine Steady.take ?_ rfl (by intro u hu; go_simp; with_reducible rfl) ?_
  simp only [Act.put, List.setIfInBounds_toArray, List.set_cons_zero, List.set_cons_succ]
  refine Steady.take ?_ rfl (by intro u hu; go_simp; with_reducible rfl) ?_
  simp only [Act.put, List.setIfInBounds_toArray, List.set_cons_zero, List.set_cons_succ]
  refine Steady.take ?_ rfl (by intro u hu; go_simp; with_reducible rfl) ?_
  simp only [Act.put, List.setIfInBounds_toArray, List.set_cons_zero, List.set_cons_succ]
  refine Steady.take ?_ rfl (by intro u hu; go_simp; with_reducible rfl) ?_
  simp only [Act.put, List.setIfInBounds_toArray, List.set_cons_zero, List.set_cons_succ]
  refine Steady.take (.agg (Y).toArray) rfl (fun u hu => Hold.load_run hu 0 rfl rfl rfl (HXY.out) (by rw [HY.out.len]; exact shapeRow)) ?_
  simp only [Act.put, List.setIfInBounds_toArray, List.set_cons_zero, List.set_cons_succ]
  refine Steady.call _ _ _ rfl ?_ (Hold.kept L1.out) ?_
  · intro u
    go_simp
  simp only [Act.put, List.setIfInBounds_toArray, List.set_cons_zero, List.set_cons_succ]
  refine Steady.take ?_ rfl (by intro u hu; go_simp; with_reducible rfl) ?_
  simp only [Act.put, List.setIfInBounds_toArray, List.set_cons_zero, List.set_cons_succ]
  refine Steady.take (.agg (Y).toArray) rfl (fun u hu => Hold.load_run hu 0 rfl rfl rfl (HXY.out) (by rw [HY.out.len]; exact shapeRow)) ?_
  simp only [Act.put, List.setIfInBounds_toArray, List.set_cons_zero, List.set_cons_succ]
  refine Steady.call _ _ _ rfl ?_ (Hold.kept L2.out) ?_
  · intro u
    go_simp
  simp only [Act.put, List.setIfInBounds_toArray, List.set_cons_zero, List.set_cons_succ]
  refine Steady.take ?_ rfl (by intro u hu; go_simp; with_reducible rfl) ?_
  simp only [Act.put, List.setIfInBounds_toArray, List.set_cons_zero, List.set_cons_succ]
  refine Steady.take ?_ rfl (by intro u hu; go_simp; with_reducible rfl) ?_
  simp only [Act.put, List.setIfInBounds_toArray, List.set_cons_zero, List.set_cons_succ]
  refine Steady.take ?_ rfl (by intro u hu; go_simp; with_reducible rfl) ?_
  simp only [Act.put, List.setIfInBounds_toArray, List.set_cons_zero, List.set_cons_succ]
  refine Steady.take (.agg (X).toArray) rfl (fun u hu => Hold.load_run hu 0 rfl rfl rfl (Hold.Part.all _) (by rw [HX.out.len]; exact signRow)) ?_
  simp only [Act.put, List.setIfInBounds_toArray, List.set_cons_zero, List.set_cons_succ]
  refine Steady.call _ _ _ rfl ?_ (Hold.kept F1.out) ?_
  · intro u
    go_simp
  simp only [Act.put, List.setIfInBounds_toArray, List.set_cons_zero, List.set_cons_succ]
  refine Steady.take (.agg (X).toArray) rfl (fun u hu => Hold.load_run hu 0 rfl rfl rfl (Hold.Part.all _) (by rw [HX.out.len]; exact signRow)) ?_
  simp only [Act.put, List.setIfInBounds_toArray, List.set_cons_zero, List.set_cons_succ]
  refine Steady.call _ _ _ rfl ?_ (Hold.kept F2.out) ?_
  · intro u
    go_simp
  simp only [Act.put, List.setIfInBounds_toArray, List.set_cons_zero, List.set_cons_succ]
  refine Steady.take ?_ rfl (by intro u hu; go_simp; with_reducible rfl) ?_
  simp only [Act.put, List.setIfInBounds_toArray, List.set_cons_zero, List.set_cons_succ]
  refine Steady.take ?_ rfl (by intro u hu; go_simp; with_reducible rfl) ?_
  simp only [Act.put, List.setIfInBounds_toArray, List.set_cons_zero, List.set_cons_succ]
  refine Steady.take ?_ rfl (by intro u hu; go_simp; with_reducible rfl) ?_
  simp only [Act.put, List.setIfInBounds_toArray, List.set_cons_zero, List.set_cons_succ]
  refine Steady.take ?_ rfl (by intro u hu; go_simp; with_reducible rfl) ?_
  simp only [Act.put, List.setIfInBounds_toArray, List.set_cons_zero, List.set_cons_succ]
  refine Steady.take (.agg (Y).toArray) rfl (fun u hu => Hold.load_run hu 0 rfl rfl rfl (HXY.out) (by rw [HY.out.len]; exact shapeRow)) ?_
  simp only [Act.put, List.setIfInBounds_toArray, List.set_cons_zero, List.set_cons_succ]
  refine Steady.take ?_ rfl (by intro u hu; go_simp; with_reducible rfl) ?_
  simp only [Act.put, List.setIfInBounds_toArray, List.set_cons_zero, List.set_cons_succ]
  refine Steady.take ?_ rfl (by intro u hu; go_simp; with_reducible rfl) ?_
  simp only [Act.put, List.setIfInBounds_toArray, List.set_cons_zero, List.set_cons_succ]
  refine Steady.take ?_ rfl (by intro u hu; go_simp; with_reducible rfl) ?_
  simp only [Act.put, List.setIfInBounds_toArray, List.set_cons_zero, List.set_cons_succ]
  refine Steady.call _ _ _ rfl ?_ (kept_if C1.out) ?_
  · intro u
    go_simp
  simp only [Act.put, List.setIfInBounds_toArray, List.set_cons_zero, List.set_cons_succ]
  refine Steady.take ?_ rfl (by intro u hu; go_simp; with_reducible rfl) ?_
  simp only [Act.put, List.setIfInBounds_toArray, List.set_cons_zero, List.set_cons_succ]
  refine Steady.take (.agg (Y).toArray) rfl (fun u hu => Hold.load_run hu 0 rfl rfl rfl (HXY.out) (by rw [HY.out.len]; exact shapeRow)) ?_
  simp only [Act.put, List.setIfInBounds_toArray, List.set_cons_zero, List.set_cons_succ]
  refine Steady.take ?_ rfl (by intro u hu; go_simp; with_reducible rfl) ?_
  simp only [Act.put, List.setIfInBounds_toArray, List.set_cons_zero, List.set_cons_succ]
  refine Steady.take ?_ rfl (by intro u hu; go_simp; with_reducible rfl) ?_
  simp only [Act.put, List.setIfInBounds_toArray, List.set_cons_zero, List.set_cons_succ]
  refine Steady.take ?_ rfl (by intro u hu; go_simp; with_reducible rfl) ?_
  simp only [Act.put, List.setIfInBounds_toArray, List.set_cons_zero, List.set_cons_succ]
  refine Steady.call _ _ _ rfl ?_ (Hold.kept C2.out) ?_
  · intro u
    go_simp
  simp only [Act.put, List.setIfInBounds_toArray, List.set_cons_zero, List.set_cons_succ]
  refine Steady.take ?_ rfl (by intro u hu; go_simp; with_reducible rfl) ?_
  simp only [Act.put, List.setIfInBounds_toArray, List.set_cons_zero, List.set_cons_succ]
  refine Steady.take ?_ rfl (by intro u hu; go_simp; with_reducible rfl) ?_
  simp only [Act.put, List.setIfInBounds_toArray, List.set_cons_zero, List.set_cons_succ]
  refine Steady.take ?_ rfl (by intro u hu; go_simp; with_reducible rfl) ?_
  simp only [Act.put, List.setIfInBounds_toArray, List.set_cons_zero, List.set_cons_succ]
  refine Steady.take ?_ rfl (by intro u hu; go_simp; with_reducible rfl) ?_
  simp only [Act.put, List.setIfInBounds_toArray, List.set_cons_zero, List.set_cons_succ]
  refine Steady.take (.agg (Y).toArray) rfl (fun u hu => Hold.load_run hu 0 rfl rfl rfl (HXY.out) (by rw [HY.out.len]; exact shapeRow)) ?_
  simp only [Act.put, List.setIfInBounds_toArray, List.set_cons_zero, List.set_cons_succ]
  refine Steady.take (.agg (X).toArray) rfl (fun u hu => Hold.load_run hu 0 rfl rfl rfl (Hold.Part.all _) (by rw [HX.out.len]; exact signRow)) ?_
  simp only [Act.put, List.setIfInBounds_toArray, List.set_cons_zero, List.set_cons_succ]
  refine Steady.call _ _ _ rfl ?_ (Hold.kept P2.out) ?_
  · intro u
    go_simp
  simp only [Act.put, List.setIfInBounds_toArray, List.set_cons_zero, List.set_cons_succ]
  refine Steady.take ?_ rfl (by intro u hu; go_simp; with_reducible rfl) ?_
  simp only [Act.put, List.setIfInBounds_toArray, List.set_cons_zero, List.set_cons_succ]
  refine Steady.take ?_ rfl (by intro u hu; go_simp; with_reducible rfl) ?_
  simp only [Act.put, List.setIfInBounds_toArray, List.set_cons_zero, List.set_cons_succ]
  refine Steady.call _ _ _ rfl ?_ (kept_if D1.out) ?_
  · intro u
    go_simp
  simp only [Act.put, List.setIfInBounds_toArray, List.set_cons_zero, List.set_cons_succ]
  refine Steady.take ?_ rfl (by intro u hu; go_simp; with_reducible rfl) ?_
  simp only [Act.put, List.setIfInBounds_toArray, List.set_cons_zero, List.set_cons_succ]
  refine Steady.take (.agg (Y).toArray) rfl (fun u hu => Hold.load_run hu 0 rfl rfl rfl (HXY.out) (by rw [HY.out.len]; exact shapeRow)) ?_
  simp only [Act.put, List.setIfInBounds_toArray, List.set_cons_zero, List.set_cons_succ]
  refine Steady.take (.agg (X).toArray) rfl (fun u hu => Hold.load_run hu 0 rfl rfl rfl (Hold.Part.all _) (by rw [HX.out.len]; exact signRow)) ?_
  simp only [Act.put, List.setIfInBounds_toArray, List.set_cons_zero, List.set_cons_succ]
  refine Steady.call _ _ _ rfl ?_ (Hold.kept P2.out) ?_
  · intro u
    go_simp
  simp only [Act.put, List.setIfInBounds_toArray, List.set_cons_zero, List.set_cons_succ]
  refine Steady.take ?_ rfl (by intro u hu; go_simp; with_reducible rfl) ?_
  simp only [Act.put, List.setIfInBounds_toArray, List.set_cons_zero, List.set_cons_succ]
  refine Steady.take ?_ rfl (by intro u hu; go_simp; with_reducible rfl) ?_
  simp only [Act.put, List.setIfInBounds_toArray, List.set_cons_zero, List.set_cons_succ]
  refine Steady.call _ _ _ rfl ?_ (Hold.kept D2.out) ?_
  · intro u
    go_simp
  simp only [Act.put, List.setIfInBounds_toArray, List.set_cons_zero, List.set_cons_succ]
  refine Steady.take ?_ rfl (by intro u hu; go_simp; with_reducible rfl) ?_
  simp only [Act.put, List.setIfInBounds_toArray, List.set_cons_zero, List.set_cons_succ]
  refine Steady.take ?_ rfl (by intro u hu; go_simp; with_reducible rfl) ?_
  simp only [Act.put, List.setIfInBounds_toArray, List.set_cons_zero, List.set_cons_succ]
  refine Steady.take ?_ rfl (by intro u hu; go_simp; with_reducible rfl) ?_
  simp only [Act.put, List.setIfInBounds_toArray, List.set_cons_zero, List.set_cons_succ]
  refine Steady.call _ _ _ rfl ?_ (kept_if RA.out) ?_
  · intro u
    go_simp
  simp only [Act.put, List.setIfInBounds_toArray, List.set_cons_zero, List.set_cons_succ]
  refine Steady.take ?_ rfl (by intro u hu; go_simp; with_reducible rfl) ?_
  simp only [Act.put, List.setIfInBounds_toArray, List.set_cons_zero, List.set_cons_succ]
  refine Steady.nil ?_
  clear HM
  intro w HM
  replace HM := Lib.hid HM

  go_wp2
  go_ret
  exact ⟨rfl, HM.out.below⟩

theorem walk (n h : Int) (seed : ByteArray) (nx : Int) (t0 t1 t2 t3 : ByteArray) (w : World) (z : seed.size ≤ 140737488351232) (_ : -9223372036854775808 ≤ nx) (hi : nx < 9223372036854775808) (z0 : t0.size ≤ 140737488351232) (z1 : t1.size ≤ 140737488351232) (z2 : t2.size ≤ 140737488351232) (z3 : t3.size ≤ 140737488351232) (hk : Consts w) :
    Calls Tryz.prog 3 #[.agg #[.int .i64 n, .int .i64 h, .string seed, .int .i64 nx], .agg #[.string t0, .string t1, .string t2, .string t3]] w
      fun e w' => e = .returned (.bool true) ∧ Below w.heap.size w w' := by
  by_cases hg : total seed t0 t1 t2 t3 ≤ 1500 ∧ n ≤ 4 ∧ h ≤ 3
  · exact law_small n h nx seed t0 t1 t2 t3 w hg.1 hg.2.1 hg.2.2 hi hk
  · exact law_great n h nx seed t0 t1 t2 t3 w hg z z0 z1 z2 z3 hk

theorem four_of {α : Type} (l : List α) (h : l.length = 4) : ∃ a b c d, l = [a, b, c, d] := by
  match l, h with
  | [a, b, c, d], _ => exact ⟨a, b, c, d, rfl⟩
theorem laidOut : laidOutB Tryz.prog = true := by kernel_rfl

set_option maxRecDepth 100000 in
theorem lifted (os : Os) (started : os.Started) (H : Type) (enc : TypeId × Value → H) :
    ReturnsInHanded {} Tryz.checked os 3 .any (fun w args => (Rows.stampSaysSpec.pre enc Tryz.prog Tryz.f3 [] false w args ∧ laidMetH Tryz.prog laidL w) ∧ sizedMet enc Tryz.prog Tryz.f3 (OpenSpec.ofChange Rows.stampSaysSpec) false w args)
      (Rows.stampSaysSpec.post enc Tryz.prog Tryz.f3 false true false false) := by
  refine returnsInHanded_of_change_and (C := Tryz.checked) (X := fun w _ => laidMetH Tryz.prog laidL w) (fun _ _ _ hh h => h.of_heap hh) own started (by kernel_rfl) Tryz.func3
    (ChangeSpec.witness_shaped (enc := enc) (C := Tryz.checked) (os := os) (X := fun w _ => laidMetH Tryz.prog laidL w) false (World.doorLaid Tryz.prog 400 os) #[.agg #[.int .i64 0, .int .i64 0, .string ByteArray.empty, .int .i64 0], .agg #[.string ByteArray.empty, .string ByteArray.empty, .string ByteArray.empty, .string ByteArray.empty]] 8 rfl (World.shaped_of_RefB (by kernel_rfl) (by kernel_rfl)) (by kernel_rfl) (by kernel_rfl) (by kernel_rfl) (door_met os _)) ?_
  intro W base args ds gs before hval0 hW _ hsz0 hL _
  have hval : ∀ (j : Nat) t v, Tryz.f3.params[j]? = some t → args[j]? = some v → Value.okWide Tryz.prog W .any base t v := hval0
  have hsz : (DataW.weightsEach Tryz.prog (Tryz.f3.params.toList ++ Rows.stampSaysSpec.plain.varTypes Tryz.prog) (ds ++ gs)).all (· ≤ reachBytes) = true := hsz0
  clear hsz0
  have hW' := hW
  obtain ⟨p, q, hA0, hV, rfl, hfz, hnd⟩ := hW
  have hA : DataW.TrodAll enc Tryz.prog W 0 (fun _ => true) true Tryz.f3.params.toList args.toList ds p := hA0
  rw [Tryz.params3] at hA hval hsz
  obtain ⟨v0, vs0, d0, ds0, p0, q0, hargs, rfl, rfl, h0, r0⟩ := trodAll_cons hA
  obtain ⟨v1, vs1, d1, ds1, p1, q1, rfl, rfl, rfl, h1, r1⟩ := trodAll_cons r0
  obtain ⟨rfl, rfl, rfl⟩ := trodAll_nil r1
  obtain rfl : args = #[v0, v1] := by cases args; simp_all
  obtain ⟨rfl, rfl⟩ := trodVars_none hV
  have k0 := h0
  have lt0 : ∀ x ∈ p0, x.block < W.heap.size := by obtain ⟨m, hm⟩ := k0; exact DataW.trod_lt m _ _ _ hm
  have k1 := h1
  have lt1 : ∀ x ∈ p1, x.block < W.heap.size := by obtain ⟨m, hm⟩ := k1; exact DataW.trod_lt m _ _ _ hm
  obtain ⟨a0, b0, s0, x0, rfl, rfl, rfl, lo0, hi0⟩ := Open.open_signer (hval 0 25 v0 rfl rfl) h0
  have z0 := Open.sized_signer hsz (j := 0) rfl rfl
  obtain ⟨ss1, hsl1, rfl, rfl, rfl, w1⟩ := Open.open_string_array Tryz.underlying26 Tryz.underlying9 (by kernel_rfl) (by kernel_rfl) (hval 1 26 v1 rfl rfl) h1
  have z1 := Open.sized_string_array hsz (j := 1) (t := 26) (ss := ss1) rfl rfl Tryz.underlying26
  obtain ⟨s1a, s1b, s1c, s1d, rfl⟩ := four_of ss1 hsl1
  have hcl := of_laid hL
  clear hA0 hval0
  refine (walk a0 b0 s0 x0 s1a s1b s1c s1d W z0 lo0 hi0 (z1 s1a (by simp)) (z1 s1b (by simp)) (z1 s1c (by simp)) (z1 s1d (by simp)) hcl).mono fun e W' ⟨he, bel⟩ => ?_
  subst he
  exact ⟨_, rfl, _, _, _, [], _, [], hW', trodAll_mk1 (shut_bool Tryz.underlying4 _), (trodAll_cons_mk (Below.trod laidOut (by kernel_rfl) (of_decide_eq_true (by kernel_rfl)) k0 bel lt0) (trodAll_cons_mk (Below.trod laidOut (by kernel_rfl) (of_decide_eq_true (by kernel_rfl)) k1 bel lt1) trodAll_mk0)), rfl, bel.frame _, fun h => by cases h⟩

theorem over : Rows.StampSaysSaid :=
  OpenClaim.holds_of_wide 3 Tryz.f3 rfl rfl rfl rfl rfl rfl rfl ⟨rfl, rfl, rfl, rfl, rfl⟩ rfl rfl rfl rfl rfl (by kernel_rfl) Tryz.func3 (by kernel_rfl)
    (of_decide_eq_true (by kernel_rfl)) (by unfold Func.isWrapper; first | (rw [if_pos (by decide +kernel)]; kernel_rfl) | (rw [if_neg (by decide +kernel)]; exact ⟨rfl, rfl⟩))
    (fun os started H enc _ => lifted os started H enc)

theorem proved : Rows.StampSaysCardSaid :=
  Claim7.holds_tied_plain_at .later [] [.data] true Rows.stampSaysCard.stood.harness false
    over (fun _ h => by cases h) (by kernel_rfl) (fun _ h => by cases h) stampSays_row_tie rfl ⟨rfl, rfl⟩ (by kernel_rfl) rfl
    (fun f fn hf hfn => by
      obtain rfl : f = 3 := Option.some.inj ((show Tryz.prog.funcNamed "murmur/murmurlaw09.StampSays" = some 3 by kernel_rfl).symm.trans hf) |>.symm
      obtain rfl : fn = Tryz.f3 := (Option.some.inj (Tryz.func3.symm.trans hfn)).symm
      exact ⟨by kernel_rfl, fun j t ht => by
        rw [Tryz.params3] at ht
        have hm : t ∈ [25, 26] := by simpa using Array.mem_of_getElem? ht
        have hall : ([25, 26].all fun u => !Tryz.prog.wantsStandIn u) = true := by kernel_rfl
        exact (show Tryz.prog.wantsStandIn t = false by simpa using List.all_eq_true.1 hall t hm)⟩)
    (by kernel_rfl)
#print axioms proved
end Go.Proofs.YtkchbilkmoemaaaGreatDoor.LawSSays
