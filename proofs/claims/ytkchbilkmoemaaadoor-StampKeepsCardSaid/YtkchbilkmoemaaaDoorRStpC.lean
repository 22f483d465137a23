/-
  The document's own answer for Load of layer 9 answers what the plain mathematics of the text Stp says. Conditions: the bytes are no more than 900000.
-/
import Derived.Test.YtkchbilkmoemaaaDoorRStpB
namespace Go.Proofs.YtkchbilkmoemaaaDoor.RefStp
open Go.RowKit Mur Sha Chn Stp
set_option maxRecDepth 100000

theorem load_short (s : ByteArray) (w : World) (hs : s.size < 9) :
    Calls Tryd.prog 16 #[.string s] w fun e w' => e = .returned (.tuple #[.agg #[.int .i64 0, .int .i64 0, .string ⟨#[]⟩, .int .i64 0], .int .i64 2]) ∧ Below w.heap.size w w' := by
  have hd : decide ((s.size : Int) < 9) = true := by simp; omega
  have HM := Lib.hid (Hold.Hld.start w)
  clear hs
  go_enter Tryd.func16, Tryd.ntmps16
  go_wp2_with ((first
    | (with_reducible refine Hold.alloc HM.out rfl rfl zeroS zero_sign ?_; clear HM; intro b0 w HM; simp only [List.nil_append] at HM; replace HM := Lib.hid HM)
    | (with_reducible refine Hold.build (t := 28) (parts := #[]) (cs := zeroS) rfl rfl ?_ ?_; focus (kernel_rfl))
    | (with_reducible refine Hold.store HM.out 0 (v' := zeroS) rfl rfl rfl rfl rfl (by rw [Nat.zero_add]; exact Nat.le_refl _) (Hold.lay_all rfl) (zero_one) (by rw [zero_len]; exact signRow) ?_; clear HM; intro w HM; simp only [List.set_cons_zero] at HM; replace HM := Lib.hid HM)))

  refine bodyPost_ret (Hold.resultsCT HM.out 0 rfl _ rfl rfl rfl (by rw [zero_len]; exact signRow)) rfl ?_
  rw [zero_agg]
  exact ⟨rfl, HM.out.below⟩

/-- The document's tag. -/
theorem tag_ref (s T0 T : ByteArray) (hs : s.size ≤ 900000) (hT0 : T0 = tx (sha (parts [keepT, s.data.toList]))) (hT : T = tx (tagOf s.data.toList)) :
    T0.extract 0 4 = T ∧ (4 : Int) ≤ T0.size ∧ ∀ (b : Nat) (u : World), b < u.heap.size → u.cell? ⟨b, 0, none⟩ = some (.string ⟨#[107, 101, 101, 112]⟩) → u.cell? ⟨b, 1, none⟩ = some (.string s) →
      Calls Tryd.prog 36 #[.slice (some ⟨b, 0, none⟩) 2 2] u fun e w' => e = .returned (.string T0) ∧ Below u.heap.size u w' := by
  have hT0s : T0.size = 32 := by rw [hT0]; exact sha_length _
  exact ⟨cut_take T0 T 4 _ hT0 hT, by omega, fun b u hb c0 c1 => parts_two ⟨#[107, 101, 101, 112]⟩ s b T0 u (by show 4 + s.size ≤ _; omega) hT0 hb c0 c1⟩

set_option maxHeartbeats 1600000 in
theorem load_tag (s : ByteArray) (w : World) (h9 : 9 ≤ s.size) (hs : s.size ≤ 900000) (ht : s.data.toList.drop (s.data.toList.length - 4) ≠ tagOf (bodyOf s.data.toList)) :
    Calls Tryd.prog 16 #[.string s] w fun e w' => e = .returned (.tuple #[.agg #[.int .i64 0, .int .i64 0, .string ⟨#[]⟩, .int .i64 0], .int .i64 14]) ∧ Below w.heap.size w w' := by
  have hd : decide ((s.size : Int) < 9) = false := by simp; omega
  obtain ⟨k, hk4⟩ : ∃ k, k = s.size - 4 := ⟨_, rfl⟩
  obtain ⟨Bd, hBd⟩ : ∃ Bd, Bd = s.extract 0 k := ⟨_, rfl⟩
  obtain ⟨Tl, hTl⟩ : ∃ Tl, Tl = s.extract k s.size := ⟨_, rfl⟩
  have hsl : s.data.toList.length = s.size := rfl
  have hBt : Bd = tx (bodyOf s.data.toList) := by rw [hBd, hk4]; exact take_cut s _
  have hTt : Tl = tx (s.data.toList.drop (s.data.toList.length - 4)) := by rw [hTl, hk4, hsl]; exact drop_all s _
  have hBs : Bd.size = k := by rw [hBt, tx_size, bodyOf, List.length_take, hsl]; omega
  have hTs : Tl.size = 4 := by rw [hTt, tx_size, List.length_drop, hsl]; omega
  obtain ⟨T, hT⟩ : ∃ T, T = tx (tagOf (bodyOf s.data.toList)) := ⟨_, rfl⟩
  obtain ⟨T0, hT0⟩ : ∃ T0, T0 = tx (sha (parts [keepT, Bd.data.toList])) := ⟨_, rfl⟩
  obtain ⟨t1, t2, t3⟩ := tag_ref Bd T0 T (by omega) hT0 (by rw [hT, hBt])
  have hTs2 : T.size = 4 := by rw [hT, tx_size, tagOf_length]
  have hne : (T.toList == Tl.toList) = false := by
    rw [same_text, hTt, hT, tx_list, tx_list]
    exact decide_eq_false (fun g => ht g.symm)
  have RT := Lib.hid t3
  have RA := Lib.hid (show ∀ u, Calls Tryd.prog 37 #[.string T, .string Tl] u fun e w' => e = .returned (.bool false) ∧ Below u.heap.size u w' from fun u => by
    have g := RefOne.alike_any T Tl u (by omega) (by omega)
    rw [hne] at g
    exact g)
  have hw : IntKind.i64.wrap ((s.size : Int) - 4) = (k : Int) := by rw [IntWalk.i64_in _ (by omega)]; omega
  have h1 : (k : Int) ≤ s.size := by omega
  have h2 : (k : Int).toNat = k := by omega
  have h3 : (0 : Int) ≤ (k : Int) := by omega
  have HM := Lib.hid (Hold.Hld.start w)
  have HB := Lib.hid hBd.symm
  have HT := Lib.hid hTl.symm
  have HCU := Lib.hid t1
  have H44 := Lib.hid t2
  clear hs h9 ht hk4 hBt hTt hT hne hBd hTl hsl hBs hTs hT0 t1 t2 t3 hTs2
  go_enter Tryd.func16, Tryd.ntmps16
  have hb := HB.out
  have hte := HT.out
  go_upto_region 3 with ((first
    | (with_reducible refine Hold.alloc HM.out rfl rfl zeroS zero_sign ?_; clear HM; intro b0 w HM; simp only [List.nil_append] at HM; replace HM := Lib.hid HM)))

  refine Steady.region 11 (by kernel_rfl) (by kernel_rfl) (fun u => Hold.Hld _ _ u) HM.out.drew ?_
  simp only [List.take_succ_cons, List.take_zero, List.drop_succ_cons, List.drop_zero]
  refine Steady.take ?_ rfl (by intro u hu; go_simp; with_reducible rfl) ?_
  simp only [Act.put, List.setIfInBounds_toArray, List.set_cons_zero, List.set_cons_succ]
  refine Steady.take ?_ rfl (by intro u hu; go_simp; with_reducible rfl) ?_
  simp only [Act.put, List.setIfInBounds_toArray, List.set_cons_zero, List.set_cons_succ]
  refine Steady.take ?_ rfl (by intro u hu; go_simp; with_reducible rfl) ?_
  simp only [Act.put, List.setIfInBounds_toArray, List.set_cons_zero, List.set_cons_succ]
  refine Steady.take ?_ rfl (by intro u hu; go_simp; with_reducible rfl) ?_
  simp only [Act.put, List.setIfInBounds_toArray, List.set_cons_zero, List.set_cons_succ]
  refine Steady.take ?_ rfl (by intro u hu; go_simp; with_reducible rfl) ?_
  simp only [Act.put, List.setIfInBounds_toArray, List.set_cons_zero, List.set_cons_succ]
  refine Steady.take ?_ rfl (by intro u hu; go_simp; with_reducible rfl) ?_
  simp only [Act.put, List.setIfInBounds_toArray, List.set_cons_zero, List.set_cons_succ]
  refine Steady.take ?_ rfl (by intro u hu; go_simp; with_reducible rfl) ?_
  simp only [Act.put, List.setIfInBounds_toArray, List.set_cons_zero, List.set_cons_succ]
  refine Steady.take ?_ rfl (by intro u hu; go_simp; with_reducible rfl) ?_
  simp only [Act.put, List.setIfInBounds_toArray, List.set_cons_zero, List.set_cons_succ]
  refine Steady.take ?_ rfl (by intro u hu; go_simp; with_reducible rfl) ?_
  simp only [Act.put, List.setIfInBounds_toArray, List.set_cons_zero, List.set_cons_succ]
  refine Steady.take ?_ rfl (by intro u hu; go_simp; with_reducible rfl) ?_
  simp only [Act.put, List.setIfInBounds_toArray, List.set_cons_zero, List.set_cons_succ]
  refine Steady.take ?_ rfl (by intro u hu; go_simp; with_reducible rfl) ?_
  simp only [Act.put, List.setIfInBounds_toArray, List.set_cons_zero, List.set_cons_succ]
  refine Steady.nil ?_
  clear HM
  intro w HM
  replace HM := Lib.hid HM

  clear hb hw hte h1 h2 h3
  have hcu := HCU.out
  have h44 := H44.out
  go_upto_region 4 with (fail)
  go_wp2_with fail
  refine (RT.out _ _ (by simp) (by simp) (by simp)).mono ?_
  rintro e w4 ⟨rfl, hb⟩
  replace HM := Lib.hid (HM.out.next (((Below.refl w.heap.size w).alloc (Nat.le_refl _) (.cells #[.string ⟨#[107, 101, 101, 112]⟩, .string Bd] 9)).trans (hb.mono (by simp))))
  clear hb
  go_wp2_with ((first
    | (with_reducible refine (RA.out _).mono ?_; rintro e w ⟨rfl, hb⟩; replace HM := Lib.hid (HM.out.next hb); clear hb)
    | (with_reducible refine Hold.build (t := 28) (parts := #[]) (cs := zeroS) rfl rfl ?_ ?_; focus (kernel_rfl))
    | (with_reducible refine Hold.store HM.out 0 (v' := zeroS) rfl rfl rfl rfl rfl (by rw [Nat.zero_add]; exact Nat.le_refl _) (Hold.lay_all rfl) (zero_one) (by rw [zero_len]; exact signRow) ?_; clear HM; intro w HM; simp only [List.set_cons_zero] at HM; replace HM := Lib.hid HM)))

  refine bodyPost_ret (Hold.resultsCT HM.out 0 rfl _ rfl rfl rfl (by rw [zero_len]; exact signRow)) rfl ?_
  rw [zero_agg]
  exact ⟨rfl, HM.out.below⟩

theorem or_bytes (a b : Nat) (ha : a < 256) (hb : b < 256) : bits .or .i64 (IntKind.i64.wrap (IntKind.i64.wrap (a : Int) * 256)) (IntKind.i64.wrap (b : Int)) = ((a * 256 + b : Nat) : Int) := by
  rw [IntWalk.i64_in (a : Int) (by omega), IntWalk.i64_in (b : Int) (by omega), IntWalk.i64_in ((a : Int) * 256) (by omega), show (a : Int) * 256 = ((a * 256 : Nat) : Int) by omega, or_i64_nat _ _ (by omega) (by omega), or_add a b hb]

set_option maxHeartbeats 3200000 in
/-- Load, where the tag is right. -/
theorem load_tagged (s : ByteArray) (w : World) (h9 : 9 ≤ s.size) (hs : s.size ≤ 900000) (ht : s.data.toList.drop (s.data.toList.length - 4) = tagOf (bodyOf s.data.toList))
    (S : ByteArray) (n0 n1 nx : Nat) (hS : S = tx ((bodyOf s.data.toList).drop 5)) (e0 : n0 = byteAt (bodyOf s.data.toList) 0) (e1 : n1 = byteAt (bodyOf s.data.toList) 1) (ex : nx = nextOf (bodyOf s.data.toList)) :
    Calls Tryd.prog 16 #[.string s] w fun e w' => (Loads s.data.toList ∧ e = .returned (.tuple #[.agg #[.int .i64 (n0 : Int), .int .i64 (n1 : Int), .string S, .int .i64 (nx : Int)], .int .i64 0]) ∨ ¬ Loads s.data.toList ∧ e = .returned (.tuple #[.agg #[.int .i64 0, .int .i64 0, .string ⟨#[]⟩, .int .i64 0], .int .i64 3])) ∧ Below w.heap.size w w' := by
  have hd : decide ((s.size : Int) < 9) = false := by simp; omega
  obtain ⟨k, hk4⟩ : ∃ k, k = s.size - 4 := ⟨_, rfl⟩
  obtain ⟨Bd, hBd⟩ : ∃ Bd, Bd = s.extract 0 k := ⟨_, rfl⟩
  obtain ⟨Tl, hTl⟩ : ∃ Tl, Tl = s.extract k s.size := ⟨_, rfl⟩
  have hsl : s.data.toList.length = s.size := rfl
  have hBt : Bd = tx (bodyOf s.data.toList) := by rw [hBd, hk4]; exact take_cut s _
  have hTt : Tl = tx (s.data.toList.drop (s.data.toList.length - 4)) := by rw [hTl, hk4, hsl]; exact drop_all s _
  have hBs : Bd.size = k := by rw [hBt, tx_size, bodyOf, List.length_take, hsl]; omega
  have hTs : Tl.size = 4 := by rw [hTt, tx_size, List.length_drop, hsl]; omega
  have hS5 : Bd.extract 5 Bd.size = S := by rw [hS, drop_all Bd 5, hBt, tx_list]
  obtain ⟨T0, hT0⟩ : ∃ T0, T0 = tx (sha (parts [keepT, Bd.data.toList])) := ⟨_, rfl⟩
  obtain ⟨t1, t2, t3⟩ := tag_ref Bd T0 Tl (by omega) hT0 (by rw [hTt, ht, hBt])
  have RT := Lib.hid t3
  have RA := Lib.hid (show ∀ u, Calls Tryd.prog 37 #[.string Tl, .string Tl] u fun e w' => e = .returned (.bool true) ∧ Below u.heap.size u w' from fun u => by
    have g := RefOne.alike_any Tl Tl u (by omega) (by omega)
    rw [show (Tl.toList == Tl.toList) = true by simp] at g
    exact g)
  have hw : IntKind.i64.wrap ((s.size : Int) - 4) = (k : Int) := by rw [IntWalk.i64_in _ (by omega)]; omega
  have h1 : (k : Int) ≤ s.size := by omega
  have h2 : (k : Int).toNat = k := by omega
  have h3 : (0 : Int) ≤ (k : Int) := by omega
  have b0 : 0 < Bd.size := by omega
  have b1 : 1 < Bd.size := by omega
  have b2 : 2 < Bd.size := by omega
  have b3 : 3 < Bd.size := by omega
  have b4 : 4 < Bd.size := by omega
  have i1 : (1 : Int) < (Bd.size : Int) := by omega
  have i2 : (2 : Int) < (Bd.size : Int) := by omega
  have i3 : (3 : Int) < (Bd.size : Int) := by omega
  have i4 : (4 : Int) < (Bd.size : Int) := by omega
  have i5 : (5 : Int) ≤ (Bd.size : Int) := by omega
  obtain ⟨X, hX, hXc⟩ := named n0 n1 S nx
  have hat : ∀ i (h : i < Bd.size), (Bd[i].toNat : Int) = (byteAt (bodyOf s.data.toList) i : Int) := fun i h => by
    rw [show bodyOf s.data.toList = Bd.data.toList by rw [hBt], byteAt, at_getD Bd i h]
  have hSs : S.size = ((bodyOf s.data.toList).drop 5).length := by rw [hS, tx_size]
  have hSl : ((bodyOf s.data.toList).drop 5).length ≤ s.size := by rw [List.length_drop, bodyOf, List.length_take, hsl]; omega
  have hkeep : ∃ (K : ByteArray) (e2 : Int), (∀ u, Calls Tryd.prog 14 #[.agg #[.int .i64 (n0 : Int), .int .i64 (n1 : Int), .string S, .int .i64 (nx : Int)]] u fun e w' => e = .returned (.tuple #[.string K, .int .i64 e2]) ∧ Below u.heap.size u w') ∧ ((e2 != 0) = decide (¬ Keeps (n0 : Int) (n1 : Int) (nx : Int) S.size)) := by
    by_cases hkp : Keeps (n0 : Int) (n1 : Int) (nx : Int) S.size
    · exact ⟨tx (kept n0 n1 nx S.data.toList), 0, fun u => keep_any n0 n1 nx S _ u hkp rfl, by rw [decide_eq_false (fun g => g hkp)]; rfl⟩
    · exact ⟨⟨#[]⟩, 1, fun u => keep_no n0 n1 nx S u (by omega) hkp, by rw [decide_eq_true hkp]; rfl⟩
  obtain ⟨K, e2, hkc, hKs⟩ := hkeep
  have RK := Lib.hid hkc
  rw [← hX.agg] at RK ⊢
  have hnx : ((byteAt (bodyOf s.data.toList) 2 * 256 + byteAt (bodyOf s.data.toList) 3 : Nat) : Int) = (nx : Int) := by
    rw [ex, nextOf, leafNum, byteAt, byteAt]
    have e : ∀ i, ((bodyOf s.data.toList).drop 2).getD i 0 = (bodyOf s.data.toList).getD (2 + i) 0 := fun i => by
      simp only [List.getD_eq_getElem?_getD, List.getElem?_drop]
    rw [e 0, e 1]
  have HEQ := Lib.hid (show Value.agg #[.int .i64 (IntKind.i64.wrap (Bd[0].toNat : Int)), .int .i64 (IntKind.i64.wrap (Bd[1].toNat : Int)), .string S, .int .i64 (bits .or .i64 (IntKind.i64.wrap (IntKind.i64.wrap (Bd[2].toNat : Int) * 256)) (IntKind.i64.wrap (Bd[3].toNat : Int)))] = .agg X.toArray by
    have g0 := byteAt_lt (bodyOf s.data.toList) 0
    have g1 := byteAt_lt (bodyOf s.data.toList) 1
    rw [hat 0 b0, hat 1 b1, hat 2 b2, hat 3 b3, ← e0, ← e1, IntWalk.i64_in _ (by omega), IntWalk.i64_in _ (by omega), or_bytes _ _ (byteAt_lt _ _) (byteAt_lt _ _), hnx, hX.agg])
  have HFO := Lib.hid (show IntKind.i64.wrap (Bd[4].toNat : Int) = (byteAt (bodyOf s.data.toList) 4 : Int) by
    have g4 := byteAt_lt (bodyOf s.data.toList) 4
    rw [hat 4 b4, IntWalk.i64_in _ (by omega)])
  have HLD := Lib.hid (show Loads s.data.toList ↔ byteAt (bodyOf s.data.toList) 4 = S.size ∧ Keeps (n0 : Int) (n1 : Int) (nx : Int) S.size by
    rw [hSs, e0, e1, ex]; exact Iff.rfl)
  have HM := Lib.hid (Hold.Hld.start w)
  have HB := Lib.hid hBd.symm
  have HT := Lib.hid hTl.symm
  have HCU := Lib.hid t1
  have H44 := Lib.hid t2
  have HX := Lib.hid hX
  have HXL := Lib.hid (show X.length = zeroS.length by rw [hX.len]; rfl)
  have HS5 := Lib.hid hS5
  have HKS := Lib.hid hKs
  obtain ⟨q4, hq4⟩ : ∃ q4, q4 = byteAt (bodyOf s.data.toList) 4 := ⟨_, rfl⟩
  rw [← hq4] at HFO HLD
  clear hkc hKs hSs hSl hat hBd hTl hX hS5 hXc hBt hTt hs hk4 hBs hTs hT0 t1 t2 t3 ht hsl hS e0 e1 ex h9 hnx hq4
  go_enter Tryd.func16, Tryd.ntmps16
  have hb := HB.out
  have hte := HT.out
  go_upto_region 3 with ((first
    | (with_reducible refine Hold.alloc HM.out rfl rfl zeroS zero_sign ?_; clear HM; intro b0 w HM; simp only [List.nil_append] at HM; replace HM := Lib.hid HM)))

  refine Steady.region 11 (by kernel_rfl) (by kernel_rfl) (fun u => Hold.Hld _ _ u) HM.out.drew ?_
  simp only [List.take_succ_cons, List.take_zero, List.drop_succ_cons, List.drop_zero]
  refine Steady.take ?_ rfl (by intro u hu; go_simp; with_reducible rfl) ?_
  simp only [Act.put, List.setIfInBounds_toArray, List.set_cons_zero, List.set_cons_succ]
  refine Steady.take ?_ rfl (by intro u hu; go_simp; with_reducible rfl) ?_
  simp only [Act.put, List.setIfInBounds_toArray, List.set_cons_zero, List.set_cons_succ]
  refine Steady.take ?_ rfl (by intro u hu; go_simp; with_reducible rfl) ?_
  simp only [Act.put, List.setIfInBounds_toArray, List.set_cons_zero, List.set_cons_succ]
  refine Steady.take ?_ rfl (by intro u hu; go_simp; with_reducible rfl) ?_
  simp only [Act.put, List.setIfInBounds_toArray, List.set_cons_zero, List.set_cons_succ]
  refine Steady.take ?_ rfl (by intro u hu; go_simp; with_reducible rfl) ?_
  simp only [Act.put, List.setIfInBounds_toArray, List.set_cons_zero, List.set_cons_succ]
  refine Steady.take ?_ rfl (by intro u hu; go_simp; with_reducible rfl) ?_
  simp only [Act.put, List.setIfInBounds_toArray, List.set_cons_zero, List.set_cons_succ]
  refine Steady.take ?_ rfl (by intro u hu; go_simp; with_reducible rfl) ?_
  simp only [Act.put, List.setIfInBounds_toArray, List.set_cons_zero, List.set_cons_succ]
  refine Steady.take ?_ rfl (by intro u hu; go_simp; with_reducible rfl) ?_
  simp only [Act.put, List.setIfInBounds_toArray, List.set_cons_zero, List.set_cons_succ]
  refine Steady.take ?_ rfl (by intro u hu; go_simp; with_reducible rfl) ?_
  simp only [Act.put, List.setIfInBounds_toArray, List.set_cons_zero, List.set_cons_succ]
  refine Steady.take ?_ rfl (by intro u hu; go_simp; with_reducible rfl) ?_
  simp only [Act.put, List.setIfInBounds_toArray, List.set_cons_zero, List.set_cons_succ]
  refine Steady.take ?_ rfl (by intro u hu; go_simp; with_reducible rfl) ?_
  simp only [Act.put, List.setIfInBounds_toArray, List.set_cons_zero, List.set_cons_succ]
  refine Steady.nil ?_
  clear HM
  intro w HM
  replace HM := Lib.hid HM

  clear hb hw hte h1 h2 h3
  have hcu := HCU.out
  have h44 := H44.out
  go_upto_region 4 with (fail)
  go_wp2_with fail
  refine (RT.out _ _ (by simp) (by simp) (by simp)).mono ?_
  rintro e w4 ⟨rfl, hb⟩
  replace HM := Lib.hid (HM.out.next (((Below.refl w.heap.size w).alloc (Nat.le_refl _) (.cells #[.string ⟨#[107, 101, 101, 112]⟩, .string Bd] 9)).trans (hb.mono (by simp))))
  clear hb
  go_upto_region 6 with ((first
    | (with_reducible refine (RA.out _).mono ?_; rintro e w ⟨rfl, hb⟩; replace HM := Lib.hid (HM.out.next hb); clear hb)))

  clear hcu h44
  have hs5 := HS5.out
  refine SteadyN.region 19 [18] [0, 1, 2, 3, 4, 5, 6, 7, 8, 9, 10, 11, 12, 13, 14, 15, 16, 17] (by kernel_rfl) (by kernel_rfl) (SteadyN.Made _ 28 zeroS) (fun k hk o ho => by
    simp only [List.mem_cons, List.not_mem_nil, or_false] at hk
    subst hk <;> (obtain rfl : _ = o := Option.some.inj ho; exact SteadyN.makes rfl 28 rfl _ zero_sign)) (SteadyN.Made.start _ _ _) ?_
  simp only [List.filterMap_cons, List.filterMap_nil, List.drop_succ_cons, List.drop_zero, List.getElem?_cons_zero, List.getElem?_cons_succ, Option.map_some]
  refine SteadyN.take ?_ rfl (by intro s u hu; go_simp; with_reducible rfl) ?_
  simp only [Act.put, List.setIfInBounds_toArray, List.set_cons_zero, List.set_cons_succ]
  refine SteadyN.take ?_ rfl (by intro s u hu; go_simp; with_reducible rfl) ?_
  simp only [Act.put, List.setIfInBounds_toArray, List.set_cons_zero, List.set_cons_succ]
  refine SteadyN.take ?_ rfl (by intro s u hu; go_simp; with_reducible rfl) ?_
  simp only [Act.put, List.setIfInBounds_toArray, List.set_cons_zero, List.set_cons_succ]
  refine SteadyN.take ?_ rfl (by intro s u hu; go_simp; with_reducible rfl) ?_
  simp only [Act.put, List.setIfInBounds_toArray, List.set_cons_zero, List.set_cons_succ]
  refine SteadyN.take ?_ rfl (by intro s u hu; go_simp; with_reducible rfl) ?_
  simp only [Act.put, List.setIfInBounds_toArray, List.set_cons_zero, List.set_cons_succ]
  refine SteadyN.take ?_ rfl (by intro s u hu; go_simp; with_reducible rfl) ?_
  simp only [Act.put, List.setIfInBounds_toArray, List.set_cons_zero, List.set_cons_succ]
  refine SteadyN.take ?_ rfl (by intro s u hu; go_simp; with_reducible rfl) ?_
  simp only [Act.put, List.setIfInBounds_toArray, List.set_cons_zero, List.set_cons_succ]
  refine SteadyN.take ?_ rfl (by intro s u hu; go_simp; with_reducible rfl) ?_
  simp only [Act.put, List.setIfInBounds_toArray, List.set_cons_zero, List.set_cons_succ]
  refine SteadyN.take ?_ rfl (by intro s u hu; go_simp; with_reducible rfl) ?_
  simp only [Act.put, List.setIfInBounds_toArray, List.set_cons_zero, List.set_cons_succ]
  refine SteadyN.take ?_ rfl (by intro s u hu; go_simp; with_reducible rfl) ?_
  simp only [Act.put, List.setIfInBounds_toArray, List.set_cons_zero, List.set_cons_succ]
  refine SteadyN.take ?_ rfl (by intro s u hu; go_simp; with_reducible rfl) ?_
  simp only [Act.put, List.setIfInBounds_toArray, List.set_cons_zero, List.set_cons_succ]
  refine SteadyN.take ?_ rfl (by intro s u hu; go_simp; with_reducible rfl) ?_
  simp only [Act.put, List.setIfInBounds_toArray, List.set_cons_zero, List.set_cons_succ]
  refine SteadyN.take ?_ rfl (by intro s u hu; go_simp; with_reducible rfl) ?_
  simp only [Act.put, List.setIfInBounds_toArray, List.set_cons_zero, List.set_cons_succ]
  refine SteadyN.take ?_ rfl (by intro s u hu; go_simp; with_reducible rfl) ?_
  simp only [Act.put, List.setIfInBounds_toArray, List.set_cons_zero, List.set_cons_succ]
  refine SteadyN.take ?_ rfl (by intro s u hu; go_simp; with_reducible rfl) ?_
  simp only [Act.put, List.setIfInBounds_toArray, List.set_cons_zero, List.set_cons_succ]
  refine SteadyN.take ?_ rfl (by intro s u hu; go_simp; with_reducible rfl) ?_
  simp only [Act.put, List.setIfInBounds_toArray, List.set_cons_zero, List.set_cons_succ]
  refine SteadyN.take ?_ rfl (by intro s u hu; go_simp; with_reducible rfl) ?_
  simp only [Act.put, List.setIfInBounds_toArray, List.set_cons_zero, List.set_cons_succ]
  refine SteadyN.take ?_ rfl (by intro s u hu; go_simp; with_reducible rfl) ?_
  simp only [Act.put, List.setIfInBounds_toArray, List.set_cons_zero, List.set_cons_succ]
  refine SteadyN.nil ?_
  simp only [SteadyN.made]
  intro p1 w hS
  obtain ⟨b9, rfl, HM2⟩ := Hold.made1 HM.out.drew hS (i := 18) (p := p1) (by simp [SteadyN.upd])
  clear HM hS
  simp only [List.nil_append, List.cons_append] at HM2
  have HM := Lib.hid HM2
  clear HM2
  simp only [Act.put, List.setIfInBounds_toArray, List.set_cons_zero, List.set_cons_succ]

  rw [HEQ.out]
  clear hs5
  go_upto_region 7 with ((first
    | (with_reducible refine Hold.store HM.out 1 (v' := X) rfl rfl rfl rfl rfl (by rw [HXL.out]; exact Nat.le_of_eq (Nat.zero_add _)) (Hold.lay_all HXL.out.symm) (HX.out.one) (by rw [HX.out.len]; exact signRow) ?_; clear HM; intro w HM; simp only [List.set_cons_zero, List.set_cons_succ] at HM; replace HM := Lib.hid HM)))

  have hfo := HFO.out
  by_cases hl4 : q4 = S.size
  · have hne : ((S.size : Int) != (q4 : Int)) = false := by rw [hl4]; simp
    have HL4 := Lib.hid hl4
    clear hl4
    refine Steady.region 6 (by kernel_rfl) (by kernel_rfl) (fun u => Hold.Hld _ _ u) HM.out.drew ?_
    simp only [List.take_succ_cons, List.take_zero, List.drop_succ_cons, List.drop_zero]
    refine Steady.take ?_ rfl (by intro u hu; go_simp; with_reducible rfl) ?_
    simp only [Act.put, List.setIfInBounds_toArray, List.set_cons_zero, List.set_cons_succ]
    refine Steady.take (.string S) rfl (fun u hu => Hold.load1_run hu 1 rfl rfl rfl (HX.out.seed2) (cellStr)) ?_
    simp only [Act.put, List.setIfInBounds_toArray, List.set_cons_zero, List.set_cons_succ]
    refine Steady.take ?_ rfl (by intro u hu; go_simp; with_reducible rfl) ?_
    simp only [Act.put, List.setIfInBounds_toArray, List.set_cons_zero, List.set_cons_succ]
    refine Steady.take ?_ rfl (by intro u hu; go_simp; with_reducible rfl) ?_
    simp only [Act.put, List.setIfInBounds_toArray, List.set_cons_zero, List.set_cons_succ]
    refine Steady.take ?_ rfl (by intro u hu; go_simp; with_reducible rfl) ?_
    simp only [Act.put, List.setIfInBounds_toArray, List.set_cons_zero, List.set_cons_succ]
    refine Steady.take ?_ rfl (by intro u hu; go_simp; with_reducible rfl) ?_
    simp only [Act.put, List.setIfInBounds_toArray, List.set_cons_zero, List.set_cons_succ]
    refine Steady.nil ?_
    clear HM
    intro w HM
    replace HM := Lib.hid HM

    clear hfo
    go_upto_region 10 with ((first
      | (with_reducible refine Hold.load HM.out 1 (cs := X) rfl rfl rfl rfl (Hold.Part.all _) (by rw [HX.out.len]; exact signRow) ?_)
      | (with_reducible refine (RK.out _).mono ?_; rintro e w ⟨rfl, hb⟩; replace HM := Lib.hid (HM.out.next hb); clear hb)))

    clear hne
    by_cases hkp : Keeps (n0 : Int) (n1 : Int) (nx : Int) S.size
    · have he : (e2 != 0) = false := by rw [HKS.out]; exact decide_eq_false (fun g => g hkp)
      have HLO := Lib.hid (HLD.out.2 ⟨HL4.out, hkp⟩)
      clear hkp
      go_wp2_with ((first
        | (with_reducible refine Hold.load HM.out 1 (cs := X) rfl rfl rfl rfl (Hold.Part.all _) (by rw [HX.out.len]; exact signRow) ?_)
        | (with_reducible refine Hold.store HM.out 0 (v' := X) rfl rfl rfl rfl rfl (by rw [HXL.out]; exact Nat.le_of_eq (Nat.zero_add _)) (Hold.lay_all HXL.out.symm) (HX.out.one) (by rw [HX.out.len]; exact signRow) ?_; clear HM; intro w HM; simp only [List.set_cons_zero] at HM; replace HM := Lib.hid HM)))

      exact bodyPost_ret (Hold.resultsCT HM.out 0 rfl _ rfl rfl rfl (by rw [HX.out.len]; exact signRow)) rfl ⟨.inl ⟨HLO.out, rfl⟩, HM.out.below⟩
    · have he : (e2 != 0) = true := by rw [HKS.out]; exact decide_eq_true hkp
      have HLO := Lib.hid (fun g => hkp (HLD.out.1 g).2)
      clear hkp
      go_wp2_with ((first
        | (with_reducible refine Hold.build (t := 28) (parts := #[]) (cs := zeroS) rfl rfl ?_ ?_; focus (kernel_rfl))
        | (with_reducible refine Hold.store HM.out 0 (v' := zeroS) rfl rfl rfl rfl rfl (by rw [Nat.zero_add]; exact Nat.le_refl _) (Hold.lay_all rfl) (zero_one) (by rw [zero_len]; exact signRow) ?_; clear HM; intro w HM; simp only [List.set_cons_zero] at HM; replace HM := Lib.hid HM)))

      refine bodyPost_ret (Hold.resultsCT HM.out 0 rfl _ rfl rfl rfl (by rw [zero_len]; exact signRow)) rfl ?_
      rw [zero_agg]
      exact ⟨.inr ⟨HLO.out, rfl⟩, HM.out.below⟩
  · have hne : ((S.size : Int) != (q4 : Int)) = true := by simp; omega
    have HLO := Lib.hid (fun g => hl4 (HLD.out.1 g).1)
    clear hl4
    refine Steady.region 6 (by kernel_rfl) (by kernel_rfl) (fun u => Hold.Hld _ _ u) HM.out.drew ?_
    simp only [List.take_succ_cons, List.take_zero, List.drop_succ_cons, List.drop_zero]
    refine Steady.take ?_ rfl (by intro u hu; go_simp; with_reducible rfl) ?_
    simp only [Act.put, List.setIfInBounds_toArray, List.set_cons_zero, List.set_cons_succ]
    refine Steady.take (.string S) rfl (fun u hu => Hold.load1_run hu 1 rfl rfl rfl (HX.out.seed2) (cellStr)) ?_
    simp only [Act.put, List.setIfInBounds_toArray, List.set_cons_zero, List.set_cons_succ]
    refine Steady.take ?_ rfl (by intro u hu; go_simp; with_reducible rfl) ?_
    simp only [Act.put, List.setIfInBounds_toArray, List.set_cons_zero, List.set_cons_succ]
    refine Steady.take ?_ rfl (by intro u hu; go_simp; with_reducible rfl) ?_
    simp only [Act.put, List.setIfInBounds_toArray, List.set_cons_zero, List.set_cons_succ]
    refine Steady.take ?_ rfl (by intro u hu; go_simp; with_reducible rfl) ?_
    simp only [Act.put, List.setIfInBounds_toArray, List.set_cons_zero, List.set_cons_succ]
    refine Steady.take ?_ rfl (by intro u hu; go_simp; with_reducible rfl) ?_
    simp only [Act.put, List.setIfInBounds_toArray, List.set_cons_zero, List.set_cons_succ]
    refine Steady.nil ?_
    clear HM
    intro w HM
    replace HM := Lib.hid HM

    clear hfo
    go_wp2_with ((first
      | (with_reducible refine Hold.build (t := 28) (parts := #[]) (cs := zeroS) rfl rfl ?_ ?_; focus (kernel_rfl))
      | (with_reducible refine Hold.store HM.out 0 (v' := zeroS) rfl rfl rfl rfl rfl (by rw [Nat.zero_add]; exact Nat.le_refl _) (Hold.lay_all rfl) (zero_one) (by rw [zero_len]; exact signRow) ?_; clear HM; intro w HM; simp only [List.set_cons_zero] at HM; replace HM := Lib.hid HM)))

    refine bodyPost_ret (Hold.resultsCT HM.out 0 rfl _ rfl rfl rfl (by rw [zero_len]; exact signRow)) rfl ?_
    rw [zero_agg]
    exact ⟨.inr ⟨HLO.out, rfl⟩, HM.out.below⟩
end Go.Proofs.YtkchbilkmoemaaaDoor.RefStp
