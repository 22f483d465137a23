/-
  The landed package layout: Share answers what the plain mathematics of the text Lyo says. Conditions: those of the text LyL.
-/
import Derived.Test.YtedgpglldlohfaaDoorLyL
namespace Go.Proofs.YtedgpglldlohfaaDoor.Lyl
open Go.RowKit Mur Lanes Prt Tap Cel Frm Lyo Zs
set_option maxRecDepth 100000
set_option linter.unusedSimpArgs false

set_option maxHeartbeats 3200000 in
theorem share_any (l : List Int) (a : Option Addr) (n c : Nat) (s k Q : Int) (w : World) (hQ : Q = share l s k) (h : In w a n c l) (hs : InR s) (_ : InR k) :
    Calls Tryd.prog 19 #[.slice a n c, .int .i64 s, .int .i64 k] w fun z w' => z = .returned (.int .i64 Q) ∧ Below w.heap.size w w' := by
  obtain ⟨w0, hw0⟩ : ∃ w0, w0 = w := ⟨w, rfl⟩
  subst hw0
  obtain ⟨M, hM⟩ : ∃ M : Nat, M = (few l).length := ⟨_, rfl⟩
  have hM6 : M ≤ 6 := by rw [hM]; exact few_six l
  obtain ⟨E, hE⟩ : ∃ E, E = endsL l s M := ⟨_, rfl⟩
  have HEl := Lib.hid (show E.length = 7 from by rw [hE]; exact endsL_length l s M hM6)
  have RE := Lib.hid (fun u (hu : Below w0.heap.size w0 u) => ends_any l a n c M s E u hE hM (h.below hu) hs)
  have HEA := Lib.hid (fun (q : Nat) (hq : q ≤ M) => show (zsV E)[q]? = some (.int .i64 (at_ l s q)) from zsV_at (by rw [hE]; exact endsL_at l s M q hq))
  have HM := Lib.hid (Hold.Hld.start w0)
  by_cases h0 : k < 0
  · have d0 : decide (k < 0) = true := decide_eq_true h0
    obtain rfl : Q = 0 := by
      have : ¬ inL l k := fun hi => by unfold inL at hi; omega
      rw [hQ, share, spotB, if_neg this, if_pos (Or.inr rfl)]
    clear hQ
    clear hM h hs hE
    go_enter Tryd.func19, Tryd.ntmps19
    go_wp2_with ((first
      | ((with_reducible refine Hold.alloc HM.out rfl rfl zeroE zero_ends ?_); clear HM; intro b5 w HM; simp only [List.nil_append, List.cons_append] at HM; replace HM := Lib.hid HM)
      | ((with_reducible refine (RE.out _ HM.out.below).mono ?_); rintro e w ⟨rfl, hb⟩; replace HM := Lib.hid (HM.out.next hb); clear hb)
      | (refine Hold.store HM.out 0 (v' := zsV E) rfl rfl rfl rfl rfl (by rw [Nat.zero_add, zsV_length, HEl.out]; exact Nat.le_of_eq (by first | rfl | (rw [zeroE_length]; rfl))) (Hold.lay_all (by rw [zsV_length, HEl.out]; first | rfl | (rw [zeroE_length]; rfl))) (zs_one _) (row7 E HEl.out) ?_; clear HM; intro w HM; simp only [List.set_cons_zero, List.set_cons_succ] at HM; replace HM := Lib.hid HM)))
    go_ret
    exact ⟨rfl, HM.out.below⟩
  have d0 : decide (k < 0) = false := decide_eq_false h0
  by_cases h1 : (M : Int) ≤ k
  · have d1 : decide ((M : Int) ≤ k) = true := decide_eq_true h1
    obtain rfl : Q = 0 := by
      have : ¬ inL l k := fun hi => by unfold inL at hi; omega
      rw [hQ, share, spotB, if_neg this, if_pos (Or.inr rfl)]
    clear hQ
    clear hM h hs hE
    go_enter Tryd.func19, Tryd.ntmps19
    go_wp2_with ((first
      | ((with_reducible refine Hold.alloc HM.out rfl rfl zeroE zero_ends ?_); clear HM; intro b5 w HM; simp only [List.nil_append, List.cons_append] at HM; replace HM := Lib.hid HM)
      | ((with_reducible refine (RE.out _ HM.out.below).mono ?_); rintro e w ⟨rfl, hb⟩; replace HM := Lib.hid (HM.out.next hb); clear hb)
      | (refine Hold.store HM.out 0 (v' := zsV E) rfl rfl rfl rfl rfl (by rw [Nat.zero_add, zsV_length, HEl.out]; exact Nat.le_of_eq (by first | rfl | (rw [zeroE_length]; rfl))) (Hold.lay_all (by rw [zsV_length, HEl.out]; first | rfl | (rw [zeroE_length]; rfl))) (zs_one _) (row7 E HEl.out) ?_; clear HM; intro w HM; simp only [List.set_cons_zero, List.set_cons_succ] at HM; replace HM := Lib.hid HM)))
    go_ret
    exact ⟨rfl, HM.out.below⟩
  have d1 : decide ((M : Int) ≤ k) = false := decide_eq_false h1
  obtain ⟨K, rfl⟩ : ∃ K : Nat, k = (K : Int) := ⟨k.toNat, by omega⟩
  have hKM : K < M := by omega
  have hK7 : (K : Int) < 7 := by omega
  have hK8 : (K : Int) + 1 < 7 := by omega
  have hk9 : K < 7 := by omega
  have hw0 : wrap64 ((K : Int) + 1) = (K : Int) + 1 := IntWalk.wrap64_in _ (by omega)
  have hwi : IntKind.i64.wrap ((K : Int) + 1) = (K : Int) + 1 := i64_ok _ (by omega) (by omega)
  have hk0 : (0 : Int) ≤ (K : Int) + 1 := by omega
  obtain ⟨y, hy⟩ : ∃ y, (few l)[K]? = some y := ⟨_, List.getElem?_eq_getElem (by rw [← hM]; exact hKM)⟩
  obtain ⟨eA, eB⟩ := spot_in l s K y hy
  have hM7 : (M : Int) < 7 := by omega
  have hM8 : M < 7 := by omega
  obtain ⟨A, hA⟩ : ∃ A, A = at_ l s K := ⟨_, rfl⟩
  obtain ⟨B, hB⟩ : ∃ B, B = at_ l s (K + 1) := ⟨_, rfl⟩
  obtain ⟨T, hT⟩ : ∃ T, T = total l s := ⟨_, rfl⟩
  have HA := Lib.hid (show (zsV E)[K]? = some (.int .i64 A) from by rw [HEA.out K (by omega), hA])
  have HB := Lib.hid (show (zsV E)[K + 1]? = some (.int .i64 B) from by rw [HEA.out (K + 1) (by omega), hB])
  have HT := Lib.hid (show (zsV E)[M]? = some (.int .i64 T) from by rw [HEA.out M (Nat.le_refl _), hT, hM]; rfl)
  have hb := spot_bounds l s (K : Int)
  rw [eA, eB, ← hA, ← hB] at hb
  have hB1 : (M : Int) ≤ B := by rw [hB, hM]; exact at_least l s _
  have hT1 : (M : Int) ≤ T := by rw [hT, hM]; exact at_least l s _
  have hT2 : T ≤ 12150 := by rw [hT]; exact (at_bounds l s _).2
  have hT0 : ¬ T = 0 := by omega
  have hQ2 : Q = 1000 * (B - A + 1) / T := by
    rw [hQ, share, eA, eB, ← hA, ← hB, ← hT, if_neg (by omega)]
  have w1 : IntKind.i64.wrap (1 + B) = 1 + B := i64_ok _ (by omega) (by omega)
  have w2 : IntKind.i64.wrap (1 + B - A) = 1 + B - A := i64_ok _ (by omega) (by omega)
  have w3 : IntKind.i64.wrap (1000 * (1 + B - A)) = 1000 * (1 + B - A) := i64_ok _ (by omega) (by omega)
  have hq : (1000 * (1 + B - A)).tdiv T = Q := by rw [hQ2, Int.tdiv_eq_ediv_of_nonneg (by omega), show 1 + B - A = B - A + 1 by omega]
  have w4 : IntKind.i64.wrap Q = Q := by
    have := share_small A B T Q (by rw [← hq, show 1 + B - A = B - A + 1 by omega]) (by omega) (by omega) (by omega)
    exact i64_ok _ (by omega) (by omega)
  have t0 : ((T : Int) == 0) = false := by simpa using hT0
  clear hQ hA hB hT eA eB hM h hs hE hy h0 hQ2 hb hB1 hT1 hT2
  go_enter Tryd.func19, Tryd.ntmps19
  go_upto_region 4 with ((first
    | ((with_reducible refine Hold.alloc HM.out rfl rfl zeroE zero_ends ?_); clear HM; intro b5 w HM; simp only [List.nil_append, List.cons_append] at HM; replace HM := Lib.hid HM)
    | ((with_reducible refine (RE.out _ HM.out.below).mono ?_); rintro e w ⟨rfl, hb⟩; replace HM := Lib.hid (HM.out.next hb); clear hb)
    | (refine Hold.store HM.out 0 (v' := zsV E) rfl rfl rfl rfl rfl (by rw [Nat.zero_add, zsV_length, HEl.out]; exact Nat.le_of_eq (by first | rfl | (rw [zeroE_length]; rfl))) (Hold.lay_all (by rw [zsV_length, HEl.out]; first | rfl | (rw [zeroE_length]; rfl))) (zs_one _) (row7 E HEl.out) ?_; clear HM; intro w HM; simp only [List.set_cons_zero, List.set_cons_succ] at HM; replace HM := Lib.hid HM)))
  refine Steady.region 14 (by kernel_rfl) (by kernel_rfl) (fun u => Hold.Hld _ _ u) HM.out.drew ?_
  simp only [List.take_succ_cons, List.take_zero, List.drop_succ_cons, List.drop_zero]
  refine Steady.take ?_ rfl (by intro u hu; go_simp; with_reducible rfl) ?_
  simp only [Act.put, List.setIfInBounds_toArray, List.set_cons_zero, List.set_cons_succ]
  refine Steady.take ?_ rfl (by intro u hu; go_simp; with_reducible rfl) ?_
  simp only [Act.put, List.setIfInBounds_toArray, List.set_cons_zero, List.set_cons_succ]
  refine Steady.take ?_ rfl (by intro u hu; go_simp; with_reducible rfl) ?_
  simp only [Act.put, List.setIfInBounds_toArray, List.set_cons_zero, List.set_cons_succ]
  refine Steady.take (.int .i64 B) rfl (fun u hu => Hold.load1_run hu 0 rfl rfl rfl (HB.out) (Frm.cellInt)) ?_
  simp only [Act.put, List.setIfInBounds_toArray, List.set_cons_zero, List.set_cons_succ]
  refine Steady.take ?_ rfl (by intro u hu; go_simp; with_reducible rfl) ?_
  simp only [Act.put, List.setIfInBounds_toArray, List.set_cons_zero, List.set_cons_succ]
  refine Steady.take ?_ rfl (by intro u hu; go_simp; with_reducible rfl) ?_
  simp only [Act.put, List.setIfInBounds_toArray, List.set_cons_zero, List.set_cons_succ]
  refine Steady.take ?_ rfl (by intro u hu; go_simp; with_reducible rfl) ?_
  simp only [Act.put, List.setIfInBounds_toArray, List.set_cons_zero, List.set_cons_succ]
  refine Steady.take (.int .i64 A) rfl (fun u hu => Hold.load1_run hu 0 rfl rfl rfl (HA.out) (Frm.cellInt)) ?_
  simp only [Act.put, List.setIfInBounds_toArray, List.set_cons_zero, List.set_cons_succ]
  refine Steady.take ?_ rfl (by intro u hu; go_simp; with_reducible rfl) ?_
  simp only [Act.put, List.setIfInBounds_toArray, List.set_cons_zero, List.set_cons_succ]
  refine Steady.take ?_ rfl (by intro u hu; go_simp; with_reducible rfl) ?_
  simp only [Act.put, List.setIfInBounds_toArray, List.set_cons_zero, List.set_cons_succ]
  refine Steady.take ?_ rfl (by intro u hu; go_simp; with_reducible rfl) ?_
  simp only [Act.put, List.setIfInBounds_toArray, List.set_cons_zero, List.set_cons_succ]
  refine Steady.take ?_ rfl (by intro u hu; go_simp; with_reducible rfl) ?_
  simp only [Act.put, List.setIfInBounds_toArray, List.set_cons_zero, List.set_cons_succ]
  refine Steady.take (.int .i64 T) rfl (fun u hu => Hold.load1_run hu 0 rfl rfl rfl (HT.out) (Frm.cellInt)) ?_
  simp only [Act.put, List.setIfInBounds_toArray, List.set_cons_zero, List.set_cons_succ]
  refine Steady.take ?_ rfl (by intro u hu; go_simp; with_reducible rfl) ?_
  simp only [Act.put, List.setIfInBounds_toArray, List.set_cons_zero, List.set_cons_succ]
  refine Steady.nil ?_
  clear HM
  intro w HM
  replace HM := Lib.hid HM
  go_wp2
  go_ret
  exact ⟨by first | rfl | (simp [hq]; done) | (simp [hq, w4]; done), HM.out.below⟩

end Go.Proofs.YtedgpglldlohfaaDoor.Lyl
