/-
  Sign of package book: what the plain mathematics of the text Bkm says; all memory that was there is left as it was. Conditions: the listed tables; short texts, few of each list.
-/
import Derived.Test.YtdhipdoaefdfeaaGreatDoorBka
namespace Go.Proofs.YtdhipdoaefdfeaaGreatDoor.Bkb
open Go.RowKit Mur Prt Lanes Tap Bkl Bkm Rec Cel Bkr
set_option maxRecDepth 100000
set_option linter.unusedSimpArgs false

theorem got {α : Type} {R : World → Option Addr → List α → Prop} {A : Nat → Prop} {w : World} {u : Option Value} {l : List α} {a : Option Addr} {n c : Nat} (h : Lies R A w u l) (hu : u = some (.slice a n c)) : l.length = n ∧ n ≤ c ∧ R w a l ∧ Lies R A w (some (.slice a n c)) l := by
  subst hu
  obtain ⟨a', n', c', e, h1, h2, h3, h4⟩ := h
  cases e
  exact ⟨h1, h2, h3, ⟨_, _, _, rfl, h1, h2, h3, h4⟩⟩
theorem left_is (k : Nat) : Stp.leftI 2 1 (k : Int) = if 2 ≤ k then 0 else 2 - (k : Int) := by
  have e : Stp.leavesI 1 = 2 := rfl
  unfold Stp.leftI
  rw [e]
  by_cases h : 2 ≤ k
  · rw [if_pos h]
    split
    · rename_i h3
      omega
    · rfl
  · rw [if_neg h, if_pos ⟨right21, by omega, by omega⟩]
    rfl

set_option maxHeartbeats 3200000 in
theorem sign_any (A : Nat → Prop) (b b' : Bk) (v : List Value) (who msg S : ByteArray) (E : Int) (w : World) (hS : S = tx (signO b who.data.toList msg.data.toList).1) (hb' : b' = (signO b who.data.toList msg.data.toList).2.1) (hE : E = (signO b who.data.toList msg.data.toList).2.2) (h : BkR w b v A) (hro : Room b 1000) (hs : who.size ≤ 900000) (hm : msg.size ≤ 1000000) (hl : Laid w) :
    Calls Tryz.prog 9 #[.agg v.toArray, .string who, .string msg] w fun e w' => ∃ v', e = .returned (.tuple #[.string S, .agg v'.toArray, .int .i64 E]) ∧ BkR w' b' v' (fun k => A k ∨ w.heap.size ≤ k) ∧ Below w.heap.size w w' := by
  obtain ⟨w0, hw0⟩ : ∃ w0, w0 = w := ⟨w, rfl⟩
  subst hw0
  obtain ⟨kk, hkk⟩ : ∃ kk : Nat, kk = Bkl.count b.counts who.data.toList := ⟨_, rfl⟩
  obtain ⟨kI, hkI⟩ : ∃ kI : Int, kI = (kk : Int) := ⟨_, rfl⟩
  obtain ⟨LI, hLI⟩ : ∃ LI : Int, LI = Stp.leftI 2 1 kI := ⟨_, rfl⟩
  have hbu : Tryz.prog.built 65 [(0, .agg shV.toArray), (2, .int .i64 kI)] = some (sgV ⟨#[]⟩ kI).toArray := by kernel_rfl
  have HBU := Lib.hid hbu
  have R1 := Lib.hid (fun u => show Calls Tryz.prog 18 #[.agg shV.toArray] u fun e w' => e = .returned (.bool true) ∧ Below u.heap.size u w' from Chn.right_yes 2 1 right21 u)
  have R2 := Lib.hid (fun u (hu : Below w0.heap.size w0 u) => count_any A b v who kI u (by rw [hkI, hkk]) (h.below hu) hro)
  have R3 := Lib.hid (fun u => show Calls Tryz.prog 20 #[.agg (sgV ⟨#[]⟩ kI).toArray] u fun e w' => e = .returned (.int .i64 LI) ∧ Below u.heap.size u w' from Stp.left_any 2 1 kI ⟨#[]⟩ LI u hLI)
  have HM := Lib.hid (Hold.Hld.start w0)
  have HV := Lib.hid h.start
  have HSZ := Lib.hid (fun (u : World) (hu : Below w0.heap.size w0 u) (k : Nat) (hk : u.heap.size ≤ k) => (Or.inr (Nat.le_trans hu.size hk) : A k ∨ w0.heap.size ≤ k))
  have HLEN := Lib.hid h.len
  have HP := Lib.hid h.shape
  have hLv : LI = if 2 ≤ kk then 0 else 2 - (kk : Int) := by rw [hLI, hkI, left_is]
  by_cases h2 : 2 ≤ kk
  · have hd : (LI == 0) = true := by rw [hLv, if_pos h2]; rfl
    have hO : signO b who.data.toList msg.data.toList = ([], b, 6) := by rw [signO, ← hkk, if_pos h2]
    rw [hO] at hS hb' hE
    have hS' : S = ⟨#[]⟩ := hS
    have hE' : E = 6 := hE
    have hb2 : b' = b := hb'
    subst hS' hE' hb2
    clear hS hb' hE h hro hs hm hl hkk hkI hLI hbu hLv h2 hO
    go_enter Tryz.func9, Tryz.ntmps9
    go_upto_region 3 with ((first
      | ((with_reducible refine Hold.boxK HM.out rfl rfl rfl ?_); clear HM; intro bq w hn hb HM; simp only [List.nil_append] at HM; replace HM := Lib.hid HM; replace HV := Lib.hid (HV.out.allocA (t := 30) (z := v) hn hb); simp only [List.nil_append] at HV; clear hn hb)
      | ((with_reducible refine Hold.allocK HM.out rfl rfl zeroBk zero_bk ?_); clear HM; intro b2 w hn hb HM; simp only [List.nil_append, List.cons_append] at HM; replace HM := Lib.hid HM; replace HV := Lib.hid (HV.out.allocA (t := 30) (z := zeroBk) hn hb); simp only [List.cons_append, List.nil_append] at HV; clear hn hb)
      | (with_reducible refine Hold.load HM.out 0 (cs := shV) rfl rfl rfl rfl HP.out shV_row ?_)
      | ((with_reducible refine (R1.out _).mono ?_); rintro e w ⟨rfl, hb⟩; replace HM := Lib.hid (HM.out.next hb); replace HV := Lib.hid (HV.out.below hb); clear hb)))
    refine Steady.region 8 (by kernel_rfl) (by kernel_rfl) (fun u => Below w.heap.size w u) (Below.refl _ _).drew ?_
    simp only [List.take_succ_cons, List.take_zero, List.drop_succ_cons, List.drop_zero]
    refine Steady.take ?_ rfl (by intro u hu; go_simp; with_reducible rfl) ?_
    simp only [Act.put, List.setIfInBounds_toArray, List.set_cons_zero, List.set_cons_succ]
    refine Steady.take (.agg (shV).toArray) rfl (fun u hu => Hold.load_run (HM.out.next hu) 0 rfl rfl rfl (HP.out) (shV_row)) ?_
    simp only [Act.put, List.setIfInBounds_toArray, List.set_cons_zero, List.set_cons_succ]
    refine Steady.take (.agg (v).toArray) rfl (fun u hu => Hold.load_run (HM.out.next hu) 0 rfl rfl rfl (Hold.Part.all _) (bkRowOf HLEN.out)) ?_
    simp only [Act.put, List.setIfInBounds_toArray, List.set_cons_zero, List.set_cons_succ]
    refine Steady.take ?_ rfl (by intro u hu; go_simp; with_reducible rfl) ?_
    simp only [Act.put, List.setIfInBounds_toArray, List.set_cons_zero, List.set_cons_succ]
    refine Steady.call _ _ _ rfl ?_ (Chn.keptIf (fun u hu => R2.out u (HM.out.next hu).below)) ?_
    · intro u
      go_simp
    simp only [Act.put, List.setIfInBounds_toArray, List.set_cons_zero, List.set_cons_succ]
    refine Steady.take (.agg (sgV ⟨#[]⟩ kI).toArray) rfl (fun u hu => Hold.build_run (t := 65) (parts := #[(0, .tmp 18), (2, .tmp 21)]) rfl (by first | exact HBU.out | (simp [Act.eval, Act.put]; exact HBU.out))) ?_
    simp only [Act.put, List.setIfInBounds_toArray, List.set_cons_zero, List.set_cons_succ]
    refine Steady.call _ _ _ rfl ?_ (Chn.keptIf (fun u hu => R3.out u)) ?_
    · intro u
      go_simp
    simp only [Act.put, List.setIfInBounds_toArray, List.set_cons_zero, List.set_cons_succ]
    refine Steady.take ?_ rfl (by intro u hu; go_simp; with_reducible rfl) ?_
    simp only [Act.put, List.setIfInBounds_toArray, List.set_cons_zero, List.set_cons_succ]
    refine Steady.nil ?_
    intro w1 hb1
    replace HM := Lib.hid (HM.out.next hb1)
    replace HV := Lib.hid (HV.out.below hb1)
    clear hb1
    go_upto_region 4 with fail
    refine Steady.region 2 (by kernel_rfl) (by kernel_rfl) (fun u => Below w1.heap.size w1 u) (Below.refl _ _).drew ?_
    simp only [List.take_succ_cons, List.take_zero, List.drop_succ_cons, List.drop_zero]
    refine Steady.take (.agg (v).toArray) rfl (fun u hu => Hold.load_run (HM.out.next hu) 0 rfl rfl rfl (Hold.Part.all _) (bkRowOf HLEN.out)) ?_
    simp only [Act.put, List.setIfInBounds_toArray, List.set_cons_zero, List.set_cons_succ]
    refine Steady.take ?_ rfl (by intro u hu; go_simp; with_reducible rfl) ?_
    simp only [Act.put, List.setIfInBounds_toArray, List.set_cons_zero, List.set_cons_succ]
    refine Steady.nil ?_
    intro w1 hb1
    replace HM := Lib.hid (HM.out.next hb1)
    replace HV := Lib.hid (HV.out.below hb1)
    clear hb1
    go_wp2_with ((first
      | ((with_reducible refine Hold.storeK HM.out 1 (v' := v) rfl rfl rfl rfl rfl (bkFits HV.out.len zero_len) (bkLaid HV.out.len zero_len) HV.out.one (bkRowOf HV.out.len) ?_); clear HM; intro w hbt HM; simp only [List.set_cons_zero, List.set_cons_succ] at HM; replace HM := Lib.hid HM; replace HV := Lib.hid (HV.out.storedA (i := 1) (z' := v) rfl hbt); simp only [List.set_cons_zero, List.set_cons_succ] at HV; clear hbt)))
    refine bodyPost_ret (Hold.resultsTCT HM.out 1 rfl _ rfl rfl rfl rfl (bkRowOf HV.out.len)) rfl ?_
    exact ⟨v, rfl, HV.out.doneA, HM.out.below⟩
  · have hd : (LI == 0) = false := by rw [hLv, if_neg h2]; simp; omega
    have hO : signO b who.data.toList msg.data.toList = (signS b who.data.toList msg.data.toList, signB b who.data.toList msg.data.toList, 0) := by rw [signO, ← hkk, if_neg h2]
    rw [hO] at hS hb' hE
    have hS' : S = tx (signS b who.data.toList msg.data.toList) := hS
    have hE' : E = 0 := hE
    have hb2 : b' = signB b who.data.toList msg.data.toList := hb'
    subst hE'
    have hSd : S.data.toList = signS b who.data.toList msg.data.toList := by rw [hS']
    obtain ⟨LC, hLC⟩ : ∃ LC, LC = counted b.counts who.data.toList := ⟨_, rfl⟩
    obtain ⟨MC, hMC⟩ : ∃ MC, LC.length = MC := ⟨_, rfl⟩
    obtain ⟨LS, hLS⟩ : ∃ LS, LS = add b.issued (who.data.toList, msg.data.toList, S.data.toList) := ⟨_, rfl⟩
    obtain ⟨MS, hMS⟩ : ∃ MS, LS.length = MS := ⟨_, rfl⟩
    obtain ⟨bu, hbu2⟩ : ∃ bu, bu = usedB b who.data.toList msg.data.toList := ⟨_, rfl⟩
    obtain ⟨-, -, -, -, u5, u6⟩ := usedB_rest b who.data.toList msg.data.toList
    rw [← hbu2] at u5 u6
    have hb3 : b' = { { bu with counts := LC } with issued := LS } := by rw [hb2, signB, hLC, hLS, hSd, hbu2]
    have R4 := Lib.hid (fun B u (hu : Below w0.heap.size w0 u) (hb : BkR u b v B) => signature_any B b bu v who msg S u hS' hbu2 (by omega) hb hro hs hm (hl.below hu))
    have R5 := Lib.hid (fun n a c u (hn : bu.counts.length = n) (ha : CntR u a bu.counts) => show Calls Tryz.prog 22 #[.slice a n c, .string who] u fun e w' => ∃ ao co, e = .returned (.slice ao MC co) ∧ MC ≤ co ∧ CntR w' ao LC ∧ (∀ q, ao = some q → u.heap.size ≤ q.block) ∧ Below u.heap.size u w' from by
      rw [← hMC]
      rw [u5] at hn ha
      exact counted_any b.counts who LC n a c u hLC (by omega) hn (by have := hro.counts; omega) ha)
    have R6 := Lib.hid (fun n a c u (hn : bu.issued.length = n) (hc : n ≤ c) (ha : IssR u a bu.issued) => show Calls Tryz.prog 23 #[.slice a n c, .agg #[.string who, .string msg, .string S]] u fun e w' => ∃ ao co, e = .returned (.slice ao MS co) ∧ MS ≤ co ∧ IssR w' ao LS ∧ (∀ q, ao = some q → u.heap.size ≤ q.block ∨ (a = some q ∧ bu.issued.length ≠ 0)) ∧ Below u.heap.size u w' from by
      rw [← hMS]
      rw [u6] at hn ha ⊢
      exact among_any b.issued _ LS who msg S n a c u (tx_data who).symm (tx_data msg).symm (tx_data S).symm hLS hn (by have := hro.issued; omega) hc ha)
    have HMC := Lib.hid hMC
    have HMS := Lib.hid hMS
    have HB3 := Lib.hid hb3
    clear hS hb' hE h hro hs hm hl hkk hkI hLI hbu hLv h2 hO hS' hb2 hSd hLC hMC hLS hMS hbu2 u5 u6 hb3
    go_enter Tryz.func9, Tryz.ntmps9
    go_upto_region 3 with ((first
      | ((with_reducible refine Hold.boxK HM.out rfl rfl rfl ?_); clear HM; intro bq w hn hb HM; simp only [List.nil_append] at HM; replace HM := Lib.hid HM; replace HV := Lib.hid (HV.out.allocA (t := 30) (z := v) hn hb); simp only [List.nil_append] at HV; clear hn hb)
      | ((with_reducible refine Hold.allocK HM.out rfl rfl zeroBk zero_bk ?_); clear HM; intro b2 w hn hb HM; simp only [List.nil_append, List.cons_append] at HM; replace HM := Lib.hid HM; replace HV := Lib.hid (HV.out.allocA (t := 30) (z := zeroBk) hn hb); simp only [List.cons_append, List.nil_append] at HV; clear hn hb)
      | (with_reducible refine Hold.load HM.out 0 (cs := shV) rfl rfl rfl rfl HP.out shV_row ?_)
      | ((with_reducible refine (R1.out _).mono ?_); rintro e w ⟨rfl, hb⟩; replace HM := Lib.hid (HM.out.next hb); replace HV := Lib.hid (HV.out.below hb); clear hb)))
    refine Steady.region 8 (by kernel_rfl) (by kernel_rfl) (fun u => Below w.heap.size w u) (Below.refl _ _).drew ?_
    simp only [List.take_succ_cons, List.take_zero, List.drop_succ_cons, List.drop_zero]
    refine Steady.take ?_ rfl (by intro u hu; go_simp; with_reducible rfl) ?_
    simp only [Act.put, List.setIfInBounds_toArray, List.set_cons_zero, List.set_cons_succ]
    refine Steady.take (.agg (shV).toArray) rfl (fun u hu => Hold.load_run (HM.out.next hu) 0 rfl rfl rfl (HP.out) (shV_row)) ?_
    simp only [Act.put, List.setIfInBounds_toArray, List.set_cons_zero, List.set_cons_succ]
    refine Steady.take (.agg (v).toArray) rfl (fun u hu => Hold.load_run (HM.out.next hu) 0 rfl rfl rfl (Hold.Part.all _) (bkRowOf HLEN.out)) ?_
    simp only [Act.put, List.setIfInBounds_toArray, List.set_cons_zero, List.set_cons_succ]
    refine Steady.take ?_ rfl (by intro u hu; go_simp; with_reducible rfl) ?_
    simp only [Act.put, List.setIfInBounds_toArray, List.set_cons_zero, List.set_cons_succ]
    refine Steady.call _ _ _ rfl ?_ (Chn.keptIf (fun u hu => R2.out u (HM.out.next hu).below)) ?_
    · intro u
      go_simp
    simp only [Act.put, List.setIfInBounds_toArray, List.set_cons_zero, List.set_cons_succ]
    refine Steady.take (.agg (sgV ⟨#[]⟩ kI).toArray) rfl (fun u hu => Hold.build_run (t := 65) (parts := #[(0, .tmp 18), (2, .tmp 21)]) rfl (by first | exact HBU.out | (simp [Act.eval, Act.put]; exact HBU.out))) ?_
    simp only [Act.put, List.setIfInBounds_toArray, List.set_cons_zero, List.set_cons_succ]
    refine Steady.call _ _ _ rfl ?_ (Chn.keptIf (fun u hu => R3.out u)) ?_
    · intro u
      go_simp
    simp only [Act.put, List.setIfInBounds_toArray, List.set_cons_zero, List.set_cons_succ]
    refine Steady.take ?_ rfl (by intro u hu; go_simp; with_reducible rfl) ?_
    simp only [Act.put, List.setIfInBounds_toArray, List.set_cons_zero, List.set_cons_succ]
    refine Steady.nil ?_
    intro w1 hb1
    replace HM := Lib.hid (HM.out.next hb1)
    replace HV := Lib.hid (HV.out.below hb1)
    clear hb1
    go_upto_region 8 with ((first
      | (with_reducible refine Hold.load HM.out 0 (cs := v) rfl rfl rfl rfl (Hold.Part.all _) (bkRowOf HLEN.out) ?_)
      | ((with_reducible refine (R4.out _ _ HM.out.below HV.out).mono ?_); rintro e w ⟨v1, rfl, hv, hb⟩; obtain ⟨a6, n6, c6, h6, -⟩ := hv.at6.lit; obtain ⟨a7, n7, c7, h7, -⟩ := hv.at7.lit; have H6 := Lib.hid h6; have H7 := Lib.hid h7; have HL1 := Lib.hid hv.len; replace HV := Lib.hid (hv.answeredA HM.out (HSZ.out _ HM.out.below)); replace HM := Lib.hid (HM.out.next hb); clear hv hb h6 h7)
      | ((with_reducible refine Hold.storeK HM.out 0 (v' := v1) rfl rfl rfl rfl rfl (bkFits HV.out.len HLEN.out) (bkLaid HV.out.len HLEN.out) HV.out.one (bkRowOf HV.out.len) ?_); clear HM; intro w hbt HM; simp only [List.set_cons_zero, List.set_cons_succ] at HM; replace HM := Lib.hid HM; replace HV := Lib.hid (HV.out.storedA (i := 0) (z' := v1) rfl hbt); simp only [List.set_cons_zero, List.set_cons_succ] at HV; clear hbt)
      | (with_reducible refine Hold.load1 HM.out 0 (c := .slice a6 n6 c6) rfl rfl rfl rfl H6.out cellN ?_)
      | ((with_reducible refine (R5.out n6 a6 c6 _ (got HV.out.at6 H6.out).1 (got HV.out.at6 H6.out).2.2.1).mono ?_); rintro e w2 ⟨ao, co, rfl, hco, hR, hlow, hb⟩; replace HV := Lib.hid ((HV.out.below hb).set6 (lies_newA HM.out (HSZ.out _ HM.out.below) (R := CntR) hR HMC.out hco hlow)); replace HM := Lib.hid (HM.out.next hb); clear hR hco hlow hb)
      | ((with_reducible refine Hold.store1K HM.out 0 (c := .slice ao MC co) (v' := v1.set 6 (.slice ao MC co)) rfl rfl rfl rfl rfl (by rw [HL1.out]; decide) rfl (Hold.cell_sl _ _ _) cellN ?_); clear HM; intro w hbt HM; simp only [List.set_cons_zero, List.set_cons_succ] at HM; replace HM := Lib.hid HM; replace HV := Lib.hid (HV.out.storedA (i := 0) (z' := v1.set 6 (.slice ao MC co)) rfl hbt); simp only [List.set_cons_zero, List.set_cons_succ] at HV; clear hbt)
      | (with_reducible refine Hold.load1 HM.out 0 (c := .slice a7 n7 c7) rfl rfl rfl rfl ((at_ne _ _ _ (by decide) _).trans H7.out) cellI ?_)
      | ((with_reducible refine (R6.out n7 a7 c7 _ (got HV.out.at7 ((at_ne _ _ _ (by decide) _).trans H7.out)).1 (got HV.out.at7 ((at_ne _ _ _ (by decide) _).trans H7.out)).2.1 (got HV.out.at7 ((at_ne _ _ _ (by decide) _).trans H7.out)).2.2.1).mono ?_); rintro e w2 ⟨ap, cp, rfl, hco, hR, hlow, hb⟩; replace HV := Lib.hid ((HV.out.below hb).set7 (lies_moreA HM.out (HSZ.out _ HM.out.below) (got HV.out.at7 ((at_ne _ _ _ (by decide) _).trans H7.out)).2.2.2 (R := IssR) hR HMS.out hco hlow)); replace HM := Lib.hid (HM.out.next hb); clear hR hco hlow hb)
      | ((with_reducible refine Hold.store1K HM.out 0 (c := .slice ap MS cp) (v' := (v1.set 6 (.slice ao MC co)).set 7 (.slice ap MS cp)) rfl rfl rfl rfl rfl (by rw [List.length_set, HL1.out]; decide) rfl (Hold.cell_sl _ _ _) cellI ?_); clear HM; intro w hbt HM; simp only [List.set_cons_zero, List.set_cons_succ] at HM; replace HM := Lib.hid HM; replace HV := Lib.hid (HV.out.storedA (i := 0) (z' := (v1.set 6 (.slice ao MC co)).set 7 (.slice ap MS cp)) rfl hbt); simp only [List.set_cons_zero, List.set_cons_succ] at HV; clear hbt)))
    refine Steady.region 3 (by kernel_rfl) (by kernel_rfl) (fun u => Below w.heap.size w u) (Below.refl _ _).drew ?_
    simp only [List.take_succ_cons, List.take_zero, List.drop_succ_cons, List.drop_zero]
    refine Steady.take ?_ rfl (by intro u hu; go_simp; with_reducible rfl) ?_
    simp only [Act.put, List.setIfInBounds_toArray, List.set_cons_zero, List.set_cons_succ]
    refine Steady.take (.agg ((v1.set 6 (.slice ao MC co)).set 7 (.slice ap MS cp)).toArray) rfl (fun u hu => Hold.load_run (HM.out.next hu) 0 rfl rfl rfl (Hold.Part.all _) (bkRowOf HV.out.len)) ?_
    simp only [Act.put, List.setIfInBounds_toArray, List.set_cons_zero, List.set_cons_succ]
    refine Steady.take ?_ rfl (by intro u hu; go_simp; with_reducible rfl) ?_
    simp only [Act.put, List.setIfInBounds_toArray, List.set_cons_zero, List.set_cons_succ]
    refine Steady.nil ?_
    intro w1 hb1
    replace HM := Lib.hid (HM.out.next hb1)
    replace HV := Lib.hid (HV.out.below hb1)
    clear hb1
    go_wp2_with ((first
      | ((with_reducible refine Hold.storeK HM.out 1 (v' := (v1.set 6 (.slice ao MC co)).set 7 (.slice ap MS cp)) rfl rfl rfl rfl rfl (bkFits HV.out.len zero_len) (bkLaid HV.out.len zero_len) HV.out.one (bkRowOf HV.out.len) ?_); clear HM; intro w hbt HM; simp only [List.set_cons_zero, List.set_cons_succ] at HM; replace HM := Lib.hid HM; replace HV := Lib.hid (HV.out.storedA (i := 1) (z' := (v1.set 6 (.slice ao MC co)).set 7 (.slice ap MS cp)) rfl hbt); simp only [List.set_cons_zero, List.set_cons_succ] at HV; clear hbt)))
    refine bodyPost_ret (Hold.resultsTCT HM.out 1 rfl _ rfl rfl rfl rfl (bkRowOf HV.out.len)) rfl ?_
    refine ⟨(v1.set 6 (.slice ao MC co)).set 7 (.slice ap MS cp), rfl, ?_, HM.out.below⟩
    rw [HB3.out]
    exact HV.out.doneA
end Go.Proofs.YtdhipdoaefdfeaaGreatDoor.Bkb
