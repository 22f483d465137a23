/-
  signature of package book: what the plain mathematics of the text Bkm says; all memory that was there is left as it was. Conditions: the listed tables; short texts, few of each list; a leaf is left.
-/
import Derived.Test.YtdhipdoaefdfeaaGreatDoorBkZ
namespace Go.Proofs.YtdhipdoaefdfeaaGreatDoor.Bkb
open Go.RowKit Mur Prt Lanes Tap Bkl Bkm Rec Cel Bkr
set_option maxRecDepth 100000
set_option linter.unusedSimpArgs false

theorem sigName_length (who : List UInt8) (k : Nat) (h : k ≤ 1000000) : (sigName who k).length ≤ who.length + 24 := by
  have := joined_one ([115, 105, 103, 32] ++ who) (k : Int) (by omega)
  rw [List.length_append] at this
  have e : [(115 : UInt8), 105, 103, 32].length = 4 := rfl
  show (joined _ _).length ≤ _
  omega
set_option maxHeartbeats 3200000 in
theorem signature_any (A : Nat → Prop) (b b1 : Bk) (v : List Value) (who msg S : ByteArray) (w : World) (hS : S = tx (signS b who.data.toList msg.data.toList)) (hb1 : b1 = usedB b who.data.toList msg.data.toList) (h2 : Bkl.count b.counts who.data.toList < 2) (h : BkR w b v A) (hro : Room b 1000) (hs : who.size ≤ 900000) (hm : msg.size ≤ 1000000) (hl : Laid w) :
    Calls Tryz.prog 21 #[.agg v.toArray, .string who, .string msg] w fun e w' => ∃ v', e = .returned (.tuple #[.string S, .agg v'.toArray]) ∧ BkR w' b1 v' (fun k => A k ∨ w.heap.size ≤ k) ∧ Below w.heap.size w w' := by
  obtain ⟨w0, hw0⟩ : ∃ w0, w0 = w := ⟨w, rfl⟩
  subst hw0
  obtain ⟨kk, hkk⟩ : ∃ kk : Nat, kk = Bkl.count b.counts who.data.toList := ⟨_, rfl⟩
  rw [← hkk] at h2
  obtain ⟨nm, hnm⟩ : ∃ nm, nm = sigName who.data.toList kk := ⟨_, rfl⟩
  have hwl : who.data.toList.length = who.size := rfl
  have hnl : nm.length ≤ 1000000 := by rw [hnm]; have := sigName_length who.data.toList kk (by omega); omega
  obtain ⟨X, hX⟩ : ∃ X, X = tx nm := ⟨_, rfl⟩
  have hXd : X.data.toList = nm := by rw [hX]
  have hXs : X.size ≤ 1000000 := by
    have e : X.size = nm.length := by rw [← hXd]; rfl
    omega
  obtain ⟨kI, hkI⟩ : ∃ kI : Int, kI = (kk : Int) := ⟨_, rfl⟩
  have R1 := Lib.hid (fun u (hu : Below w0.heap.size w0 u) => count_any A b v who kI u (by rw [hkI, hkk]) (h.below hu) hro)
  have R2 := Lib.hid (fun u (hu : Below w0.heap.size w0 u) => Tape.sigName_any who kI X u (by rw [hX, hnm, hkI]; rfl) (by omega) (by omega) (by omega) (hl.pow.below hu))
  have HM := Lib.hid (Hold.Hld.start w0)
  have HV := Lib.hid h.start
  have HSZ := Lib.hid (fun (u : World) (hu : Below w0.heap.size w0 u) (k : Nat) (hk : u.heap.size ≤ k) => (Or.inr (Nat.le_trans hu.size hk) : A k ∨ w0.heap.size ≤ k))
  have HLEN := Lib.hid h.len
  have HP := Lib.hid h.shape
  have H0 := Lib.hid h.at0
  by_cases hi : b.ideal = true
  · have hS2 : S = tx (cellS b nm 18) := by rw [hS, signS, if_pos hi, ← hkk, hnm]
    have hb2 : b1 = cellB b nm 18 := by rw [hb1, usedB, if_pos hi, ← hkk, hnm]
    have R3 := Lib.hid (fun u => show Calls Tryz.prog 36 #[.agg shV.toArray] u fun e w' => e = .returned (.int .i64 18) ∧ Below u.heap.size u w' from Stp.long_yes 2 1 18 right21 u (by kernel_rfl))
    have R4 := Lib.hid (fun B u (hu : Below w0.heap.size w0 u) (hb : BkR u b v B) => cell_any B b b1 v X S 18 u (by rw [hXd]; exact hS2) (by rw [hXd]; exact hb2) hb hro hXs (hl.consts.below hl.consts.1 hu))
    rw [hi] at H0
    clear hS hb1 h2 h hro hs hm hl hkk hnm hwl hnl hX hXd hXs hkI hS2 hb2 hi
    go_enter Tryz.func21, Tryz.ntmps21
    go_upto_region 3 with ((first
      | ((with_reducible refine Hold.boxK HM.out rfl rfl rfl ?_); clear HM; intro bq w hn hb HM; simp only [List.nil_append] at HM; replace HM := Lib.hid HM; replace HV := Lib.hid (HV.out.allocA (t := 30) (z := v) hn hb); simp only [List.nil_append] at HV; clear hn hb)
      | ((with_reducible refine Hold.allocK HM.out rfl rfl zeroBk zero_bk ?_); clear HM; intro b2 w hn hb HM; simp only [List.nil_append, List.cons_append] at HM; replace HM := Lib.hid HM; replace HV := Lib.hid (HV.out.allocA (t := 30) (z := zeroBk) hn hb); simp only [List.cons_append, List.nil_append] at HV; clear hn hb)
      | (with_reducible refine Hold.load HM.out 0 (cs := v) rfl rfl rfl rfl (Hold.Part.all _) (bkRowOf HV.out.len) ?_)
      | ((with_reducible refine (R1.out _ HM.out.below).mono ?_); rintro e w ⟨rfl, hb⟩; replace HM := Lib.hid (HM.out.next hb); replace HV := Lib.hid (HV.out.below hb); clear hb)
      | ((with_reducible refine (R2.out _ HM.out.below).mono ?_); rintro e w ⟨rfl, hb⟩; replace HM := Lib.hid (HM.out.next hb); replace HV := Lib.hid (HV.out.below hb); clear hb)
      | (with_reducible refine Hold.load1 HM.out 0 (c := .bool true) rfl rfl rfl rfl H0.out cellBool ?_)))
    refine Steady.region_root 5 (by kernel_rfl) (by kernel_rfl) (fun u => Below w.heap.size w u) (Below.refl _ _).drew ?_
    simp only [List.take_succ_cons, List.take_zero]
    refine Steady.take (.agg (v).toArray) rfl (fun u hu => Hold.load_run (HM.out.next hu) 0 rfl rfl rfl (Hold.Part.all _) (bkRowOf HLEN.out)) ?_
    simp only [Act.put, List.setIfInBounds_toArray, List.set_cons_zero, List.set_cons_succ]
    refine Steady.take ?_ rfl (by intro u hu; go_simp; with_reducible rfl) ?_
    simp only [Act.put, List.setIfInBounds_toArray, List.set_cons_zero, List.set_cons_succ]
    refine Steady.take ?_ rfl (by intro u hu; go_simp; with_reducible rfl) ?_
    simp only [Act.put, List.setIfInBounds_toArray, List.set_cons_zero, List.set_cons_succ]
    refine Steady.take (.agg (shV).toArray) rfl (fun u hu => Hold.load_run (HM.out.next hu) 0 rfl rfl rfl (HP.out) (shV_row)) ?_
    simp only [Act.put, List.setIfInBounds_toArray, List.set_cons_zero, List.set_cons_succ]
    refine Steady.call _ _ _ rfl ?_ (Chn.keptIf (fun u hu => R3.out u)) ?_
    · intro u
      go_simp
    simp only [Act.put, List.setIfInBounds_toArray, List.set_cons_zero, List.set_cons_succ]
    refine Steady.nil ?_
    intro w1 hb1
    replace HM := Lib.hid (HM.out.next hb1)
    replace HV := Lib.hid (HV.out.below hb1)
    clear hb1
    change wpAny _ _ _ _ (4 + 1) _ _ _
    refine wpAny_all (rs := [5]) (by kernel_rfl) (by simp) (fun j hj => ?_)
    obtain rfl : j = 5 := by simpa using hj
    refine Steady.call_any (i := 5) (by simp only [List.getElem?_toArray, List.getElem?_cons_succ, List.getElem?_cons_zero]; rfl) (by kernel_rfl) _ _ (by go_simp) (fun u w' => ∃ v1, u = .tuple #[.string S, .agg v1.toArray] ∧ BkR w' b1 v1 (fun k => In (fun k => A k ∨ w0.heap.size ≤ k) [⟨bq, 30, v⟩, ⟨b2, 30, zeroBk⟩] k ∨ w1.heap.size ≤ k) ∧ Below w1.heap.size w1 w') ((R4.out _ w1 HM.out.below HV.out).mono (fun e w' hh => by obtain ⟨v1, e1, e2⟩ := hh; exact ⟨_, e1, v1, rfl, e2⟩)) ?_
    rintro u w2 ⟨v1, rfl, hv, hb⟩
    replace HV := Lib.hid (hv.answeredA HM.out (HSZ.out _ HM.out.below))
    replace HM := Lib.hid (HM.out.next hb)
    clear hv hb
    try simp only [List.getElem_toArray, List.getElem_cons_succ, List.getElem_cons_zero, Act.put, List.setIfInBounds_toArray, List.set_cons_zero, List.set_cons_succ]
    change wpAny _ _ _ _ (3 + 1) _ _ _
    refine wpAny_take (i := 6) (by simp only [List.getElem?_toArray, List.getElem?_cons_succ, List.getElem?_cons_zero]; rfl) (by kernel_rfl) (by kernel_rfl) (by kernel_rfl) (fun _ _ _ h => by exact h) (Or.inl ⟨by rfl, fun u => by go_simp; try with_reducible rfl⟩) ?_
    try simp only [List.getElem_toArray, List.getElem_cons_succ, List.getElem_cons_zero, Act.put, List.setIfInBounds_toArray, List.set_cons_zero, List.set_cons_succ]
    change wpAny _ _ _ _ (2 + 1) _ _ _
    refine wpAny_take (i := 7) (by simp only [List.getElem?_toArray, List.getElem?_cons_succ, List.getElem?_cons_zero]; rfl) (by kernel_rfl) (by kernel_rfl) (by kernel_rfl) (fun _ _ _ h => by exact h) (Or.inl ⟨by rfl, fun u => by go_simp; try with_reducible rfl⟩) ?_
    try simp only [List.getElem_toArray, List.getElem_cons_succ, List.getElem_cons_zero, Act.put, List.setIfInBounds_toArray, List.set_cons_zero, List.set_cons_succ]
    change wpAny _ _ _ _ (1 + 1) _ _ _
    refine wpAny_take (i := 8) (by simp only [List.getElem?_toArray, List.getElem?_cons_succ, List.getElem?_cons_zero]; rfl) (by kernel_rfl) (by kernel_rfl) (by kernel_rfl) (fun _ _ _ h => by exact h) (Or.inl ⟨by rfl, fun u => by go_simp; try with_reducible rfl⟩) ?_
    try simp only [List.getElem_toArray, List.getElem_cons_succ, List.getElem_cons_zero, Act.put, List.setIfInBounds_toArray, List.set_cons_zero, List.set_cons_succ]
    change wpAny _ _ _ _ (0 + 1) _ _ _
    refine wpAny_all (rs := [9]) (by kernel_rfl) (by simp) (fun j hj => ?_)
    obtain rfl : j = 9 := by simpa using hj
    refine Hold.op_storeK HM.out 1 (i := 9) (v' := v1) (by simp only [List.getElem?_toArray, List.getElem?_cons_succ, List.getElem?_cons_zero]; rfl) rfl rfl rfl rfl rfl (bkFits HV.out.len zero_len) (bkLaid HV.out.len zero_len) (HV.out.one) (bkRowOf HV.out.len) ?_
    clear HM
    intro w3 hbt HM
    simp only [List.set_cons_zero, List.set_cons_succ] at HM
    replace HM := Lib.hid HM
    replace HV := Lib.hid (HV.out.storedA (i := 1) (z' := v1) rfl hbt)
    simp only [List.set_cons_zero, List.set_cons_succ] at HV
    try simp only [List.getElem_toArray, List.getElem_cons_succ, List.getElem_cons_zero, Act.put, List.setIfInBounds_toArray, List.set_cons_zero, List.set_cons_succ]
    refine wpAny_done (by kernel_rfl) ?_ _
    go_wp2
    refine bodyPost_ret (Hold.resultsTC HM.out 1 rfl _ rfl rfl rfl (bkRowOf HV.out.len)) rfl ?_
    exact ⟨v1, rfl, HV.out.doneA, HM.out.below⟩
  · have hif : b.ideal = false := by simpa using hi
    obtain ⟨a, N, c, h5, hn, hc, hR, -⟩ := h.at5.lit
    have hn2 : N ≤ 1000 := by have := hro.used; omega
    have hnK : (ofC b.used).length = N := by rw [ofC_length]; exact hn
    have hR' : CelR w0 a (ofC b.used) := hR
    obtain ⟨D, hD⟩ : ∃ D, D = signerSeed b.seed who.data.toList := ⟨_, rfl⟩
    obtain ⟨T, hT⟩ : ∃ T, T = tx D := ⟨_, rfl⟩
    have hTd : T.data.toList = D := by rw [hT]
    have hDl : D.length = 32 := by rw [hD]; exact Ked.expand_length _ _ _ (by omega)
    have hTs : T.size ≤ 1000 := by
      have e : T.size = D.length := by rw [← hTd]; rfl
      omega
    have hS2 : S = tx (Stp.signature 2 1 D kk msg.data.toList) := by rw [hS, signS, if_neg hi, ← hkk, hD]
    have hSd : S.data.toList = signS b who.data.toList msg.data.toList := by rw [hS]
    obtain ⟨L, hL⟩ : ∃ L, L = put b.used nm S.data.toList := ⟨_, rfl⟩
    obtain ⟨M, hM⟩ : ∃ M, L.length = M := ⟨_, rfl⟩
    have hb2 : b1 = { b with used := L } := by rw [hb1, usedB, if_neg hi, ← hkk, ← hnm, hL, hSd]
    have hLn : ∀ c ∈ L, c.1.length ≤ 1000000 := by rw [hL]; exact put_names h.names hnl
    have R5 := Lib.hid (fun u (hu : Below w0.heap.size w0 u) => show Calls Tryz.prog 38 #[.agg v.toArray, .string who] u fun e w' => e = .returned (.agg (sgV T kI).toArray) ∧ Below u.heap.size u w' from signer_any A b v who T kI u (by rw [hT, hD]) (by rw [hkI, hkk]) (h.below hu) hro (by omega) (hl.consts.below hl.consts.1 hu))
    have R6 := Lib.hid (fun u (hu : Below w0.heap.size w0 u) => show Calls Tryz.prog 37 #[.agg (sgV T kI).toArray, .string msg] u fun e w' => e = .returned (.tuple #[.string S, .agg (sgV T (kk + 1 : Nat)).toArray, .int .i64 0]) ∧ Below u.heap.size u w' from by
      rw [hkI]
      exact Stp.sign_any 2 1 kk T msg S u right21 (by omega) (by omega) (by omega) (by rw [hTd]; exact hS2) (hl.consts.below hl.consts.1 hu))
    have RP := Lib.hid (fun u (hu : Below w0.heap.size w0 u) => Tape.put_any (ofC b.used) N a c X S L M u (by rw [toC_ofC, hXd]; exact hL) hM (hR'.below hu) hnK (by omega) hc)
    have H5 := Lib.hid h5
    have HLN := Lib.hid hLn
    have HMM := Lib.hid hM
    have HBB := Lib.hid hb2
    rw [hif] at H0
    generalize ((kk + 1 : Nat) : Int) = kJ at R6
    clear hS hb1 h2 h hro hs hm hl hkk hnm hwl hnl hX hXd hXs hkI hi hif h5 hn hc hR hR' hnK hD hT hTd hDl hTs hS2 hSd hL hM hb2 hLn D
    go_enter Tryz.func21, Tryz.ntmps21
    go_upto_region 6 with ((first
      | ((with_reducible refine Hold.boxK HM.out rfl rfl rfl ?_); clear HM; intro bq w hn hb HM; simp only [List.nil_append] at HM; replace HM := Lib.hid HM; replace HV := Lib.hid (HV.out.allocA (t := 30) (z := v) hn hb); simp only [List.nil_append] at HV; clear hn hb)
      | ((with_reducible refine Hold.allocK HM.out rfl rfl zeroBk zero_bk ?_); clear HM; intro b2 w hn hb HM; simp only [List.nil_append, List.cons_append] at HM; replace HM := Lib.hid HM; replace HV := Lib.hid (HV.out.allocA (t := 30) (z := zeroBk) hn hb); simp only [List.cons_append, List.nil_append] at HV; clear hn hb)
      | (with_reducible refine Hold.load HM.out 0 (cs := v) rfl rfl rfl rfl (Hold.Part.all _) (bkRowOf HV.out.len) ?_)
      | ((with_reducible refine (R1.out _ HM.out.below).mono ?_); rintro e w ⟨rfl, hb⟩; replace HM := Lib.hid (HM.out.next hb); replace HV := Lib.hid (HV.out.below hb); clear hb)
      | ((with_reducible refine (R2.out _ HM.out.below).mono ?_); rintro e w ⟨rfl, hb⟩; replace HM := Lib.hid (HM.out.next hb); replace HV := Lib.hid (HV.out.below hb); clear hb)
      | (with_reducible refine Hold.load1 HM.out 0 (c := .bool false) rfl rfl rfl rfl H0.out cellBool ?_)
      | (with_reducible refine Hold.load1 HM.out 0 (c := .slice a N c) rfl rfl rfl rfl H5.out cellC ?_)
      | ((with_reducible refine (R5.out _ HM.out.below).mono ?_); rintro e w ⟨rfl, hb⟩; replace HM := Lib.hid (HM.out.next hb); replace HV := Lib.hid (HV.out.below hb); clear hb)
      | ((with_reducible refine (R6.out _ HM.out.below).mono ?_); rintro e w ⟨rfl, hb⟩; replace HM := Lib.hid (HM.out.next hb); replace HV := Lib.hid (HV.out.below hb); clear hb)
      | ((with_reducible refine Hold.allocK HM.out rfl rfl zeroSg zero_sg ?_); clear HM; intro b3 w hn hb HM; simp only [List.nil_append, List.cons_append] at HM; replace HM := Lib.hid HM; replace HV := Lib.hid (HV.out.allocA (t := 65) (z := zeroSg) hn hb); simp only [List.cons_append, List.nil_append] at HV; clear hn hb)
      | ((with_reducible refine Hold.storeK HM.out 2 (v' := sgV T kJ) rfl rfl rfl rfl rfl (sg_fits _ _) (sg_laid _ _) (sg_one _ _) (sgRow _ _) ?_); clear HM; intro w hbt HM; simp only [List.set_cons_zero, List.set_cons_succ] at HM; replace HM := Lib.hid HM; replace HV := Lib.hid (HV.out.storedA (i := 2) (z' := sgV T kJ) rfl hbt); simp only [List.set_cons_zero, List.set_cons_succ] at HV; clear hbt)
      | ((with_reducible refine (RP.out _ HM.out.below).mono ?_); rintro e w2 ⟨ao, co, rfl, hco, hR, hlow, hb⟩; replace HV := Lib.hid ((HV.out.below hb).set5 (lies_newA HM.out (HSZ.out _ HM.out.below) (R := CelRb) hR HMM.out hco hlow) HLN.out); replace HM := Lib.hid (HM.out.next hb); clear hR hco hlow hb)
      | ((with_reducible refine Hold.store1K HM.out 0 (c := .slice ao M co) (v' := v.set 5 (.slice ao M co)) rfl rfl rfl rfl rfl (by rw [HLEN.out]; decide) rfl (Hold.cell_sl _ _ _) cellC ?_); clear HM; intro w hbt HM; simp only [List.set_cons_zero, List.set_cons_succ] at HM; replace HM := Lib.hid HM; replace HV := Lib.hid (HV.out.storedA (i := 0) (z' := v.set 5 (.slice ao M co)) rfl hbt); simp only [List.set_cons_zero, List.set_cons_succ] at HV; clear hbt)))
    refine Steady.region 3 (by kernel_rfl) (by kernel_rfl) (fun u => Below w.heap.size w u) (Below.refl _ _).drew ?_
    simp only [List.take_succ_cons, List.take_zero, List.drop_succ_cons, List.drop_zero]
    refine Steady.take ?_ rfl (by intro u hu; go_simp; with_reducible rfl) ?_
    simp only [Act.put, List.setIfInBounds_toArray, List.set_cons_zero, List.set_cons_succ]
    refine Steady.take (.agg (v.set 5 (.slice ao M co)).toArray) rfl (fun u hu => Hold.load_run (HM.out.next hu) 0 rfl rfl rfl (Hold.Part.all _) (bkRowOf HV.out.len)) ?_
    simp only [Act.put, List.setIfInBounds_toArray, List.set_cons_zero, List.set_cons_succ]
    refine Steady.take ?_ rfl (by intro u hu; go_simp; with_reducible rfl) ?_
    simp only [Act.put, List.setIfInBounds_toArray, List.set_cons_zero, List.set_cons_succ]
    refine Steady.nil ?_
    intro w1 hb1
    replace HM := Lib.hid (HM.out.next hb1)
    replace HV := Lib.hid (HV.out.below hb1)
    clear hb1
    go_wp2_with ((first
      | ((with_reducible refine Hold.storeK HM.out 1 (v' := v.set 5 (.slice ao M co)) rfl rfl rfl rfl rfl (bkFits HV.out.len zero_len) (bkLaid HV.out.len zero_len) HV.out.one (bkRowOf HV.out.len) ?_); clear HM; intro w hbt HM; simp only [List.set_cons_zero, List.set_cons_succ] at HM; replace HM := Lib.hid HM; replace HV := Lib.hid (HV.out.storedA (i := 1) (z' := v.set 5 (.slice ao M co)) rfl hbt); simp only [List.set_cons_zero, List.set_cons_succ] at HV; clear hbt)))
    refine bodyPost_ret (Hold.resultsTC HM.out 1 rfl _ rfl rfl rfl (bkRowOf HV.out.len)) rfl ?_
    refine ⟨v.set 5 (.slice ao M co), rfl, ?_, HM.out.below⟩
    rw [HBB.out]
    exact HV.out.doneA
end Go.Proofs.YtdhipdoaefdfeaaGreatDoor.Bkb
