/-
  holds of package book, in a real book: whether a signature is one by the public key, which is kept: what the plain mathematics of the text Bkm says; all memory that was there is left as it was. Conditions: the listed tables; short texts, few of each list; a public key that was kept is the right one.
-/
import Derived.Test.YtdhipdoaefdfeaaGreatDoorBkb
namespace Go.Proofs.YtdhipdoaefdfeaaGreatDoor.Bkb
open Go.RowKit Mur Prt Lanes Tap Bkl Bkm Rec Cel Bkr
set_option maxRecDepth 100000
set_option linter.unusedSimpArgs false

def isV (a b c : ByteArray) : List Value := [.string a, .string b, .string c]
theorem isv0 (a b c : ByteArray) : (isV a b c)[0]? = some (.string a) := rfl
theorem isv1 (a b c : ByteArray) : (isV a b c)[1]? = some (.string b) := rfl
theorem isv2 (a b c : ByteArray) : (isV a b c)[2]? = some (.string c) := rfl
theorem sg2 (S : ByteArray) (k : Int) : (sgV S k)[2]? = some (.string S) := rfl
theorem prefix_yes (D : List UInt8) : Lib.hasPrefix (Stp.pub 2 1 D) (Stp.roomOf D) = true := by
  unfold Lib.hasPrefix Stp.pub
  exact List.isPrefixOf_iff_prefix.2 (List.prefix_append _ _)
theorem prefix_no (D : List UInt8) : Lib.hasPrefix [] (Stp.roomOf D) = false := by
  cases h : Lib.hasPrefix [] (Stp.roomOf D) with
  | false => rfl
  | true =>
    have := (List.isPrefixOf_iff_prefix.1 h).length_le
    rw [Stp.roomOf_length] at this
    simp at this

set_option maxHeartbeats 6400000 in
theorem holds_any (A : Nat → Prop) (b b1 : Bk) (v : List Value) (who msg sig : ByteArray) (O : Bool) (w : World) (hO : O = Stp.check 2 1 (publicS b who.data.toList) msg.data.toList sig.data.toList) (hb1 : b1 = publicB b who.data.toList) (hi : b.ideal = false) (hkey : Key b who.data.toList) (h : BkR w b v A) (hro : Room b 1000) (hs : who.size ≤ 900000) (hm : msg.size ≤ 1000000) (hg : sig.size ≤ 1000000) (hl : Laid w) :
    Calls Tryz.prog 25 #[.agg v.toArray, .agg (isV who msg sig).toArray] w fun e w' => ∃ v', e = .returned (.tuple #[.bool O, .agg v'.toArray]) ∧ BkR w' b1 v' (fun k => A k ∨ w.heap.size ≤ k) ∧ Below w.heap.size w w' := by
  obtain ⟨w0, hw0⟩ : ∃ w0, w0 = w := ⟨w, rfl⟩
  subst hw0
  obtain ⟨D, hD⟩ : ∃ D, D = signerSeed b.seed who.data.toList := ⟨_, rfl⟩
  obtain ⟨T, hT⟩ : ∃ T, T = tx D := ⟨_, rfl⟩
  have hTd : T.data.toList = D := by rw [hT]
  have hDl : D.length = 32 := by rw [hD]; exact Ked.expand_length _ _ _ (by omega)
  have hTs : T.size ≤ 1000 := by
    have e : T.size = D.length := by rw [← hTd]; rfl
    omega
  obtain ⟨P, hP⟩ : ∃ P, P = Stp.pub 2 1 D := ⟨_, rfl⟩
  have hpb : publicS b who.data.toList = P := by rw [publicS, ← hD, hP]
  obtain ⟨PT, hPT⟩ : ∃ PT, PT = tx P := ⟨_, rfl⟩
  have hPTd : PT.data.toList = P := by rw [hPT]
  obtain ⟨RT, hRT⟩ : ∃ RT, RT = tx (Stp.roomOf D) := ⟨_, rfl⟩
  have hRTd : RT.data.toList = Stp.roomOf D := by rw [hRT]
  obtain ⟨NM, hNM⟩ : ∃ NM, NM = (⟨#[112, 117, 98, 108, 105, 99, 32]⟩ : ByteArray) ++ who := ⟨_, rfl⟩
  have hNMd : NM.data.toList = publicT ++ who.data.toList := by rw [hNM]; simp [publicT]
  have hcat : (⟨#[112, 117, 98, 108, 105, 99, 32]⟩ : ByteArray) ++ who = NM := hNM.symm
  have hbig : ¬ 9223372036854775807 < (⟨#[112, 117, 98, 108, 105, 99, 32]⟩ : ByteArray).size + who.size := by
    show ¬ 9223372036854775807 < 7 + who.size
    omega
  have hbig7 : ¬ 9223372036854775807 < 7 + who.size := by omega
  obtain ⟨kI, hkI⟩ : ∃ kI : Int, kI = (Bkl.count b.counts who.data.toList : Nat) := ⟨_, rfl⟩
  obtain ⟨a, N, c, h4, hn, hc, hR, -⟩ := h.at4.lit
  have hn2 : N ≤ 1000 := by have := hro.cells; omega
  have hnK : (ofC b.cells).length = N := by rw [ofC_length]; exact hn
  have hR' : CelR w0 a (ofC b.cells) := hR
  obtain ⟨L, hL⟩ : ∃ L, L = put b.cells (publicT ++ who.data.toList) P := ⟨_, rfl⟩
  obtain ⟨M, hM⟩ : ∃ M, L.length = M := ⟨_, rfl⟩
  have hb2 : b1 = { b with cells := L } := by rw [hb1, publicB, hpb, hL]
  have R1 := Lib.hid (fun u (hu : Below w0.heap.size w0 u) => show Calls Tryz.prog 38 #[.agg v.toArray, .string who] u fun e w' => e = .returned (.agg (sgV T kI).toArray) ∧ Below u.heap.size u w' from signer_any A b v who T kI u (by rw [hT, hD]) hkI (h.below hu) hro (by omega) (hl.consts.below hl.consts.1 hu))
  have R3 := Lib.hid (fun (q : Nat) (u : World) (hq : q < u.heap.size) (hc : u.cell? ⟨q, 0, none⟩ = some (.string ⟨#[114, 111, 111, 109]⟩)) (hu : Below w0.heap.size w0 u) => show Calls Tryz.prog 44 #[.string T, .int .i64 8, .slice (some ⟨q, 0, none⟩) 1 1] u fun e w' => e = .returned (.string RT) ∧ Below u.heap.size u w' from Stp.derive_one T ⟨#[114, 111, 111, 109]⟩ 8 RT q u (by omega) (by decide) (by omega) hq hc (by rw [hTd]; exact hRT) (hl.consts.below hl.consts.1 hu))
  have R5 := Lib.hid (fun u (hu : Below w0.heap.size w0 u) => show Calls Tryz.prog 45 #[.agg shV.toArray, .string PT, .string msg, .string sig] u fun e w' => e = .returned (.bool O) ∧ Below u.heap.size u w' from Stp.check_any 2 1 PT msg sig O u right21 (by omega) (by omega) (by rw [hPTd, ← hpb]; exact hO) (hl.consts.below hl.consts.1 hu))
  have R5L := Lib.hid (fun u (hu : Below w0.heap.size w0 u) => show Calls Tryz.prog 45 #[.agg #[.int .i64 2, .int .i64 1], .string PT, .string msg, .string sig] u fun e w' => e = .returned (.bool O) ∧ Below u.heap.size u w' from R5.out u hu)
  have R6 := Lib.hid (fun u (hu : Below w0.heap.size w0 u) => show Calls Tryz.prog 46 #[.agg (sgV T kI).toArray] u fun e w' => e = .returned (.string PT) ∧ Below u.heap.size u w' from Stp.pub_any 2 1 kI T PT u right21 (by omega) (by rw [hTd, ← hP]; exact hPT) (hl.consts.below hl.consts.1 hu))
  have RP := Lib.hid (fun u (hu : Below w0.heap.size w0 u) => Tape.put_any (ofC b.cells) N a c NM PT L M u (by rw [toC_ofC, hNMd, hPTd]; exact hL) hM (hR'.below hu) hnK (by omega) hc)
  have HM := Lib.hid (Hold.Hld.start w0)
  have HV := Lib.hid h.start
  have HSZ := Lib.hid (fun (u : World) (hu : Below w0.heap.size w0 u) (k : Nat) (hk : u.heap.size ≤ k) => (Or.inr (Nat.le_trans hu.size hk) : A k ∨ w0.heap.size ≤ k))
  have HLEN := Lib.hid h.len
  have HP := Lib.hid h.shape
  have HA2 := Lib.hid h.at2
  have HA3 := Lib.hid h.at3
  have H4 := Lib.hid h4
  have HMM := Lib.hid hM
  have HBB := Lib.hid hb2
  cases hget : get b.cells (publicT ++ who.data.toList) with
  | some s =>
    have hsP : s = P := by rw [← hpb]; exact hkey hi s hget
    have R2 := Lib.hid (fun u (hu : Below w0.heap.size w0 u) => Tape.get_any (ofC b.cells) N a c NM PT true u (by rw [toC_ofC, hNMd, hget, hsP]; exact hPT) (by rw [toC_ofC, hNMd, hget]; rfl) (hR'.below hu) hnK (by omega))
    have R4 := Lib.hid (fun u => show Calls Tryz.prog 43 #[.string PT, .string RT] u fun e w' => e = .returned (.bool true) ∧ w' = u from by
      have := Tryz.strings_HasPrefix PT RT u
      rw [hPTd, hRTd, hP, prefix_yes] at this
      exact this)
    clear hO hb1 hkey hi h hro hs hm hg hl hD hT hTd hDl hTs hP hpb hPT hPTd hRT hRTd hNM hNMd hkI h4 hn hc hR hnK hR' hL hM hb2 hget hsP
    cases O with
    | true =>
      go_enter Tryz.func25, Tryz.ntmps25
      go_upto_region 1 with ((first
        | ((with_reducible refine Hold.boxK HM.out (cs := v) rfl rfl rfl ?_); clear HM; intro bq w hn hb HM; simp only [List.nil_append] at HM; replace HM := Lib.hid HM; replace HV := Lib.hid (HV.out.allocA (t := 30) (z := v) hn hb); simp only [List.nil_append] at HV; clear hn hb)
        | ((with_reducible refine Hold.boxK HM.out (cs := isV who msg sig) rfl rfl rfl ?_); clear HM; intro b3 w hn hb HM; simp only [List.nil_append, List.cons_append] at HM; replace HM := Lib.hid HM; replace HV := Lib.hid (HV.out.allocA (t := 42) (z := isV who msg sig) hn hb); simp only [List.nil_append, List.cons_append] at HV; clear hn hb)
        | ((with_reducible refine Hold.allocK HM.out rfl rfl zeroBk zero_bk ?_); clear HM; intro b5 w hn hb HM; simp only [List.nil_append, List.cons_append] at HM; replace HM := Lib.hid HM; replace HV := Lib.hid (HV.out.allocA (t := 30) (z := zeroBk) hn hb); simp only [List.cons_append, List.nil_append] at HV; clear hn hb)))
      have HW1 := Lib.hid (Below.refl w.heap.size w).drew
      refine SteadyN.region 8 [7] [0, 1, 2, 3, 4, 5, 6] (by kernel_rfl) (by kernel_rfl) (SteadyN.Made _ 65 zeroSg) (fun k hk o ho => by
        simp only [List.mem_cons, List.not_mem_nil, or_false] at hk
        subst hk <;> (obtain rfl : _ = o := Option.some.inj ho; exact SteadyN.makes rfl 65 rfl _ zero_sg)) (SteadyN.Made.start _ _ _) ?_
      simp only [List.filterMap_cons, List.filterMap_nil, List.drop_succ_cons, List.drop_zero, List.getElem?_cons_zero, List.getElem?_cons_succ, Option.map_some]
      refine SteadyN.take ?_ rfl (by intro s u hu; go_simp; with_reducible rfl) ?_
      simp only [Act.put, List.setIfInBounds_toArray, List.set_cons_zero, List.set_cons_succ]
      refine SteadyN.take (.string who) rfl (fun s u hu => Hold.load1_run (HM.out.drew.next hu.below) 1 rfl rfl rfl (isv0 _ _ _) Bkr.cellStr) ?_
      simp only [Act.put, List.setIfInBounds_toArray, List.set_cons_zero, List.set_cons_succ]
      refine SteadyN.take ?_ rfl (by intro s u hu; go_simp; with_reducible rfl) ?_
      simp only [Act.put, List.setIfInBounds_toArray, List.set_cons_zero, List.set_cons_succ]
      refine SteadyN.take (.agg (v).toArray) rfl (fun s u hu => Hold.load_made HM.out.drew hu 0 rfl rfl rfl (Hold.Part.all _) (bkRowOf HLEN.out)) ?_
      simp only [Act.put, List.setIfInBounds_toArray, List.set_cons_zero, List.set_cons_succ]
      refine SteadyN.take ?_ rfl (by intro s u hu; go_simp; with_reducible rfl) ?_
      simp only [Act.put, List.setIfInBounds_toArray, List.set_cons_zero, List.set_cons_succ]
      refine SteadyN.take (.string who) rfl (fun s u hu => Hold.load1_run (HM.out.drew.next hu.below) 1 rfl rfl rfl (isv0 _ _ _) Bkr.cellStr) ?_
      simp only [Act.put, List.setIfInBounds_toArray, List.set_cons_zero, List.set_cons_succ]
      refine SteadyN.call _ _ _ rfl ?_ (Hold.keptNI (fun u hu => R1.out u (HM.out.drew.next hu).below)) ?_
      · intro u
        go_simp
      simp only [Act.put, List.setIfInBounds_toArray, List.set_cons_zero, List.set_cons_succ]
      refine SteadyN.nil ?_
      simp only [SteadyN.made]
      intro p1 w hS
      obtain ⟨b7, rfl, HM2⟩ := Hold.made1 HM.out.drew hS (i := 7) (p := p1) (by simp [SteadyN.upd])
      obtain ⟨bx, hbx, hge, -⟩ := hS.at_ 7 _ (by simp [SteadyN.upd]; rfl)
      cases hbx
      replace HV := Lib.hid (HV.out.allocA (t := 65) (z := zeroSg) (n := b7) hge (HW1.out.trans (hS.below.mono HW1.out.size)))
      clear HM hS HW1 hge
      simp only [List.nil_append, List.cons_append] at HV
      simp only [List.nil_append, List.cons_append] at HM2
      have HM := Lib.hid HM2
      clear HM2
      simp only [Act.put, List.setIfInBounds_toArray, List.set_cons_zero, List.set_cons_succ]
      go_upto_region 4 with ((first
        | ((with_reducible refine Hold.storeK HM.out 3 (v' := sgV T kI) rfl rfl rfl rfl rfl (sg_fits _ _) (sg_laid _ _) (sg_one _ _) (sgRow _ _) ?_); clear HM; intro w hbt HM; simp only [List.set_cons_zero, List.set_cons_succ] at HM; replace HM := Lib.hid HM; replace HV := Lib.hid (HV.out.storedA (i := 3) (z' := sgV T kI) rfl hbt); simp only [List.set_cons_zero, List.set_cons_succ] at HV; clear hbt)
        | (with_reducible refine Hold.load1 HM.out 0 (c := .slice a N c) rfl rfl rfl rfl H4.out cellC ?_)
        | ((with_reducible refine (R2.out _ HM.out.below).mono ?_); rintro e w ⟨rfl, hb⟩; replace HM := Lib.hid (HM.out.next hb); replace HV := Lib.hid (HV.out.below hb); clear hb)
        | (with_reducible refine Hold.load1 HM.out 3 (c := .string T) rfl rfl rfl rfl (sg2 _ _) Bkr.cellStr ?_)
        | ((with_reducible refine (R4.out _).mono ?_); rintro e w3 ⟨rfl, rfl⟩)
        | (go_at_call 44; (refine (R3.out w.heap.size (w.alloc (.cells #[.string ⟨#[114, 111, 111, 109]⟩] 9)) (by simp) (by simp) (HM.out.add 9 [.string ⟨#[114, 111, 111, 109]⟩]).below).mono ?_); rintro e w2 ⟨rfl, hb⟩; have hbb := ((Below.refl w.heap.size w).alloc (Nat.le_refl _) (.cells #[.string ⟨#[114, 111, 111, 109]⟩] 9)).trans (hb.mono (by simp)); replace HM := Lib.hid (HM.out.next hbb); replace HV := Lib.hid (HV.out.below hbb); clear hb hbb)))
      have c2 := (HM.out.at 0 rfl).row.cell HA2.out
      have c3 := (HM.out.at 0 rfl).row.cell HA3.out
      have m1 := (HM.out.at 1 rfl).row.cell (isv1 who msg sig)
      have m2 := (HM.out.at 1 rfl).row.cell (isv2 who msg sig)
      go_upto_region 5 with ((go_at_call 45; (with_reducible refine (R5L.out _ HM.out.below).mono ?_); rintro e w4 ⟨rfl, hb⟩; replace HM := Lib.hid (HM.out.next hb); replace HV := Lib.hid (HV.out.below hb); clear hb))
      clear c2 c3 m1 m2
      go_upto_region 9 with ((first
        | (with_reducible refine Hold.load HM.out 3 (cs := sgV T kI) rfl rfl rfl rfl (Hold.Part.all _) (sgRow _ _) ?_)
        | ((with_reducible refine (R6.out _ HM.out.below).mono ?_); rintro e w ⟨rfl, hb⟩; replace HM := Lib.hid (HM.out.next hb); replace HV := Lib.hid (HV.out.below hb); clear hb)
        | (with_reducible refine Hold.load HM.out 0 (cs := shV) rfl rfl rfl rfl HP.out shV_row ?_)
        | (with_reducible refine Hold.load1 HM.out 1 (c := .string msg) rfl rfl rfl rfl (isv1 _ _ _) Bkr.cellStr ?_)
        | (with_reducible refine Hold.load1 HM.out 1 (c := .string sig) rfl rfl rfl rfl (isv2 _ _ _) Bkr.cellStr ?_)
        | ((with_reducible refine (R5.out _ HM.out.below).mono ?_); rintro e w ⟨rfl, hb⟩; replace HM := Lib.hid (HM.out.next hb); replace HV := Lib.hid (HV.out.below hb); clear hb)
        | (with_reducible refine Hold.load1 HM.out 0 (c := .slice a N c) rfl rfl rfl rfl H4.out cellC ?_)
        | ((with_reducible refine (RP.out _ HM.out.below).mono ?_); rintro e w2 ⟨ao, co, rfl, hco, hR, hlow, hb⟩; replace HV := Lib.hid ((HV.out.below hb).set4 (lies_newA HM.out (HSZ.out _ HM.out.below) (R := CelRb) hR HMM.out hco hlow)); replace HM := Lib.hid (HM.out.next hb); clear hR hco hlow hb)
        | ((with_reducible refine Hold.store1K HM.out 0 (c := .slice ao M co) (v' := v.set 4 (.slice ao M co)) rfl rfl rfl rfl rfl (by rw [HLEN.out]; decide) rfl (Hold.cell_sl _ _ _) cellC ?_); clear HM; intro w hbt HM; simp only [List.set_cons_zero, List.set_cons_succ] at HM; replace HM := Lib.hid HM; replace HV := Lib.hid (HV.out.storedA (i := 0) (z' := v.set 4 (.slice ao M co)) rfl hbt); simp only [List.set_cons_zero, List.set_cons_succ] at HV; clear hbt)))
      refine Steady.region 3 (by kernel_rfl) (by kernel_rfl) (fun u => Below w.heap.size w u) (Below.refl _ _).drew ?_
      simp only [List.take_succ_cons, List.take_zero, List.drop_succ_cons, List.drop_zero]
      refine Steady.take ?_ rfl (by intro u hu; go_simp; with_reducible rfl) ?_
      simp only [Act.put, List.setIfInBounds_toArray, List.set_cons_zero, List.set_cons_succ]
      refine Steady.take (.agg (v.set 4 (.slice ao M co)).toArray) rfl (fun u hu => Hold.load_run (HM.out.next hu) 0 rfl rfl rfl (Hold.Part.all _) (bkRowOf HV.out.len)) ?_
      simp only [Act.put, List.setIfInBounds_toArray, List.set_cons_zero, List.set_cons_succ]
      refine Steady.take ?_ rfl (by intro u hu; go_simp; with_reducible rfl) ?_
      simp only [Act.put, List.setIfInBounds_toArray, List.set_cons_zero, List.set_cons_succ]
      refine Steady.nil ?_
      intro w1 hb1
      replace HM := Lib.hid (HM.out.next hb1)
      replace HV := Lib.hid (HV.out.below hb1)
      clear hb1
      go_wp2_with ((first
        | ((with_reducible refine Hold.storeK HM.out 2 (v' := v.set 4 (.slice ao M co)) rfl rfl rfl rfl rfl (bkFits HV.out.len zero_len) (bkLaid HV.out.len zero_len) HV.out.one (bkRowOf HV.out.len) ?_); clear HM; intro w hbt HM; simp only [List.set_cons_zero, List.set_cons_succ] at HM; replace HM := Lib.hid HM; replace HV := Lib.hid (HV.out.storedA (i := 2) (z' := v.set 4 (.slice ao M co)) rfl hbt); simp only [List.set_cons_zero, List.set_cons_succ] at HV; clear hbt)))
      refine bodyPost_ret (Hold.resultsTC HM.out 2 rfl _ rfl rfl rfl (bkRowOf HV.out.len)) rfl ?_
      refine ⟨v.set 4 (.slice ao M co), rfl, ?_, HM.out.below⟩
      rw [HBB.out]
      exact HV.out.doneA
    | false =>
      go_enter Tryz.func25, Tryz.ntmps25
      go_upto_region 1 with ((first
        | ((with_reducible refine Hold.boxK HM.out (cs := v) rfl rfl rfl ?_); clear HM; intro bq w hn hb HM; simp only [List.nil_append] at HM; replace HM := Lib.hid HM; replace HV := Lib.hid (HV.out.allocA (t := 30) (z := v) hn hb); simp only [List.nil_append] at HV; clear hn hb)
        | ((with_reducible refine Hold.boxK HM.out (cs := isV who msg sig) rfl rfl rfl ?_); clear HM; intro b3 w hn hb HM; simp only [List.nil_append, List.cons_append] at HM; replace HM := Lib.hid HM; replace HV := Lib.hid (HV.out.allocA (t := 42) (z := isV who msg sig) hn hb); simp only [List.nil_append, List.cons_append] at HV; clear hn hb)
        | ((with_reducible refine Hold.allocK HM.out rfl rfl zeroBk zero_bk ?_); clear HM; intro b5 w hn hb HM; simp only [List.nil_append, List.cons_append] at HM; replace HM := Lib.hid HM; replace HV := Lib.hid (HV.out.allocA (t := 30) (z := zeroBk) hn hb); simp only [List.cons_append, List.nil_append] at HV; clear hn hb)))
      have HW1 := Lib.hid (Below.refl w.heap.size w).drew
      refine SteadyN.region 8 [7] [0, 1, 2, 3, 4, 5, 6] (by kernel_rfl) (by kernel_rfl) (SteadyN.Made _ 65 zeroSg) (fun k hk o ho => by
        simp only [List.mem_cons, List.not_mem_nil, or_false] at hk
        subst hk <;> (obtain rfl : _ = o := Option.some.inj ho; exact SteadyN.makes rfl 65 rfl _ zero_sg)) (SteadyN.Made.start _ _ _) ?_
      simp only [List.filterMap_cons, List.filterMap_nil, List.drop_succ_cons, List.drop_zero, List.getElem?_cons_zero, List.getElem?_cons_succ, Option.map_some]
      refine SteadyN.take ?_ rfl (by intro s u hu; go_simp; with_reducible rfl) ?_
      simp only [Act.put, List.setIfInBounds_toArray, List.set_cons_zero, List.set_cons_succ]
      refine SteadyN.take (.string who) rfl (fun s u hu => Hold.load1_run (HM.out.drew.next hu.below) 1 rfl rfl rfl (isv0 _ _ _) Bkr.cellStr) ?_
      simp only [Act.put, List.setIfInBounds_toArray, List.set_cons_zero, List.set_cons_succ]
      refine SteadyN.take ?_ rfl (by intro s u hu; go_simp; with_reducible rfl) ?_
      simp only [Act.put, List.setIfInBounds_toArray, List.set_cons_zero, List.set_cons_succ]
      refine SteadyN.take (.agg (v).toArray) rfl (fun s u hu => Hold.load_made HM.out.drew hu 0 rfl rfl rfl (Hold.Part.all _) (bkRowOf HLEN.out)) ?_
      simp only [Act.put, List.setIfInBounds_toArray, List.set_cons_zero, List.set_cons_succ]
      refine SteadyN.take ?_ rfl (by intro s u hu; go_simp; with_reducible rfl) ?_
      simp only [Act.put, List.setIfInBounds_toArray, List.set_cons_zero, List.set_cons_succ]
      refine SteadyN.take (.string who) rfl (fun s u hu => Hold.load1_run (HM.out.drew.next hu.below) 1 rfl rfl rfl (isv0 _ _ _) Bkr.cellStr) ?_
      simp only [Act.put, List.setIfInBounds_toArray, List.set_cons_zero, List.set_cons_succ]
      refine SteadyN.call _ _ _ rfl ?_ (Hold.keptNI (fun u hu => R1.out u (HM.out.drew.next hu).below)) ?_
      · intro u
        go_simp
      simp only [Act.put, List.setIfInBounds_toArray, List.set_cons_zero, List.set_cons_succ]
      refine SteadyN.nil ?_
      simp only [SteadyN.made]
      intro p1 w hS
      obtain ⟨b7, rfl, HM2⟩ := Hold.made1 HM.out.drew hS (i := 7) (p := p1) (by simp [SteadyN.upd])
      obtain ⟨bx, hbx, hge, -⟩ := hS.at_ 7 _ (by simp [SteadyN.upd]; rfl)
      cases hbx
      replace HV := Lib.hid (HV.out.allocA (t := 65) (z := zeroSg) (n := b7) hge (HW1.out.trans (hS.below.mono HW1.out.size)))
      clear HM hS HW1 hge
      simp only [List.nil_append, List.cons_append] at HV
      simp only [List.nil_append, List.cons_append] at HM2
      have HM := Lib.hid HM2
      clear HM2
      simp only [Act.put, List.setIfInBounds_toArray, List.set_cons_zero, List.set_cons_succ]
      go_upto_region 4 with ((first
        | ((with_reducible refine Hold.storeK HM.out 3 (v' := sgV T kI) rfl rfl rfl rfl rfl (sg_fits _ _) (sg_laid _ _) (sg_one _ _) (sgRow _ _) ?_); clear HM; intro w hbt HM; simp only [List.set_cons_zero, List.set_cons_succ] at HM; replace HM := Lib.hid HM; replace HV := Lib.hid (HV.out.storedA (i := 3) (z' := sgV T kI) rfl hbt); simp only [List.set_cons_zero, List.set_cons_succ] at HV; clear hbt)
        | (with_reducible refine Hold.load1 HM.out 0 (c := .slice a N c) rfl rfl rfl rfl H4.out cellC ?_)
        | ((with_reducible refine (R2.out _ HM.out.below).mono ?_); rintro e w ⟨rfl, hb⟩; replace HM := Lib.hid (HM.out.next hb); replace HV := Lib.hid (HV.out.below hb); clear hb)
        | (with_reducible refine Hold.load1 HM.out 3 (c := .string T) rfl rfl rfl rfl (sg2 _ _) Bkr.cellStr ?_)
        | ((with_reducible refine (R4.out _).mono ?_); rintro e w3 ⟨rfl, rfl⟩)
        | (go_at_call 44; (refine (R3.out w.heap.size (w.alloc (.cells #[.string ⟨#[114, 111, 111, 109]⟩] 9)) (by simp) (by simp) (HM.out.add 9 [.string ⟨#[114, 111, 111, 109]⟩]).below).mono ?_); rintro e w2 ⟨rfl, hb⟩; have hbb := ((Below.refl w.heap.size w).alloc (Nat.le_refl _) (.cells #[.string ⟨#[114, 111, 111, 109]⟩] 9)).trans (hb.mono (by simp)); replace HM := Lib.hid (HM.out.next hbb); replace HV := Lib.hid (HV.out.below hbb); clear hb hbb)))
      have c2 := (HM.out.at 0 rfl).row.cell HA2.out
      have c3 := (HM.out.at 0 rfl).row.cell HA3.out
      have m1 := (HM.out.at 1 rfl).row.cell (isv1 who msg sig)
      have m2 := (HM.out.at 1 rfl).row.cell (isv2 who msg sig)
      go_upto_region 5 with ((go_at_call 45; (with_reducible refine (R5L.out _ HM.out.below).mono ?_); rintro e w4 ⟨rfl, hb⟩; replace HM := Lib.hid (HM.out.next hb); replace HV := Lib.hid (HV.out.below hb); clear hb))
      clear c2 c3 m1 m2
      go_upto_region 9 with ((first
        | (with_reducible refine Hold.load HM.out 3 (cs := sgV T kI) rfl rfl rfl rfl (Hold.Part.all _) (sgRow _ _) ?_)
        | ((with_reducible refine (R6.out _ HM.out.below).mono ?_); rintro e w ⟨rfl, hb⟩; replace HM := Lib.hid (HM.out.next hb); replace HV := Lib.hid (HV.out.below hb); clear hb)
        | (with_reducible refine Hold.load HM.out 0 (cs := shV) rfl rfl rfl rfl HP.out shV_row ?_)
        | (with_reducible refine Hold.load1 HM.out 1 (c := .string msg) rfl rfl rfl rfl (isv1 _ _ _) Bkr.cellStr ?_)
        | (with_reducible refine Hold.load1 HM.out 1 (c := .string sig) rfl rfl rfl rfl (isv2 _ _ _) Bkr.cellStr ?_)
        | ((with_reducible refine (R5.out _ HM.out.below).mono ?_); rintro e w ⟨rfl, hb⟩; replace HM := Lib.hid (HM.out.next hb); replace HV := Lib.hid (HV.out.below hb); clear hb)
        | (with_reducible refine Hold.load1 HM.out 0 (c := .slice a N c) rfl rfl rfl rfl H4.out cellC ?_)
        | ((with_reducible refine (RP.out _ HM.out.below).mono ?_); rintro e w2 ⟨ao, co, rfl, hco, hR, hlow, hb⟩; replace HV := Lib.hid ((HV.out.below hb).set4 (lies_newA HM.out (HSZ.out _ HM.out.below) (R := CelRb) hR HMM.out hco hlow)); replace HM := Lib.hid (HM.out.next hb); clear hR hco hlow hb)
        | ((with_reducible refine Hold.store1K HM.out 0 (c := .slice ao M co) (v' := v.set 4 (.slice ao M co)) rfl rfl rfl rfl rfl (by rw [HLEN.out]; decide) rfl (Hold.cell_sl _ _ _) cellC ?_); clear HM; intro w hbt HM; simp only [List.set_cons_zero, List.set_cons_succ] at HM; replace HM := Lib.hid HM; replace HV := Lib.hid (HV.out.storedA (i := 0) (z' := v.set 4 (.slice ao M co)) rfl hbt); simp only [List.set_cons_zero, List.set_cons_succ] at HV; clear hbt)))
      refine Steady.region 3 (by kernel_rfl) (by kernel_rfl) (fun u => Below w.heap.size w u) (Below.refl _ _).drew ?_
      simp only [List.take_succ_cons, List.take_zero, List.drop_succ_cons, List.drop_zero]
      refine Steady.take ?_ rfl (by intro u hu; go_simp; with_reducible rfl) ?_
      simp only [Act.put, List.setIfInBounds_toArray, List.set_cons_zero, List.set_cons_succ]
      refine Steady.take (.agg (v.set 4 (.slice ao M co)).toArray) rfl (fun u hu => Hold.load_run (HM.out.next hu) 0 rfl rfl rfl (Hold.Part.all _) (bkRowOf HV.out.len)) ?_
      simp only [Act.put, List.setIfInBounds_toArray, List.set_cons_zero, List.set_cons_succ]
      refine Steady.take ?_ rfl (by intro u hu; go_simp; with_reducible rfl) ?_
      simp only [Act.put, List.setIfInBounds_toArray, List.set_cons_zero, List.set_cons_succ]
      refine Steady.nil ?_
      intro w1 hb1
      replace HM := Lib.hid (HM.out.next hb1)
      replace HV := Lib.hid (HV.out.below hb1)
      clear hb1
      go_wp2_with ((first
        | ((with_reducible refine Hold.storeK HM.out 2 (v' := v.set 4 (.slice ao M co)) rfl rfl rfl rfl rfl (bkFits HV.out.len zero_len) (bkLaid HV.out.len zero_len) HV.out.one (bkRowOf HV.out.len) ?_); clear HM; intro w hbt HM; simp only [List.set_cons_zero, List.set_cons_succ] at HM; replace HM := Lib.hid HM; replace HV := Lib.hid (HV.out.storedA (i := 2) (z' := v.set 4 (.slice ao M co)) rfl hbt); simp only [List.set_cons_zero, List.set_cons_succ] at HV; clear hbt)))
      refine bodyPost_ret (Hold.resultsTC HM.out 2 rfl _ rfl rfl rfl (bkRowOf HV.out.len)) rfl ?_
      refine ⟨v.set 4 (.slice ao M co), rfl, ?_, HM.out.below⟩
      rw [HBB.out]
      exact HV.out.doneA
  | none =>
    have R2 := Lib.hid (fun u (hu : Below w0.heap.size w0 u) => Tape.get_any (ofC b.cells) N a c NM ⟨#[]⟩ false u (by rw [toC_ofC, hNMd, hget]; rfl) (by rw [toC_ofC, hNMd, hget]; rfl) (hR'.below hu) hnK (by omega))
    have R4 := Lib.hid (fun u => show Calls Tryz.prog 43 #[.string ⟨#[]⟩, .string RT] u fun e w' => e = .returned (.bool false) ∧ w' = u from by
      have := Tryz.strings_HasPrefix ⟨#[]⟩ RT u
      rw [hRTd] at this
      rw [show ((⟨#[]⟩ : ByteArray).data.toList) = [] from rfl, prefix_no] at this
      exact this)
    clear hO hb1 hkey hi h hro hs hm hg hl hD hT hTd hDl hTs hP hpb hPT hPTd hRT hRTd hNM hNMd hkI h4 hn hc hR hnK hR' hL hM hb2 hget
    go_enter Tryz.func25, Tryz.ntmps25
    go_upto_region 1 with ((first
      | ((with_reducible refine Hold.boxK HM.out (cs := v) rfl rfl rfl ?_); clear HM; intro bq w hn hb HM; simp only [List.nil_append] at HM; replace HM := Lib.hid HM; replace HV := Lib.hid (HV.out.allocA (t := 30) (z := v) hn hb); simp only [List.nil_append] at HV; clear hn hb)
      | ((with_reducible refine Hold.boxK HM.out (cs := isV who msg sig) rfl rfl rfl ?_); clear HM; intro b3 w hn hb HM; simp only [List.nil_append, List.cons_append] at HM; replace HM := Lib.hid HM; replace HV := Lib.hid (HV.out.allocA (t := 42) (z := isV who msg sig) hn hb); simp only [List.nil_append, List.cons_append] at HV; clear hn hb)
      | ((with_reducible refine Hold.allocK HM.out rfl rfl zeroBk zero_bk ?_); clear HM; intro b5 w hn hb HM; simp only [List.nil_append, List.cons_append] at HM; replace HM := Lib.hid HM; replace HV := Lib.hid (HV.out.allocA (t := 30) (z := zeroBk) hn hb); simp only [List.cons_append, List.nil_append] at HV; clear hn hb)))
    have HW1 := Lib.hid (Below.refl w.heap.size w).drew
    refine SteadyN.region 8 [7] [0, 1, 2, 3, 4, 5, 6] (by kernel_rfl) (by kernel_rfl) (SteadyN.Made _ 65 zeroSg) (fun k hk o ho => by
      simp only [List.mem_cons, List.not_mem_nil, or_false] at hk
      subst hk <;> (obtain rfl : _ = o := Option.some.inj ho; exact SteadyN.makes rfl 65 rfl _ zero_sg)) (SteadyN.Made.start _ _ _) ?_
    simp only [List.filterMap_cons, List.filterMap_nil, List.drop_succ_cons, List.drop_zero, List.getElem?_cons_zero, List.getElem?_cons_succ, Option.map_some]
    refine SteadyN.take ?_ rfl (by intro s u hu; go_simp; with_reducible rfl) ?_
    simp only [Act.put, List.setIfInBounds_toArray, List.set_cons_zero, List.set_cons_succ]
    refine SteadyN.take (.string who) rfl (fun s u hu => Hold.load1_run (HM.out.drew.next hu.below) 1 rfl rfl rfl (isv0 _ _ _) Bkr.cellStr) ?_
    simp only [Act.put, List.setIfInBounds_toArray, List.set_cons_zero, List.set_cons_succ]
    refine SteadyN.take ?_ rfl (by intro s u hu; go_simp; with_reducible rfl) ?_
    simp only [Act.put, List.setIfInBounds_toArray, List.set_cons_zero, List.set_cons_succ]
    refine SteadyN.take (.agg (v).toArray) rfl (fun s u hu => Hold.load_made HM.out.drew hu 0 rfl rfl rfl (Hold.Part.all _) (bkRowOf HLEN.out)) ?_
    simp only [Act.put, List.setIfInBounds_toArray, List.set_cons_zero, List.set_cons_succ]
    refine SteadyN.take ?_ rfl (by intro s u hu; go_simp; with_reducible rfl) ?_
    simp only [Act.put, List.setIfInBounds_toArray, List.set_cons_zero, List.set_cons_succ]
    refine SteadyN.take (.string who) rfl (fun s u hu => Hold.load1_run (HM.out.drew.next hu.below) 1 rfl rfl rfl (isv0 _ _ _) Bkr.cellStr) ?_
    simp only [Act.put, List.setIfInBounds_toArray, List.set_cons_zero, List.set_cons_succ]
    refine SteadyN.call _ _ _ rfl ?_ (Hold.keptNI (fun u hu => R1.out u (HM.out.drew.next hu).below)) ?_
    · intro u
      go_simp
    simp only [Act.put, List.setIfInBounds_toArray, List.set_cons_zero, List.set_cons_succ]
    refine SteadyN.nil ?_
    simp only [SteadyN.made]
    intro p1 w hS
    obtain ⟨b7, rfl, HM2⟩ := Hold.made1 HM.out.drew hS (i := 7) (p := p1) (by simp [SteadyN.upd])
    obtain ⟨bx, hbx, hge, -⟩ := hS.at_ 7 _ (by simp [SteadyN.upd]; rfl)
    cases hbx
    replace HV := Lib.hid (HV.out.allocA (t := 65) (z := zeroSg) (n := b7) hge (HW1.out.trans (hS.below.mono HW1.out.size)))
    clear HM hS HW1 hge
    simp only [List.nil_append, List.cons_append] at HV
    simp only [List.nil_append, List.cons_append] at HM2
    have HM := Lib.hid HM2
    clear HM2
    simp only [Act.put, List.setIfInBounds_toArray, List.set_cons_zero, List.set_cons_succ]
    go_upto_region 4 with ((first
      | ((with_reducible refine Hold.storeK HM.out 3 (v' := sgV T kI) rfl rfl rfl rfl rfl (sg_fits _ _) (sg_laid _ _) (sg_one _ _) (sgRow _ _) ?_); clear HM; intro w hbt HM; simp only [List.set_cons_zero, List.set_cons_succ] at HM; replace HM := Lib.hid HM; replace HV := Lib.hid (HV.out.storedA (i := 3) (z' := sgV T kI) rfl hbt); simp only [List.set_cons_zero, List.set_cons_succ] at HV; clear hbt)
      | (with_reducible refine Hold.load1 HM.out 0 (c := .slice a N c) rfl rfl rfl rfl H4.out cellC ?_)
      | ((with_reducible refine (R2.out _ HM.out.below).mono ?_); rintro e w ⟨rfl, hb⟩; replace HM := Lib.hid (HM.out.next hb); replace HV := Lib.hid (HV.out.below hb); clear hb)
      | (with_reducible refine Hold.load1 HM.out 3 (c := .string T) rfl rfl rfl rfl (sg2 _ _) Bkr.cellStr ?_)
      | ((with_reducible refine (R4.out _).mono ?_); rintro e w3 ⟨rfl, rfl⟩)
      | (go_at_call 44; (refine (R3.out w.heap.size (w.alloc (.cells #[.string ⟨#[114, 111, 111, 109]⟩] 9)) (by simp) (by simp) (HM.out.add 9 [.string ⟨#[114, 111, 111, 109]⟩]).below).mono ?_); rintro e w2 ⟨rfl, hb⟩; have hbb := ((Below.refl w.heap.size w).alloc (Nat.le_refl _) (.cells #[.string ⟨#[114, 111, 111, 109]⟩] 9)).trans (hb.mono (by simp)); replace HM := Lib.hid (HM.out.next hbb); replace HV := Lib.hid (HV.out.below hbb); clear hb hbb)))
    have c2 := (HM.out.at 0 rfl).row.cell HA2.out
    have c3 := (HM.out.at 0 rfl).row.cell HA3.out
    have m1 := (HM.out.at 1 rfl).row.cell (isv1 who msg sig)
    have m2 := (HM.out.at 1 rfl).row.cell (isv2 who msg sig)
    go_upto_region 5 with ((go_at_call 45; (with_reducible refine (R5L.out _ HM.out.below).mono ?_); rintro e w4 ⟨rfl, hb⟩; replace HM := Lib.hid (HM.out.next hb); replace HV := Lib.hid (HV.out.below hb); clear hb))
    clear c2 c3 m1 m2
    go_upto_region 9 with ((first
      | (with_reducible refine Hold.load HM.out 3 (cs := sgV T kI) rfl rfl rfl rfl (Hold.Part.all _) (sgRow _ _) ?_)
      | ((with_reducible refine (R6.out _ HM.out.below).mono ?_); rintro e w ⟨rfl, hb⟩; replace HM := Lib.hid (HM.out.next hb); replace HV := Lib.hid (HV.out.below hb); clear hb)
      | (with_reducible refine Hold.load HM.out 0 (cs := shV) rfl rfl rfl rfl HP.out shV_row ?_)
      | (with_reducible refine Hold.load1 HM.out 1 (c := .string msg) rfl rfl rfl rfl (isv1 _ _ _) Bkr.cellStr ?_)
      | (with_reducible refine Hold.load1 HM.out 1 (c := .string sig) rfl rfl rfl rfl (isv2 _ _ _) Bkr.cellStr ?_)
      | ((with_reducible refine (R5.out _ HM.out.below).mono ?_); rintro e w ⟨rfl, hb⟩; replace HM := Lib.hid (HM.out.next hb); replace HV := Lib.hid (HV.out.below hb); clear hb)
      | (with_reducible refine Hold.load1 HM.out 0 (c := .slice a N c) rfl rfl rfl rfl H4.out cellC ?_)
      | ((with_reducible refine (RP.out _ HM.out.below).mono ?_); rintro e w2 ⟨ao, co, rfl, hco, hR, hlow, hb⟩; replace HV := Lib.hid ((HV.out.below hb).set4 (lies_newA HM.out (HSZ.out _ HM.out.below) (R := CelRb) hR HMM.out hco hlow)); replace HM := Lib.hid (HM.out.next hb); clear hR hco hlow hb)
      | ((with_reducible refine Hold.store1K HM.out 0 (c := .slice ao M co) (v' := v.set 4 (.slice ao M co)) rfl rfl rfl rfl rfl (by rw [HLEN.out]; decide) rfl (Hold.cell_sl _ _ _) cellC ?_); clear HM; intro w hbt HM; simp only [List.set_cons_zero, List.set_cons_succ] at HM; replace HM := Lib.hid HM; replace HV := Lib.hid (HV.out.storedA (i := 0) (z' := v.set 4 (.slice ao M co)) rfl hbt); simp only [List.set_cons_zero, List.set_cons_succ] at HV; clear hbt)))
    refine Steady.region 3 (by kernel_rfl) (by kernel_rfl) (fun u => Below w.heap.size w u) (Below.refl _ _).drew ?_
    simp only [List.take_succ_cons, List.take_zero, List.drop_succ_cons, List.drop_zero]
    refine Steady.take ?_ rfl (by intro u hu; go_simp; with_reducible rfl) ?_
    simp only [Act.put, List.setIfInBounds_toArray, List.set_cons_zero, List.set_cons_succ]
    refine Steady.take (.agg (v.set 4 (.slice ao M co)).toArray) rfl (fun u hu => Hold.load_run (HM.out.next hu) 0 rfl rfl rfl (Hold.Part.all _) (bkRowOf HV.out.len)) ?_
    simp only [Act.put, List.setIfInBounds_toArray, List.set_cons_zero, List.set_cons_succ]
    refine Steady.take ?_ rfl (by intro u hu; go_simp; with_reducible rfl) ?_
    simp only [Act.put, List.setIfInBounds_toArray, List.set_cons_zero, List.set_cons_succ]
    refine Steady.nil ?_
    intro w1 hb1
    replace HM := Lib.hid (HM.out.next hb1)
    replace HV := Lib.hid (HV.out.below hb1)
    clear hb1
    go_wp2_with ((first
      | ((with_reducible refine Hold.storeK HM.out 2 (v' := v.set 4 (.slice ao M co)) rfl rfl rfl rfl rfl (bkFits HV.out.len zero_len) (bkLaid HV.out.len zero_len) HV.out.one (bkRowOf HV.out.len) ?_); clear HM; intro w hbt HM; simp only [List.set_cons_zero, List.set_cons_succ] at HM; replace HM := Lib.hid HM; replace HV := Lib.hid (HV.out.storedA (i := 2) (z' := v.set 4 (.slice ao M co)) rfl hbt); simp only [List.set_cons_zero, List.set_cons_succ] at HV; clear hbt)))
    refine bodyPost_ret (Hold.resultsTC HM.out 2 rfl _ rfl rfl rfl (bkRowOf HV.out.len)) rfl ?_
    refine ⟨v.set 4 (.slice ao M co), rfl, ?_, HM.out.below⟩
    rw [HBB.out]
    exact HV.out.doneA
end Go.Proofs.YtdhipdoaefdfeaaGreatDoor.Bkb
