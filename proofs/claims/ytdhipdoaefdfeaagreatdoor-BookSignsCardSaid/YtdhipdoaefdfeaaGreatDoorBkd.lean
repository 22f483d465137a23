/-
  Check of package book: what the plain mathematics of the text Bkm says; all memory that was there is left as it was. Conditions: the listed tables; short texts, few of each list; a public key that a real book has kept is the right one.
-/
import Derived.Test.YtdhipdoaefdfeaaGreatDoorBkc
namespace Go.Proofs.YtdhipdoaefdfeaaGreatDoor.Bkb
open Go.RowKit Mur Prt Lanes Tap Bkl Bkm Rec Cel Bkr
set_option maxRecDepth 100000
set_option linter.unusedSimpArgs false

theorem isRow (a b c : ByteArray) : Hold.TyRow Tryz.prog 42 (isV a b c).length := ⟨_, Tryz.underlying42, rfl, by kernel_rfl⟩
def zeroIs : List Value := [.string ⟨#[]⟩, .string ⟨#[]⟩, .string ⟨#[]⟩]
theorem zero_is : (Tryz.prog.info? 42).map (fun i => (i.zero, i.size)) = some (some (.agg zeroIs.toArray), zeroIs.length) := by kernel_rfl
theorem is_fits (a b c : ByteArray) : 0 + (isV a b c).length ≤ zeroIs.length := Nat.le_refl 3
theorem is_laid (a b c : ByteArray) : Hold.lay zeroIs 0 (isV a b c) = isV a b c := Hold.lay_all rfl
theorem is_one (a b c : ByteArray) : Hold.Single (isV a b c) := by unfold Hold.Single isV; simp [Value.oneCell']
/-- among, as an arm wants it. -/
theorem among_arm (l : List Iss) (who msg sig : ByteArray) (L : List Iss) (M : Nat) (hL : L = add l (who.data.toList, msg.data.toList, sig.data.toList)) (hM : L.length = M) (hl : l.length ≤ 1000) (n : Nat) (a : Option Addr) (c : Nat) (u : World) (hn : l.length = n) (hc : n ≤ c) (ha : IssR u a l) :
    Calls Tryz.prog 23 #[.slice a n c, .agg (isV who msg sig).toArray] u fun e w' => ∃ ao co, e = .returned (.slice ao M co) ∧ M ≤ co ∧ IssR w' ao L ∧ (∀ q, ao = some q → u.heap.size ≤ q.block ∨ (a = some q ∧ l.length ≠ 0)) ∧ Below u.heap.size u w' := by
  rw [← hM]
  exact among_any l _ L who msg sig n a c u (tx_data who).symm (tx_data msg).symm (tx_data sig).symm hL hn (by omega) hc ha

set_option maxHeartbeats 6400000 in
theorem check_any (A : Nat → Prop) (b b' : Bk) (v : List Value) (who msg sig : ByteArray) (O : Bool) (w : World) (hO : O = checkO b who.data.toList msg.data.toList sig.data.toList) (hb' : b' = checkB b who.data.toList msg.data.toList sig.data.toList) (hkey : Key b who.data.toList) (h : BkR w b v A) (hro : Room b 1000) (hs : who.size ≤ 900000) (hm : msg.size ≤ 1000000) (hg : sig.size ≤ 1000000) (hl : Laid w) :
    Calls Tryz.prog 10 #[.agg v.toArray, .string who, .string msg, .string sig] w fun e w' => ∃ v', e = .returned (.tuple #[.bool O, .agg v'.toArray]) ∧ BkR w' b' v' (fun k => A k ∨ w.heap.size ≤ k) ∧ Below w.heap.size w w' := by
  obtain ⟨w0, hw0⟩ : ∃ w0, w0 = w := ⟨w, rfl⟩
  subst hw0
  obtain ⟨y, hy⟩ : ∃ y : Iss, y = (who.data.toList, msg.data.toList, sig.data.toList) := ⟨_, rfl⟩
  obtain ⟨I, hI⟩ : ∃ I : Bool, I = decide (y ∈ b.issued) := ⟨_, rfl⟩
  obtain ⟨a7, n7, c7, h7, hn7, hc7, hR7, -⟩ := h.at7.lit
  have R2 := Lib.hid (fun u (hu : Below w0.heap.size w0 u) => show Calls Tryz.prog 24 #[.slice a7 n7 c7, .agg (isV who msg sig).toArray] u fun e w' => e = .returned (.bool I) ∧ Below u.heap.size u w' from by
    have := contains_any b.issued y I n7 a7 c7 u hI hn7 (by have := hro.issued; omega) (RecR.below hR7 hu)
    rw [hy] at this
    simp only [tx_data] at this
    exact this)
  obtain ⟨b0, hb0⟩ : ∃ b0, b0 = (if b.ideal = true then b else publicB b who.data.toList) := ⟨_, rfl⟩
  have hbt : b' = told b0 y O := by rw [hb', checkB, ← hO, ← hy, hb0]
  have e7 : b0.issued = b.issued := by rw [hb0]; split <;> rfl
  have e8 : b0.taken = b.taken := by rw [hb0]; split <;> rfl
  have e9 : b0.forged = b.forged := by rw [hb0]; split <;> rfl
  have e10 : b0.missed = b.missed := by rw [hb0]; split <;> rfl
  obtain ⟨L8, hL8⟩ : ∃ L, L = add b0.taken y := ⟨_, rfl⟩
  obtain ⟨M8, hM8⟩ : ∃ M, L8.length = M := ⟨_, rfl⟩
  obtain ⟨L9, hL9⟩ : ∃ L, L = add b0.forged y := ⟨_, rfl⟩
  obtain ⟨M9, hM9⟩ : ∃ M, L9.length = M := ⟨_, rfl⟩
  obtain ⟨L10, hL10⟩ : ∃ L, L = add b0.missed y := ⟨_, rfl⟩
  obtain ⟨M10, hM10⟩ : ∃ M, L10.length = M := ⟨_, rfl⟩
  have R8 := Lib.hid (among_arm b0.taken who msg sig L8 M8 (by rw [← hy]; exact hL8) hM8 (by rw [e8]; exact hro.taken))
  have R9 := Lib.hid (among_arm b0.forged who msg sig L9 M9 (by rw [← hy]; exact hL9) hM9 (by rw [e9]; exact hro.forged))
  have R10 := Lib.hid (among_arm b0.missed who msg sig L10 M10 (by rw [← hy]; exact hL10) hM10 (by rw [e10]; exact hro.missed))
  have HM8 := Lib.hid hM8
  have HM9 := Lib.hid hM9
  have HM10 := Lib.hid hM10
  have HM := Lib.hid (Hold.Hld.start w0)
  have HSZ := Lib.hid (fun (u : World) (hu : Below w0.heap.size w0 u) (k : Nat) (hk : u.heap.size ≤ k) => (Or.inr (Nat.le_trans hu.size hk) : A k ∨ w0.heap.size ≤ k))
  have HLEN := Lib.hid h.len
  have H0 := Lib.hid h.at0
  have H7 := Lib.hid h7
  have hbi : Tryz.prog.built 42 [(0, .string who), (1, .string msg), (2, .string sig)] = some (isV who msg sig).toArray := by kernel_rfl
  have HBI := Lib.hid hbi
  have hIe : ∀ {p : Prop}, (y ∉ b0.issued ↔ p) → (I = true → ¬p) ∧ (I = false → p) := fun {p} hp => by
    rw [e7] at hp
    constructor
    · intro hh hpp
      exact hp.2 hpp (of_decide_eq_true (hI.symm.trans hh))
    · intro hh
      exact hp.1 (of_decide_eq_false (hI.symm.trans hh))
  have hI2 := hIe (Iff.refl _)
  have hT : b'= (if O = true then (if I = true then { b0 with taken := L8 } else { { b0 with taken := L8 } with forged := L9 }) else { b0 with missed := L10 }) := by
    rw [hbt, told]
    cases O with
    | false => simp [hL10]
    | true =>
      cases I with
      | true => simp [hL8, hI2.1 rfl]
      | false => simp [hL8, hL9, hI2.2 rfl]
  have HT := Lib.hid hT
  by_cases hi : b.ideal = true
  · have hb0b : b0 = b := by rw [hb0, if_pos hi]
    have hOI : O = I := by rw [hO, checkO, if_pos hi, hI, hy]
    subst hb0b
    subst hOI
    obtain ⟨a8, n8, c8, h8, -⟩ := h.at8.lit
    obtain ⟨a9, n9, c9, h9, -⟩ := h.at9.lit
    obtain ⟨a10, n10, c10, h10, -⟩ := h.at10.lit
    have H8 := Lib.hid h8
    have H9 := Lib.hid h9
    have H10 := Lib.hid h10
    have HV := Lib.hid h.start
    rw [hi] at H0
    clear hO hb' hkey h hro hs hm hg hl hI h7 hn7 hc7 hR7 hb0 hbt e7 e8 e9 e10 hL8 hM8 hL9 hM9 hL10 hM10 hbi hIe hI2 hT hi h8 h9 h10 hy
    cases O with
    | true =>
      go_enter Tryz.func10, Tryz.ntmps10
      go_upto_region 12 with ((first
        | ((with_reducible refine Hold.boxK HM.out (cs := v) rfl rfl rfl ?_); clear HM; intro bq w hn hb HM; simp only [List.nil_append] at HM; replace HM := Lib.hid HM; replace HV := Lib.hid (HV.out.allocA (t := 30) (z := v) hn hb); simp only [List.nil_append] at HV; clear hn hb)
        | ((with_reducible refine Hold.allocK HM.out rfl rfl zeroBk zero_bk ?_); clear HM; intro b9 w hn hb HM; simp only [List.nil_append, List.cons_append] at HM; replace HM := Lib.hid HM; replace HV := Lib.hid (HV.out.allocA (t := 30) (z := zeroBk) hn hb); simp only [List.cons_append, List.nil_append] at HV; clear hn hb)
        | ((with_reducible refine Hold.allocK HM.out rfl rfl zeroIs zero_is ?_); clear HM; intro b10 w hn hb HM; simp only [List.nil_append, List.cons_append] at HM; replace HM := Lib.hid HM; replace HV := Lib.hid (HV.out.allocA (t := 42) (z := zeroIs) hn hb); simp only [List.cons_append, List.nil_append] at HV; clear hn hb)
        | ((with_reducible refine Hold.storeK HM.out 2 (v' := isV who msg sig) rfl rfl rfl rfl rfl (is_fits _ _ _) (is_laid _ _ _) (is_one _ _ _) (isRow _ _ _) ?_); clear HM; intro w hbt HM; simp only [List.set_cons_zero, List.set_cons_succ] at HM; replace HM := Lib.hid HM; replace HV := Lib.hid (HV.out.storedA (i := 2) (z' := isV who msg sig) rfl hbt); simp only [List.set_cons_zero, List.set_cons_succ] at HV; clear hbt)
        | (with_reducible refine Hold.load1 HM.out 0 (c := .slice a7 n7 c7) rfl rfl rfl rfl H7.out cellI ?_)
        | (with_reducible refine Hold.load HM.out 2 (cs := isV who msg sig) rfl rfl rfl rfl (Hold.Part.all _) (isRow _ _ _) ?_)
        | ((with_reducible refine (R2.out _ HM.out.below).mono ?_); rintro e w ⟨rfl, hb⟩; replace HM := Lib.hid (HM.out.next hb); replace HV := Lib.hid (HV.out.below hb); clear hb)
        | (with_reducible refine Hold.load1 HM.out 0 (c := .bool true) rfl rfl rfl rfl H0.out cellBool ?_)
        | (with_reducible refine Hold.load1 HM.out 0 (c := .slice a8 n8 c8) rfl rfl rfl rfl H8.out cellI ?_)
        | ((with_reducible refine (R8.out n8 a8 c8 _ (got HV.out.at8 H8.out).1 (got HV.out.at8 H8.out).2.1 (got HV.out.at8 H8.out).2.2.1).mono ?_); rintro e w2 ⟨at8, ct8, rfl, hco, hR, hlow, hb⟩; replace HV := Lib.hid ((HV.out.below hb).set8 (lies_moreA HM.out (HSZ.out _ HM.out.below) (got HV.out.at8 H8.out).2.2.2 (R := IssR) hR HM8.out hco hlow)); replace HM := Lib.hid (HM.out.next hb); clear hR hco hlow hb)
        | ((with_reducible refine Hold.store1K HM.out 0 (c := .slice at8 M8 ct8) (v' := v.set 8 (.slice at8 M8 ct8)) rfl rfl rfl rfl rfl (by rw [HLEN.out]; decide) rfl (Hold.cell_sl _ _ _) cellI ?_); clear HM; intro w hbt HM; simp only [List.set_cons_zero, List.set_cons_succ] at HM; replace HM := Lib.hid HM; replace HV := Lib.hid (HV.out.storedA (i := 0) (z' := v.set 8 (.slice at8 M8 ct8)) rfl hbt); simp only [List.set_cons_zero, List.set_cons_succ] at HV; clear hbt)))
      refine Steady.region 2 (by kernel_rfl) (by kernel_rfl) (fun u => Below w.heap.size w u) (Below.refl _ _).drew ?_
      simp only [List.take_succ_cons, List.take_zero, List.drop_succ_cons, List.drop_zero]
      refine Steady.take (.agg (v.set 8 (.slice at8 M8 ct8)).toArray) rfl (fun u hu => Hold.load_run (HM.out.next hu) 0 rfl rfl rfl (Hold.Part.all _) (bkRowOf HV.out.len)) ?_
      simp only [Act.put, List.setIfInBounds_toArray, List.set_cons_zero, List.set_cons_succ]
      refine Steady.take ?_ rfl (by intro u hu; go_simp; with_reducible rfl) ?_
      simp only [Act.put, List.setIfInBounds_toArray, List.set_cons_zero, List.set_cons_succ]
      refine Steady.nil ?_
      intro w1 hb1
      replace HM := Lib.hid (HM.out.next hb1)
      replace HV := Lib.hid (HV.out.below hb1)
      clear hb1
      go_wp2_with ((first
        | ((with_reducible refine Hold.storeK HM.out 1 (v' := v.set 8 (.slice at8 M8 ct8)) rfl rfl rfl rfl rfl (bkFits HV.out.len zero_len) (bkLaid HV.out.len zero_len) HV.out.one (bkRowOf HV.out.len) ?_); clear HM; intro w hbt HM; simp only [List.set_cons_zero, List.set_cons_succ] at HM; replace HM := Lib.hid HM; replace HV := Lib.hid (HV.out.storedA (i := 1) (z' := v.set 8 (.slice at8 M8 ct8)) rfl hbt); simp only [List.set_cons_zero, List.set_cons_succ] at HV; clear hbt)))
      refine bodyPost_ret (Hold.resultsTC HM.out 1 rfl _ rfl rfl rfl (bkRowOf HV.out.len)) rfl ?_
      refine ⟨v.set 8 (.slice at8 M8 ct8), rfl, ?_, HM.out.below⟩
      rw [HT.out]
      exact HV.out.doneA
    | false =>
      go_enter Tryz.func10, Tryz.ntmps10
      go_upto_region 8 with ((first
        | ((with_reducible refine Hold.boxK HM.out (cs := v) rfl rfl rfl ?_); clear HM; intro bq w hn hb HM; simp only [List.nil_append] at HM; replace HM := Lib.hid HM; replace HV := Lib.hid (HV.out.allocA (t := 30) (z := v) hn hb); simp only [List.nil_append] at HV; clear hn hb)
        | ((with_reducible refine Hold.allocK HM.out rfl rfl zeroBk zero_bk ?_); clear HM; intro b9 w hn hb HM; simp only [List.nil_append, List.cons_append] at HM; replace HM := Lib.hid HM; replace HV := Lib.hid (HV.out.allocA (t := 30) (z := zeroBk) hn hb); simp only [List.cons_append, List.nil_append] at HV; clear hn hb)
        | ((with_reducible refine Hold.allocK HM.out rfl rfl zeroIs zero_is ?_); clear HM; intro b10 w hn hb HM; simp only [List.nil_append, List.cons_append] at HM; replace HM := Lib.hid HM; replace HV := Lib.hid (HV.out.allocA (t := 42) (z := zeroIs) hn hb); simp only [List.cons_append, List.nil_append] at HV; clear hn hb)
        | ((with_reducible refine Hold.storeK HM.out 2 (v' := isV who msg sig) rfl rfl rfl rfl rfl (is_fits _ _ _) (is_laid _ _ _) (is_one _ _ _) (isRow _ _ _) ?_); clear HM; intro w hbt HM; simp only [List.set_cons_zero, List.set_cons_succ] at HM; replace HM := Lib.hid HM; replace HV := Lib.hid (HV.out.storedA (i := 2) (z' := isV who msg sig) rfl hbt); simp only [List.set_cons_zero, List.set_cons_succ] at HV; clear hbt)
        | (with_reducible refine Hold.load1 HM.out 0 (c := .slice a7 n7 c7) rfl rfl rfl rfl H7.out cellI ?_)
        | (with_reducible refine Hold.load HM.out 2 (cs := isV who msg sig) rfl rfl rfl rfl (Hold.Part.all _) (isRow _ _ _) ?_)
        | ((with_reducible refine (R2.out _ HM.out.below).mono ?_); rintro e w ⟨rfl, hb⟩; replace HM := Lib.hid (HM.out.next hb); replace HV := Lib.hid (HV.out.below hb); clear hb)
        | (with_reducible refine Hold.load1 HM.out 0 (c := .bool true) rfl rfl rfl rfl H0.out cellBool ?_)
        | (with_reducible refine Hold.load1 HM.out 0 (c := .slice a10 n10 c10) rfl rfl rfl rfl H10.out cellI ?_)
        | ((with_reducible refine (R10.out n10 a10 c10 _ (got HV.out.at10 H10.out).1 (got HV.out.at10 H10.out).2.1 (got HV.out.at10 H10.out).2.2.1).mono ?_); rintro e w2 ⟨am, cm, rfl, hco, hR, hlow, hb⟩; replace HV := Lib.hid ((HV.out.below hb).set10 (lies_moreA HM.out (HSZ.out _ HM.out.below) (got HV.out.at10 H10.out).2.2.2 (R := IssR) hR HM10.out hco hlow)); replace HM := Lib.hid (HM.out.next hb); clear hR hco hlow hb)
        | ((with_reducible refine Hold.store1K HM.out 0 (c := .slice am M10 cm) (v' := v.set 10 (.slice am M10 cm)) rfl rfl rfl rfl rfl (by rw [HLEN.out]; decide) rfl (Hold.cell_sl _ _ _) cellI ?_); clear HM; intro w hbt HM; simp only [List.set_cons_zero, List.set_cons_succ] at HM; replace HM := Lib.hid HM; replace HV := Lib.hid (HV.out.storedA (i := 0) (z' := v.set 10 (.slice am M10 cm)) rfl hbt); simp only [List.set_cons_zero, List.set_cons_succ] at HV; clear hbt)))
      refine Steady.region 2 (by kernel_rfl) (by kernel_rfl) (fun u => Below w.heap.size w u) (Below.refl _ _).drew ?_
      simp only [List.take_succ_cons, List.take_zero, List.drop_succ_cons, List.drop_zero]
      refine Steady.take (.agg (v.set 10 (.slice am M10 cm)).toArray) rfl (fun u hu => Hold.load_run (HM.out.next hu) 0 rfl rfl rfl (Hold.Part.all _) (bkRowOf HV.out.len)) ?_
      simp only [Act.put, List.setIfInBounds_toArray, List.set_cons_zero, List.set_cons_succ]
      refine Steady.take ?_ rfl (by intro u hu; go_simp; with_reducible rfl) ?_
      simp only [Act.put, List.setIfInBounds_toArray, List.set_cons_zero, List.set_cons_succ]
      refine Steady.nil ?_
      intro w1 hb1
      replace HM := Lib.hid (HM.out.next hb1)
      replace HV := Lib.hid (HV.out.below hb1)
      clear hb1
      go_wp2_with ((first
        | ((with_reducible refine Hold.storeK HM.out 1 (v' := v.set 10 (.slice am M10 cm)) rfl rfl rfl rfl rfl (bkFits HV.out.len zero_len) (bkLaid HV.out.len zero_len) HV.out.one (bkRowOf HV.out.len) ?_); clear HM; intro w hbt HM; simp only [List.set_cons_zero, List.set_cons_succ] at HM; replace HM := Lib.hid HM; replace HV := Lib.hid (HV.out.storedA (i := 1) (z' := v.set 10 (.slice am M10 cm)) rfl hbt); simp only [List.set_cons_zero, List.set_cons_succ] at HV; clear hbt)))
      refine bodyPost_ret (Hold.resultsTC HM.out 1 rfl _ rfl rfl rfl (bkRowOf HV.out.len)) rfl ?_
      refine ⟨v.set 10 (.slice am M10 cm), rfl, ?_, HM.out.below⟩
      rw [HT.out]
      exact HV.out.doneA
  · have hif : b.ideal = false := by simpa using hi
    have hbp : b0 = publicB b who.data.toList := by rw [hb0, if_neg hi]
    have hO2 : O = Stp.check 2 1 (publicS b who.data.toList) msg.data.toList sig.data.toList := by rw [hO, checkO, if_neg hi]
    have R5 := Lib.hid (fun B u (hu : Below w0.heap.size w0 u) (hb : BkR u b v B) => holds_any B b b0 v who msg sig O u hO2 hbp hif hkey hb hro hs hm hg (hl.below hu))
    have HV := Lib.hid h.start
    rw [hif] at H0
    clear hO hb' hkey h hro hs hm hg hl hI h7 hn7 hc7 hR7 hb0 hbt e7 e8 e9 e10 hL8 hM8 hL9 hM9 hL10 hM10 hbi hIe hI2 hT hi hif hbp hO2 hy
    cases O with
    | true =>
      cases I with
      | true =>
        go_enter Tryz.func10, Tryz.ntmps10
        go_upto_region 12 with ((first
          | ((with_reducible refine Hold.boxK HM.out (cs := v) rfl rfl rfl ?_); clear HM; intro bq w hn hb HM; simp only [List.nil_append] at HM; replace HM := Lib.hid HM; replace HV := Lib.hid (HV.out.allocA (t := 30) (z := v) hn hb); simp only [List.nil_append] at HV; clear hn hb)
          | ((with_reducible refine Hold.allocK HM.out rfl rfl zeroBk zero_bk ?_); clear HM; intro b9 w hn hb HM; simp only [List.nil_append, List.cons_append] at HM; replace HM := Lib.hid HM; replace HV := Lib.hid (HV.out.allocA (t := 30) (z := zeroBk) hn hb); simp only [List.cons_append, List.nil_append] at HV; clear hn hb)
          | ((with_reducible refine Hold.allocK HM.out rfl rfl zeroIs zero_is ?_); clear HM; intro b10 w hn hb HM; simp only [List.nil_append, List.cons_append] at HM; replace HM := Lib.hid HM; replace HV := Lib.hid (HV.out.allocA (t := 42) (z := zeroIs) hn hb); simp only [List.cons_append, List.nil_append] at HV; clear hn hb)
          | ((with_reducible refine Hold.storeK HM.out 2 (v' := isV who msg sig) rfl rfl rfl rfl rfl (is_fits _ _ _) (is_laid _ _ _) (is_one _ _ _) (isRow _ _ _) ?_); clear HM; intro w hbt HM; simp only [List.set_cons_zero, List.set_cons_succ] at HM; replace HM := Lib.hid HM; replace HV := Lib.hid (HV.out.storedA (i := 2) (z' := isV who msg sig) rfl hbt); simp only [List.set_cons_zero, List.set_cons_succ] at HV; clear hbt)
          | (with_reducible refine Hold.load1 HM.out 0 (c := .slice a7 n7 c7) rfl rfl rfl rfl H7.out cellI ?_)
          | (with_reducible refine Hold.load HM.out 2 (cs := isV who msg sig) rfl rfl rfl rfl (Hold.Part.all _) (isRow _ _ _) ?_)
          | ((with_reducible refine (R2.out _ HM.out.below).mono ?_); rintro e w ⟨rfl, hb⟩; replace HM := Lib.hid (HM.out.next hb); replace HV := Lib.hid (HV.out.below hb); clear hb)
          | (with_reducible refine Hold.load1 HM.out 0 (c := .bool false) rfl rfl rfl rfl H0.out cellBool ?_)
          | (with_reducible refine Hold.load HM.out 0 (cs := v) rfl rfl rfl rfl (Hold.Part.all _) (bkRowOf HLEN.out) ?_)
          | ((with_reducible refine (R5.out _ _ HM.out.below HV.out).mono ?_); rintro e w ⟨v1, rfl, hv, hb⟩; obtain ⟨a8, n8, c8, h8, -⟩ := hv.at8.lit; obtain ⟨a9, n9, c9, h9, -⟩ := hv.at9.lit; obtain ⟨a10, n10, c10, h10, -⟩ := hv.at10.lit; have H8 := Lib.hid h8; have H9 := Lib.hid h9; have H10 := Lib.hid h10; have HL1 := Lib.hid hv.len; replace HV := Lib.hid (hv.answeredA HM.out (HSZ.out _ HM.out.below)); replace HM := Lib.hid (HM.out.next hb); clear hv hb h8 h9 h10)
          | ((with_reducible refine Hold.storeK HM.out 0 (v' := v1) rfl rfl rfl rfl rfl (bkFits HV.out.len HLEN.out) (bkLaid HV.out.len HLEN.out) HV.out.one (bkRowOf HV.out.len) ?_); clear HM; intro w hbt HM; simp only [List.set_cons_zero, List.set_cons_succ] at HM; replace HM := Lib.hid HM; replace HV := Lib.hid (HV.out.storedA (i := 0) (z' := v1) rfl hbt); simp only [List.set_cons_zero, List.set_cons_succ] at HV; clear hbt)
          | (with_reducible refine Hold.load1 HM.out 0 (c := .slice a8 n8 c8) rfl rfl rfl rfl H8.out cellI ?_)
          | ((with_reducible refine (R8.out n8 a8 c8 _ (got HV.out.at8 H8.out).1 (got HV.out.at8 H8.out).2.1 (got HV.out.at8 H8.out).2.2.1).mono ?_); rintro e w2 ⟨at8, ct8, rfl, hco, hR, hlow, hb⟩; replace HV := Lib.hid ((HV.out.below hb).set8 (lies_moreA HM.out (HSZ.out _ HM.out.below) (got HV.out.at8 H8.out).2.2.2 (R := IssR) hR HM8.out hco hlow)); replace HM := Lib.hid (HM.out.next hb); clear hR hco hlow hb)
          | ((with_reducible refine Hold.store1K HM.out 0 (c := .slice at8 M8 ct8) (v' := v1.set 8 (.slice at8 M8 ct8)) rfl rfl rfl rfl rfl (by rw [HL1.out]; decide) rfl (Hold.cell_sl _ _ _) cellI ?_); clear HM; intro w hbt HM; simp only [List.set_cons_zero, List.set_cons_succ] at HM; replace HM := Lib.hid HM; replace HV := Lib.hid (HV.out.storedA (i := 0) (z' := v1.set 8 (.slice at8 M8 ct8)) rfl hbt); simp only [List.set_cons_zero, List.set_cons_succ] at HV; clear hbt)))
        refine Steady.region 2 (by kernel_rfl) (by kernel_rfl) (fun u => Below w.heap.size w u) (Below.refl _ _).drew ?_
        simp only [List.take_succ_cons, List.take_zero, List.drop_succ_cons, List.drop_zero]
        refine Steady.take (.agg (v1.set 8 (.slice at8 M8 ct8)).toArray) rfl (fun u hu => Hold.load_run (HM.out.next hu) 0 rfl rfl rfl (Hold.Part.all _) (bkRowOf HV.out.len)) ?_
        simp only [Act.put, List.setIfInBounds_toArray, List.set_cons_zero, List.set_cons_succ]
        refine Steady.take ?_ rfl (by intro u hu; go_simp; with_reducible rfl) ?_
        simp only [Act.put, List.setIfInBounds_toArray, List.set_cons_zero, List.set_cons_succ]
        refine Steady.nil ?_
        intro w1 hb1
        replace HM := Lib.hid (HM.out.next hb1)
        replace HV := Lib.hid (HV.out.below hb1)
        clear hb1
        go_wp2_with ((first
          | ((with_reducible refine Hold.storeK HM.out 1 (v' := v1.set 8 (.slice at8 M8 ct8)) rfl rfl rfl rfl rfl (bkFits HV.out.len zero_len) (bkLaid HV.out.len zero_len) HV.out.one (bkRowOf HV.out.len) ?_); clear HM; intro w hbt HM; simp only [List.set_cons_zero, List.set_cons_succ] at HM; replace HM := Lib.hid HM; replace HV := Lib.hid (HV.out.storedA (i := 1) (z' := v1.set 8 (.slice at8 M8 ct8)) rfl hbt); simp only [List.set_cons_zero, List.set_cons_succ] at HV; clear hbt)))
        refine bodyPost_ret (Hold.resultsTC HM.out 1 rfl _ rfl rfl rfl (bkRowOf HV.out.len)) rfl ?_
        refine ⟨v1.set 8 (.slice at8 M8 ct8), rfl, ?_, HM.out.below⟩
        rw [HT.out]
        exact HV.out.doneA
      | false =>
        go_enter Tryz.func10, Tryz.ntmps10
        go_upto_region 12 with ((first
          | ((with_reducible refine Hold.boxK HM.out (cs := v) rfl rfl rfl ?_); clear HM; intro bq w hn hb HM; simp only [List.nil_append] at HM; replace HM := Lib.hid HM; replace HV := Lib.hid (HV.out.allocA (t := 30) (z := v) hn hb); simp only [List.nil_append] at HV; clear hn hb)
          | ((with_reducible refine Hold.allocK HM.out rfl rfl zeroBk zero_bk ?_); clear HM; intro b9 w hn hb HM; simp only [List.nil_append, List.cons_append] at HM; replace HM := Lib.hid HM; replace HV := Lib.hid (HV.out.allocA (t := 30) (z := zeroBk) hn hb); simp only [List.cons_append, List.nil_append] at HV; clear hn hb)
          | ((with_reducible refine Hold.allocK HM.out rfl rfl zeroIs zero_is ?_); clear HM; intro b10 w hn hb HM; simp only [List.nil_append, List.cons_append] at HM; replace HM := Lib.hid HM; replace HV := Lib.hid (HV.out.allocA (t := 42) (z := zeroIs) hn hb); simp only [List.cons_append, List.nil_append] at HV; clear hn hb)
          | ((with_reducible refine Hold.storeK HM.out 2 (v' := isV who msg sig) rfl rfl rfl rfl rfl (is_fits _ _ _) (is_laid _ _ _) (is_one _ _ _) (isRow _ _ _) ?_); clear HM; intro w hbt HM; simp only [List.set_cons_zero, List.set_cons_succ] at HM; replace HM := Lib.hid HM; replace HV := Lib.hid (HV.out.storedA (i := 2) (z' := isV who msg sig) rfl hbt); simp only [List.set_cons_zero, List.set_cons_succ] at HV; clear hbt)
          | (with_reducible refine Hold.load1 HM.out 0 (c := .slice a7 n7 c7) rfl rfl rfl rfl H7.out cellI ?_)
          | (with_reducible refine Hold.load HM.out 2 (cs := isV who msg sig) rfl rfl rfl rfl (Hold.Part.all _) (isRow _ _ _) ?_)
          | ((with_reducible refine (R2.out _ HM.out.below).mono ?_); rintro e w ⟨rfl, hb⟩; replace HM := Lib.hid (HM.out.next hb); replace HV := Lib.hid (HV.out.below hb); clear hb)
          | (with_reducible refine Hold.load1 HM.out 0 (c := .bool false) rfl rfl rfl rfl H0.out cellBool ?_)
          | (with_reducible refine Hold.load HM.out 0 (cs := v) rfl rfl rfl rfl (Hold.Part.all _) (bkRowOf HLEN.out) ?_)
          | ((with_reducible refine (R5.out _ _ HM.out.below HV.out).mono ?_); rintro e w ⟨v1, rfl, hv, hb⟩; obtain ⟨a8, n8, c8, h8, -⟩ := hv.at8.lit; obtain ⟨a9, n9, c9, h9, -⟩ := hv.at9.lit; obtain ⟨a10, n10, c10, h10, -⟩ := hv.at10.lit; have H8 := Lib.hid h8; have H9 := Lib.hid h9; have H10 := Lib.hid h10; have HL1 := Lib.hid hv.len; replace HV := Lib.hid (hv.answeredA HM.out (HSZ.out _ HM.out.below)); replace HM := Lib.hid (HM.out.next hb); clear hv hb h8 h9 h10)
          | ((with_reducible refine Hold.storeK HM.out 0 (v' := v1) rfl rfl rfl rfl rfl (bkFits HV.out.len HLEN.out) (bkLaid HV.out.len HLEN.out) HV.out.one (bkRowOf HV.out.len) ?_); clear HM; intro w hbt HM; simp only [List.set_cons_zero, List.set_cons_succ] at HM; replace HM := Lib.hid HM; replace HV := Lib.hid (HV.out.storedA (i := 0) (z' := v1) rfl hbt); simp only [List.set_cons_zero, List.set_cons_succ] at HV; clear hbt)
          | (with_reducible refine Hold.load1 HM.out 0 (c := .slice a8 n8 c8) rfl rfl rfl rfl H8.out cellI ?_)
          | ((with_reducible refine (R8.out n8 a8 c8 _ (got HV.out.at8 H8.out).1 (got HV.out.at8 H8.out).2.1 (got HV.out.at8 H8.out).2.2.1).mono ?_); rintro e w2 ⟨at8, ct8, rfl, hco, hR, hlow, hb⟩; replace HV := Lib.hid ((HV.out.below hb).set8 (lies_moreA HM.out (HSZ.out _ HM.out.below) (got HV.out.at8 H8.out).2.2.2 (R := IssR) hR HM8.out hco hlow)); replace HM := Lib.hid (HM.out.next hb); clear hR hco hlow hb)
          | ((with_reducible refine Hold.store1K HM.out 0 (c := .slice at8 M8 ct8) (v' := v1.set 8 (.slice at8 M8 ct8)) rfl rfl rfl rfl rfl (by rw [HL1.out]; decide) rfl (Hold.cell_sl _ _ _) cellI ?_); clear HM; intro w hbt HM; simp only [List.set_cons_zero, List.set_cons_succ] at HM; replace HM := Lib.hid HM; replace HV := Lib.hid (HV.out.storedA (i := 0) (z' := v1.set 8 (.slice at8 M8 ct8)) rfl hbt); simp only [List.set_cons_zero, List.set_cons_succ] at HV; clear hbt)
          | (with_reducible refine Hold.load1 HM.out 0 (c := .slice a9 n9 c9) rfl rfl rfl rfl ((at_ne _ _ _ (by decide) _).trans H9.out) cellI ?_)
          | ((with_reducible refine (R9.out n9 a9 c9 _ (got HV.out.at9 ((at_ne _ _ _ (by decide) _).trans H9.out)).1 (got HV.out.at9 ((at_ne _ _ _ (by decide) _).trans H9.out)).2.1 (got HV.out.at9 ((at_ne _ _ _ (by decide) _).trans H9.out)).2.2.1).mono ?_); rintro e w2 ⟨af, cf, rfl, hco, hR, hlow, hb⟩; replace HV := Lib.hid ((HV.out.below hb).set9 (lies_moreA HM.out (HSZ.out _ HM.out.below) (got HV.out.at9 ((at_ne _ _ _ (by decide) _).trans H9.out)).2.2.2 (R := IssR) hR HM9.out hco hlow)); replace HM := Lib.hid (HM.out.next hb); clear hR hco hlow hb)
          | ((with_reducible refine Hold.store1K HM.out 0 (c := .slice af M9 cf) (v' := (v1.set 8 (.slice at8 M8 ct8)).set 9 (.slice af M9 cf)) rfl rfl rfl rfl rfl (by rw [List.length_set, HL1.out]; decide) rfl (Hold.cell_sl _ _ _) cellI ?_); clear HM; intro w hbt HM; simp only [List.set_cons_zero, List.set_cons_succ] at HM; replace HM := Lib.hid HM; replace HV := Lib.hid (HV.out.storedA (i := 0) (z' := (v1.set 8 (.slice at8 M8 ct8)).set 9 (.slice af M9 cf)) rfl hbt); simp only [List.set_cons_zero, List.set_cons_succ] at HV; clear hbt)))
        refine Steady.region 2 (by kernel_rfl) (by kernel_rfl) (fun u => Below w.heap.size w u) (Below.refl _ _).drew ?_
        simp only [List.take_succ_cons, List.take_zero, List.drop_succ_cons, List.drop_zero]
        refine Steady.take (.agg ((v1.set 8 (.slice at8 M8 ct8)).set 9 (.slice af M9 cf)).toArray) rfl (fun u hu => Hold.load_run (HM.out.next hu) 0 rfl rfl rfl (Hold.Part.all _) (bkRowOf HV.out.len)) ?_
        simp only [Act.put, List.setIfInBounds_toArray, List.set_cons_zero, List.set_cons_succ]
        refine Steady.take ?_ rfl (by intro u hu; go_simp; with_reducible rfl) ?_
        simp only [Act.put, List.setIfInBounds_toArray, List.set_cons_zero, List.set_cons_succ]
        refine Steady.nil ?_
        intro w1 hb1
        replace HM := Lib.hid (HM.out.next hb1)
        replace HV := Lib.hid (HV.out.below hb1)
        clear hb1
        go_wp2_with ((first
          | ((with_reducible refine Hold.storeK HM.out 1 (v' := (v1.set 8 (.slice at8 M8 ct8)).set 9 (.slice af M9 cf)) rfl rfl rfl rfl rfl (bkFits HV.out.len zero_len) (bkLaid HV.out.len zero_len) HV.out.one (bkRowOf HV.out.len) ?_); clear HM; intro w hbt HM; simp only [List.set_cons_zero, List.set_cons_succ] at HM; replace HM := Lib.hid HM; replace HV := Lib.hid (HV.out.storedA (i := 1) (z' := (v1.set 8 (.slice at8 M8 ct8)).set 9 (.slice af M9 cf)) rfl hbt); simp only [List.set_cons_zero, List.set_cons_succ] at HV; clear hbt)))
        refine bodyPost_ret (Hold.resultsTC HM.out 1 rfl _ rfl rfl rfl (bkRowOf HV.out.len)) rfl ?_
        refine ⟨(v1.set 8 (.slice at8 M8 ct8)).set 9 (.slice af M9 cf), rfl, ?_, HM.out.below⟩
        rw [HT.out]
        exact HV.out.doneA
    | false =>
      go_enter Tryz.func10, Tryz.ntmps10
      go_upto_region 8 with ((first
        | ((with_reducible refine Hold.boxK HM.out (cs := v) rfl rfl rfl ?_); clear HM; intro bq w hn hb HM; simp only [List.nil_append] at HM; replace HM := Lib.hid HM; replace HV := Lib.hid (HV.out.allocA (t := 30) (z := v) hn hb); simp only [List.nil_append] at HV; clear hn hb)
        | ((with_reducible refine Hold.allocK HM.out rfl rfl zeroBk zero_bk ?_); clear HM; intro b9 w hn hb HM; simp only [List.nil_append, List.cons_append] at HM; replace HM := Lib.hid HM; replace HV := Lib.hid (HV.out.allocA (t := 30) (z := zeroBk) hn hb); simp only [List.cons_append, List.nil_append] at HV; clear hn hb)
        | ((with_reducible refine Hold.allocK HM.out rfl rfl zeroIs zero_is ?_); clear HM; intro b10 w hn hb HM; simp only [List.nil_append, List.cons_append] at HM; replace HM := Lib.hid HM; replace HV := Lib.hid (HV.out.allocA (t := 42) (z := zeroIs) hn hb); simp only [List.cons_append, List.nil_append] at HV; clear hn hb)
        | ((with_reducible refine Hold.storeK HM.out 2 (v' := isV who msg sig) rfl rfl rfl rfl rfl (is_fits _ _ _) (is_laid _ _ _) (is_one _ _ _) (isRow _ _ _) ?_); clear HM; intro w hbt HM; simp only [List.set_cons_zero, List.set_cons_succ] at HM; replace HM := Lib.hid HM; replace HV := Lib.hid (HV.out.storedA (i := 2) (z' := isV who msg sig) rfl hbt); simp only [List.set_cons_zero, List.set_cons_succ] at HV; clear hbt)
        | (with_reducible refine Hold.load1 HM.out 0 (c := .slice a7 n7 c7) rfl rfl rfl rfl H7.out cellI ?_)
        | (with_reducible refine Hold.load HM.out 2 (cs := isV who msg sig) rfl rfl rfl rfl (Hold.Part.all _) (isRow _ _ _) ?_)
        | ((with_reducible refine (R2.out _ HM.out.below).mono ?_); rintro e w ⟨rfl, hb⟩; replace HM := Lib.hid (HM.out.next hb); replace HV := Lib.hid (HV.out.below hb); clear hb)
        | (with_reducible refine Hold.load1 HM.out 0 (c := .bool false) rfl rfl rfl rfl H0.out cellBool ?_)
        | (with_reducible refine Hold.load HM.out 0 (cs := v) rfl rfl rfl rfl (Hold.Part.all _) (bkRowOf HLEN.out) ?_)
        | ((with_reducible refine (R5.out _ _ HM.out.below HV.out).mono ?_); rintro e w ⟨v1, rfl, hv, hb⟩; obtain ⟨a8, n8, c8, h8, -⟩ := hv.at8.lit; obtain ⟨a9, n9, c9, h9, -⟩ := hv.at9.lit; obtain ⟨a10, n10, c10, h10, -⟩ := hv.at10.lit; have H8 := Lib.hid h8; have H9 := Lib.hid h9; have H10 := Lib.hid h10; have HL1 := Lib.hid hv.len; replace HV := Lib.hid (hv.answeredA HM.out (HSZ.out _ HM.out.below)); replace HM := Lib.hid (HM.out.next hb); clear hv hb h8 h9 h10)
        | ((with_reducible refine Hold.storeK HM.out 0 (v' := v1) rfl rfl rfl rfl rfl (bkFits HV.out.len HLEN.out) (bkLaid HV.out.len HLEN.out) HV.out.one (bkRowOf HV.out.len) ?_); clear HM; intro w hbt HM; simp only [List.set_cons_zero, List.set_cons_succ] at HM; replace HM := Lib.hid HM; replace HV := Lib.hid (HV.out.storedA (i := 0) (z' := v1) rfl hbt); simp only [List.set_cons_zero, List.set_cons_succ] at HV; clear hbt)
        | (with_reducible refine Hold.load1 HM.out 0 (c := .slice a10 n10 c10) rfl rfl rfl rfl H10.out cellI ?_)
        | ((with_reducible refine (R10.out n10 a10 c10 _ (got HV.out.at10 H10.out).1 (got HV.out.at10 H10.out).2.1 (got HV.out.at10 H10.out).2.2.1).mono ?_); rintro e w2 ⟨am, cm, rfl, hco, hR, hlow, hb⟩; replace HV := Lib.hid ((HV.out.below hb).set10 (lies_moreA HM.out (HSZ.out _ HM.out.below) (got HV.out.at10 H10.out).2.2.2 (R := IssR) hR HM10.out hco hlow)); replace HM := Lib.hid (HM.out.next hb); clear hR hco hlow hb)
        | ((with_reducible refine Hold.store1K HM.out 0 (c := .slice am M10 cm) (v' := v1.set 10 (.slice am M10 cm)) rfl rfl rfl rfl rfl (by rw [HL1.out]; decide) rfl (Hold.cell_sl _ _ _) cellI ?_); clear HM; intro w hbt HM; simp only [List.set_cons_zero, List.set_cons_succ] at HM; replace HM := Lib.hid HM; replace HV := Lib.hid (HV.out.storedA (i := 0) (z' := v1.set 10 (.slice am M10 cm)) rfl hbt); simp only [List.set_cons_zero, List.set_cons_succ] at HV; clear hbt)))
      refine Steady.region 2 (by kernel_rfl) (by kernel_rfl) (fun u => Below w.heap.size w u) (Below.refl _ _).drew ?_
      simp only [List.take_succ_cons, List.take_zero, List.drop_succ_cons, List.drop_zero]
      refine Steady.take (.agg (v1.set 10 (.slice am M10 cm)).toArray) rfl (fun u hu => Hold.load_run (HM.out.next hu) 0 rfl rfl rfl (Hold.Part.all _) (bkRowOf HV.out.len)) ?_
      simp only [Act.put, List.setIfInBounds_toArray, List.set_cons_zero, List.set_cons_succ]
      refine Steady.take ?_ rfl (by intro u hu; go_simp; with_reducible rfl) ?_
      simp only [Act.put, List.setIfInBounds_toArray, List.set_cons_zero, List.set_cons_succ]
      refine Steady.nil ?_
      intro w1 hb1
      replace HM := Lib.hid (HM.out.next hb1)
      replace HV := Lib.hid (HV.out.below hb1)
      clear hb1
      go_wp2_with ((first
        | ((with_reducible refine Hold.storeK HM.out 1 (v' := v1.set 10 (.slice am M10 cm)) rfl rfl rfl rfl rfl (bkFits HV.out.len zero_len) (bkLaid HV.out.len zero_len) HV.out.one (bkRowOf HV.out.len) ?_); clear HM; intro w hbt HM; simp only [List.set_cons_zero, List.set_cons_succ] at HM; replace HM := Lib.hid HM; replace HV := Lib.hid (HV.out.storedA (i := 1) (z' := v1.set 10 (.slice am M10 cm)) rfl hbt); simp only [List.set_cons_zero, List.set_cons_succ] at HV; clear hbt)))
      refine bodyPost_ret (Hold.resultsTC HM.out 1 rfl _ rfl rfl rfl (bkRowOf HV.out.len)) rfl ?_
      refine ⟨v1.set 10 (.slice am M10 cm), rfl, ?_, HM.out.below⟩
      rw [HT.out]
      exact HV.out.doneA
end Go.Proofs.YtdhipdoaefdfeaaGreatDoor.Bkb
