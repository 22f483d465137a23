/-
  What the landed Read of package frame of layer 18 reads of a slot is what the plain mathematics of the text Frm says; all memory that was there is left as it was. Conditions: a text of no more than 10000 bytes, numbers of 64 bits, the listed tables.
-/
import Derived.Test.YtedgpglldlohfaaDoorFrld
namespace Go.Proofs.YtedgpglldlohfaaDoor.Frl
open Go.RowKit Mur Lanes Prt Tap Cel Frm
set_option maxRecDepth 100000
set_option linter.unusedSimpArgs false

theorem prefix_one (t : List UInt8) (h : t ≠ []) : Lib.hasPrefix t [1] = decide (byte t 0 = 1) := by
  cases t with
  | nil => exact absurd rfl h
  | cons a r =>
    unfold Lib.hasPrefix byte
    show (((1 : UInt8) == a) && [].isPrefixOf r) = decide (a.toNat = 1)
    simp only [List.isPrefixOf, Bool.and_true]
    by_cases e : a = 1
    · rw [e]; rfl
    · have h1 : ¬ a.toNat = 1 := fun h => e (UInt8.toNat_inj.1 (by rw [h]; rfl))
      rw [decide_eq_false h1]
      simpa using fun h => e h.symm

set_option maxHeartbeats 25600000 in
theorem read_any (t : ByteArray) (c g : Int) (Y : SayB) (E : Int) (w : World) (hY : Y = ofSay (readX t.data.toList c g)) (hE : E = readE t.data.toList c g) (_ : t.size ≤ 10000) (hc : InR c) (hs : InR g) (hl : Laid w) :
    Calls Tryd.prog 25 #[.string t, .int .i64 c, .int .i64 g] w fun z w' => z = .returned (.tuple #[.agg (sayV Y).toArray, .int .i64 E]) ∧ Below w.heap.size w w' := by
  obtain ⟨w0, hw0⟩ : ∃ w0, w0 = w := ⟨w, rfl⟩
  subst hw0
  obtain ⟨G, hG⟩ : ∃ G, G = Frm.long c g := ⟨_, rfl⟩
  have RL := Lib.hid (fun u => show Calls Tryd.prog 9 #[.int .i64 c, .int .i64 g] u fun z w' => z = .returned (.int .i64 G) ∧ Below u.heap.size u w' from by rw [hG]; exact long_any c g u hc hs)
  have HM := Lib.hid (Hold.Hld.start w0)
  have HL := Lib.hid hl
  have HE := Lib.hid hE
  clear hE hl
  have hbad : ∀ e, readE t.data.toList c g = e → e ≠ 0 → Y = zeroX := fun e h1 h2 => by rw [hY, none_is _ _ _ (by rw [h1]; exact h2), nothing_is]
  by_cases A0 : G = 0
  · have d0 : ((G : Int) == 0) = true := by rw [A0]; rfl
    have h1 : readE t.data.toList c g = 1 := by unfold readE; rw [← hG, if_pos A0]
    obtain rfl : E = 1 := by rw [HE.out, h1]
    obtain rfl := hbad 1 h1 (by decide)
    clear hY HE hbad h1 hG hc hs
    go_enter Tryd.func25, Tryd.ntmps25
    go_wp2_with ((first
      | ((with_reducible refine Hold.alloc HM.out rfl rfl zeroS zero_said ?_); clear HM; intro b6 w HM; simp only [List.nil_append, List.cons_append] at HM; replace HM := Lib.hid HM)
      | ((with_reducible refine (RL.out _).mono ?_); rintro e w ⟨rfl, hb⟩; replace HM := Lib.hid (HM.out.next hb); clear hb)
      | ((with_reducible refine (RP.out _).mono ?_); rintro e w ⟨rfl, hb⟩; replace HM := Lib.hid (HM.out.next hb); clear hb)
      | ((refine Hold.build (t := 44) (parts := #[]) (cs := sayV zeroX) rfl rfl ?_ ?_); focus (exact built_none))
      | ((with_reducible refine Hold.store HM.out 0 (v' := sayV zeroX) rfl rfl rfl rfl rfl (say_fits zeroX zeroX) (say_laid zeroX zeroX) (say_one zeroX) (sayRow zeroX) ?_); clear HM; intro w HM; simp only [List.set_cons_zero, List.set_cons_succ] at HM; replace HM := Lib.hid HM)))
    refine bodyPost_ret (Hold.resultsCT HM.out 0 rfl _ rfl rfl rfl (sayRow zeroX)) rfl ?_
    exact ⟨rfl, HM.out.below⟩
  have d0 : ((G : Int) == 0) = false := by simpa using A0
  have htl : t.data.toList.length = t.size := rfl
  have hGp : 0 < G ∧ G ≤ 3000 := by
    obtain ⟨c1, c2, s1, s2⟩ := long_out c g (by rw [← hG]; exact A0)
    rw [hG, long_in c g c1 c2 s1 s2]
    omega
  by_cases A1 : (t.size : Int) = G
  case neg =>
    have d1 : ((t.size : Int) != G) = true := by simpa using A1
    have h1 : readE t.data.toList c g = 3 := by unfold readE; rw [← hG, if_neg A0, if_pos (Or.inl (by rw [htl]; exact A1))]
    obtain rfl : E = 3 := by rw [HE.out, h1]
    obtain rfl := hbad 3 h1 (by decide)
    clear hY HE hbad h1 hG hc hs
    go_enter Tryd.func25, Tryd.ntmps25
    go_wp2_with ((first
      | ((with_reducible refine Hold.alloc HM.out rfl rfl zeroS zero_said ?_); clear HM; intro b6 w HM; simp only [List.nil_append, List.cons_append] at HM; replace HM := Lib.hid HM)
      | ((with_reducible refine (RL.out _).mono ?_); rintro e w ⟨rfl, hb⟩; replace HM := Lib.hid (HM.out.next hb); clear hb)
      | ((with_reducible refine (RP.out _).mono ?_); rintro e w ⟨rfl, hb⟩; replace HM := Lib.hid (HM.out.next hb); clear hb)
      | ((refine Hold.build (t := 44) (parts := #[]) (cs := sayV zeroX) rfl rfl ?_ ?_); focus (exact built_none))
      | ((with_reducible refine Hold.store HM.out 0 (v' := sayV zeroX) rfl rfl rfl rfl rfl (say_fits zeroX zeroX) (say_laid zeroX zeroX) (say_one zeroX) (sayRow zeroX) ?_); clear HM; intro w HM; simp only [List.set_cons_zero, List.set_cons_succ] at HM; replace HM := Lib.hid HM)))
    refine bodyPost_ret (Hold.resultsCT HM.out 0 rfl _ rfl rfl rfl (sayRow zeroX)) rfl ?_
    exact ⟨rfl, HM.out.below⟩
  have d1 : ((t.size : Int) != G) = false := by simpa using A1
  obtain ⟨B, hB⟩ : ∃ B, B = decide (byte t.data.toList 0 = 1) := ⟨_, rfl⟩
  have RP := Lib.hid (fun (u : World) => show Calls Tryd.prog 33 #[.string t, .string ⟨#[1]⟩] u fun e w' => e = .returned (.bool B) ∧ Below u.heap.size u w' from by
    have := Tryd.strings_HasPrefix t ⟨#[1]⟩ u
    rw [show (⟨#[1]⟩ : ByteArray).data.toList = [1] from rfl, prefix_one _ (fun h => by rw [h] at htl; simp at htl; omega), ← hB] at this
    exact this.mono fun e w' h => ⟨h.1, by rw [h.2]; exact Below.refl _ _⟩)
  by_cases A2 : B = true
  case neg =>
    obtain rfl : B = false := by simpa using A2
    clear A2
    have h1 : readE t.data.toList c g = 3 := by unfold readE; rw [← hG, if_neg A0, if_pos (Or.inr (of_decide_eq_false hB.symm))]
    obtain rfl : E = 3 := by rw [HE.out, h1]
    obtain rfl := hbad 3 h1 (by decide)
    clear hY HE hbad h1 hG hc hs hB
    go_enter Tryd.func25, Tryd.ntmps25
    go_wp2_with ((first
      | ((with_reducible refine Hold.alloc HM.out rfl rfl zeroS zero_said ?_); clear HM; intro b6 w HM; simp only [List.nil_append, List.cons_append] at HM; replace HM := Lib.hid HM)
      | ((with_reducible refine (RL.out _).mono ?_); rintro e w ⟨rfl, hb⟩; replace HM := Lib.hid (HM.out.next hb); clear hb)
      | ((with_reducible refine (RP.out _).mono ?_); rintro e w ⟨rfl, hb⟩; replace HM := Lib.hid (HM.out.next hb); clear hb)
      | ((refine Hold.build (t := 44) (parts := #[]) (cs := sayV zeroX) rfl rfl ?_ ?_); focus (exact built_none))
      | ((with_reducible refine Hold.store HM.out 0 (v' := sayV zeroX) rfl rfl rfl rfl rfl (say_fits zeroX zeroX) (say_laid zeroX zeroX) (say_one zeroX) (sayRow zeroX) ?_); clear HM; intro w HM; simp only [List.set_cons_zero, List.set_cons_succ] at HM; replace HM := Lib.hid HM)))
    refine bodyPost_ret (Hold.resultsCT HM.out 0 rfl _ rfl rfl rfl (sayRow zeroX)) rfl ?_
    exact ⟨rfl, HM.out.below⟩
  subst A2
  have hB1 := of_decide_eq_true hB.symm
  clear hB
  obtain ⟨cn, gn, hcn, hgn, c1, c2, s2⟩ : ∃ cn gn : Nat, c = (cn : Int) ∧ g = (gn : Int) ∧ 1 ≤ cn ∧ cn ≤ 16 ∧ gn ≤ 2000 := by
    obtain ⟨c1, c2, s1, s2⟩ := long_out c g (by rw [← hG]; exact A0)
    exact ⟨c.toNat, g.toNat, by omega, by omega, by omega, by omega, by omega⟩
  subst hcn hgn
  have hts : t.size = 8 + cn + gn := by
    rw [hG, long_in (cn : Int) (gn : Int) (by omega) (by omega) (by omega) (by omega)] at A1
    omega
  have HG := Lib.hid hG
  clear hG
  obtain ⟨SD, hSD⟩ : ∃ D, D = tx ((t.data.toList.drop 1).take 4) := ⟨_, rfl⟩
  obtain ⟨RS, hRS⟩ : ∃ D, D = tx (t.data.toList.drop 5) := ⟨_, rfl⟩
  obtain ⟨BD, hBD⟩ : ∃ D, D = Frm.hidB SD.data.toList RS := ⟨_, rfl⟩
  have zSD : SD.size ≤ 4 := by rw [hSD, tx_len, List.length_take]; omega
  have zRS : RS.size = 3 + cn + gn := by rw [hRS, tx_len, List.length_drop, htl]; omega
  have zBD : BD.size = 3 + cn + gn := by rw [hBD, Frm.hidB_size, zRS]
  have hop : opened t.data.toList = BD.data.toList := by
    rw [opened_is, hBD, hSD, hRS]
  obtain ⟨V, hV⟩ : ∃ V, V = saidX BD.data.toList cn := ⟨_, rfl⟩
  obtain ⟨R, hR⟩ : ∃ R, R = saidR BD.data.toList cn := ⟨_, rfl⟩
  have hE1 : readE t.data.toList (cn : Int) (gn : Int) = if badForm BD.data.toList (cn : Int) then 3 else 0 := by
    unfold readE
    rw [← HG.out, if_neg A0, if_neg (by rw [htl]; rintro (h | h); exact h A1; exact h hB1), hop]
  have m0 : ∀ u, (Instr.slice 9 (.string t) (some (.int .i64 1)) (some (.int .i64 5)) none).run Tryd.prog u = .ok (.string SD) u := fun u => slice_lh' t SD 1 5 1 5 rfl rfl (by decide) (by omega) hSD u
  have m1 : ∀ u, (Instr.slice 9 (.string t) (some (.int .i64 5)) none none).run Tryd.prog u = .ok (.string RS) u := fun u => slice_l' t RS 5 5 rfl (by omega) hRS u
  have RM := Lib.hid (fun u (hu : Laid u) => masked_any SD RS BD u hBD (by omega) (by omega) hu)
  have RS2 := Lib.hid (fun u => said_any BD cn gn V R u hV hR zBD c2 s2)
  have FX := Lib.hid (And.intro m0 m1)
  clear m0 m1
  by_cases A3 : R = true
  case neg =>
    obtain rfl : R = false := by simpa using A3
    clear A3
    have h1 : readE t.data.toList (cn : Int) (gn : Int) = 3 := by rw [hE1, if_pos (said_no _ _ hR.symm)]
    obtain rfl : E = 3 := by rw [HE.out, h1]
    obtain rfl := hbad 3 h1 (by decide)
    clear hY HE hbad h1 hE1 HG hc hs hSD hRS hBD zSD zRS zBD hop hV hR htl hGp hts hB1 c1 c2 s2
    go_enter Tryd.func25, Tryd.ntmps25
    go_upto_region 6 with ((first
      | ((with_reducible refine Hold.alloc HM.out rfl rfl zeroS zero_said ?_); clear HM; intro b6 w HM; simp only [List.nil_append, List.cons_append] at HM; replace HM := Lib.hid HM)
      | ((with_reducible refine (RL.out _).mono ?_); rintro e w ⟨rfl, hb⟩; replace HM := Lib.hid (HM.out.next hb); clear hb)
      | ((with_reducible refine (RP.out _).mono ?_); rintro e w ⟨rfl, hb⟩; replace HM := Lib.hid (HM.out.next hb); clear hb)))
    obtain ⟨m0, m1⟩ := FX.out
    have HS := Lib.hid (Hold.Hld.drew (show Hold.Hld _ [⟨b6, 44, zeroS⟩] w from HM.out))
    replace HM := Lib.hid HM.out.drew
    refine wp_region_held (S := fun u => Hold.Hld w0 [⟨b6, 44, zeroS⟩] u) (by kernel_rfl) ?_
    change wpAnyH _ _ _ _ _ _ _ _ w.drew
    generalize w.drew = wd at *
    change wpAnyH _ _ _ _ _ (12 + 1) _ _ _
    refine wpAnyH_take (i := 0) (by simp only [List.getElem?_toArray, List.getElem?_cons_succ, List.getElem?_cons_zero]; rfl) (by kernel_rfl) (by kernel_rfl) (by kernel_rfl) (fun _ _ _ h => by exact h) (.inl ⟨by rfl, fun u hu => by go_simp; try with_reducible rfl⟩) HS.out ?_
    try simp only [List.getElem_toArray, List.getElem_cons_succ, List.getElem_cons_zero, Act.put, List.setIfInBounds_toArray, List.set_cons_zero, List.set_cons_succ]
    change wpAnyH _ _ _ _ _ (11 + 1) _ _ _
    refine wpAnyH_take (i := 1) (by simp only [List.getElem?_toArray, List.getElem?_cons_succ, List.getElem?_cons_zero]; rfl) (by kernel_rfl) (by kernel_rfl) (by kernel_rfl) (fun _ _ _ h => by exact h) (.inl ⟨by rfl, fun u hu => by go_simp; try with_reducible rfl⟩) HS.out ?_
    try simp only [List.getElem_toArray, List.getElem_cons_succ, List.getElem_cons_zero, Act.put, List.setIfInBounds_toArray, List.set_cons_zero, List.set_cons_succ]
    change wpAnyH _ _ _ _ _ (10 + 1) _ _ _
    refine wpAnyH_take (i := 2) (by simp only [List.getElem?_toArray, List.getElem?_cons_succ, List.getElem?_cons_zero]; rfl) (by kernel_rfl) (by kernel_rfl) (by kernel_rfl) (fun _ _ _ h => by exact h) (.inl ⟨by rfl, fun u hu => by go_simp; try with_reducible rfl⟩) HS.out ?_
    try simp only [List.getElem_toArray, List.getElem_cons_succ, List.getElem_cons_zero, Act.put, List.setIfInBounds_toArray, List.set_cons_zero, List.set_cons_succ]
    change wpAnyH _ _ _ _ _ (9 + 1) _ _ _
    refine wpAnyH_take (i := 3) (by simp only [List.getElem?_toArray, List.getElem?_cons_succ, List.getElem?_cons_zero]; rfl) (by kernel_rfl) (by kernel_rfl) (by kernel_rfl) (fun _ _ _ h => by exact h) (.inl ⟨by rfl, fun u hu => by go_simp; try with_reducible rfl⟩) HS.out ?_
    try simp only [List.getElem_toArray, List.getElem_cons_succ, List.getElem_cons_zero, Act.put, List.setIfInBounds_toArray, List.set_cons_zero, List.set_cons_succ]
    change wpAnyH _ _ _ _ _ (8 + 1) _ _ _
    refine wpAnyH_take (i := 5) (by simp only [List.getElem?_toArray, List.getElem?_cons_succ, List.getElem?_cons_zero]; rfl) (by kernel_rfl) (by kernel_rfl) (by kernel_rfl) (fun _ _ _ h => by exact h) (.inl ⟨by rfl, fun u hu => by go_simp; try with_reducible rfl⟩) HS.out ?_
    try simp only [List.getElem_toArray, List.getElem_cons_succ, List.getElem_cons_zero, Act.put, List.setIfInBounds_toArray, List.set_cons_zero, List.set_cons_succ]
    change wpAnyH _ _ _ _ _ (7 + 1) _ _ _
    refine wpAnyH_all (rs := [4, 10]) (by kernel_rfl) (by simp) (fun j hj => ?_)
    rcases (by simpa using hj : j = 4 ∨ j = 10) with rfl | rfl
    · refine Steady.call_any (i := 4) (by simp only [List.getElem?_toArray, List.getElem?_cons_succ, List.getElem?_cons_zero]; rfl) (by kernel_rfl) _ _ (by go_simp) (fun u w' => u = .string BD ∧ Below _ _ w') ((RM.out _ (HL.out.below HM.out.below)).mono (fun e w' hh => ⟨_, hh.1, rfl, hh.2⟩)) ?_
      rintro u w6_1 ⟨rfl, hb⟩
      replace HM := Lib.hid (HM.out.next hb)
      clear hb
      replace HS := Lib.hid (show Hold.Hld _ [⟨b6, 44, zeroS⟩] _ from HM.out)
      refine ⟨HS.out, ?_⟩
      try simp only [List.getElem_toArray, List.getElem_cons_succ, List.getElem_cons_zero, Act.put, List.setIfInBounds_toArray, List.set_cons_zero, List.set_cons_succ]
      change wpAnyH _ _ _ _ _ (6 + 1) _ _ _
      refine wpAnyH_all (rs := [6, 10]) (by kernel_rfl) (by simp) (fun j hj => ?_)
      rcases (by simpa using hj : j = 6 ∨ j = 10) with rfl | rfl
      · refine Steady.call_any (i := 6) (by simp only [List.getElem?_toArray, List.getElem?_cons_succ, List.getElem?_cons_zero]; rfl) (by kernel_rfl) _ _ (by go_simp) (fun u w' => u = .tuple #[.agg (sayV V).toArray, .bool false] ∧ Below _ _ w') ((RS2.out _).mono (fun e w' hh => ⟨_, hh.1, rfl, hh.2⟩)) ?_
        rintro u w6_2 ⟨rfl, hb⟩
        replace HM := Lib.hid (HM.out.next hb)
        clear hb
        replace HS := Lib.hid (show Hold.Hld _ [⟨b6, 44, zeroS⟩] _ from HM.out)
        refine ⟨HS.out, ?_⟩
        try simp only [List.getElem_toArray, List.getElem_cons_succ, List.getElem_cons_zero, Act.put, List.setIfInBounds_toArray, List.set_cons_zero, List.set_cons_succ]
        change wpAnyH _ _ _ _ _ (5 + 1) _ _ _
        refine wpAnyH_take (i := 7) (by simp only [List.getElem?_toArray, List.getElem?_cons_succ, List.getElem?_cons_zero]; rfl) (by kernel_rfl) (by kernel_rfl) (by kernel_rfl) (fun _ _ _ h => by exact h) (.inl ⟨by rfl, fun u hu => by go_simp; try with_reducible rfl⟩) HS.out ?_
        try simp only [List.getElem_toArray, List.getElem_cons_succ, List.getElem_cons_zero, Act.put, List.setIfInBounds_toArray, List.set_cons_zero, List.set_cons_succ]
        change wpAnyH _ _ _ _ _ (4 + 1) _ _ _
        refine wpAnyH_take (i := 8) (by simp only [List.getElem?_toArray, List.getElem?_cons_succ, List.getElem?_cons_zero]; rfl) (by kernel_rfl) (by kernel_rfl) (by kernel_rfl) (fun _ _ _ h => by exact h) (.inl ⟨by rfl, fun u hu => by go_simp; try with_reducible rfl⟩) HS.out ?_
        try simp only [List.getElem_toArray, List.getElem_cons_succ, List.getElem_cons_zero, Act.put, List.setIfInBounds_toArray, List.set_cons_zero, List.set_cons_succ]
        change wpAnyH _ _ _ _ _ (3 + 1) _ _ _
        refine wpAnyH_take (i := 9) (by simp only [List.getElem?_toArray, List.getElem?_cons_succ, List.getElem?_cons_zero]; rfl) (by kernel_rfl) (by kernel_rfl) (by kernel_rfl) (fun _ _ _ h => by exact h) (.inl ⟨by rfl, fun u hu => by go_simp; try with_reducible rfl⟩) HS.out ?_
        try simp only [List.getElem_toArray, List.getElem_cons_succ, List.getElem_cons_zero, Act.put, List.setIfInBounds_toArray, List.set_cons_zero, List.set_cons_succ]
        change wpAnyH _ _ _ _ _ (2 + 1) _ _ _
        refine wpAnyH_all (rs := [10]) (by kernel_rfl) (by simp) (fun j hj => ?_)
        obtain rfl : j = 10 := by simpa using hj
        refine Hold.op_alloc HM.out (by simp only [List.getElem?_toArray, List.getElem?_cons_succ, List.getElem?_cons_zero]; rfl) rfl rfl zeroS zero_said ?_
        clear HM
        intro ba_3 wa_3 HM
        simp only [List.cons_append, List.nil_append] at HM
        replace HM := Lib.hid HM
        replace HS := Lib.hid (show Hold.Hld _ [⟨b6, 44, zeroS⟩] _ from Hold.Hld.front (m' := [_]) HM.out)
        refine ⟨HS.out, ?_⟩
        try simp only [List.getElem_toArray, List.getElem_cons_succ, List.getElem_cons_zero, Act.put, List.setIfInBounds_toArray, List.set_cons_zero, List.set_cons_succ]
        change wpAnyH _ _ _ _ _ (1 + 1) _ _ _
        refine wpAnyH_all (rs := [11]) (by kernel_rfl) (by simp) (fun j hj => ?_)
        obtain rfl : j = 11 := by simpa using hj
        refine op_store_any HM.out 1 (i := 11) (v' := sayV V) (by simp only [List.getElem?_toArray, List.getElem?_cons_succ, List.getElem?_cons_zero]; rfl) rfl rfl rfl rfl rfl (say_fits _ _) (say_laid _ _) (say_one _) (sayRow _) ?_
        clear HM
        intro ws_4 HM
        simp only [List.set_cons_zero, List.set_cons_succ] at HM
        replace HM := Lib.hid HM
        replace HS := Lib.hid (show Hold.Hld _ [⟨b6, 44, zeroS⟩] _ from Hold.Hld.front (m' := [_]) HM.out)
        refine ⟨HS.out, ?_⟩
        try simp only [List.getElem_toArray, List.getElem_cons_succ, List.getElem_cons_zero, Act.put, List.setIfInBounds_toArray, List.set_cons_zero, List.set_cons_succ]
        change wpAnyH _ _ _ _ _ (0 + 1) _ _ _
        refine wpAnyH_take (i := 12) (by simp only [List.getElem?_toArray, List.getElem?_cons_succ, List.getElem?_cons_zero]; rfl) (by kernel_rfl) (by kernel_rfl) (by kernel_rfl) (fun _ _ _ h => by exact h) (.inl ⟨by rfl, fun u hu => by go_simp; try with_reducible rfl⟩) HS.out ?_
        try simp only [List.getElem_toArray, List.getElem_cons_succ, List.getElem_cons_zero, Act.put, List.setIfInBounds_toArray, List.set_cons_zero, List.set_cons_succ]
        refine wpAnyH_done (by kernel_rfl) ?_ _
        go_wp2_with ((first
          | ((refine Hold.build (t := 44) (parts := #[]) (cs := sayV zeroX) rfl rfl ?_ ?_); focus (exact built_none))
          | ((with_reducible refine Hold.store HM.out 0 (v' := sayV zeroX) rfl rfl rfl rfl rfl (say_fits zeroX zeroX) (say_laid zeroX zeroX) (say_one zeroX) (sayRow zeroX) ?_); clear HM; intro w HM; simp only [List.set_cons_zero, List.set_cons_succ] at HM; replace HM := Lib.hid HM)))
        refine bodyPost_ret (Hold.resultsCT HM.out 0 rfl _ rfl rfl rfl (sayRow zeroX)) rfl ?_
        exact ⟨rfl, HM.out.below⟩
      · refine Hold.op_alloc HM.out (by simp only [List.getElem?_toArray, List.getElem?_cons_succ, List.getElem?_cons_zero]; rfl) rfl rfl zeroS zero_said ?_
        clear HM
        intro ba_5 wa_5 HM
        simp only [List.cons_append, List.nil_append] at HM
        replace HM := Lib.hid HM
        replace HS := Lib.hid (show Hold.Hld _ [⟨b6, 44, zeroS⟩] _ from Hold.Hld.front (m' := [_]) HM.out)
        refine ⟨HS.out, ?_⟩
        try simp only [List.getElem_toArray, List.getElem_cons_succ, List.getElem_cons_zero, Act.put, List.setIfInBounds_toArray, List.set_cons_zero, List.set_cons_succ]
        change wpAnyH _ _ _ _ _ (5 + 1) _ _ _
        refine wpAnyH_all (rs := [6]) (by kernel_rfl) (by simp) (fun j hj => ?_)
        obtain rfl : j = 6 := by simpa using hj
        refine Steady.call_any (i := 6) (by simp only [List.getElem?_toArray, List.getElem?_cons_succ, List.getElem?_cons_zero]; rfl) (by kernel_rfl) _ _ (by go_simp) (fun u w' => u = .tuple #[.agg (sayV V).toArray, .bool false] ∧ Below _ _ w') ((RS2.out _).mono (fun e w' hh => ⟨_, hh.1, rfl, hh.2⟩)) ?_
        rintro u w6_6 ⟨rfl, hb⟩
        replace HM := Lib.hid (HM.out.next hb)
        clear hb
        replace HS := Lib.hid (show Hold.Hld _ [⟨b6, 44, zeroS⟩] _ from Hold.Hld.front (m' := [_]) HM.out)
        refine ⟨HS.out, ?_⟩
        try simp only [List.getElem_toArray, List.getElem_cons_succ, List.getElem_cons_zero, Act.put, List.setIfInBounds_toArray, List.set_cons_zero, List.set_cons_succ]
        change wpAnyH _ _ _ _ _ (4 + 1) _ _ _
        refine wpAnyH_take (i := 7) (by simp only [List.getElem?_toArray, List.getElem?_cons_succ, List.getElem?_cons_zero]; rfl) (by kernel_rfl) (by kernel_rfl) (by kernel_rfl) (fun _ _ _ h => by exact h) (.inl ⟨by rfl, fun u hu => by go_simp; try with_reducible rfl⟩) HS.out ?_
        try simp only [List.getElem_toArray, List.getElem_cons_succ, List.getElem_cons_zero, Act.put, List.setIfInBounds_toArray, List.set_cons_zero, List.set_cons_succ]
        change wpAnyH _ _ _ _ _ (3 + 1) _ _ _
        refine wpAnyH_take (i := 8) (by simp only [List.getElem?_toArray, List.getElem?_cons_succ, List.getElem?_cons_zero]; rfl) (by kernel_rfl) (by kernel_rfl) (by kernel_rfl) (fun _ _ _ h => by exact h) (.inl ⟨by rfl, fun u hu => by go_simp; try with_reducible rfl⟩) HS.out ?_
        try simp only [List.getElem_toArray, List.getElem_cons_succ, List.getElem_cons_zero, Act.put, List.setIfInBounds_toArray, List.set_cons_zero, List.set_cons_succ]
        change wpAnyH _ _ _ _ _ (2 + 1) _ _ _
        refine wpAnyH_take (i := 9) (by simp only [List.getElem?_toArray, List.getElem?_cons_succ, List.getElem?_cons_zero]; rfl) (by kernel_rfl) (by kernel_rfl) (by kernel_rfl) (fun _ _ _ h => by exact h) (.inl ⟨by rfl, fun u hu => by go_simp; try with_reducible rfl⟩) HS.out ?_
        try simp only [List.getElem_toArray, List.getElem_cons_succ, List.getElem_cons_zero, Act.put, List.setIfInBounds_toArray, List.set_cons_zero, List.set_cons_succ]
        change wpAnyH _ _ _ _ _ (1 + 1) _ _ _
        refine wpAnyH_all (rs := [11]) (by kernel_rfl) (by simp) (fun j hj => ?_)
        obtain rfl : j = 11 := by simpa using hj
        refine op_store_any HM.out 1 (i := 11) (v' := sayV V) (by simp only [List.getElem?_toArray, List.getElem?_cons_succ, List.getElem?_cons_zero]; rfl) rfl rfl rfl rfl rfl (say_fits _ _) (say_laid _ _) (say_one _) (sayRow _) ?_
        clear HM
        intro ws_7 HM
        simp only [List.set_cons_zero, List.set_cons_succ] at HM
        replace HM := Lib.hid HM
        replace HS := Lib.hid (show Hold.Hld _ [⟨b6, 44, zeroS⟩] _ from Hold.Hld.front (m' := [_]) HM.out)
        refine ⟨HS.out, ?_⟩
        try simp only [List.getElem_toArray, List.getElem_cons_succ, List.getElem_cons_zero, Act.put, List.setIfInBounds_toArray, List.set_cons_zero, List.set_cons_succ]
        change wpAnyH _ _ _ _ _ (0 + 1) _ _ _
        refine wpAnyH_take (i := 12) (by simp only [List.getElem?_toArray, List.getElem?_cons_succ, List.getElem?_cons_zero]; rfl) (by kernel_rfl) (by kernel_rfl) (by kernel_rfl) (fun _ _ _ h => by exact h) (.inl ⟨by rfl, fun u hu => by go_simp; try with_reducible rfl⟩) HS.out ?_
        try simp only [List.getElem_toArray, List.getElem_cons_succ, List.getElem_cons_zero, Act.put, List.setIfInBounds_toArray, List.set_cons_zero, List.set_cons_succ]
        refine wpAnyH_done (by kernel_rfl) ?_ _
        go_wp2_with ((first
          | ((refine Hold.build (t := 44) (parts := #[]) (cs := sayV zeroX) rfl rfl ?_ ?_); focus (exact built_none))
          | ((with_reducible refine Hold.store HM.out 0 (v' := sayV zeroX) rfl rfl rfl rfl rfl (say_fits zeroX zeroX) (say_laid zeroX zeroX) (say_one zeroX) (sayRow zeroX) ?_); clear HM; intro w HM; simp only [List.set_cons_zero, List.set_cons_succ] at HM; replace HM := Lib.hid HM)))
        refine bodyPost_ret (Hold.resultsCT HM.out 0 rfl _ rfl rfl rfl (sayRow zeroX)) rfl ?_
        exact ⟨rfl, HM.out.below⟩
    · refine Hold.op_alloc HM.out (by simp only [List.getElem?_toArray, List.getElem?_cons_succ, List.getElem?_cons_zero]; rfl) rfl rfl zeroS zero_said ?_
      clear HM
      intro ba_8 wa_8 HM
      simp only [List.cons_append, List.nil_append] at HM
      replace HM := Lib.hid HM
      replace HS := Lib.hid (show Hold.Hld _ [⟨b6, 44, zeroS⟩] _ from Hold.Hld.front (m' := [_]) HM.out)
      refine ⟨HS.out, ?_⟩
      try simp only [List.getElem_toArray, List.getElem_cons_succ, List.getElem_cons_zero, Act.put, List.setIfInBounds_toArray, List.set_cons_zero, List.set_cons_succ]
      change wpAnyH _ _ _ _ _ (6 + 1) _ _ _
      refine wpAnyH_all (rs := [4]) (by kernel_rfl) (by simp) (fun j hj => ?_)
      obtain rfl : j = 4 := by simpa using hj
      refine Steady.call_any (i := 4) (by simp only [List.getElem?_toArray, List.getElem?_cons_succ, List.getElem?_cons_zero]; rfl) (by kernel_rfl) _ _ (by go_simp) (fun u w' => u = .string BD ∧ Below _ _ w') ((RM.out _ (HL.out.below HM.out.below)).mono (fun e w' hh => ⟨_, hh.1, rfl, hh.2⟩)) ?_
      rintro u w6_9 ⟨rfl, hb⟩
      replace HM := Lib.hid (HM.out.next hb)
      clear hb
      replace HS := Lib.hid (show Hold.Hld _ [⟨b6, 44, zeroS⟩] _ from Hold.Hld.front (m' := [_]) HM.out)
      refine ⟨HS.out, ?_⟩
      try simp only [List.getElem_toArray, List.getElem_cons_succ, List.getElem_cons_zero, Act.put, List.setIfInBounds_toArray, List.set_cons_zero, List.set_cons_succ]
      change wpAnyH _ _ _ _ _ (5 + 1) _ _ _
      refine wpAnyH_all (rs := [6]) (by kernel_rfl) (by simp) (fun j hj => ?_)
      obtain rfl : j = 6 := by simpa using hj
      refine Steady.call_any (i := 6) (by simp only [List.getElem?_toArray, List.getElem?_cons_succ, List.getElem?_cons_zero]; rfl) (by kernel_rfl) _ _ (by go_simp) (fun u w' => u = .tuple #[.agg (sayV V).toArray, .bool false] ∧ Below _ _ w') ((RS2.out _).mono (fun e w' hh => ⟨_, hh.1, rfl, hh.2⟩)) ?_
      rintro u w6_10 ⟨rfl, hb⟩
      replace HM := Lib.hid (HM.out.next hb)
      clear hb
      replace HS := Lib.hid (show Hold.Hld _ [⟨b6, 44, zeroS⟩] _ from Hold.Hld.front (m' := [_]) HM.out)
      refine ⟨HS.out, ?_⟩
      try simp only [List.getElem_toArray, List.getElem_cons_succ, List.getElem_cons_zero, Act.put, List.setIfInBounds_toArray, List.set_cons_zero, List.set_cons_succ]
      change wpAnyH _ _ _ _ _ (4 + 1) _ _ _
      refine wpAnyH_take (i := 7) (by simp only [List.getElem?_toArray, List.getElem?_cons_succ, List.getElem?_cons_zero]; rfl) (by kernel_rfl) (by kernel_rfl) (by kernel_rfl) (fun _ _ _ h => by exact h) (.inl ⟨by rfl, fun u hu => by go_simp; try with_reducible rfl⟩) HS.out ?_
      try simp only [List.getElem_toArray, List.getElem_cons_succ, List.getElem_cons_zero, Act.put, List.setIfInBounds_toArray, List.set_cons_zero, List.set_cons_succ]
      change wpAnyH _ _ _ _ _ (3 + 1) _ _ _
      refine wpAnyH_take (i := 8) (by simp only [List.getElem?_toArray, List.getElem?_cons_succ, List.getElem?_cons_zero]; rfl) (by kernel_rfl) (by kernel_rfl) (by kernel_rfl) (fun _ _ _ h => by exact h) (.inl ⟨by rfl, fun u hu => by go_simp; try with_reducible rfl⟩) HS.out ?_
      try simp only [List.getElem_toArray, List.getElem_cons_succ, List.getElem_cons_zero, Act.put, List.setIfInBounds_toArray, List.set_cons_zero, List.set_cons_succ]
      change wpAnyH _ _ _ _ _ (2 + 1) _ _ _
      refine wpAnyH_take (i := 9) (by simp only [List.getElem?_toArray, List.getElem?_cons_succ, List.getElem?_cons_zero]; rfl) (by kernel_rfl) (by kernel_rfl) (by kernel_rfl) (fun _ _ _ h => by exact h) (.inl ⟨by rfl, fun u hu => by go_simp; try with_reducible rfl⟩) HS.out ?_
      try simp only [List.getElem_toArray, List.getElem_cons_succ, List.getElem_cons_zero, Act.put, List.setIfInBounds_toArray, List.set_cons_zero, List.set_cons_succ]
      change wpAnyH _ _ _ _ _ (1 + 1) _ _ _
      refine wpAnyH_all (rs := [11]) (by kernel_rfl) (by simp) (fun j hj => ?_)
      obtain rfl : j = 11 := by simpa using hj
      refine op_store_any HM.out 1 (i := 11) (v' := sayV V) (by simp only [List.getElem?_toArray, List.getElem?_cons_succ, List.getElem?_cons_zero]; rfl) rfl rfl rfl rfl rfl (say_fits _ _) (say_laid _ _) (say_one _) (sayRow _) ?_
      clear HM
      intro ws_11 HM
      simp only [List.set_cons_zero, List.set_cons_succ] at HM
      replace HM := Lib.hid HM
      replace HS := Lib.hid (show Hold.Hld _ [⟨b6, 44, zeroS⟩] _ from Hold.Hld.front (m' := [_]) HM.out)
      refine ⟨HS.out, ?_⟩
      try simp only [List.getElem_toArray, List.getElem_cons_succ, List.getElem_cons_zero, Act.put, List.setIfInBounds_toArray, List.set_cons_zero, List.set_cons_succ]
      change wpAnyH _ _ _ _ _ (0 + 1) _ _ _
      refine wpAnyH_take (i := 12) (by simp only [List.getElem?_toArray, List.getElem?_cons_succ, List.getElem?_cons_zero]; rfl) (by kernel_rfl) (by kernel_rfl) (by kernel_rfl) (fun _ _ _ h => by exact h) (.inl ⟨by rfl, fun u hu => by go_simp; try with_reducible rfl⟩) HS.out ?_
      try simp only [List.getElem_toArray, List.getElem_cons_succ, List.getElem_cons_zero, Act.put, List.setIfInBounds_toArray, List.set_cons_zero, List.set_cons_succ]
      refine wpAnyH_done (by kernel_rfl) ?_ _
      go_wp2_with ((first
        | ((refine Hold.build (t := 44) (parts := #[]) (cs := sayV zeroX) rfl rfl ?_ ?_); focus (exact built_none))
        | ((with_reducible refine Hold.store HM.out 0 (v' := sayV zeroX) rfl rfl rfl rfl rfl (say_fits zeroX zeroX) (say_laid zeroX zeroX) (say_one zeroX) (sayRow zeroX) ?_); clear HM; intro w HM; simp only [List.set_cons_zero, List.set_cons_succ] at HM; replace HM := Lib.hid HM)))
      refine bodyPost_ret (Hold.resultsCT HM.out 0 rfl _ rfl rfl rfl (sayRow zeroX)) rfl ?_
      exact ⟨rfl, HM.out.below⟩
  subst A3
  have hyes := said_yes _ _ hR.symm
  have h1 : readE t.data.toList (cn : Int) (gn : Int) = 0 := by rw [hE1, if_neg hyes.1]
  obtain rfl : E = 0 := by rw [HE.out, h1]
  obtain rfl : Y = V := by
    rw [hY, hV]
    unfold readX
    rw [if_pos h1, hop, hyes.2]
  · clear hyes
    clear hY HE hbad h1 hE1 HG hc hs hSD hRS hBD zSD zRS zBD hop hV hR htl hGp hts hB1 c1 c2 s2
    go_enter Tryd.func25, Tryd.ntmps25
    go_upto_region 6 with ((first
      | ((with_reducible refine Hold.alloc HM.out rfl rfl zeroS zero_said ?_); clear HM; intro b6 w HM; simp only [List.nil_append, List.cons_append] at HM; replace HM := Lib.hid HM)
      | ((with_reducible refine (RL.out _).mono ?_); rintro e w ⟨rfl, hb⟩; replace HM := Lib.hid (HM.out.next hb); clear hb)
      | ((with_reducible refine (RP.out _).mono ?_); rintro e w ⟨rfl, hb⟩; replace HM := Lib.hid (HM.out.next hb); clear hb)))
    obtain ⟨m0, m1⟩ := FX.out
    have HS := Lib.hid (Hold.Hld.drew (show Hold.Hld _ [⟨b6, 44, zeroS⟩] w from HM.out))
    replace HM := Lib.hid HM.out.drew
    refine wp_region_held (S := fun u => Hold.Hld w0 [⟨b6, 44, zeroS⟩] u) (by kernel_rfl) ?_
    change wpAnyH _ _ _ _ _ _ _ _ w.drew
    generalize w.drew = wd at *
    change wpAnyH _ _ _ _ _ (12 + 1) _ _ _
    refine wpAnyH_take (i := 0) (by simp only [List.getElem?_toArray, List.getElem?_cons_succ, List.getElem?_cons_zero]; rfl) (by kernel_rfl) (by kernel_rfl) (by kernel_rfl) (fun _ _ _ h => by exact h) (.inl ⟨by rfl, fun u hu => by go_simp; try with_reducible rfl⟩) HS.out ?_
    try simp only [List.getElem_toArray, List.getElem_cons_succ, List.getElem_cons_zero, Act.put, List.setIfInBounds_toArray, List.set_cons_zero, List.set_cons_succ]
    change wpAnyH _ _ _ _ _ (11 + 1) _ _ _
    refine wpAnyH_take (i := 1) (by simp only [List.getElem?_toArray, List.getElem?_cons_succ, List.getElem?_cons_zero]; rfl) (by kernel_rfl) (by kernel_rfl) (by kernel_rfl) (fun _ _ _ h => by exact h) (.inl ⟨by rfl, fun u hu => by go_simp; try with_reducible rfl⟩) HS.out ?_
    try simp only [List.getElem_toArray, List.getElem_cons_succ, List.getElem_cons_zero, Act.put, List.setIfInBounds_toArray, List.set_cons_zero, List.set_cons_succ]
    change wpAnyH _ _ _ _ _ (10 + 1) _ _ _
    refine wpAnyH_take (i := 2) (by simp only [List.getElem?_toArray, List.getElem?_cons_succ, List.getElem?_cons_zero]; rfl) (by kernel_rfl) (by kernel_rfl) (by kernel_rfl) (fun _ _ _ h => by exact h) (.inl ⟨by rfl, fun u hu => by go_simp; try with_reducible rfl⟩) HS.out ?_
    try simp only [List.getElem_toArray, List.getElem_cons_succ, List.getElem_cons_zero, Act.put, List.setIfInBounds_toArray, List.set_cons_zero, List.set_cons_succ]
    change wpAnyH _ _ _ _ _ (9 + 1) _ _ _
    refine wpAnyH_take (i := 3) (by simp only [List.getElem?_toArray, List.getElem?_cons_succ, List.getElem?_cons_zero]; rfl) (by kernel_rfl) (by kernel_rfl) (by kernel_rfl) (fun _ _ _ h => by exact h) (.inl ⟨by rfl, fun u hu => by go_simp; try with_reducible rfl⟩) HS.out ?_
    try simp only [List.getElem_toArray, List.getElem_cons_succ, List.getElem_cons_zero, Act.put, List.setIfInBounds_toArray, List.set_cons_zero, List.set_cons_succ]
    change wpAnyH _ _ _ _ _ (8 + 1) _ _ _
    refine wpAnyH_take (i := 5) (by simp only [List.getElem?_toArray, List.getElem?_cons_succ, List.getElem?_cons_zero]; rfl) (by kernel_rfl) (by kernel_rfl) (by kernel_rfl) (fun _ _ _ h => by exact h) (.inl ⟨by rfl, fun u hu => by go_simp; try with_reducible rfl⟩) HS.out ?_
    try simp only [List.getElem_toArray, List.getElem_cons_succ, List.getElem_cons_zero, Act.put, List.setIfInBounds_toArray, List.set_cons_zero, List.set_cons_succ]
    change wpAnyH _ _ _ _ _ (7 + 1) _ _ _
    refine wpAnyH_all (rs := [4, 10]) (by kernel_rfl) (by simp) (fun j hj => ?_)
    rcases (by simpa using hj : j = 4 ∨ j = 10) with rfl | rfl
    · refine Steady.call_any (i := 4) (by simp only [List.getElem?_toArray, List.getElem?_cons_succ, List.getElem?_cons_zero]; rfl) (by kernel_rfl) _ _ (by go_simp) (fun u w' => u = .string BD ∧ Below _ _ w') ((RM.out _ (HL.out.below HM.out.below)).mono (fun e w' hh => ⟨_, hh.1, rfl, hh.2⟩)) ?_
      rintro u w6_1 ⟨rfl, hb⟩
      replace HM := Lib.hid (HM.out.next hb)
      clear hb
      replace HS := Lib.hid (show Hold.Hld _ [⟨b6, 44, zeroS⟩] _ from HM.out)
      refine ⟨HS.out, ?_⟩
      try simp only [List.getElem_toArray, List.getElem_cons_succ, List.getElem_cons_zero, Act.put, List.setIfInBounds_toArray, List.set_cons_zero, List.set_cons_succ]
      change wpAnyH _ _ _ _ _ (6 + 1) _ _ _
      refine wpAnyH_all (rs := [6, 10]) (by kernel_rfl) (by simp) (fun j hj => ?_)
      rcases (by simpa using hj : j = 6 ∨ j = 10) with rfl | rfl
      · refine Steady.call_any (i := 6) (by simp only [List.getElem?_toArray, List.getElem?_cons_succ, List.getElem?_cons_zero]; rfl) (by kernel_rfl) _ _ (by go_simp) (fun u w' => u = .tuple #[.agg (sayV Y).toArray, .bool true] ∧ Below _ _ w') ((RS2.out _).mono (fun e w' hh => ⟨_, hh.1, rfl, hh.2⟩)) ?_
        rintro u w6_2 ⟨rfl, hb⟩
        replace HM := Lib.hid (HM.out.next hb)
        clear hb
        replace HS := Lib.hid (show Hold.Hld _ [⟨b6, 44, zeroS⟩] _ from HM.out)
        refine ⟨HS.out, ?_⟩
        try simp only [List.getElem_toArray, List.getElem_cons_succ, List.getElem_cons_zero, Act.put, List.setIfInBounds_toArray, List.set_cons_zero, List.set_cons_succ]
        change wpAnyH _ _ _ _ _ (5 + 1) _ _ _
        refine wpAnyH_take (i := 7) (by simp only [List.getElem?_toArray, List.getElem?_cons_succ, List.getElem?_cons_zero]; rfl) (by kernel_rfl) (by kernel_rfl) (by kernel_rfl) (fun _ _ _ h => by exact h) (.inl ⟨by rfl, fun u hu => by go_simp; try with_reducible rfl⟩) HS.out ?_
        try simp only [List.getElem_toArray, List.getElem_cons_succ, List.getElem_cons_zero, Act.put, List.setIfInBounds_toArray, List.set_cons_zero, List.set_cons_succ]
        change wpAnyH _ _ _ _ _ (4 + 1) _ _ _
        refine wpAnyH_take (i := 8) (by simp only [List.getElem?_toArray, List.getElem?_cons_succ, List.getElem?_cons_zero]; rfl) (by kernel_rfl) (by kernel_rfl) (by kernel_rfl) (fun _ _ _ h => by exact h) (.inl ⟨by rfl, fun u hu => by go_simp; try with_reducible rfl⟩) HS.out ?_
        try simp only [List.getElem_toArray, List.getElem_cons_succ, List.getElem_cons_zero, Act.put, List.setIfInBounds_toArray, List.set_cons_zero, List.set_cons_succ]
        change wpAnyH _ _ _ _ _ (3 + 1) _ _ _
        refine wpAnyH_take (i := 9) (by simp only [List.getElem?_toArray, List.getElem?_cons_succ, List.getElem?_cons_zero]; rfl) (by kernel_rfl) (by kernel_rfl) (by kernel_rfl) (fun _ _ _ h => by exact h) (.inl ⟨by rfl, fun u hu => by go_simp; try with_reducible rfl⟩) HS.out ?_
        try simp only [List.getElem_toArray, List.getElem_cons_succ, List.getElem_cons_zero, Act.put, List.setIfInBounds_toArray, List.set_cons_zero, List.set_cons_succ]
        change wpAnyH _ _ _ _ _ (2 + 1) _ _ _
        refine wpAnyH_all (rs := [10]) (by kernel_rfl) (by simp) (fun j hj => ?_)
        obtain rfl : j = 10 := by simpa using hj
        refine Hold.op_alloc HM.out (by simp only [List.getElem?_toArray, List.getElem?_cons_succ, List.getElem?_cons_zero]; rfl) rfl rfl zeroS zero_said ?_
        clear HM
        intro ba_3 wa_3 HM
        simp only [List.cons_append, List.nil_append] at HM
        replace HM := Lib.hid HM
        replace HS := Lib.hid (show Hold.Hld _ [⟨b6, 44, zeroS⟩] _ from Hold.Hld.front (m' := [_]) HM.out)
        refine ⟨HS.out, ?_⟩
        try simp only [List.getElem_toArray, List.getElem_cons_succ, List.getElem_cons_zero, Act.put, List.setIfInBounds_toArray, List.set_cons_zero, List.set_cons_succ]
        change wpAnyH _ _ _ _ _ (1 + 1) _ _ _
        refine wpAnyH_all (rs := [11]) (by kernel_rfl) (by simp) (fun j hj => ?_)
        obtain rfl : j = 11 := by simpa using hj
        refine op_store_any HM.out 1 (i := 11) (v' := sayV Y) (by simp only [List.getElem?_toArray, List.getElem?_cons_succ, List.getElem?_cons_zero]; rfl) rfl rfl rfl rfl rfl (say_fits _ _) (say_laid _ _) (say_one _) (sayRow _) ?_
        clear HM
        intro ws_4 HM
        simp only [List.set_cons_zero, List.set_cons_succ] at HM
        replace HM := Lib.hid HM
        replace HS := Lib.hid (show Hold.Hld _ [⟨b6, 44, zeroS⟩] _ from Hold.Hld.front (m' := [_]) HM.out)
        refine ⟨HS.out, ?_⟩
        try simp only [List.getElem_toArray, List.getElem_cons_succ, List.getElem_cons_zero, Act.put, List.setIfInBounds_toArray, List.set_cons_zero, List.set_cons_succ]
        change wpAnyH _ _ _ _ _ (0 + 1) _ _ _
        refine wpAnyH_take (i := 12) (by simp only [List.getElem?_toArray, List.getElem?_cons_succ, List.getElem?_cons_zero]; rfl) (by kernel_rfl) (by kernel_rfl) (by kernel_rfl) (fun _ _ _ h => by exact h) (.inl ⟨by rfl, fun u hu => by go_simp; try with_reducible rfl⟩) HS.out ?_
        try simp only [List.getElem_toArray, List.getElem_cons_succ, List.getElem_cons_zero, Act.put, List.setIfInBounds_toArray, List.set_cons_zero, List.set_cons_succ]
        refine wpAnyH_done (by kernel_rfl) ?_ _
        go_wp2_with ((first
          | ((with_reducible refine Hold.load HM.out 1 (cs := sayV Y) rfl rfl rfl rfl (Hold.Part.all _) (sayRow _) ?_))
          | ((with_reducible refine Hold.store HM.out 0 (v' := sayV Y) rfl rfl rfl rfl rfl (say_fits Y zeroX) (say_laid Y zeroX) (say_one Y) (sayRow Y) ?_); clear HM; intro w HM; simp only [List.set_cons_zero, List.set_cons_succ] at HM; replace HM := Lib.hid HM)))
        refine bodyPost_ret (Hold.resultsCT HM.out 0 rfl _ rfl rfl rfl (sayRow Y)) rfl ?_
        exact ⟨rfl, HM.out.below⟩
      · refine Hold.op_alloc HM.out (by simp only [List.getElem?_toArray, List.getElem?_cons_succ, List.getElem?_cons_zero]; rfl) rfl rfl zeroS zero_said ?_
        clear HM
        intro ba_5 wa_5 HM
        simp only [List.cons_append, List.nil_append] at HM
        replace HM := Lib.hid HM
        replace HS := Lib.hid (show Hold.Hld _ [⟨b6, 44, zeroS⟩] _ from Hold.Hld.front (m' := [_]) HM.out)
        refine ⟨HS.out, ?_⟩
        try simp only [List.getElem_toArray, List.getElem_cons_succ, List.getElem_cons_zero, Act.put, List.setIfInBounds_toArray, List.set_cons_zero, List.set_cons_succ]
        change wpAnyH _ _ _ _ _ (5 + 1) _ _ _
        refine wpAnyH_all (rs := [6]) (by kernel_rfl) (by simp) (fun j hj => ?_)
        obtain rfl : j = 6 := by simpa using hj
        refine Steady.call_any (i := 6) (by simp only [List.getElem?_toArray, List.getElem?_cons_succ, List.getElem?_cons_zero]; rfl) (by kernel_rfl) _ _ (by go_simp) (fun u w' => u = .tuple #[.agg (sayV Y).toArray, .bool true] ∧ Below _ _ w') ((RS2.out _).mono (fun e w' hh => ⟨_, hh.1, rfl, hh.2⟩)) ?_
        rintro u w6_6 ⟨rfl, hb⟩
        replace HM := Lib.hid (HM.out.next hb)
        clear hb
        replace HS := Lib.hid (show Hold.Hld _ [⟨b6, 44, zeroS⟩] _ from Hold.Hld.front (m' := [_]) HM.out)
        refine ⟨HS.out, ?_⟩
        try simp only [List.getElem_toArray, List.getElem_cons_succ, List.getElem_cons_zero, Act.put, List.setIfInBounds_toArray, List.set_cons_zero, List.set_cons_succ]
        change wpAnyH _ _ _ _ _ (4 + 1) _ _ _
        refine wpAnyH_take (i := 7) (by simp only [List.getElem?_toArray, List.getElem?_cons_succ, List.getElem?_cons_zero]; rfl) (by kernel_rfl) (by kernel_rfl) (by kernel_rfl) (fun _ _ _ h => by exact h) (.inl ⟨by rfl, fun u hu => by go_simp; try with_reducible rfl⟩) HS.out ?_
        try simp only [List.getElem_toArray, List.getElem_cons_succ, List.getElem_cons_zero, Act.put, List.setIfInBounds_toArray, List.set_cons_zero, List.set_cons_succ]
        change wpAnyH _ _ _ _ _ (3 + 1) _ _ _
        refine wpAnyH_take (i := 8) (by simp only [List.getElem?_toArray, List.getElem?_cons_succ, List.getElem?_cons_zero]; rfl) (by kernel_rfl) (by kernel_rfl) (by kernel_rfl) (fun _ _ _ h => by exact h) (.inl ⟨by rfl, fun u hu => by go_simp; try with_reducible rfl⟩) HS.out ?_
        try simp only [List.getElem_toArray, List.getElem_cons_succ, List.getElem_cons_zero, Act.put, List.setIfInBounds_toArray, List.set_cons_zero, List.set_cons_succ]
        change wpAnyH _ _ _ _ _ (2 + 1) _ _ _
        refine wpAnyH_take (i := 9) (by simp only [List.getElem?_toArray, List.getElem?_cons_succ, List.getElem?_cons_zero]; rfl) (by kernel_rfl) (by kernel_rfl) (by kernel_rfl) (fun _ _ _ h => by exact h) (.inl ⟨by rfl, fun u hu => by go_simp; try with_reducible rfl⟩) HS.out ?_
        try simp only [List.getElem_toArray, List.getElem_cons_succ, List.getElem_cons_zero, Act.put, List.setIfInBounds_toArray, List.set_cons_zero, List.set_cons_succ]
        change wpAnyH _ _ _ _ _ (1 + 1) _ _ _
        refine wpAnyH_all (rs := [11]) (by kernel_rfl) (by simp) (fun j hj => ?_)
        obtain rfl : j = 11 := by simpa using hj
        refine op_store_any HM.out 1 (i := 11) (v' := sayV Y) (by simp only [List.getElem?_toArray, List.getElem?_cons_succ, List.getElem?_cons_zero]; rfl) rfl rfl rfl rfl rfl (say_fits _ _) (say_laid _ _) (say_one _) (sayRow _) ?_
        clear HM
        intro ws_7 HM
        simp only [List.set_cons_zero, List.set_cons_succ] at HM
        replace HM := Lib.hid HM
        replace HS := Lib.hid (show Hold.Hld _ [⟨b6, 44, zeroS⟩] _ from Hold.Hld.front (m' := [_]) HM.out)
        refine ⟨HS.out, ?_⟩
        try simp only [List.getElem_toArray, List.getElem_cons_succ, List.getElem_cons_zero, Act.put, List.setIfInBounds_toArray, List.set_cons_zero, List.set_cons_succ]
        change wpAnyH _ _ _ _ _ (0 + 1) _ _ _
        refine wpAnyH_take (i := 12) (by simp only [List.getElem?_toArray, List.getElem?_cons_succ, List.getElem?_cons_zero]; rfl) (by kernel_rfl) (by kernel_rfl) (by kernel_rfl) (fun _ _ _ h => by exact h) (.inl ⟨by rfl, fun u hu => by go_simp; try with_reducible rfl⟩) HS.out ?_
        try simp only [List.getElem_toArray, List.getElem_cons_succ, List.getElem_cons_zero, Act.put, List.setIfInBounds_toArray, List.set_cons_zero, List.set_cons_succ]
        refine wpAnyH_done (by kernel_rfl) ?_ _
        go_wp2_with ((first
          | ((with_reducible refine Hold.load HM.out 1 (cs := sayV Y) rfl rfl rfl rfl (Hold.Part.all _) (sayRow _) ?_))
          | ((with_reducible refine Hold.store HM.out 0 (v' := sayV Y) rfl rfl rfl rfl rfl (say_fits Y zeroX) (say_laid Y zeroX) (say_one Y) (sayRow Y) ?_); clear HM; intro w HM; simp only [List.set_cons_zero, List.set_cons_succ] at HM; replace HM := Lib.hid HM)))
        refine bodyPost_ret (Hold.resultsCT HM.out 0 rfl _ rfl rfl rfl (sayRow Y)) rfl ?_
        exact ⟨rfl, HM.out.below⟩
    · refine Hold.op_alloc HM.out (by simp only [List.getElem?_toArray, List.getElem?_cons_succ, List.getElem?_cons_zero]; rfl) rfl rfl zeroS zero_said ?_
      clear HM
      intro ba_8 wa_8 HM
      simp only [List.cons_append, List.nil_append] at HM
      replace HM := Lib.hid HM
      replace HS := Lib.hid (show Hold.Hld _ [⟨b6, 44, zeroS⟩] _ from Hold.Hld.front (m' := [_]) HM.out)
      refine ⟨HS.out, ?_⟩
      try simp only [List.getElem_toArray, List.getElem_cons_succ, List.getElem_cons_zero, Act.put, List.setIfInBounds_toArray, List.set_cons_zero, List.set_cons_succ]
      change wpAnyH _ _ _ _ _ (6 + 1) _ _ _
      refine wpAnyH_all (rs := [4]) (by kernel_rfl) (by simp) (fun j hj => ?_)
      obtain rfl : j = 4 := by simpa using hj
      refine Steady.call_any (i := 4) (by simp only [List.getElem?_toArray, List.getElem?_cons_succ, List.getElem?_cons_zero]; rfl) (by kernel_rfl) _ _ (by go_simp) (fun u w' => u = .string BD ∧ Below _ _ w') ((RM.out _ (HL.out.below HM.out.below)).mono (fun e w' hh => ⟨_, hh.1, rfl, hh.2⟩)) ?_
      rintro u w6_9 ⟨rfl, hb⟩
      replace HM := Lib.hid (HM.out.next hb)
      clear hb
      replace HS := Lib.hid (show Hold.Hld _ [⟨b6, 44, zeroS⟩] _ from Hold.Hld.front (m' := [_]) HM.out)
      refine ⟨HS.out, ?_⟩
      try simp only [List.getElem_toArray, List.getElem_cons_succ, List.getElem_cons_zero, Act.put, List.setIfInBounds_toArray, List.set_cons_zero, List.set_cons_succ]
      change wpAnyH _ _ _ _ _ (5 + 1) _ _ _
      refine wpAnyH_all (rs := [6]) (by kernel_rfl) (by simp) (fun j hj => ?_)
      obtain rfl : j = 6 := by simpa using hj
      refine Steady.call_any (i := 6) (by simp only [List.getElem?_toArray, List.getElem?_cons_succ, List.getElem?_cons_zero]; rfl) (by kernel_rfl) _ _ (by go_simp) (fun u w' => u = .tuple #[.agg (sayV Y).toArray, .bool true] ∧ Below _ _ w') ((RS2.out _).mono (fun e w' hh => ⟨_, hh.1, rfl, hh.2⟩)) ?_
      rintro u w6_10 ⟨rfl, hb⟩
      replace HM := Lib.hid (HM.out.next hb)
      clear hb
      replace HS := Lib.hid (show Hold.Hld _ [⟨b6, 44, zeroS⟩] _ from Hold.Hld.front (m' := [_]) HM.out)
      refine ⟨HS.out, ?_⟩
      try simp only [List.getElem_toArray, List.getElem_cons_succ, List.getElem_cons_zero, Act.put, List.setIfInBounds_toArray, List.set_cons_zero, List.set_cons_succ]
      change wpAnyH _ _ _ _ _ (4 + 1) _ _ _
      refine wpAnyH_take (i := 7) (by simp only [List.getElem?_toArray, List.getElem?_cons_succ, List.getElem?_cons_zero]; rfl) (by kernel_rfl) (by kernel_rfl) (by kernel_rfl) (fun _ _ _ h => by exact h) (.inl ⟨by rfl, fun u hu => by go_simp; try with_reducible rfl⟩) HS.out ?_
      try simp only [List.getElem_toArray, List.getElem_cons_succ, List.getElem_cons_zero, Act.put, List.setIfInBounds_toArray, List.set_cons_zero, List.set_cons_succ]
      change wpAnyH _ _ _ _ _ (3 + 1) _ _ _
      refine wpAnyH_take (i := 8) (by simp only [List.getElem?_toArray, List.getElem?_cons_succ, List.getElem?_cons_zero]; rfl) (by kernel_rfl) (by kernel_rfl) (by kernel_rfl) (fun _ _ _ h => by exact h) (.inl ⟨by rfl, fun u hu => by go_simp; try with_reducible rfl⟩) HS.out ?_
      try simp only [List.getElem_toArray, List.getElem_cons_succ, List.getElem_cons_zero, Act.put, List.setIfInBounds_toArray, List.set_cons_zero, List.set_cons_succ]
      change wpAnyH _ _ _ _ _ (2 + 1) _ _ _
      refine wpAnyH_take (i := 9) (by simp only [List.getElem?_toArray, List.getElem?_cons_succ, List.getElem?_cons_zero]; rfl) (by kernel_rfl) (by kernel_rfl) (by kernel_rfl) (fun _ _ _ h => by exact h) (.inl ⟨by rfl, fun u hu => by go_simp; try with_reducible rfl⟩) HS.out ?_
      try simp only [List.getElem_toArray, List.getElem_cons_succ, List.getElem_cons_zero, Act.put, List.setIfInBounds_toArray, List.set_cons_zero, List.set_cons_succ]
      change wpAnyH _ _ _ _ _ (1 + 1) _ _ _
      refine wpAnyH_all (rs := [11]) (by kernel_rfl) (by simp) (fun j hj => ?_)
      obtain rfl : j = 11 := by simpa using hj
      refine op_store_any HM.out 1 (i := 11) (v' := sayV Y) (by simp only [List.getElem?_toArray, List.getElem?_cons_succ, List.getElem?_cons_zero]; rfl) rfl rfl rfl rfl rfl (say_fits _ _) (say_laid _ _) (say_one _) (sayRow _) ?_
      clear HM
      intro ws_11 HM
      simp only [List.set_cons_zero, List.set_cons_succ] at HM
      replace HM := Lib.hid HM
      replace HS := Lib.hid (show Hold.Hld _ [⟨b6, 44, zeroS⟩] _ from Hold.Hld.front (m' := [_]) HM.out)
      refine ⟨HS.out, ?_⟩
      try simp only [List.getElem_toArray, List.getElem_cons_succ, List.getElem_cons_zero, Act.put, List.setIfInBounds_toArray, List.set_cons_zero, List.set_cons_succ]
      change wpAnyH _ _ _ _ _ (0 + 1) _ _ _
      refine wpAnyH_take (i := 12) (by simp only [List.getElem?_toArray, List.getElem?_cons_succ, List.getElem?_cons_zero]; rfl) (by kernel_rfl) (by kernel_rfl) (by kernel_rfl) (fun _ _ _ h => by exact h) (.inl ⟨by rfl, fun u hu => by go_simp; try with_reducible rfl⟩) HS.out ?_
      try simp only [List.getElem_toArray, List.getElem_cons_succ, List.getElem_cons_zero, Act.put, List.setIfInBounds_toArray, List.set_cons_zero, List.set_cons_succ]
      refine wpAnyH_done (by kernel_rfl) ?_ _
      go_wp2_with ((first
        | ((with_reducible refine Hold.load HM.out 1 (cs := sayV Y) rfl rfl rfl rfl (Hold.Part.all _) (sayRow _) ?_))
        | ((with_reducible refine Hold.store HM.out 0 (v' := sayV Y) rfl rfl rfl rfl rfl (say_fits Y zeroX) (say_laid Y zeroX) (say_one Y) (sayRow Y) ?_); clear HM; intro w HM; simp only [List.set_cons_zero, List.set_cons_succ] at HM; replace HM := Lib.hid HM)))
      refine bodyPost_ret (Hold.resultsCT HM.out 0 rfl _ rfl rfl rfl (sayRow Y)) rfl ?_
      exact ⟨rfl, HM.out.below⟩
end Go.Proofs.YtedgpglldlohfaaDoor.Frl
