/-
  Wrap of the document's answer for layer 11: what is answered is what the plain mathematics says, in a row of its own; all memory that was there stays as it was. Conditions: that numbers and lengths fit.
-/
import Derived.Test.YthlhhmhldpmpiaaDoorRPhrF
import Derived.Test.YthlhhmhldpmpiaaDoorPhrN
import Derived.Test.YthlhhmhldpmpiaaDoorPhrO
namespace Go.Proofs.YthlhhmhldpmpiaaDoor.RPhr
open Go.RowKit Mur Phr Runs
set_option maxRecDepth 100000

theorem text_empty (l : List Nat) (h : l = []) : (tx (text l)).toList.isEmpty = true := by
  rw [h, Go.ByteArray.toList_eq]
  rfl
theorem text_solid (l : List Nat) (h : l ≠ []) : (tx (text l)).toList.isEmpty = false := by
  rw [Go.ByteArray.toList_eq]
  show (text l).isEmpty = false
  have h1 := (text_length l).1
  have h0 : l.length ≠ 0 := fun e => h (List.eq_nil_of_length_eq_zero e)
  cases hx : text l with
  | nil => rw [hx] at h1; exact absurd (Nat.le_zero.1 h1) h0
  | cons _ _ => rfl
/-- A count of a text of runes. -/
theorem count_text (l : List Nat) (N : Nat) (u : World) (h : ∀ c ∈ l, may c = true) (hN : N = l.length) (hs : (text l).length ≤ 1000000) :
    Calls Tryd.prog 13 #[.string (tx (text l))] u fun e w' => e = .returned (.int .i64 (N : Int)) ∧ Below u.heap.size u w' :=
  count_any (tx (text l)) (N : Int) u (by rw [tx_list, Phr.count, rs_text l h, hN]) (by rw [tx_size]; exact hs)
theorem wrapGo_on (m : Nat) (line w : List Nat) (ws : List (List Nat)) (h : line ≠ [] ∧ line.length + 1 + w.length ≤ m) : wrapGo m line (w :: ws) = wrapGo m (line ++ 32 :: w) ws := by rw [wrapGo, if_pos h]
theorem wrapGo_new (m : Nat) (line w : List Nat) (ws : List (List Nat)) (h : ¬ (line ≠ [] ∧ line.length + 1 + w.length ≤ m)) : wrapGo m line (w :: ws) = Phr.begun line ++ ((chop m w).1 ++ wrapGo m (chop m w).2 ws) := by rw [wrapGo, if_neg h]
theorem lines_len (acc X : List (List Nat)) (L : List (List Nat)) (h : L = acc ++ X) : acc.length ≤ L.length := by rw [h, List.length_append]; omega

set_option maxHeartbeats 12800000 in
theorem wrap_any (s : ByteArray) (wd : Int) (w : World) (L : List (List Nat)) (hL : L = wrap wd (rs s.data.toList)) (hcnt : L.length ≤ 100000) (h1 : -9223372036854775808 ≤ wd) (h2 : wd ≤ 9223372036854775807) (hs : s.size ≤ 400) :
    Calls Tryd.prog 36 #[.string s, .int .i64 wd] w fun e w' => ∃ v, e = .returned v ∧ w'.ownsRow w.heap.size 9 1 v L.length (Strs.strsV (wordsT L)) ∧ Below w.heap.size w w' := by
  by_cases hwd : wd < 1
  · have hd : decide (wd < 1) = true := decide_eq_true hwd
    obtain rfl : L = [] := by rw [hL, wrap, if_pos hwd]
    clear hL h1 h2 hs hwd hcnt
    go_enter Tryd.func36, Tryd.ntmps36
    go_wp2
    go_ret
    exact ⟨_, rfl, World.ownsRow_nil _ _ _ _, Below.refl _ _⟩
  · have hd : decide (wd < 1) = false := decide_eq_false hwd
    obtain ⟨m, hm⟩ : ∃ m : Nat, m = wd.toNat := ⟨_, rfl⟩
    have hm0 : 0 < m := by omega
    have hwm : wd = (m : Int) := by omega
    obtain ⟨W, hW⟩ : ∃ W, W = split (rs s.data.toList) := ⟨_, rfl⟩
    obtain ⟨n, hn⟩ : ∃ n, n = W.length := ⟨_, rfl⟩
    have R1 := Lib.hid (fun u => split_any s u W hW (by omega))
    rw [← hn] at R1
    have hn2 : n ≤ 401 := by
      have h3 := split_count (rs s.data.toList)
      have h4 := rs_length s.data.toList
      have h5 : s.data.toList.length = s.size := rfl
      rw [hn, hW]
      omega
    have HWM := Lib.hid (show ∀ v ∈ W, v ≠ [] ∧ (∀ c ∈ v, may c = true) ∧ v.length ≤ 400 from fun v hv => by
      rw [hW] at hv
      have h3 := split_words (fun c => may c = true) (rs s.data.toList) (rs_may _) v hv
      have h4 := long_mem v _ hv
      have h5 := split_long (rs s.data.toList)
      have h6 := rs_length s.data.toList
      have h7 : s.data.toList.length = s.size := rfl
      exact ⟨h3.1, fun c hc => (h3.2 c hc).2, by omega⟩)
    have HLW := Lib.hid (show L = wrapGo m [] W by rw [hL, wrap, if_neg hwd, ← hm, ← hW])
    have HM := Lib.hid hm0
    have HN := Lib.hid hn
    have HCNT := Lib.hid hcnt
    subst hwm
    clear hL hm hm0 hW hn h1 hs hwd hcnt
    go_enter Tryd.func36, Tryd.ntmps36
    go_wp2_with fail
    refine (R1.out _).mono ?_
    rintro e w1 ⟨v, rfl, hown, hb1⟩
    have HW1 := Lib.hid hb1
    have HO1 := Lib.hid hown
    obtain ⟨ao, c, rfl, -, -, -⟩ := Strs.own_slice hown
    clear hb1 hown R1
    go_wp2_with fail
    go_loopg [5, 6, 15] n (fun gk o ln i wr => ∃ (k : Nat) (acc : List (List Nat)) (line : List Nat), k + gk = n ∧ i = .int .i64 k ∧ ln = .string (tx (text line)) ∧ line.length ≤ 1000 * k ∧ line.length ≤ m ∧ (∀ c ∈ line, may c = true) ∧ L = acc ++ wrapGo m line (W.drop k) ∧ wr.ownsRow w1.heap.size 9 1 o acc.length (Strs.strsV (wordsT acc)) ∧ Below w1.heap.size w1 wr)
    case atStart => exact ⟨0, [], [], by omega, rfl, rfl, Nat.zero_le _, Nat.zero_le _, fun c hc => (by cases hc), HLW.out, World.ownsRow_nil _ _ _ _, Below.refl _ _⟩
    case round =>
      clear HLW
      obtain ⟨k, acc, line, hk, rfl, rfl, hl1, hl2, hlm, hLt, hown, hbel⟩ := hrel
      have HAL := Lib.hid (lines_len _ _ _ hLt)
      have HLT := Lib.hid hLt
      have HO := Lib.hid hown
      have HB := Lib.hid hbel
      have HLM := Lib.hid hlm
      have HL1 := Lib.hid hl1
      have HL2 := Lib.hid hl2
      clear hLt hown hlm hl1 hl2
      by_cases hlt : k < n
      · obtain ⟨g', rfl⟩ : ∃ g', gk = g' + 1 := ⟨gk - 1, by omega⟩
        obtain ⟨v, hv⟩ : ∃ v, W[k]? = some v := ⟨_, List.getElem?_eq_getElem (show k < W.length by have := HN.out; omega)⟩
        obtain ⟨ao', c', heq, -, -, hrow⟩ := Strs.own_slice (Strs.own_below HO1.out hbel)
        injection heq with e1 e2 e3
        subst e1
        clear e2 e3
        obtain ⟨gb, rfl, -, -, hcell⟩ := hrow k _ (Strs.strsV_at (by simp [wordsT, hv]) : (Strs.strsV (wordsT W))[k]? = some (.string (tx (text v))))
        obtain ⟨hvn, hvm, hvl⟩ := HWM.out v (List.mem_of_getElem? hv)
        have hdr : W.drop k = v :: W.drop (k + 1) := by
          obtain ⟨hk2, rfl⟩ := List.getElem?_eq_some_iff.1 hv
          exact List.drop_eq_getElem_cons hk2
        have htv : (text v).length ≤ 800 := by have := (text_length v).2; omega
        have htl : (text line).length ≤ 1000000 := by have := (text_length line).2; have := HL1.out; omega
        obtain ⟨p, hp⟩ : ∃ p, p = line.length := ⟨_, rfl⟩
        obtain ⟨r, hr⟩ : ∃ r, r = v.length := ⟨_, rfl⟩
        have R2 := Lib.hid (fun u => count_text line p u HLM.out hp htl)
        have R3 := Lib.hid (fun u => count_text v r u hvm hr (by omega))
        have HVM := Lib.hid hvm
        have HVN := Lib.hid hvn
        have HP := Lib.hid hp
        have HR := Lib.hid hr
        have hpk : p ≤ 1000 * k := by have := HL1.out; omega
        have hrl : r ≤ 400 := by omega
        by_cases hcond : line ≠ [] ∧ line.length + 1 + v.length ≤ m
        · have hne := text_solid line hcond.1
          have hd1 : decide ((p : Int) + 1 + (r : Int) ≤ (m : Int)) = true := decide_eq_true (by omega)
          have hd2 : decide (p + 1 + r ≤ m) = true := decide_eq_true (by omega)
          have HLT2 := Lib.hid (show L = acc ++ wrapGo m (line ++ 32 :: v) (W.drop (k + 1)) by rw [HLT.out, hdr, wrapGo_on m line v _ hcond])
          obtain ⟨V2, hV2⟩ : ∃ V2, V2 = tx (32 :: text v) := ⟨_, rfl⟩
          have hj1 : (⟨#[32]⟩ : ByteArray) ++ tx (text v) = V2 := by rw [hV2]; exact tx_append [32] (text v)
          have hj2 : tx (text line) ++ V2 = tx (text (line ++ 32 :: v)) := by
            rw [hV2, tx_append, text_append, text_cons]
            rfl
          have hb1 : ¬ 9223372036854775807 < (⟨#[32]⟩ : ByteArray).size + (tx (text v)).size := by show ¬ _ < 1 + (text v).length; omega
          have hb2 : ¬ 9223372036854775807 < (tx (text line)).size + V2.size := by
            rw [hV2, tx_size, tx_size, List.length_cons]
            omega
          have HM2 := Lib.hid (show ∀ c ∈ line ++ 32 :: v, may c = true from fun c hc => by
            rcases List.mem_append.1 hc with hc | hc
            · exact HLM.out c hc
            · rcases List.mem_cons.1 hc with rfl | hc
              · decide
              · exact HVM.out c hc)
          have HLL := Lib.hid (show (line ++ 32 :: v).length ≤ 1000 * (k + 1) ∧ (line ++ 32 :: v).length ≤ m by rw [List.length_append, List.length_cons]; omega)
          generalize tx (text v) = V at *
          generalize tx (text line) = Z at *
          generalize hY : tx (text (line ++ 32 :: v)) = Y at *
          have HY := Lib.hid hY
          clear hY hV2 hdr hv hrow hcond hvn hvm hvl htv htl hbel hp hr
          go_wp2_with fail
          refine (R2.out _).mono ?_
          rintro e w3 ⟨rfl, hb3⟩
          have HO3 := Lib.hid (Strs.own_below HO.out hb3)
          have HB3 := Lib.hid (HB.out.trans (hb3.mono HB.out.size))
          clear hb3 HO HB hcell
          go_wp2_with fail
          refine (R3.out _).mono ?_
          rintro e w4 ⟨rfl, hb4⟩
          have HO4 := Lib.hid (Strs.own_below HO3.out hb4)
          have HB4 := Lib.hid (HB3.out.trans (hb4.mono HB3.out.size))
          clear hb4 HO3 HB3
          go_wp2
          go_roundg g'
          case measure => omega
          case rel => exact ⟨k + 1, acc, line ++ 32 :: v, by omega, by go_num, by rw [HY.out], HLL.out.1, HLL.out.2, HM2.out, HLT2.out, HO4.out, HB4.out⟩
        · have HLT2 := Lib.hid (show L = acc ++ (Phr.begun line ++ ((chop m v).1 ++ wrapGo m (chop m v).2 (W.drop (k + 1)))) by rw [HLT.out, hdr, wrapGo_new m line v _ hcond])
          have HVL := Lib.hid hvl
          by_cases hline : line = []
          · have he := text_empty line hline
            have HBE := Lib.hid (show Phr.begun line = [] by rw [Phr.begun, if_pos hline])
            have hv0 : True := trivial
            generalize tx (text line) = Z at *
            have HOZ := Lib.hid HO.out
            have HBZ := Lib.hid HB.out
            clear hdr hv hrow hcond hvn hvm hvl htv htl hbel hp hr hline HO HB
            have HCHP := Lib.hid (show L = (acc) ++ ((chop m v).1 ++ wrapGo m (chop m v).2 (W.drop (k + 1))) from by rw [HLT2.out, HBE.out, List.nil_append])
            go_wp2_with fail
            obtain ⟨wo, rfl⟩ : ∃ wo, wo = wr := ⟨wr, rfl⟩
            go_loopg [5, 8] v.length (fun gi o x wi => ∃ (acc2 : List (List Nat)) (rest : List Nat), rest.length ≤ gi ∧ rest.length ≤ 400 ∧ x = .string (tx (text rest)) ∧ rest ≠ [] ∧ (∀ c ∈ rest, may c = true) ∧ L = acc2 ++ ((chop m rest).1 ++ wrapGo m (chop m rest).2 (W.drop (k + 1))) ∧ wi.ownsRow w1.heap.size 9 1 o acc2.length (Strs.strsV (wordsT acc2)) ∧ Below w1.heap.size w1 wi)
            case atStart => exact ⟨_, v, Nat.le_refl _, HVL.out, rfl, HVN.out, HVM.out, HCHP.out, HOZ.out, HBZ.out⟩
            case round =>
              clear HCHP HOZ HBZ
              obtain ⟨acc2, rest, hg, hr4, rfl, hrn, hrm, hLr, hownr, hbelr⟩ := hrel
              have HOR := Lib.hid hownr
              have HBR := Lib.hid hbelr
              have HRM := Lib.hid hrm
              have HRN := Lib.hid hrn
              have HLR := Lib.hid hLr
              have HG := Lib.hid hg
              have HR4 := Lib.hid hr4
              have HAL2 := Lib.hid (lines_len _ _ _ hLr)
              obtain ⟨q, hq⟩ : ∃ q, q = rest.length := ⟨_, rfl⟩
              have htr : (text rest).length ≤ 800 := by have := (text_length rest).2; omega
              have R4 := Lib.hid (fun u => count_text rest q u hrm hq (by omega))
              have HQ := Lib.hid hq
              clear hg hrn hrm hLr hownr hbelr
              by_cases hbig : m < q
              · have hd3 : decide ((m : Int) < (q : Int)) = true := decide_eq_true (by omega)
                have hd4 : decide (m < q) = true := decide_eq_true hbig
                obtain ⟨A, hA⟩ : ∃ A, A = tx (text (rest.take m)) := ⟨_, rfl⟩
                obtain ⟨D, hD⟩ : ∃ D, D = tx (text (rest.drop m)) := ⟨_, rfl⟩
                have hcl : clamp (m : Int) rest.length = m := by unfold clamp; omega
                have R5 := Lib.hid (fun u => cut_any (tx (text rest)) (m : Int) A u (by rw [hA, tx_list, cutB, rs_text rest HRM.out, hcl]) (by omega) (by omega) (by rw [tx_size]; omega))
                have hAl : A.size = (text (rest.take m)).length := by rw [hA, tx_size]
                have hAle : A.size ≤ (tx (text rest)).size := by
                  have h1 := congrArg List.length (text_take rest m)
                  rw [List.length_take] at h1
                  rw [hAl, tx_size]
                  omega
                have hsl : ∀ u, (Instr.slice 9 (.string (tx (text rest))) (some (.int .i64 (A.size : Int))) none none).run Tryd.prog u = .ok (.string D) u := fun u => by
                  have := run_slice_string_l (P := Tryd.prog) u 9 (tx (text rest)) Tryd.underlying9 .i64 (A.size : Int) (by omega) (by omega)
                  rw [this, Int.toNat_natCast, tx_extract, hD, hAl]
                  show Result.ok (Value.string (tx (((text rest).drop _).take _))) u = _
                  rw [text_drop, List.take_of_length_le (by rw [← text_drop, List.length_drop]; exact Nat.le_refl _)]
                have hdl : (rest.drop m).length = q - m := by rw [List.length_drop, hq]
                have HDN := Lib.hid (show rest.drop m ≠ [] from fun e => by rw [e] at hdl; simp at hdl; omega)
                have HL2R := Lib.hid (show L = (acc2 ++ [rest.take m]) ++ ((chop m (rest.drop m)).1 ++ wrapGo m (chop m (rest.drop m)).2 (W.drop (k + 1))) by
                  rw [HLR.out, chop_more m rest HM.out (by omega), List.append_assoc]
                  rfl)
                have HDM := Lib.hid (show ∀ c ∈ rest.drop m, may c = true from fun c hc => HRM.out c (List.mem_of_mem_drop hc))
                have HDL := Lib.hid (show (rest.drop m).length < rest.length ∧ (rest.drop m).length ≤ 400 by have := HM.out; have := HQ.out; have := HR4.out; omega)
                have HA := Lib.hid hA
                have HD := Lib.hid hD
                generalize tx (text rest) = X at *
                clear hA hD hcl hAl hAle hdl hq htr hr4 HQ
                go_wp2_with fail
                refine (R4.out _).mono ?_
                rintro e w5 ⟨rfl, hb5⟩
                have HO5 := Lib.hid (Strs.own_below HOR.out hb5)
                have HB5 := Lib.hid (HBR.out.trans (hb5.mono HBR.out.size))
                clear hb5 HOR HBR
                go_wp2_with fail
                refine (R5.out _).mono ?_
                rintro e w6 ⟨rfl, hb6⟩
                have HO6 := Lib.hid (Strs.own_below HO5.out hb6)
                have HB6 := Lib.hid (HB5.out.trans (hb6.mono HB5.out.size))
                clear hb6 HO5 HB5
                go_wp2_with (at_builtin; refine Strs.append_strs rfl _ _ rfl w1.heap.size acc2.length _ (wordsT acc2) rfl (HO6.out.alloc _) w6.heap.size 1 1 [A] rfl rfl (Strs.new_one _ _ _) (by have := HAL2.out; have := HCNT.out; omega) (Nat.le_trans HB6.out.size (by simp)) ?_)
                intro v7 w7 hown7 hgrow7
                have HW7 := Lib.hid ((HB6.out.alloc HB6.out.size (.cells #[.string A] 9)).grown hgrow7 (Nat.le_trans HB6.out.size (by simp)) (fun j hj => (HO6.out.lt j hj).1))
                rw [HA.out, wordsT_snoc] at hown7
                have HO7 := Lib.hid hown7
                clear hown7 hgrow7
                go_wp2
                go_roundg (rest.drop m).length
                case measure => have := HDL.out.1; have := HG.out; omega
                case rel => exact ⟨acc2 ++ [rest.take m], rest.drop m, Nat.le_refl _, HDL.out.2, by rw [HD.out], HDN.out, HDM.out, HL2R.out, by rw [show (acc2 ++ [rest.take m]).length = acc2.length + 1 by simp]; exact HO7.out, HW7.out⟩
              · have hd3 : decide ((m : Int) < (q : Int)) = false := decide_eq_false (by omega)
                have hd4 : decide (m < q) = false := decide_eq_false hbig
                have HLE := Lib.hid (show L = acc2 ++ wrapGo m rest (W.drop (k + 1)) by
                  rw [HLR.out, chop_end m rest (by omega)]
                  rfl)
                have HRL := Lib.hid (show rest.length ≤ 1000 * (k + 1) ∧ rest.length ≤ m by omega)
                generalize hXX : tx (text rest) = X at *
                have HXX := Lib.hid hXX
                clear hq htr hr4 hXX
                go_wp2_with fail
                refine (R4.out _).mono ?_
                rintro e w5 ⟨rfl, hb5⟩
                have HO5 := Lib.hid (Strs.own_below HOR.out hb5)
                have HB5 := Lib.hid (HBR.out.trans (hb5.mono HBR.out.size))
                clear hb5 HOR HBR
                go_wp2
                go_roundg g'
                case measure => omega
                case rel => exact ⟨k + 1, acc2, rest, by omega, by go_num, by rw [HXX.out], HRL.out.1, HRL.out.2, HRM.out, HLE.out, HO5.out, HB5.out⟩
          · have hne := text_solid line hline
            have HBE := Lib.hid (show Phr.begun line = [line] by rw [Phr.begun, if_neg hline])
            have hnot : ¬ p + 1 + r ≤ m := fun h => hcond ⟨hline, by omega⟩
            have hd1 : decide ((p : Int) + 1 + (r : Int) ≤ (m : Int)) = false := decide_eq_false (by omega)
            have hd2 : decide (p + 1 + r ≤ m) = false := decide_eq_false hnot
            obtain ⟨Z, hZ⟩ : ∃ Z, Z = tx (text line) := ⟨_, rfl⟩
            rw [← hZ] at hne R2 ⊢
            have HZ := Lib.hid hZ
            clear hdr hv hrow hcond hvn hvm hvl htv htl hbel hp hr hline hZ hnot
            go_wp2_with fail
            refine (R2.out _).mono ?_
            rintro e w3 ⟨rfl, hb3⟩
            have HO3 := Lib.hid (Strs.own_below HO.out hb3)
            have HB3 := Lib.hid (HB.out.trans (hb3.mono HB.out.size))
            clear hb3 HO HB hcell
            go_wp2_with fail
            refine (R3.out _).mono ?_
            rintro e w4 ⟨rfl, hb4⟩
            have HO4 := Lib.hid (Strs.own_below HO3.out hb4)
            have HB4 := Lib.hid (HB3.out.trans (hb4.mono HB3.out.size))
            clear hb4 HO3 HB3
            go_wp2_with (at_builtin; refine Strs.append_strs rfl _ _ rfl w1.heap.size acc.length _ (wordsT acc) rfl (HO4.out.alloc _) w4.heap.size 1 1 [Z] rfl rfl (Strs.new_one _ _ _) (by have := HAL.out; have := HCNT.out; omega) (Nat.le_trans HB4.out.size (by simp)) ?_)
            intro vz wz hownz hgrowz
            have HBZ := Lib.hid ((HB4.out.alloc HB4.out.size (.cells #[.string Z] 9)).grown hgrowz (Nat.le_trans HB4.out.size (by simp)) (fun j hj => (HO4.out.lt j hj).1))
            rw [HZ.out, wordsT_snoc, show acc.length + 1 = (acc ++ [line]).length by simp] at hownz
            have HOZ := Lib.hid hownz
            clear hownz hgrowz
            have HCHP := Lib.hid (show L = (acc ++ [line]) ++ ((chop m v).1 ++ wrapGo m (chop m v).2 (W.drop (k + 1))) from by rw [HLT2.out, HBE.out, ← List.append_assoc])
            go_wp2_with fail
            obtain ⟨wo, rfl⟩ : ∃ wo, wo = wz := ⟨wz, rfl⟩
            go_loopg [5, 8] v.length (fun gi o x wi => ∃ (acc2 : List (List Nat)) (rest : List Nat), rest.length ≤ gi ∧ rest.length ≤ 400 ∧ x = .string (tx (text rest)) ∧ rest ≠ [] ∧ (∀ c ∈ rest, may c = true) ∧ L = acc2 ++ ((chop m rest).1 ++ wrapGo m (chop m rest).2 (W.drop (k + 1))) ∧ wi.ownsRow w1.heap.size 9 1 o acc2.length (Strs.strsV (wordsT acc2)) ∧ Below w1.heap.size w1 wi)
            case atStart => exact ⟨_, v, Nat.le_refl _, HVL.out, rfl, HVN.out, HVM.out, HCHP.out, HOZ.out, HBZ.out⟩
            case round =>
              clear HCHP HOZ HBZ
              obtain ⟨acc2, rest, hg, hr4, rfl, hrn, hrm, hLr, hownr, hbelr⟩ := hrel
              have HOR := Lib.hid hownr
              have HBR := Lib.hid hbelr
              have HRM := Lib.hid hrm
              have HRN := Lib.hid hrn
              have HLR := Lib.hid hLr
              have HG := Lib.hid hg
              have HR4 := Lib.hid hr4
              have HAL2 := Lib.hid (lines_len _ _ _ hLr)
              obtain ⟨q, hq⟩ : ∃ q, q = rest.length := ⟨_, rfl⟩
              have htr : (text rest).length ≤ 800 := by have := (text_length rest).2; omega
              have R4 := Lib.hid (fun u => count_text rest q u hrm hq (by omega))
              have HQ := Lib.hid hq
              clear hg hrn hrm hLr hownr hbelr
              by_cases hbig : m < q
              · have hd3 : decide ((m : Int) < (q : Int)) = true := decide_eq_true (by omega)
                have hd4 : decide (m < q) = true := decide_eq_true hbig
                obtain ⟨A, hA⟩ : ∃ A, A = tx (text (rest.take m)) := ⟨_, rfl⟩
                obtain ⟨D, hD⟩ : ∃ D, D = tx (text (rest.drop m)) := ⟨_, rfl⟩
                have hcl : clamp (m : Int) rest.length = m := by unfold clamp; omega
                have R5 := Lib.hid (fun u => cut_any (tx (text rest)) (m : Int) A u (by rw [hA, tx_list, cutB, rs_text rest HRM.out, hcl]) (by omega) (by omega) (by rw [tx_size]; omega))
                have hAl : A.size = (text (rest.take m)).length := by rw [hA, tx_size]
                have hAle : A.size ≤ (tx (text rest)).size := by
                  have h1 := congrArg List.length (text_take rest m)
                  rw [List.length_take] at h1
                  rw [hAl, tx_size]
                  omega
                have hsl : ∀ u, (Instr.slice 9 (.string (tx (text rest))) (some (.int .i64 (A.size : Int))) none none).run Tryd.prog u = .ok (.string D) u := fun u => by
                  have := run_slice_string_l (P := Tryd.prog) u 9 (tx (text rest)) Tryd.underlying9 .i64 (A.size : Int) (by omega) (by omega)
                  rw [this, Int.toNat_natCast, tx_extract, hD, hAl]
                  show Result.ok (Value.string (tx (((text rest).drop _).take _))) u = _
                  rw [text_drop, List.take_of_length_le (by rw [← text_drop, List.length_drop]; exact Nat.le_refl _)]
                have hdl : (rest.drop m).length = q - m := by rw [List.length_drop, hq]
                have HDN := Lib.hid (show rest.drop m ≠ [] from fun e => by rw [e] at hdl; simp at hdl; omega)
                have HL2R := Lib.hid (show L = (acc2 ++ [rest.take m]) ++ ((chop m (rest.drop m)).1 ++ wrapGo m (chop m (rest.drop m)).2 (W.drop (k + 1))) by
                  rw [HLR.out, chop_more m rest HM.out (by omega), List.append_assoc]
                  rfl)
                have HDM := Lib.hid (show ∀ c ∈ rest.drop m, may c = true from fun c hc => HRM.out c (List.mem_of_mem_drop hc))
                have HDL := Lib.hid (show (rest.drop m).length < rest.length ∧ (rest.drop m).length ≤ 400 by have := HM.out; have := HQ.out; have := HR4.out; omega)
                have HA := Lib.hid hA
                have HD := Lib.hid hD
                generalize tx (text rest) = X at *
                clear hA hD hcl hAl hAle hdl hq htr hr4 HQ
                go_wp2_with fail
                refine (R4.out _).mono ?_
                rintro e w5 ⟨rfl, hb5⟩
                have HO5 := Lib.hid (Strs.own_below HOR.out hb5)
                have HB5 := Lib.hid (HBR.out.trans (hb5.mono HBR.out.size))
                clear hb5 HOR HBR
                go_wp2_with fail
                refine (R5.out _).mono ?_
                rintro e w6 ⟨rfl, hb6⟩
                have HO6 := Lib.hid (Strs.own_below HO5.out hb6)
                have HB6 := Lib.hid (HB5.out.trans (hb6.mono HB5.out.size))
                clear hb6 HO5 HB5
                go_wp2_with (at_builtin; refine Strs.append_strs rfl _ _ rfl w1.heap.size acc2.length _ (wordsT acc2) rfl (HO6.out.alloc _) w6.heap.size 1 1 [A] rfl rfl (Strs.new_one _ _ _) (by have := HAL2.out; have := HCNT.out; omega) (Nat.le_trans HB6.out.size (by simp)) ?_)
                intro v7 w7 hown7 hgrow7
                have HW7 := Lib.hid ((HB6.out.alloc HB6.out.size (.cells #[.string A] 9)).grown hgrow7 (Nat.le_trans HB6.out.size (by simp)) (fun j hj => (HO6.out.lt j hj).1))
                rw [HA.out, wordsT_snoc] at hown7
                have HO7 := Lib.hid hown7
                clear hown7 hgrow7
                go_wp2
                go_roundg (rest.drop m).length
                case measure => have := HDL.out.1; have := HG.out; omega
                case rel => exact ⟨acc2 ++ [rest.take m], rest.drop m, Nat.le_refl _, HDL.out.2, by rw [HD.out], HDN.out, HDM.out, HL2R.out, by rw [show (acc2 ++ [rest.take m]).length = acc2.length + 1 by simp]; exact HO7.out, HW7.out⟩
              · have hd3 : decide ((m : Int) < (q : Int)) = false := decide_eq_false (by omega)
                have hd4 : decide (m < q) = false := decide_eq_false hbig
                have HLE := Lib.hid (show L = acc2 ++ wrapGo m rest (W.drop (k + 1)) by
                  rw [HLR.out, chop_end m rest (by omega)]
                  rfl)
                have HRL := Lib.hid (show rest.length ≤ 1000 * (k + 1) ∧ rest.length ≤ m by omega)
                generalize hXX : tx (text rest) = X at *
                have HXX := Lib.hid hXX
                clear hq htr hr4 hXX
                go_wp2_with fail
                refine (R4.out _).mono ?_
                rintro e w5 ⟨rfl, hb5⟩
                have HO5 := Lib.hid (Strs.own_below HOR.out hb5)
                have HB5 := Lib.hid (HBR.out.trans (hb5.mono HBR.out.size))
                clear hb5 HOR HBR
                go_wp2
                go_roundg g'
                case measure => omega
                case rel => exact ⟨k + 1, acc2, rest, by omega, by go_num, by rw [HXX.out], HRL.out.1, HRL.out.2, HRM.out, HLE.out, HO5.out, HB5.out⟩
      · obtain rfl : gk = 0 := by omega
        obtain rfl : k = n := by omega
        have hLe : L = acc ++ Phr.begun line := by rw [HLT.out, List.drop_eq_nil_of_le (by have := HN.out; omega), wrapGo]
        by_cases hline : line = []
        · have he := text_empty line hline
          have hLa : L = acc := by rw [hLe, Phr.begun, if_pos hline, List.append_nil]
          clear hLe hline
          subst hLa
          generalize tx (text line) = Z at *
          clear hbel
          go_wp2
          go_ret
          exact ⟨_, rfl, Strs.own_mono HO.out HW1.out.size, HW1.out.trans (HB.out.mono HW1.out.size)⟩
        · have hne := text_solid line hline
          have HLE := Lib.hid (show L = acc ++ [line] by rw [hLe, Phr.begun, if_neg hline])
          obtain ⟨Z, hZ⟩ : ∃ Z, Z = tx (text line) := ⟨_, rfl⟩
          rw [← hZ] at hne ⊢
          have HZ := Lib.hid hZ
          clear hbel hLe hline hZ
          go_wp2_with (at_builtin; refine Strs.append_strs rfl _ _ rfl w1.heap.size acc.length _ (wordsT acc) rfl (HO.out.alloc _) wr.heap.size 1 1 [Z] rfl rfl (Strs.new_one _ _ _) (by have := HAL.out; have := HCNT.out; omega) (Nat.le_trans HB.out.size (by simp)) ?_)
          intro v' w4 hown4 hgrow4
          have HW4 := Lib.hid ((HB.out.alloc HB.out.size (.cells #[.string Z] 9)).grown hgrow4 (Nat.le_trans HB.out.size (by simp)) (fun j hj => (HO.out.lt j hj).1))
          rw [HZ.out, wordsT_snoc, ← HLE.out] at hown4
          have HO4 := Lib.hid hown4
          clear hown4 hgrow4
          go_wp2
          go_ret
          exact ⟨_, rfl, by rw [show L.length = acc.length + 1 by rw [HLE.out]; simp]; exact Strs.own_mono HO4.out HW1.out.size, HW1.out.trans (HW4.out.mono HW1.out.size)⟩
end Go.Proofs.YthlhhmhldpmpiaaDoor.RPhr
