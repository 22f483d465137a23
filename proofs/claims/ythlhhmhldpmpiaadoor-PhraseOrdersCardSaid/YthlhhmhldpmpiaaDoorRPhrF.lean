/-
  Split of the document's answer for layer 11: what is answered is what the plain mathematics says, in a row of its own; all memory that was there stays as it was. Conditions: that lengths fit.
-/
import Derived.Test.YthlhhmhldpmpiaaDoorRPhrE
import Derived.Test.YthlhhmhldpmpiaaDoorPhrI
namespace Go.Proofs.YthlhhmhldpmpiaaDoor.RPhr
open Go.RowKit Mur Phr Runs
set_option maxRecDepth 100000

theorem splitGo_last (l : List Nat) : ∀ w, splitGo w (l ++ [32]) = splitGo w l := by
  induction l with
  | nil =>
    intro w
    by_cases hw : w = []
    · rw [hw, List.nil_append, splitGo_blank]
    · rw [List.nil_append, splitGo_word _ _ hw, splitGo_end, splitGo_end, if_pos rfl, if_neg hw]
  | cons c l ih =>
    intro w
    rw [List.cons_append]
    by_cases hc : c = 32
    · subst hc
      by_cases hw : w = []
      · rw [hw, splitGo_blank, splitGo_blank, ih]
      · rw [splitGo_word _ _ hw, splitGo_word _ _ hw, ih]
    · rw [splitGo_more _ _ _ hc, splitGo_more _ _ _ hc, ih]
/-- Rows of unlike elements lie apart. -/
theorem rows_apart {w : World} {b1 b2 n1 n2 s1 s2 : Nat} {e1 e2 : TypeId} {v1 v2 : Value} {x1 x2 : List Value} (h1 : w.ownsRow b1 e1 s1 v1 n1 x1) (h2 : w.ownsRow b2 e2 s2 v2 n2 x2) (he : e1 ≠ e2) : v1.ownBlock = none ∨ v1.ownBlock ≠ v2.ownBlock := by
  rcases h1.2 with ⟨rfl, _⟩ | ⟨g, cap, cur, rfl, _, hg, _⟩
  · exact .inl rfl
  · right
    intro e
    rcases h2.2 with ⟨rfl, _⟩ | ⟨g2, cap2, cur2, rfl, _, hg2, _⟩
    · simp [Value.ownBlock] at e
    · simp [Value.ownBlock] at e
      subst e
      rw [hg] at hg2
      injection hg2 with h
      injection h with h3 h4
      exact he h4

set_option maxHeartbeats 6400000 in
theorem split_any (s : ByteArray) (w : World) (L : List (List Nat)) (hL : L = split (rs s.data.toList)) (hs : s.size ≤ 1000000) :
    Calls Tryd.prog 22 #[.string s] w fun e w' => ∃ v, e = .returned v ∧ w'.ownsRow w.heap.size 9 1 v L.length (Strs.strsV (wordsT L)) ∧ Below w.heap.size w w' := by
  obtain ⟨l, hl⟩ : ∃ l, l = rs s.data.toList := ⟨_, rfl⟩
  have R1 := Lib.hid (fun u => runes_any s l _ u hl rfl hs)
  have hll : l.length ≤ 1000000 := by
    have h3 := rs_length s.data.toList
    have h4 : s.data.toList.length = s.size := rfl
    rw [hl]
    omega
  have HM := Lib.hid (show ∀ c ∈ l, may c = true by rw [hl]; exact rs_may _)
  have HL := Lib.hid (show L = splitGo [] (l ++ [32]) by rw [splitGo_last, hL, hl]; rfl)
  have hcnt : L.length ≤ 1000001 := by
    have := split_count l
    rw [hL, ← hl]
    omega
  obtain ⟨T, hT⟩ : ∃ T, T = l ++ [32] := ⟨_, rfl⟩
  obtain ⟨q, hq⟩ : ∃ q, q = T.length := ⟨_, rfl⟩
  have hql : q = l.length + 1 := by rw [hq, hT]; simp
  have HQL := Lib.hid hql
  have hq2 : q ≤ 1000001 := by omega
  have HT := Lib.hid hT
  have HQ := Lib.hid hq
  have HCNT := Lib.hid hcnt
  rw [← hT] at HL
  generalize (runes s.data.toList).isSome = B at *
  clear hL hl hs hT hq hcnt hql
  go_enter Tryd.func22, Tryd.ntmps22
  go_wp2_with fail
  refine (R1.out _).mono ?_
  rintro e w1 ⟨v1, rfl, hown1, hb1⟩
  have HW1 := Lib.hid hb1
  have HO1 := Lib.hid hown1
  clear hb1 hown1
  go_wp2_with (at_builtin; refine append_runs rfl _ _ rfl w.heap.size l.length _ l rfl (HO1.out.alloc _) w1.heap.size 1 1 [32] rfl rfl (Runs.new_one _ _ _) (by omega) (Nat.le_trans HW1.out.size (by simp)) ?_)
  intro v2 w2 hown2 hgrow2
  have HW2 := Lib.hid ((HW1.out.alloc HW1.out.size (.cells #[.int .i32 32] 21)).grown hgrow2 (Nat.le_trans HW1.out.size (by simp)) (fun j hj => (HO1.out.lt j hj).1))
  rw [← HT.out] at hown2
  obtain ⟨a2, c2, rfl, -, -, hr2⟩ := RunsR.own hown2
  have HR2 := Lib.hid hr2
  rw [← HQL.out] at *
  clear hown2 hgrow2 hr2 HO1 HW1
  go_wp2_with fail
  go_loopw [5, 6, 18] (fun o v i wr => ∃ (k : Nat) (acc : List (List Nat)) (wd : List Nat), k ≤ q ∧ i = .int .i64 k ∧ L = acc ++ splitGo wd (T.drop k) ∧ (T.drop k = [] → wd = []) ∧ (∀ c ∈ wd, may c = true) ∧ wd.length ≤ k ∧ wr.ownsRow w2.heap.size 9 1 o acc.length (Strs.strsV (wordsT acc)) ∧ wr.ownsRow w2.heap.size 21 1 v wd.length (runsV wd) ∧ Below w2.heap.size w2 wr) (fun _ _ i _ => q - (intOf i).toNat)
  case atStart => exact ⟨0, [], [], Nat.zero_le _, rfl, HL.out, fun _ => rfl, fun c hc => (by cases hc), Nat.le_refl _, World.ownsRow_nil _ _ _ _, World.ownsRow_nil _ _ _ _, Below.refl _ _⟩
  case round =>
    clear HL
    obtain ⟨k, acc, wd, hk, rfl, hacc, hend, hmw, hwk, hos, hor, hbel⟩ := hrel
    have HACC := Lib.hid hacc
    have HAL := Lib.hid (show acc.length ≤ 1000001 by
      have := congrArg List.length hacc
      rw [List.length_append] at this
      have := HCNT.out
      omega)
    have HOS := Lib.hid hos
    have HOR := Lib.hid hor
    have HW := Lib.hid hbel
    have HMW := Lib.hid hmw
    have HEND := Lib.hid hend
    clear hacc hos hor hmw hend
    by_cases hlt : k < q
    · obtain ⟨x, hx⟩ : ∃ x, T[k]? = some x := ⟨_, List.getElem?_eq_getElem (show k < T.length by have := HQ.out; omega)⟩
      obtain ⟨b, o, rfl, hb, hcell⟩ := HR2.out (by have := HQ.out; omega)
      have hc := (hbel.cell (p := ⟨b, o + k, none⟩) hb).trans (hcell k x hx)
      have hdr : T.drop k = x :: T.drop (k + 1) := by
        obtain ⟨hk2, rfl⟩ := List.getElem?_eq_some_iff.1 hx
        exact List.drop_eq_getElem_cons hk2
      by_cases h32 : x = 32
      · subst h32
        have hne : ((32 : Int) != 32) = false := by decide
        by_cases hw0 : wd = []
        · subst hw0
          obtain ⟨a3, c3, rfl, -, -, -⟩ := RunsR.own HOR.out
          have HA := Lib.hid (show L = acc ++ splitGo [] (T.drop (k + 1)) by rw [HACC.out, hdr, splitGo_blank])
          clear hcell hx hdr hbel HACC HEND
          go_wp2
          go_roundw
          case rel => exact ⟨k + 1, acc, [], by omega, by go_num, HA.out, fun _ => rfl, fun c hc => (by cases hc), Nat.zero_le _, HOS.out, World.ownsRow_nil _ _ _ _, HW.out⟩
          case measure => simp [intOf]; omega
        · have HA := Lib.hid (show L = (acc ++ [wd]) ++ splitGo [] (T.drop (k + 1)) by rw [HACC.out, hdr, splitGo_word _ _ hw0, List.append_assoc]; rfl)
          have hwl : wd.length ≠ 0 := fun e => hw0 (List.eq_nil_of_length_eq_zero e)
          have hd : decide (0 < (wd.length : Int)) = true := decide_eq_true (by omega)
          have hd2 : decide (0 < wd.length) = true := decide_eq_true (by omega)
          obtain ⟨a3, c3, rfl, -, -, hr3⟩ := RunsR.own HOR.out
          obtain ⟨V, hV⟩ : ∃ V, V = tx (text wd) := ⟨_, rfl⟩
          have R3 := Lib.hid (text_any wd a3 wd.length c3 wr V hV rfl (by omega) HMW.out hr3)
          have HV := Lib.hid hV
          have hwl2 : wd.length ≤ q := by omega
          clear hcell hx hdr hbel HACC HEND hr3 hV hwl hw0
          go_wp2_with fail
          refine R3.out.mono ?_
          rintro e w3 ⟨rfl, hb3⟩
          have HOS3 := Lib.hid (Strs.own_below HOS.out hb3)
          have HW3 := Lib.hid (HW.out.trans (hb3.mono HW.out.size))
          clear hb3
          go_wp2_with (at_builtin; refine Strs.append_strs rfl _ _ rfl w2.heap.size acc.length _ (wordsT acc) rfl (HOS3.out.alloc _) w3.heap.size 1 1 [V] rfl rfl (Strs.new_one _ _ _) (by have := HAL.out; omega) (Nat.le_trans HW3.out.size (by simp)) ?_)
          intro v' w4 hown4 hgrow4
          have HW4 := Lib.hid ((HW3.out.alloc HW3.out.size (.cells #[.string V] 9)).grown hgrow4 (Nat.le_trans HW3.out.size (by simp)) (fun j hj => (HOS3.out.lt j hj).1))
          rw [HV.out, wordsT_snoc] at hown4
          have HO4 := Lib.hid hown4
          clear hown4 hgrow4
          go_wp2
          go_roundw
          case rel => exact ⟨k + 1, acc ++ [wd], [], by omega, by go_num, HA.out, fun _ => rfl, fun c hc => (by cases hc), Nat.zero_le _, by rw [show (acc ++ [wd]).length = acc.length + 1 by simp]; exact HO4.out, World.ownsRow_nil _ _ _ _, HW4.out⟩
          case measure => simp [intOf]; omega
      · have hne : ((x : Int) != 32) = true := by simp; omega
        have HA := Lib.hid (show L = acc ++ splitGo (wd ++ [x]) (T.drop (k + 1)) by rw [HACC.out, hdr, splitGo_more _ _ _ h32])
        have hxl : x ∈ l := by
          have h1 := List.mem_of_getElem? hx
          rw [HT.out, List.mem_append] at h1
          rcases h1 with h1 | h1
          · exact h1
          · exact absurd (List.mem_singleton.1 h1) h32
        have HMW2 := Lib.hid (show ∀ c ∈ wd ++ [x], may c = true from fun c hc => by
          rcases List.mem_append.1 hc with hc | hc
          · exact HMW.out c hc
          · rw [List.mem_singleton] at hc
            subst hc
            exact HM.out c hxl)
        have HEND2 := Lib.hid (show T.drop (k + 1) = [] → wd ++ [x] = [] from fun h => by
          rw [h] at hdr
          have h1 : T = T.take k ++ [x] := by rw [← hdr, List.take_append_drop]
          rw [HT.out] at h1
          have h2 : l ++ [32] = (l ++ [32]).take k ++ [x] := h1
          have h3 := congrArg List.getLast? h2
          simp at h3
          exact absurd h3.symm h32)
        clear hcell hx hdr hbel HACC HEND hxl h32
        go_wp2_with (at_builtin; refine append_runs rfl _ _ rfl w2.heap.size wd.length _ wd rfl (HOR.out.alloc _) wr.heap.size 1 1 [x] rfl rfl (Runs.new_one _ _ _) (by omega) (Nat.le_trans HW.out.size (by simp)) ?_)
        intro v' w4 hown4 hgrow4
        have HW4 := Lib.hid ((HW.out.alloc HW.out.size (.cells #[.int .i32 (x : Int)] 21)).grown hgrow4 (Nat.le_trans HW.out.size (by simp)) (fun j hj => (HOR.out.lt j hj).1))
        have HOS4 := Lib.hid (World.ownsRow.kept (HOS.out.alloc (.cells #[.int .i32 (x : Int)] 21)) hgrow4 (rows_apart HOS.out HOR.out (by decide)))
        have HO4 := Lib.hid hown4
        clear hown4 hgrow4
        go_wp2
        go_roundw
        case rel => exact ⟨k + 1, acc, wd ++ [x], by omega, by go_num, HA.out, HEND2.out, HMW2.out, by rw [List.length_append, List.length_singleton]; omega, HOS4.out, by rw [show (wd ++ [x]).length = wd.length + 1 by simp]; exact HO4.out, HW4.out⟩
        case measure => simp [intOf]; omega
    · obtain rfl : k = q := by omega
      have hd0 : T.drop k = [] := List.drop_eq_nil_of_le (by have := HQ.out; omega)
      have hw0 := HEND.out hd0
      have hLa : L = acc := by rw [HACC.out, hd0, hw0, splitGo_end, if_pos rfl, List.append_nil]
      subst hLa
      clear hd0 hw0 hbel
      go_wp2
      go_ret
      exact ⟨_, rfl, Strs.own_mono HOS.out HW2.out.size, HW2.out.trans (HW.out.mono HW2.out.size)⟩
end Go.Proofs.YthlhhmhldpmpiaaDoor.RPhr
