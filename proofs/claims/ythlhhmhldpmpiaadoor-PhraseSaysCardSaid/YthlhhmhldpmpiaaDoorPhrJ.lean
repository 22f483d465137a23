/-
  pieces of package phrase cuts a word behind each width runes, as the plain mathematics of the text Phr says, in a row of its own, and leaves all memory that was there as it was. Conditions: that lengths fit.
-/
import Derived.Test.YthlhhmhldpmpiaaDoorPhrI
import Derived.Test.YthlhhmhldpmpiaaDoorStrB
import Derived.Deep.RegionLaw
namespace Go.Proofs.YthlhhmhldpmpiaaDoor.Phr
open Go.RowKit Mur
set_option maxRecDepth 100000

/-- A word's pieces. -/
def pieces (m : Nat) (w : List Nat) : List (List Nat) := if w = [] then [] else (chop m w).1 ++ [(chop m w).2]
theorem pieces_nil (m : Nat) : pieces m [] = [] := by rw [pieces, if_pos rfl]
theorem pieces_more (m : Nat) (w : List Nat) (hm : 0 < m) (hw : w ≠ []) : pieces m w = w.take m :: pieces m (w.drop m) := by
  rw [pieces, if_neg hw]
  by_cases h : m < w.length
  · have hne : w.drop m ≠ [] := fun e => by have := congrArg List.length e; rw [List.length_drop] at this; simp at this; omega
    rw [chop_more m w hm h, pieces, if_neg hne]
    rfl
  · rw [chop_end m w h, List.drop_eq_nil_of_le (by omega), pieces_nil, List.take_of_length_le (by omega)]
    rfl
theorem pieces_length (m : Nat) (hm : 0 < m) (n : Nat) : ∀ w : List Nat, w.length ≤ n → (pieces m w).length ≤ n := by
  induction n with
  | zero =>
    intro w h
    rw [List.eq_nil_of_length_eq_zero (show w.length = 0 by omega), pieces_nil]
    exact Nat.le_refl _
  | succ n ih =>
    intro w h
    by_cases hw : w = []
    · rw [hw, pieces_nil]
      exact Nat.zero_le _
    · rw [pieces_more m w hm hw, List.length_cons]
      have := ih (w.drop m) (by rw [List.length_drop]; omega)
      omega
theorem begins_pos (r : List Nat) (n : Int) (hn : 0 < n) : begins r n = (text (r.take n.toNat)).length := by
  have e : r.take (clamp n r.length) = r.take n.toNat := by
    unfold clamp
    by_cases h : n ≤ (r.length : Int)
    · congr 1
      omega
    · rw [List.take_of_length_le (by omega), List.take_of_length_le (by omega)]
  rw [begins, e]

set_option maxHeartbeats 3200000 in
theorem pieces_any (s : ByteArray) (l : List Nat) (n : Int) (w : World) (L : List (List Nat)) (h : runes s.data.toList = some l) (hL : L = pieces n.toNat l) (hn : 0 < n) (hn2 : n ≤ 9223372036854775807) (hs : s.size ≤ 1000) :
    Calls Tryd.prog 55 #[.string s, .int .i64 n] w fun e w' => ∃ v, e = .returned v ∧ w'.ownsRow w.heap.size 9 1 v L.length (Strs.strsV (wordsT L)) ∧ Below w.heap.size w w' := by
  obtain ⟨h1, hmay⟩ := text_of_runes h
  obtain rfl : s = tx (text l) := by rw [h1]
  have RB := Lib.hid (fun (r : List Nat) (hr : ∀ c ∈ r, may c = true) (hs : (text r).length ≤ 1000) (N : Int) (hN : N = (begins r n : Int)) (u : World) => begin_any (tx (text r)) r n N u (runes_text r hr) hN (by omega) hn2 (by rw [tx_size]; omega))
  have HL := Lib.hid hL
  have HN := Lib.hid hn
  have hcnt : L.length ≤ 1000 := by
    have h3 := pieces_length n.toNat (by omega) l.length l (Nat.le_refl _)
    have h4 := (text_length l).1
    rw [tx_size] at hs
    rw [hL]
    omega
  have HCNT := Lib.hid hcnt
  have HM := Lib.hid hmay
  have hs2 : (text l).length ≤ 1000 := hs
  clear h h1 hL hcnt hmay hs
  go_enter Tryd.func55, Tryd.ntmps55
  go_upto_region 2 with (fail)
  have HO1 := Lib.hid (World.ownsRow_made (w := w) (base := w.heap.size) (e := 9) (size := 1) #[] 0 (Nat.le_refl _) (by decide) rfl)
  have HW1 := Lib.hid ((Below.refl w.heap.size w).alloc (Nat.le_refl _) (.cells #[] 9))
  generalize w.alloc (.cells #[] 9) = w1 at *
  go_loopg [0, 5] l.length (fun gk v0 v5 wx => ∃ (r : List Nat) (acc : List (List Nat)), v0 = .string (tx (text r)) ∧ r.length = gk ∧ (∀ c ∈ r, may c = true) ∧ (text r).length ≤ 1000 ∧ L = acc ++ pieces n.toNat r ∧ wx.ownsRow w.heap.size 9 1 v5 acc.length (Strs.strsV (wordsT acc)) ∧ Below w.heap.size w wx)
  case atStart => exact ⟨l, [], rfl, rfl, HM.out, hs2, by rw [HL.out]; rfl, HO1.out, HW1.out⟩
  case round =>
    clear HL HO1 HW1 HM hs2
    obtain ⟨r, acc, rfl, hgk, hmay, hrs, hacc, hown, hbel⟩ := hrel
    have HACC := Lib.hid hacc
    have HAL := Lib.hid (show acc.length ≤ 1000 by
      have := congrArg List.length hacc
      rw [List.length_append] at this
      have := HCNT.out
      omega)
    have HGK := Lib.hid hgk
    have HO := Lib.hid hown
    have HW := Lib.hid hbel
    have HM := Lib.hid hmay
    have HRS := Lib.hid hrs
    clear hacc hgk hown hbel hmay hrs
    by_cases hr : r = []
    · subst hr
      have hLa : L = acc := by rw [HACC.out, pieces_nil, List.append_nil]
      subst hLa
      have he : (tx (text [])) = ⟨#[]⟩ := rfl
      rw [he]
      go_wp2
      go_ret
      exact ⟨_, rfl, HO.out, HW.out⟩
    · have hne : ((tx (text r)).toList.isEmpty) = false := by
        have h1 := (text_length r).1
        have h0 : r.length ≠ 0 := fun e => hr (List.eq_nil_of_length_eq_zero e)
        rw [Go.ByteArray.toList_eq]
        show (text r).isEmpty = false
        cases hx : text r with
        | nil => rw [hx] at h1; exact absurd (Nat.le_zero.1 h1) h0
        | cons _ _ => rfl
      obtain ⟨P, hP⟩ : ∃ P, P = begins r n := ⟨_, rfl⟩
      have R2 := Lib.hid (fun u => RB.out r HM.out HRS.out (P : Int) (by rw [hP]) u)
      have hPe : P = (text (r.take n.toNat)).length := by rw [hP, begins_pos r n hn]
      have hPle : P ≤ (tx (text r)).size := by rw [hP]; exact begins_le r n
      obtain ⟨A, hA⟩ : ∃ A, A = tx (text (r.take n.toNat)) := ⟨_, rfl⟩
      obtain ⟨C, hC⟩ : ∃ C, C = tx (text (r.drop n.toNat)) := ⟨_, rfl⟩
      have hsA : ∀ u, (Instr.slice 9 (.string (tx (text r))) none (some (.int .i64 (P : Int))) none).run Tryd.prog u = .ok (.string A) u := fun u => by
        have := run_slice_string_h (P := Tryd.prog) u 9 (tx (text r)) Tryd.underlying9 .i64 (P : Int) (by omega) (by omega)
        rw [this, Int.toNat_natCast, tx_extract, List.drop_zero, Nat.sub_zero, hPe, hA]
        congr 3
        exact text_take r n.toNat
      have hsC : ∀ u, (Instr.slice 9 (.string (tx (text r))) (some (.int .i64 (P : Int))) none none).run Tryd.prog u = .ok (.string C) u := fun u => by
        have := run_slice_string_l (P := Tryd.prog) u 9 (tx (text r)) Tryd.underlying9 .i64 (P : Int) (by omega) (by omega)
        rw [this, Int.toNat_natCast, tx_extract, hC, hPe]
        show Result.ok (Value.string (tx (((text r).drop _).take _))) u = _
        rw [text_drop, List.take_of_length_le (by rw [← text_drop, List.length_drop]; exact Nat.le_refl _)]
      have HA := Lib.hid hA
      have HC := Lib.hid hC
      have HSTEP := Lib.hid (pieces_more n.toNat r (by have := HN.out; omega) hr)
      have HLT := Lib.hid (show (r.drop n.toNat).length < r.length by
        have h0 : r.length ≠ 0 := fun e => hr (List.eq_nil_of_length_eq_zero e)
        have h1 := HN.out
        rw [List.length_drop]
        omega)
      obtain ⟨V, hV⟩ : ∃ V, V = tx (text r) := ⟨_, rfl⟩
      rw [← hV] at R2 hsA hsC hne
      clear hP hPe hPle hA hC hr RB
      rw [← hV]
      clear hV
      go_wp2_with fail
      refine (R2.out _).mono ?_
      rintro e w2 ⟨rfl, hb2⟩
      have HO2 := Lib.hid (Strs.own_below HO.out hb2)
      have HW2 := Lib.hid (HW.out.trans (hb2.mono HW.out.size))
      clear hb2 HO HW
      go_wp2_with fail
      go_region_law ((first
        | (refine Strs.step_append_str (by rfl) _ _ (by rfl) w2.drew A w.heap.size acc.length _ (wordsT acc) (by rfl) (by rfl) (Strs.own_below HO2.out (Below.refl _ _).drew) HAL.out (by have := HW2.out.size; simp; omega) ?_; intro v' w8 hown8 hgrow8)
        | (refine Strs.step_append_str (by rfl) _ _ (by rfl) w2 A w.heap.size acc.length _ (wordsT acc) (by rfl) (by rfl) HO2.out HAL.out (by have := HW2.out.size; simp; omega) ?_; intro v' w8 hown8 hgrow8)))
      all_goals
        have HW8 := Lib.hid ((HW2.out.drew.alloc (show w.heap.size ≤ w2.drew.heap.size from HW2.out.size) (.cells #[.string A] 9)).grown hgrow8 (show w.heap.size ≤ (w2.drew.alloc _).heap.size from Nat.le_trans HW2.out.size (by simp)) (fun j hj => (HO2.out.lt j hj).1))
        rw [HA.out, wordsT_snoc] at hown8
        have HO8 := Lib.hid hown8
        clear hown8 hgrow8
        go_wp2
        go_roundg (r.drop n.toNat).length
        case measure => have := HGK.out; have := HLT.out; omega
        case rel => exact ⟨r.drop n.toNat, acc ++ [r.take n.toNat], by rw [HC.out], rfl, fun c hc => HM.out c (List.mem_of_mem_drop hc), by
          have h1 := congrArg List.length (text_drop r n.toNat)
          rw [List.length_drop] at h1
          have := HRS.out
          omega, by rw [HACC.out, HSTEP.out, List.append_assoc]; rfl, by rw [show (acc ++ [r.take n.toNat]).length = acc.length + 1 by simp]; exact HO8.out, HW8.out⟩
end Go.Proofs.YthlhhmhldpmpiaaDoor.Phr
