/-
  Bare, Initials, Fill and Compare of the document's answer for layer 11: what is answered is what the plain mathematics says; all memory that was there stays as it was. Conditions: that numbers and lengths fit.
-/
import Derived.Test.YthlhhmhldpmpiaaDoorRPhrF
import Derived.Test.YthlhhmhldpmpiaaDoorPhrN
namespace Go.Proofs.YthlhhmhldpmpiaaDoor.RPhr
open Go.RowKit Mur Phr Runs
set_option maxRecDepth 100000

theorem joinL_snoc (ls : List (List Nat)) (v : List Nat) (h : ls ≠ []) : joinL (ls ++ [v]) = joinL ls ++ 32 :: v := by
  induction ls with
  | nil => exact absurd rfl h
  | cons w ws ih =>
    cases ws with
    | nil => rfl
    | cons x ws =>
      show w ++ 32 :: joinL ((x :: ws) ++ [v]) = (w ++ 32 :: joinL (x :: ws)) ++ 32 :: v
      rw [ih (by simp), List.append_assoc]
      rfl
theorem take_next {α : Type} (L : List α) (k : Nat) (v : α) (h : L[k]? = some v) : L.take (k + 1) = L.take k ++ [v] := by
  obtain ⟨hk, rfl⟩ := List.getElem?_eq_some_iff.1 h
  exact (List.take_append_getElem hk).symm
theorem take_some {α : Type} (L : List α) (k : Nat) (v : α) (h : L[k]? = some v) (hk : k ≠ 0) : L.take k ≠ [] := fun e => by
  have h1 := congrArg List.length e
  have h2 := (List.getElem?_eq_some_iff.1 h).1
  rw [List.length_take] at h1
  simp at h1
  rcases h1 with h1 | h1
  · exact hk h1
  · rw [h1] at h2
    simp at h2
theorem joinL_front (L : List (List Nat)) (k : Nat) : (joinL (L.take k)).length ≤ long L := by
  refine Nat.le_trans (joinL_length _) ?_
  unfold long
  rw [List.map_take]
  have h := List.take_append_drop k (L.map fun w => w.length + 1)
  have h2 := congrArg List.sum h
  rw [List.sum_append] at h2
  omega

set_option maxHeartbeats 3200000 in
theorem bare_any (s : ByteArray) (X : ByteArray) (w : World) (hX : X = tx (bareB s.data.toList)) (hs : s.size ≤ 1000000) :
    Calls Tryd.prog 28 #[.string s] w fun e w' => e = .returned (.string X) ∧ Below w.heap.size w w' := by
  obtain ⟨L, hL⟩ : ∃ L, L = split (rs s.data.toList) := ⟨_, rfl⟩
  obtain ⟨q, hq⟩ : ∃ q, q = L.length := ⟨_, rfl⟩
  have R1 := Lib.hid (fun u => split_any s u L hL hs)
  rw [← hq] at R1
  have HX := Lib.hid (show X = tx (text (joinL L)) by rw [hX, bareB, hL])
  have HQ := Lib.hid hq
  have hsl : (rs s.data.toList).length ≤ 1000000 := Nat.le_trans (rs_length _) hs
  have hq2 : q ≤ 1000001 := by
    have := split_count (rs s.data.toList)
    rw [hq, hL]
    omega
  have HLG := Lib.hid (show long L ≤ 1000001 by
    have := split_long (rs s.data.toList)
    rw [hL]
    omega)
  clear hX hL hq hs hsl
  go_enter Tryd.func28, Tryd.ntmps28
  go_wp2_with fail
  refine (R1.out _).mono ?_
  rintro e w1 ⟨v, rfl, hown, hb1⟩
  have HW1 := Lib.hid hb1
  obtain ⟨ao, c, rfl, -, -, hrow⟩ := Strs.own_slice hown
  have HROW := Lib.hid hrow
  clear hb1 hown hrow
  go_wp2_with fail
  go_loopw [3, 9] (fun o i wr => ∃ k : Nat, k ≤ q ∧ i = .int .i64 k ∧ o = .string (tx (text (joinL (L.take k)))) ∧ w1 = wr) (fun _ i _ => q - (intOf i).toNat)
  case atStart => exact ⟨0, Nat.zero_le _, rfl, rfl, rfl⟩
  case round =>
    obtain ⟨k, hk, rfl, rfl, rfl⟩ := hrel
    by_cases hlt : k < q
    · obtain ⟨v, hv⟩ : ∃ v, L[k]? = some v := ⟨_, List.getElem?_eq_getElem (show k < L.length by have := HQ.out; omega)⟩
      obtain ⟨gb, rfl, -, -, hcell⟩ := HROW.out k _ (Strs.strsV_at (by simp [wordsT, hv]) : (Strs.strsV (wordsT L))[k]? = some (.string (tx (text v))))
      have hl1 : (text (joinL (L.take k))).length ≤ 2000002 := by
        have h1 := (text_length (joinL (L.take k))).2
        have h2 := joinL_front L k
        have := HLG.out
        omega
      have hl2 : (text v).length ≤ 2000002 := by
        have h1 := (text_length v).2
        have h2 := long_mem v L (List.mem_of_getElem? hv)
        have := HLG.out
        omega
      by_cases h0 : k = 0
      · subst h0
        have hd : decide ((0 : Int) < ((0 : Nat) : Int)) = false := by decide
        have hj : tx (text v) = tx (text (joinL (L.take (0 + 1)))) := by
          rw [take_next L 0 v hv]
          rfl
        have he : (⟨#[]⟩ : ByteArray) ++ tx (text v) = tx (text v) := by
          show tx [] ++ _ = _
          rw [tx_append]
          rfl
        have hbig : ¬ 9223372036854775807 < (⟨#[]⟩ : ByteArray).size + (tx (text v)).size := by
          show ¬ _ < 0 + (text v).length
          omega
        have hz : tx (text (joinL (L.take 0))) = ⟨#[]⟩ := rfl
        rw [hz]
        have HJ := Lib.hid hj
        generalize tx (text v) = V at *
        clear hj hz hv hl1 hl2
        go_wp2
        go_roundw
        case rel => exact ⟨1, by omega, by go_num, by rw [HJ.out], by first | rfl | trivial⟩
        case measure => simp [intOf]; omega
      · have hd : decide ((0 : Int) < (k : Int)) = true := decide_eq_true (by omega)
        have hd2 : decide (0 < k) = true := decide_eq_true (by omega)
        obtain ⟨A, hA⟩ : ∃ A, A = tx (text (joinL (L.take k)) ++ [32]) := ⟨_, rfl⟩
        have hj1 : tx (text (joinL (L.take k))) ++ ⟨#[32]⟩ = A := by rw [hA]; exact tx_append _ [32]
        have hj2 : A ++ tx (text v) = tx (text (joinL (L.take (k + 1)))) := by
          rw [hA, tx_append, take_next L k v hv, joinL_snoc _ _ (take_some L k v hv h0), text_append, text_cons, List.append_assoc]
          rfl
        have hb1 : ¬ 9223372036854775807 < (tx (text (joinL (L.take k)))).size + (⟨#[32]⟩ : ByteArray).size := by
          show ¬ _ < (text (joinL (L.take k))).length + 1
          omega
        have hb2 : ¬ 9223372036854775807 < A.size + (tx (text v)).size := by
          rw [hA, tx_size, tx_size, List.length_append]
          show ¬ _ < _ + 1 + _
          omega
        generalize tx (text (joinL (L.take k))) = Z at *
        generalize tx (text v) = V at *
        generalize hY : tx (text (joinL (L.take (k + 1)))) = Y at *
        have HY := Lib.hid hY
        clear hA hY hv hl1 hl2
        go_wp2
        go_roundw
        case rel => exact ⟨k + 1, by omega, by go_num, by rw [HY.out], by first | rfl | trivial⟩
        case measure => simp [intOf]; omega
    · obtain rfl : k = q := by omega
      have hE : tx (text (joinL (L.take k))) = X := by rw [HX.out, List.take_of_length_le (by have := HQ.out; omega)]
      rw [hE]
      clear hE
      go_wp2
      go_ret
      exact ⟨rfl, HW1.out⟩

set_option maxHeartbeats 3200000 in
theorem initials_any (s : ByteArray) (X : ByteArray) (w : World) (hX : X = tx (initialsB s.data.toList)) (hs : s.size ≤ 100000) :
    Calls Tryd.prog 30 #[.string s] w fun e w' => e = .returned (.string X) ∧ Below w.heap.size w w' := by
  obtain ⟨L, hL⟩ : ∃ L, L = split (rs s.data.toList) := ⟨_, rfl⟩
  obtain ⟨q, hq⟩ : ∃ q, q = L.length := ⟨_, rfl⟩
  have R1 := Lib.hid (fun u => split_any s u L hL (by omega))
  rw [← hq] at R1
  have HX := Lib.hid (show X = tx (text (firsts L)) by rw [hX, initialsB, hL]; rfl)
  have HQ := Lib.hid hq
  have hsl : (rs s.data.toList).length ≤ 100000 := Nat.le_trans (rs_length _) hs
  have hq2 : q ≤ 1000001 := by
    have := split_count (rs s.data.toList)
    rw [hq, hL]
    omega
  have HM := Lib.hid (show ∀ v ∈ L, (∀ c ∈ v, may c = true) ∧ (text v).length ≤ 200002 from fun v hv => by
    rw [hL] at hv
    have h1 := split_words (fun c => may c = true) (rs s.data.toList) (rs_may _) v hv
    have h2 := split_lengths (rs s.data.toList) v hv
    exact ⟨fun c hc => (h1.2 c hc).2, by omega⟩)
  clear hX hL hq hs hsl
  go_enter Tryd.func30, Tryd.ntmps30
  go_wp2_with fail
  refine (R1.out _).mono ?_
  rintro e w1 ⟨v, rfl, hown, hb1⟩
  have HW1 := Lib.hid hb1
  have HO1 := Lib.hid hown
  obtain ⟨ao, c, rfl, -, -, -⟩ := Strs.own_slice hown
  clear hb1 hown
  go_wp2_with fail
  go_loopw [3, 9] (fun o i wr => ∃ k : Nat, k ≤ q ∧ i = .int .i64 k ∧ o = .string (tx (text (firsts (L.take k)))) ∧ Below w1.heap.size w1 wr) (fun _ i _ => q - (intOf i).toNat)
  case atStart => exact ⟨0, Nat.zero_le _, rfl, rfl, Below.refl _ _⟩
  case round =>
    obtain ⟨k, hk, rfl, rfl, hbel⟩ := hrel
    by_cases hlt : k < q
    · obtain ⟨v, hv⟩ : ∃ v, L[k]? = some v := ⟨_, List.getElem?_eq_getElem (show k < L.length by have := HQ.out; omega)⟩
      obtain ⟨ao', c', heq, -, -, hrow⟩ := Strs.own_slice (Strs.own_below HO1.out hbel)
      injection heq with e1 e2 e3
      subst e1
      clear e2 e3
      obtain ⟨gb, rfl, -, -, hcell⟩ := hrow k _ (Strs.strsV_at (by simp [wordsT, hv]) : (Strs.strsV (wordsT L))[k]? = some (.string (tx (text v))))
      obtain ⟨hmv, hlv⟩ := HM.out v (List.mem_of_getElem? hv)
      obtain ⟨A, hA⟩ : ∃ A, A = tx (text (v.take 1)) := ⟨_, rfl⟩
      have hcl : v.take (clamp 1 v.length) = v.take 1 := by
        unfold clamp
        by_cases h : 1 ≤ v.length
        · congr 1
          omega
        · rw [List.take_of_length_le (by omega), List.take_of_length_le (by omega)]
      have R2 := Lib.hid (fun u => cut_any (tx (text v)) 1 A u (by rw [hA, tx_list, cutB, rs_text v hmv, hcl]) (by omega) (by omega) (by rw [tx_size]; omega))
      have hj : tx (text (firsts (L.take k))) ++ A = tx (text (firsts (L.take (k + 1)))) := by rw [hA, tx_append, firsts_snoc L k v hv, text_append]
      have hfl : (text (firsts (L.take k))).length ≤ 2 * k := by
        have h1 := (text_length (firsts (L.take k))).2
        have h2 : ∀ ws : List (List Nat), (firsts ws).length ≤ ws.length := fun ws => by
          induction ws with
          | nil => exact Nat.le_refl _
          | cons w ws ih =>
            show (w.take 1 ++ firsts ws).length ≤ _
            rw [List.length_append, List.length_take, List.length_cons]
            omega
        have h3 := h2 (L.take k)
        rw [List.length_take] at h3
        omega
      have hAs : A.size ≤ 2 := by
        have h1 := (text_length (v.take 1)).2
        rw [List.length_take] at h1
        rw [hA, tx_size]
        omega
      have hbig : ¬ 9223372036854775807 < (tx (text (firsts (L.take k)))).size + A.size := by rw [tx_size]; omega
      have HW := Lib.hid hbel
      generalize tx (text v) = V at *
      generalize tx (text (firsts (L.take k))) = Z at *
      generalize hY : tx (text (firsts (L.take (k + 1)))) = Y at *
      have HY := Lib.hid hY
      clear hA hY hv hfl hAs hmv hlv hrow hcl hbel
      go_wp2_with fail
      refine (R2.out _).mono ?_
      rintro e w3 ⟨rfl, hb3⟩
      have HW3 := Lib.hid (HW.out.trans (hb3.mono HW.out.size))
      clear hb3 hcell
      go_wp2
      go_roundw
      case rel => exact ⟨k + 1, by omega, by go_num, by rw [HY.out], HW3.out⟩
      case measure => simp [intOf]; omega
    · obtain rfl : k = q := by omega
      have hE : tx (text (firsts (L.take k))) = X := by rw [HX.out, List.take_of_length_le (by have := HQ.out; omega)]
      rw [hE]
      clear hE
      go_wp2
      go_ret
      exact ⟨rfl, HW1.out.trans (hbel.mono HW1.out.size)⟩
end Go.Proofs.YthlhhmhldpmpiaaDoor.RPhr
