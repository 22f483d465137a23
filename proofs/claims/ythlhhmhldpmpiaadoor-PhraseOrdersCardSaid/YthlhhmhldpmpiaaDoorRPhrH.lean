/-
  Fill and Compare of the document's answer for layer 11: what is answered is what the plain mathematics says; all memory that was there stays as it was. Conditions: that numbers and lengths fit.
-/
import Derived.Test.YthlhhmhldpmpiaaDoorRPhrE
import Derived.Test.YthlhhmhldpmpiaaDoorPhrK
namespace Go.Proofs.YthlhhmhldpmpiaaDoor.RPhr
open Go.RowKit Mur Phr Runs
set_option maxRecDepth 100000

/-- A text with blanks. -/
def filled (l : List Nat) (j : Nat) (left : Bool) : List Nat := if left then blanks j ++ l else l ++ blanks j
theorem filled_length (l : List Nat) (j : Nat) (left : Bool) : (filled l j left).length = l.length + j := by
  cases left <;> simp [filled, blanks] <;> omega
theorem filled_may (l : List Nat) (j : Nat) (left : Bool) (h : ∀ c ∈ l, may c = true) : ∀ c ∈ filled l j left, may c = true := by
  have hb : ∀ c ∈ blanks j, may c = true := fun c hc => by
    rw [List.eq_of_mem_replicate hc]
    decide
  intro c hc
  cases left
  · rcases List.mem_append.1 hc with hc | hc
    · exact h c hc
    · exact hb c hc
  · rcases List.mem_append.1 hc with hc | hc
    · exact hb c hc
    · exact h c hc
theorem filled_left (l : List Nat) (j : Nat) : (⟨#[32]⟩ : ByteArray) ++ tx (text (filled l j true)) = tx (text (filled l (j + 1) true)) := by
  show tx [32] ++ tx (text (blanks j ++ l)) = tx (text (blanks (j + 1) ++ l))
  rw [tx_append]
  rfl
theorem filled_right (l : List Nat) (j : Nat) : tx (text (filled l j false)) ++ (⟨#[32]⟩ : ByteArray) = tx (text (filled l (j + 1) false)) := by
  show tx (text (l ++ blanks j)) ++ tx [32] = tx (text (l ++ blanks (j + 1)))
  rw [tx_append, show blanks (j + 1) = blanks j ++ [32] from List.replicate_succ', ← List.append_assoc, text_append (l ++ blanks j)]
  rfl

set_option maxHeartbeats 3200000 in
theorem fill_any (s : ByteArray) (n : Int) (left : Bool) (X : ByteArray) (w : World) (hX : X = tx (fillB s.data.toList n left)) (h1 : -9223372036854775808 ≤ n) (h2 : n ≤ 9223372036854775807) (hs : s.size ≤ 100000) :
    Calls Tryd.prog 26 #[.string s, .int .i64 n, .bool left] w fun e w' => e = .returned (.string X) ∧ Below w.heap.size w w' := by
  obtain ⟨l, hl⟩ : ∃ l, l = (rs s.data.toList).take (clamp n (rs s.data.toList).length) := ⟨_, rfl⟩
  obtain ⟨k, hk⟩ : ∃ k, k = clamp (min n 200) 200 - l.length := ⟨_, rfl⟩
  have ml : ∀ c ∈ l, may c = true := by rw [hl]; exact take_may (rs_may _) _
  have hk2 : k ≤ 200 := by rw [hk]; unfold clamp; omega
  have hll : l.length ≤ 100000 := by
    have h3 := rs_length s.data.toList
    have h4 : s.data.toList.length = s.size := rfl
    rw [hl, List.length_take]
    omega
  have hlz : n ≤ 0 → l.length = 0 := fun h => by rw [hl, List.length_take]; unfold clamp; omega
  have R1 := Lib.hid (fun u => cut_any s n (tx (text (filled l 0 left))) u (by
    rw [cutB, ← hl]
    cases left
    · show tx (text (l ++ [])) = _
      rw [List.append_nil]
    · rfl) h1 h2 (by omega))
  have R2 := Lib.hid (fun (j N : Nat) (hN : N = l.length + j) (hj : j ≤ 200) u => count_any (tx (text (filled l j left))) (N : Int) u (by rw [tx_list, count, rs_text _ (filled_may l j left ml), filled_length, hN]) (by
    have h3 := (text_length (filled l j left)).2
    rw [filled_length] at h3
    rw [tx_size]
    omega))
  have HSZ := Lib.hid (fun (j : Nat) (hj : j ≤ 200) => show (tx (text (filled l j left))).size ≤ 300000 from by
    have h3 := (text_length (filled l j left)).2
    rw [filled_length] at h3
    rw [tx_size]
    omega)
  have HX := Lib.hid (show X = tx (text (filled l k left)) by
    rw [hX, fillB, ← hl, ← hk]
    cases left <;> rfl)
  have hless : ∀ j, j < k → ((l.length + j : Nat) : Int) < min n 200 := fun j hj => by
    rw [hk] at hj
    unfold clamp at hj
    omega
  have hmore : ¬ ((l.length + k : Nat) : Int) < min n 200 := by
    rw [hk]
    unfold clamp
    by_cases h : n ≤ 0
    · have := hlz h
      omega
    · omega
  have HLESS := Lib.hid hless
  have HMORE := Lib.hid hmore
  clear hX hl hk ml hs hless hmore hlz
  go_enter Tryd.func26, Tryd.ntmps26
  go_wp2_with fail
  refine (R1.out _).mono ?_
  rintro e w1 ⟨rfl, hb1⟩
  have HW1 := Lib.hid hb1
  clear hb1
  go_wp2_with fail
  go_loopg [0] k (fun gk o wr => ∃ j : Nat, j + gk = k ∧ o = .string (tx (text (filled l j left))) ∧ Below w.heap.size w wr)
  case atStart => exact ⟨0, by omega, rfl, HW1.out⟩
  case round =>
    obtain ⟨j, hj, rfl, hbel⟩ := hrel
    have HW := Lib.hid hbel
    clear hbel
    obtain ⟨N, hN⟩ : ∃ N, N = l.length + j := ⟨_, rfl⟩
    have R3 := Lib.hid (fun u => R2.out j N hN (by omega) u)
    by_cases hlt : j < k
    · obtain ⟨g', rfl⟩ : ∃ g', gk = g' + 1 := ⟨gk - 1, by omega⟩
      have hd : decide ((N : Int) < min n 200) = true := decide_eq_true (by rw [hN]; exact HLESS.out j hlt)
      have hsz := HSZ.out j (by omega)
      have hbig1 : ¬ 9223372036854775807 < (⟨#[32]⟩ : ByteArray).size + (tx (text (filled l j left))).size := by show ¬ _ < 1 + _; omega
      have hbig2 : ¬ 9223372036854775807 < (tx (text (filled l j left))).size + (⟨#[32]⟩ : ByteArray).size := by show ¬ _ < _ + 1; omega
      cases left with
      | true =>
        have hj2 := filled_left l j
        generalize tx (text (filled l j true)) = Z at *
        generalize hY : tx (text (filled l (j + 1) true)) = Y at *
        have HY := Lib.hid hY
        clear hY hN hsz
        go_wp2_with fail
        refine (R3.out _).mono ?_
        rintro e w3 ⟨rfl, hb3⟩
        have HW3 := Lib.hid (HW.out.trans (hb3.mono HW.out.size))
        clear hb3
        go_wp2
        go_roundg g'
        case measure => omega
        case rel => exact ⟨j + 1, by omega, by rw [HY.out], HW3.out⟩
      | false =>
        have hj2 := filled_right l j
        generalize tx (text (filled l j false)) = Z at *
        generalize hY : tx (text (filled l (j + 1) false)) = Y at *
        have HY := Lib.hid hY
        clear hY hN hsz
        go_wp2_with fail
        refine (R3.out _).mono ?_
        rintro e w3 ⟨rfl, hb3⟩
        have HW3 := Lib.hid (HW.out.trans (hb3.mono HW.out.size))
        clear hb3
        go_wp2
        go_roundg g'
        case measure => omega
        case rel => exact ⟨j + 1, by omega, by rw [HY.out], HW3.out⟩
    · obtain rfl : j = k := by omega
      have hd : decide ((N : Int) < min n 200) = false := decide_eq_false (by have := HMORE.out; omega)
      rw [← HX.out] at R3
      have hE : tx (text (filled l j left)) = X := HX.out.symm
      rw [hE]
      clear hE hN
      go_wp2_with fail
      refine (R3.out _).mono ?_
      rintro e w3 ⟨rfl, hb3⟩
      have HW3 := Lib.hid (HW.out.trans (hb3.mono HW.out.size))
      clear hb3
      go_wp2
      go_ret
      exact ⟨rfl, HW3.out⟩

theorem cmpL_drop (x y : List Nat) (k a b : Nat) (hx : x[k]? = some a) (hy : y[k]? = some b) : cmpL (x.drop k) (y.drop k) = if a < b then -1 else if b < a then 1 else cmpL (x.drop (k + 1)) (y.drop (k + 1)) := by
  have h1 : x.drop k = a :: x.drop (k + 1) := by
    obtain ⟨hk, rfl⟩ := List.getElem?_eq_some_iff.1 hx
    exact List.drop_eq_getElem_cons hk
  have h2 : y.drop k = b :: y.drop (k + 1) := by
    obtain ⟨hk, rfl⟩ := List.getElem?_eq_some_iff.1 hy
    exact List.drop_eq_getElem_cons hk
  rw [h1, h2]
  rfl
theorem cmpL_ends (x y : List Nat) (k : Nat) (h : k = min x.length y.length) : cmpL (x.drop k) (y.drop k) = if x.length < y.length then -1 else if y.length < x.length then 1 else 0 := by
  rcases Nat.lt_trichotomy x.length y.length with h1 | h1 | h1
  · rw [if_pos h1, List.drop_eq_nil_of_le (show x.length ≤ k by omega)]
    cases hy : y.drop k with
    | nil => have := congrArg List.length hy; rw [List.length_drop] at this; simp at this; omega
    | cons b t => rfl
  · rw [if_neg (by omega), if_neg (by omega), List.drop_eq_nil_of_le (show x.length ≤ k by omega), List.drop_eq_nil_of_le (show y.length ≤ k by omega)]
    rfl
  · rw [if_neg (by omega), if_pos h1, List.drop_eq_nil_of_le (show y.length ≤ k by omega)]
    cases hy : x.drop k with
    | nil => have := congrArg List.length hy; rw [List.length_drop] at this; simp at this; omega
    | cons b t => rfl
end Go.Proofs.YthlhhmhldpmpiaaDoor.RPhr
