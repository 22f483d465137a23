/-
  The document's own answers for Long, Told and Turned of layer 18, and whether a text is bytes 0, are what the plain mathematics of the text Frm says; all memory that was there is left as it was. Conditions: texts of no more than 100000 bytes, numbers of 64 bits.
-/
import Derived.Test.YtlodgomjlkpdhaaGreatDoorFrB
import Derived.Test.YtlodgomjlkpdhaaGreatDoorMRef
import Derived.BigQuiet
import Derived.Deep.QuietTactic
namespace Go.Proofs.YtlodgomjlkpdhaaGreatDoor.RFrm
open Go.RowKit Mur Lanes Prt Tap Cel Frm
set_option maxRecDepth 100000
set_option linter.unusedSimpArgs false

theorem dec_short (n : Int) (h : n ≤ 9223372036854775807) : (tx (dec n)).size ≤ 19 := by
  have H : ∀ k n, n < 10 ^ k → (digits n).length ≤ max 1 k := by
    intro k
    induction k with
    | zero => intro n h; rw [digits, if_pos (by omega)]; simp
    | succ k ih =>
      intro n h
      rw [digits]
      split
      · simp
      · have h2 : n / 10 < 10 ^ k := by rw [Nat.pow_succ] at h; omega
        have := ih _ h2
        have hk : 1 ≤ k := by
          rcases Nat.eq_zero_or_pos k with rfl | hk
          · omega
          · exact hk
        rw [List.length_append]
        simp only [List.length_cons, List.length_nil]
        omega
  show (dec n).length ≤ 19
  unfold dec
  split
  · decide
  · have := H 19 n.toNat (by omega)
    omega
theorem bit_ref (s : ByteArray) (k : Int) (w : World) (h1 : -9223372036854775808 ≤ k) (h2 : k ≤ 9223372036854775807) (hs : s.size ≤ 140737488351232) :
    Calls Tryz.prog 27 #[.string s, .int .i64 k] w fun e w' => e = .returned (.int .i64 (bit s.data.toList k : Nat)) ∧ Below w.heap.size w w' :=
  (RefOne.bit_any s k w h1 h2 hs).mono fun _ _ ⟨he, hw⟩ => ⟨he, by rw [← hw]; exact Below.refl _ _⟩
theorem noughts_next (l : List UInt8) (k : Nat) (x : UInt8) (h : l[k]? = some x) : Frm.noughts (l.take (k + 1)) = (Frm.noughts (l.take k) && decide (x = 0)) := by
  unfold Frm.noughts
  rw [List.take_add_one, h, List.all_append]
  simp
theorem noughts_no (l : List UInt8) (k : Nat) (x : UInt8) (h : l[k]? = some x) (hx : x ≠ 0) : Frm.noughts l = false := by
  unfold Frm.noughts
  rw [List.all_eq_false]
  exact ⟨x, List.mem_of_getElem? h, by simpa using hx⟩

set_option maxHeartbeats 1600000 in
theorem long_ref (c s : Int) (w : World) (hc : InR c) (hs : InR s) : Calls Tryz.prog 10 #[.int .i64 c, .int .i64 s] w fun z w' => z = .returned (.int .i64 (long c s)) ∧ Below w.heap.size w w' := by
  obtain ⟨T, hT⟩ : ∃ T, T = long c s := ⟨_, rfl⟩
  rw [← hT]
  unfold long at hT
  unfold InR at hc hs
  by_cases h0 : c < 1
  · have d0 : decide (c < 1) = true := decide_eq_true h0
    obtain rfl : T = 0 := by rw [hT, if_pos (by omega)]
    clear hT
    go_enter Tryz.func10, Tryz.ntmps10
    go_wp2
    go_ret
    exact ⟨rfl, Below.refl _ _⟩
  have d0 : decide (c < 1) = false := decide_eq_false h0
  by_cases h1 : 16 < c
  · have d1 : decide (16 < c) = true := decide_eq_true h1
    obtain rfl : T = 0 := by rw [hT, if_pos (by omega)]
    clear hT
    go_enter Tryz.func10, Tryz.ntmps10
    go_wp2
    go_ret
    exact ⟨rfl, Below.refl _ _⟩
  have d1 : decide (16 < c) = false := decide_eq_false h1
  by_cases h2 : s < 0
  · have d2 : decide (s < 0) = true := decide_eq_true h2
    obtain rfl : T = 0 := by rw [hT, if_pos (by omega)]
    clear hT
    go_enter Tryz.func10, Tryz.ntmps10
    go_wp2
    go_ret
    exact ⟨rfl, Below.refl _ _⟩
  have d2 : decide (s < 0) = false := decide_eq_false h2
  by_cases h3 : 2000 < s
  · have d3 : decide (2000 < s) = true := decide_eq_true h3
    obtain rfl : T = 0 := by rw [hT, if_pos (by omega)]
    clear hT
    go_enter Tryz.func10, Tryz.ntmps10
    go_wp2
    go_ret
    exact ⟨rfl, Below.refl _ _⟩
  have d3 : decide (2000 < s) = false := decide_eq_false h3
  have hT2 : T = 8 + c + s := by rw [hT, if_neg (by omega)]
  have w1 : wrap64 (8 + c) = 8 + c := IntWalk.wrap64_in _ (by omega)
  have w2 : wrap64 (8 + c + s) = T := by rw [hT2]; exact IntWalk.wrap64_in _ (by omega)
  clear hT
  go_enter Tryz.func10, Tryz.ntmps10
  go_wp2
  go_ret
  exact ⟨by first | rfl | rw [hT2], Below.refl _ _⟩

set_option maxHeartbeats 1600000 in
theorem told_ref (e s q : Int) (t X : ByteArray) (w : World) (hX : X = tx (told e s q t.data.toList)) (ht : t.size ≤ 100000) (he : InR e) (hs : InR s) (hq : InR q) :
    Calls Tryz.prog 12 #[.int .i64 e, .int .i64 s, .int .i64 q, .string t] w fun z w' => z = .returned (.string X) ∧ Below w.heap.size w w' := by
  obtain ⟨w0, hw0⟩ : ∃ w0, w0 = w := ⟨w, rfl⟩
  subst hw0
  obtain ⟨De, hDe⟩ : ∃ D, D = tx (dec e) := ⟨_, rfl⟩
  have hLe : De.size ≤ 19 := by rw [hDe]; exact dec_short e he.2
  have Re := Lib.hid (fun u => RTap.dec_any e De u hDe he.1 he.2)
  obtain ⟨Ds, hDs⟩ : ∃ D, D = tx (dec s) := ⟨_, rfl⟩
  have hLs : Ds.size ≤ 19 := by rw [hDs]; exact dec_short s hs.2
  have Rs := Lib.hid (fun u => RTap.dec_any s Ds u hDs hs.1 hs.2)
  obtain ⟨Dq, hDq⟩ : ∃ D, D = tx (dec q) := ⟨_, rfl⟩
  have hLq : Dq.size ≤ 19 := by rw [hDq]; exact dec_short q hq.2
  have Rq := Lib.hid (fun u => RTap.dec_any q Dq u hDq hq.1 hq.2)
  obtain ⟨A1, hA1⟩ : ∃ A, (⟨#[115, 97, 121, 32]⟩ : ByteArray) ++ De = A := ⟨_, rfl⟩
  have sA1 : A1.size = 4 + De.size := by rw [← hA1, ByteArray.size_append] <;> rfl
  have bA1 : ¬ 9223372036854775807 < 4 + De.size := by omega
  obtain ⟨A2, hA2⟩ : ∃ A, A1 ++ (⟨#[32]⟩ : ByteArray) = A := ⟨_, rfl⟩
  have sA2 : A2.size = A1.size + 1 := by rw [← hA2, ByteArray.size_append] <;> rfl
  have bA2 : ¬ 9223372036854775807 < A1.size + 1 := by omega
  obtain ⟨A3, hA3⟩ : ∃ A, A2 ++ Ds = A := ⟨_, rfl⟩
  have sA3 : A3.size = A2.size + Ds.size := by rw [← hA3, ByteArray.size_append] <;> rfl
  have bA3 : ¬ 9223372036854775807 < A2.size + Ds.size := by omega
  obtain ⟨A4, hA4⟩ : ∃ A, A3 ++ (⟨#[32]⟩ : ByteArray) = A := ⟨_, rfl⟩
  have sA4 : A4.size = A3.size + 1 := by rw [← hA4, ByteArray.size_append] <;> rfl
  have bA4 : ¬ 9223372036854775807 < A3.size + 1 := by omega
  obtain ⟨A5, hA5⟩ : ∃ A, A4 ++ Dq = A := ⟨_, rfl⟩
  have sA5 : A5.size = A4.size + Dq.size := by rw [← hA5, ByteArray.size_append] <;> rfl
  have bA5 : ¬ 9223372036854775807 < A4.size + Dq.size := by omega
  obtain ⟨A6, hA6⟩ : ∃ A, A5 ++ (⟨#[32]⟩ : ByteArray) = A := ⟨_, rfl⟩
  have sA6 : A6.size = A5.size + 1 := by rw [← hA6, ByteArray.size_append] <;> rfl
  have bA6 : ¬ 9223372036854775807 < A5.size + 1 := by omega
  obtain ⟨A7, hA7⟩ : ∃ A, A6 ++ t = A := ⟨_, rfl⟩
  have sA7 : A7.size = A6.size + t.size := by rw [← hA7, ByteArray.size_append] <;> rfl
  have bA7 : ¬ 9223372036854775807 < A6.size + t.size := by omega
  have hA : A7 = X := by
    rw [← hA7, ← hA6, ← hA5, ← hA4, ← hA3, ← hA2, ← hA1, hX]
    apply ByteArray.ext
    apply Array.toList_inj.1
    simp only [told, sayT, ByteArray.toList_data_append, hDe, hDs, hDq, List.append_assoc]
  have HM := Lib.hid (Hold.Hld.start w0)
  clear hX he hs hq hDe hDs hDq
  go_enter Tryz.func12, Tryz.ntmps12
  go_wp2_with ((first
    | ((with_reducible refine (Re.out _ ).mono ?_); rintro e w ⟨rfl, hb⟩; replace HM := Lib.hid (HM.out.next hb); clear hb)
    | ((with_reducible refine (Rs.out _ ).mono ?_); rintro e w ⟨rfl, hb⟩; replace HM := Lib.hid (HM.out.next hb); clear hb)
    | ((with_reducible refine (Rq.out _ ).mono ?_); rintro e w ⟨rfl, hb⟩; replace HM := Lib.hid (HM.out.next hb); clear hb)))
  go_ret
  exact ⟨rfl, HM.out.below⟩

set_option maxHeartbeats 1600000 in
theorem noughts_ref (s : ByteArray) (B : Bool) (w : World) (hB : B = Frm.noughts s.data.toList) (hs : s.size ≤ 100000) :
    Calls Tryz.prog 22 #[.string s] w fun z w' => z = .returned (.bool B) ∧ Below w.heap.size w w' := by
  have HB := Lib.hid hB
  have hl : s.data.toList.length = s.size := rfl
  have HLL := Lib.hid hl
  clear hB hl
  go_enter Tryz.func22, Tryz.ntmps22
  go_wp2
  go_loopw [6] (fun i wr => ∃ k : Nat, k ≤ s.size ∧ i = .int .i64 (k : Int) ∧ Frm.noughts (s.data.toList.take k) = true ∧ Below w.heap.size w wr) (fun i _ => s.size - (intOf i).toNat)
  case atStart => exact ⟨0, by omega, rfl, rfl, Below.refl _ _⟩
  case round =>
    obtain ⟨k, hk, rfl, hz, hb⟩ := hrel
    have HZ := Lib.hid hz
    have HW := Lib.hid hb
    clear hz hb
    by_cases hlt : k < s.size
    · have hlt2 : (k : Int) < (s.size : Int) := by omega
      obtain ⟨x, hx⟩ : ∃ x, x = s[k] := ⟨_, rfl⟩
      have hix : ∀ u : World, (Instr.index 9 (.string s) (.int .i64 (k : Int))).run Tryz.prog u = .ok (.int .u8 (x.toNat : Int)) u := fun u => by
        rw [run_index_string (P := Tryz.prog) u 9 s .i64 (k : Int) Tryz.underlying9, dif_pos ⟨by omega, by omega⟩]
        rw [hx]
        rfl
      have hge : s.data.toList[k]? = some x := by
        rw [hx]
        simp [hlt]
        rfl
      have HGE := Lib.hid hge
      clear hx hge
      by_cases hx0 : x = 0
      · have hn := (by rw [noughts_next _ _ _ HGE.out, HZ.out, decide_eq_true hx0]; rfl : Frm.noughts (s.data.toList.take (k + 1)) = true)
        have q1 : ((x.toNat : Int) != 0) = false := by rw [hx0]; rfl
        have HN := Lib.hid hn
        clear hn hx0
        go_wp2
        go_roundw
        case rel => exact ⟨k + 1, by omega, by go_num, HN.out, HW.out⟩
        case measure => simp [intOf]; omega
      · have q1 : ((x.toNat : Int) != 0) = true := by
          have : x.toNat ≠ 0 := fun e => hx0 (UInt8.toNat_inj.1 (by rw [e]; rfl))
          simp
          omega
        obtain rfl : B = false := by rw [HB.out]; exact noughts_no _ _ _ HGE.out hx0
        clear hx0
        go_wp2
        go_ret
        exact ⟨rfl, HW.out⟩
    · obtain rfl : k = s.size := by omega
      obtain rfl : B = true := by
        have := HZ.out
        rw [List.take_of_length_le (by have := HLL.out; omega)] at this
        rw [HB.out, this]
      go_wp2
      go_ret
      exact ⟨rfl, HW.out⟩

set_option maxHeartbeats 3200000 in
theorem turned_ref (a b : ByteArray) (T : Int) (w : World) (hT : T = turned a.data.toList b.data.toList) (ha : a.size ≤ 100000) (hb : b.size ≤ 100000) :
    Calls Tryz.prog 14 #[.string a, .string b] w fun z w' => z = .returned (.int .i64 T) ∧ Below w.heap.size w w' := by
  obtain ⟨w0, hw0⟩ : ∃ w0, w0 = w := ⟨w, rfl⟩
  subst hw0
  obtain ⟨M, hM⟩ : ∃ M : Nat, M = 8 * min a.size b.size := ⟨_, rfl⟩
  have hM2 : 8 * min (a.size : Int) (b.size : Int) = (M : Int) := by rw [hM]; omega
  have hMl : M ≤ 800000 := by omega
  have hwm : wrap64 (8 * min (a.size : Int) (b.size : Int)) = (M : Int) := by rw [hM2]; exact IntWalk.wrap64_in _ (by omega)
  have hla : a.data.toList.length = a.size := rfl
  have hlb : b.data.toList.length = b.size := rfl
  have RP := Lib.hid (fun (k : Nat) (P : Nat) (hP : P = bit a.data.toList (k : Int)) (hk : k ≤ 800000) u => show Calls Tryz.prog 27 #[.string a, .int .i64 (k : Int)] u fun e w' => e = .returned (.int .i64 (P : Int)) ∧ Below u.heap.size u w' from by rw [hP]; exact (bit_ref a (k : Int) u (by omega) (by omega) (by omega)))
  have RQ := Lib.hid (fun (k : Nat) (P : Nat) (hP : P = bit b.data.toList (k : Int)) (hk : k ≤ 800000) u => show Calls Tryz.prog 27 #[.string b, .int .i64 (k : Int)] u fun e w' => e = .returned (.int .i64 (P : Int)) ∧ Below u.heap.size u w' from by rw [hP]; exact (bit_ref b (k : Int) u (by omega) (by omega) (by omega)))
  have HAT := Lib.hid (fun (k : Nat) (hk : k < M) (h : isTurned a.data.toList b.data.toList k = true) (h2 : ∀ j, j < k → isTurned a.data.toList b.data.toList j = false) => hT.trans (turned_at a.data.toList b.data.toList k (by rw [hla, hlb, ← hM]; exact hk) h h2))
  have HNO := Lib.hid (fun (h2 : ∀ j, j < M → isTurned a.data.toList b.data.toList j = false) => hT.trans (turned_none a.data.toList b.data.toList (by rw [hla, hlb, ← hM]; exact h2)))
  have HM := Lib.hid (Hold.Hld.start w0)
  clear hT hM hla hlb ha hb
  go_enter Tryz.func14, Tryz.ntmps14
  go_wp2
  go_loopw [12] (fun i wr => ∃ k : Nat, k ≤ M ∧ i = .int .i64 (k : Int) ∧ (∀ j, j < k → isTurned a.data.toList b.data.toList j = false) ∧ Hold.Hld w0 [] wr) (fun i _ => M - (intOf i).toNat)
  case atStart => exact ⟨0, by omega, rfl, fun j hj => absurd hj (Nat.not_lt_zero j), HM.out⟩
  case round =>
    obtain ⟨k, hk, rfl, hj, hm⟩ := hrel
    clear HM
    have HM := Lib.hid hm
    have HJ := Lib.hid hj
    clear hm hj
    by_cases hlt : k < M
    · have hlt2 : (k : Int) < (M : Int) := by omega
      obtain ⟨P, hP⟩ : ∃ P, P = bit a.data.toList (k : Int) := ⟨_, rfl⟩
      obtain ⟨Q, hQ⟩ : ∃ P, P = bit b.data.toList (k : Int) := ⟨_, rfl⟩
      have hti : isTurned a.data.toList b.data.toList k = (decide (P = 0) && decide (Q = 1)) := by rw [hP, hQ]; rfl
      have S1 := Lib.hid (RP.out k P hP (by omega))
      have S2 := Lib.hid (RQ.out k Q hQ (by omega))
      have HNX := Lib.hid (fun (h : isTurned a.data.toList b.data.toList k = false) (j : Nat) (hj : j < k + 1) => (by
        by_cases e : j = k
        · rw [e]; exact h
        · exact HJ.out j (by omega) : isTurned a.data.toList b.data.toList j = false))
      clear hP hQ
      by_cases p0 : P = 0
      · have q1 : ((P : Int) == 0) = true := by rw [p0]; rfl
        by_cases p1 : Q = 1
        · have q2 : ((Q : Int) == 1) = true := by rw [p1]; rfl
          obtain rfl := HAT.out k hlt (by rw [hti, decide_eq_true p0, decide_eq_true p1]; rfl) HJ.out
          clear p0 p1 hti HNX
          go_wp2_with ((first
            | ((with_reducible refine (S1.out _).mono ?_); rintro e w ⟨rfl, hb⟩; replace HM := Lib.hid (HM.out.next hb); clear hb)
            | ((with_reducible refine (S2.out _).mono ?_); rintro e w ⟨rfl, hb⟩; replace HM := Lib.hid (HM.out.next hb); clear hb)))
          go_ret
          exact ⟨rfl, HM.out.below⟩
        · have q2 : ((Q : Int) == 1) = false := by simpa using (by omega : ¬ (Q : Int) = 1)
          have hn := HNX.out (by rw [hti, decide_eq_false p1, Bool.and_false])
          have HN := Lib.hid hn
          clear p0 p1 hti HNX hn
          go_wp2_with ((first
            | ((with_reducible refine (S1.out _).mono ?_); rintro e w ⟨rfl, hb⟩; replace HM := Lib.hid (HM.out.next hb); clear hb)
            | ((with_reducible refine (S2.out _).mono ?_); rintro e w ⟨rfl, hb⟩; replace HM := Lib.hid (HM.out.next hb); clear hb)))
          go_roundw
          case rel => exact ⟨k + 1, by omega, by go_num, HN.out, HM.out⟩
          case measure => simp [intOf]; omega
      · have q1 : ((P : Int) == 0) = false := by simpa using (by omega : ¬ (P : Int) = 0)
        have hn := HNX.out (by rw [hti, decide_eq_false p0, Bool.false_and])
        have HN := Lib.hid hn
        clear p0 hti HNX hn
        go_wp2_with ((with_reducible refine (S1.out _).mono ?_); rintro e w ⟨rfl, hb⟩; replace HM := Lib.hid (HM.out.next hb); clear hb)
        go_roundw
        case rel => exact ⟨k + 1, by omega, by go_num, HN.out, HM.out⟩
        case measure => simp [intOf]; omega
    · obtain rfl : k = M := by omega
      have hlt2 : ¬ ((k : Int) < (k : Int)) := by omega
      obtain rfl := HNO.out HJ.out
      go_wp2
      go_ret
      exact ⟨rfl, HM.out.below⟩

end Go.Proofs.YtlodgomjlkpdhaaGreatDoor.RFrm
