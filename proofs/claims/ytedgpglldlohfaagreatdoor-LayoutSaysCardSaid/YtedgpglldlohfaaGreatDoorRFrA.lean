/-
  The document's own answers for Long, Told and Turned of layer 18, and whether a text is bytes 0, are what the plain mathematics of the text Frm says; all memory that was there is left as it was. Conditions: texts of no more than 100000 bytes, numbers of 64 bits.
-/
import Derived.Test.YtedgpglldlohfaaGreatDoorFrB
import Derived.Test.YtedgpglldlohfaaGreatDoorMRef
import Derived.BigQuiet
import Derived.Deep.QuietTactic
namespace Go.Proofs.YtedgpglldlohfaaGreatDoor.RFrm
open Go.RowKit Mur Lanes Prt Tap Cel Frm
set_option maxRecDepth 100000
set_option linter.unusedSimpArgs false

theorem dec_short (n : Int) (h : n ≤ 9223372036854775807) : (tx (dec n)).size ≤ 19 := by
  have H : ∀ k n, n < 10 ^ k → (digits n).length ≤ max 1 k := by
    intro k
    induction k with
    | zero => intro n h; rw [digits, if_pos (by omega)]; simp
    | succ k ih =>
      intro n h
      rw [digits]
      split
      · simp
      · have h2 : n / 10 < 10 ^ k := by rw [Nat.pow_succ] at h; omega
        have := ih _ h2
        have hk : 1 ≤ k := by
          rcases Nat.eq_zero_or_pos k with rfl | hk
          · omega
          · exact hk
        rw [List.length_append]
        simp only [List.length_cons, List.length_nil]
        omega
  show (dec n).length ≤ 19
  unfold dec
  split
  · decide
  · have := H 19 n.toNat (by omega)
    omega
theorem noughts_next (l : List UInt8) (k : Nat) (x : UInt8) (h : l[k]? = some x) : Frm.noughts (l.take (k + 1)) = (Frm.noughts (l.take k) && decide (x = 0)) := by
  unfold Frm.noughts
  rw [List.take_add_one, h, List.all_append]
  simp
theorem noughts_no (l : List UInt8) (k : Nat) (x : UInt8) (h : l[k]? = some x) (hx : x ≠ 0) : Frm.noughts l = false := by
  unfold Frm.noughts
  rw [List.all_eq_false]
  exact ⟨x, List.mem_of_getElem? h, by simpa using hx⟩

set_option maxHeartbeats 1600000 in
theorem long_ref (c s : Int) (w : World) (hc : InR c) (hs : InR s) : Calls Tryz.prog 20 #[.int .i64 c, .int .i64 s] w fun z w' => z = .returned (.int .i64 (long c s)) ∧ Below w.heap.size w w' := by
  obtain ⟨T, hT⟩ : ∃ T, T = long c s := ⟨_, rfl⟩
  rw [← hT]
  unfold long at hT
  unfold InR at hc hs
  by_cases h0 : c < 1
  · have d0 : decide (c < 1) = true := decide_eq_true h0
    obtain rfl : T = 0 := by rw [hT, if_pos (by omega)]
    clear hT
    go_enter Tryz.func20, Tryz.ntmps20
    go_wp2
    go_ret
    exact ⟨rfl, Below.refl _ _⟩
  have d0 : decide (c < 1) = false := decide_eq_false h0
  by_cases h1 : 16 < c
  · have d1 : decide (16 < c) = true := decide_eq_true h1
    obtain rfl : T = 0 := by rw [hT, if_pos (by omega)]
    clear hT
    go_enter Tryz.func20, Tryz.ntmps20
    go_wp2
    go_ret
    exact ⟨rfl, Below.refl _ _⟩
  have d1 : decide (16 < c) = false := decide_eq_false h1
  by_cases h2 : s < 0
  · have d2 : decide (s < 0) = true := decide_eq_true h2
    obtain rfl : T = 0 := by rw [hT, if_pos (by omega)]
    clear hT
    go_enter Tryz.func20, Tryz.ntmps20
    go_wp2
    go_ret
    exact ⟨rfl, Below.refl _ _⟩
  have d2 : decide (s < 0) = false := decide_eq_false h2
  by_cases h3 : 2000 < s
  · have d3 : decide (2000 < s) = true := decide_eq_true h3
    obtain rfl : T = 0 := by rw [hT, if_pos (by omega)]
    clear hT
    go_enter Tryz.func20, Tryz.ntmps20
    go_wp2
    go_ret
    exact ⟨rfl, Below.refl _ _⟩
  have d3 : decide (2000 < s) = false := decide_eq_false h3
  have hT2 : T = 8 + c + s := by rw [hT, if_neg (by omega)]
  have w1 : wrap64 (8 + c) = 8 + c := IntWalk.wrap64_in _ (by omega)
  have w2 : wrap64 (8 + c + s) = T := by rw [hT2]; exact IntWalk.wrap64_in _ (by omega)
  clear hT
  go_enter Tryz.func20, Tryz.ntmps20
  go_wp2
  go_ret
  exact ⟨by first | rfl | rw [hT2], Below.refl _ _⟩

set_option maxHeartbeats 1600000 in
theorem noughts_ref (s : ByteArray) (B : Bool) (w : World) (hB : B = Frm.noughts s.data.toList) (hs : s.size ≤ 100000) :
    Calls Tryz.prog 31 #[.string s] w fun z w' => z = .returned (.bool B) ∧ Below w.heap.size w w' := by
  have HB := Lib.hid hB
  have hl : s.data.toList.length = s.size := rfl
  have HLL := Lib.hid hl
  clear hB hl
  go_enter Tryz.func31, Tryz.ntmps31
  go_wp2
  go_loopw [6] (fun i wr => ∃ k : Nat, k ≤ s.size ∧ i = .int .i64 (k : Int) ∧ Frm.noughts (s.data.toList.take k) = true ∧ Below w.heap.size w wr) (fun i _ => s.size - (intOf i).toNat)
  case atStart => exact ⟨0, by omega, rfl, rfl, Below.refl _ _⟩
  case round =>
    obtain ⟨k, hk, rfl, hz, hb⟩ := hrel
    have HZ := Lib.hid hz
    have HW := Lib.hid hb
    clear hz hb
    by_cases hlt : k < s.size
    · have hlt2 : (k : Int) < (s.size : Int) := by omega
      obtain ⟨x, hx⟩ : ∃ x, x = s[k] := ⟨_, rfl⟩
      have hix : ∀ u : World, (Instr.index 9 (.string s) (.int .i64 (k : Int))).run Tryz.prog u = .ok (.int .u8 (x.toNat : Int)) u := fun u => by
        rw [run_index_string (P := Tryz.prog) u 9 s .i64 (k : Int) Tryz.underlying9, dif_pos ⟨by omega, by omega⟩]
        rw [hx]
        rfl
      have hge : s.data.toList[k]? = some x := by
        rw [hx]
        simp [hlt]
        rfl
      have HGE := Lib.hid hge
      clear hx hge
      by_cases hx0 : x = 0
      · have hn := (by rw [noughts_next _ _ _ HGE.out, HZ.out, decide_eq_true hx0]; rfl : Frm.noughts (s.data.toList.take (k + 1)) = true)
        have q1 : ((x.toNat : Int) != 0) = false := by rw [hx0]; rfl
        have HN := Lib.hid hn
        clear hn hx0
        go_wp2
        go_roundw
        case rel => exact ⟨k + 1, by omega, by go_num, HN.out, HW.out⟩
        case measure => simp [intOf]; omega
      · have q1 : ((x.toNat : Int) != 0) = true := by
          have : x.toNat ≠ 0 := fun e => hx0 (UInt8.toNat_inj.1 (by rw [e]; rfl))
          simp
          omega
        obtain rfl : B = false := by rw [HB.out]; exact noughts_no _ _ _ HGE.out hx0
        clear hx0
        go_wp2
        go_ret
        exact ⟨rfl, HW.out⟩
    · obtain rfl : k = s.size := by omega
      obtain rfl : B = true := by
        have := HZ.out
        rw [List.take_of_length_le (by have := HLL.out; omega)] at this
        rw [HB.out, this]
      go_wp2
      go_ret
      exact ⟨rfl, HW.out⟩

end Go.Proofs.YtedgpglldlohfaaGreatDoor.RFrm
