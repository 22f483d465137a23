/-
  What stands first in a text, as the document's answer has it: what is answered is what the plain mathematics says; the world stays as it was. Condition: none.
-/
import Derived.Test.YthlhhmhldpmpiaaDoorRPhrA
namespace Go.Proofs.YthlhhmhldpmpiaaDoor.RPhr
open Go.RowKit Mur Phr
set_option maxRecDepth 100000

/-- The first rune, and how many bytes it has; 0: there is none. -/
def next2 (a : UInt8) : List UInt8 → Nat × Nat
  | [] => (0, 0)
  | b :: _ => if 194 ≤ a.toNat ∧ a.toNat ≤ 223 ∧ b.toNat / 64 = 2 then (a.toNat % 32 * 64 + b.toNat % 64, 2) else (0, 0)
def nextN : List UInt8 → Nat × Nat
  | [] => (0, 0)
  | a :: l => if a.toNat < 128 then (a.toNat, 1) else next2 a l
theorem runes_next (s : List UInt8) (h : s ≠ []) : runes s = if (nextN s).2 = 0 ∨ may (nextN s).1 = false then none else (runes (s.drop (nextN s).2)).map ((nextN s).1 :: ·) := by
  cases s with
  | nil => exact absurd rfl h
  | cons a l =>
    by_cases ha : a.toNat < 128
    · have e : nextN (a :: l) = (a.toNat, 1) := by rw [nextN, if_pos ha]
      rw [e, runes_one a l ha]
      cases hm : may a.toNat with
      | true => simp
      | false => simp
    · cases l with
      | nil =>
        have e : nextN [a] = (0, 0) := by rw [nextN, if_neg ha, next2]
        rw [e, runes_end a ha]
        simp
      | cons b m =>
        rw [runes_two a b m ha]
        by_cases hb : 194 ≤ a.toNat ∧ a.toNat ≤ 223 ∧ b.toNat / 64 = 2
        · have e : nextN (a :: b :: m) = (a.toNat % 32 * 64 + b.toNat % 64, 2) := by
            rw [nextN, if_neg ha, next2, if_pos hb]
          rw [e]
          cases hm : may (a.toNat % 32 * 64 + b.toNat % 64) with
          | true => simp [hb.1, hb.2.1, hb.2.2]
          | false => simp
        · have e : nextN (a :: b :: m) = (0, 0) := by
            rw [nextN, if_neg ha, next2, if_neg hb]
          rw [e, if_neg (fun h => hb ⟨h.1, h.2.1, h.2.2.1⟩)]
          simp
theorem next_le (s : List UInt8) : (nextN s).2 ≤ s.length ∧ (nextN s).2 ≤ 2 ∧ (nextN s).1 < 0x800 := by
  cases s with
  | nil => exact ⟨Nat.le_refl _, by decide, by decide⟩
  | cons a l =>
    rw [nextN]
    split
    · exact ⟨by simp, by show 1 ≤ 2; omega, by show a.toNat < _; omega⟩
    · cases l with
      | nil => exact ⟨Nat.zero_le _, by show 0 ≤ 2; omega, by show 0 < 0x800; omega⟩
      | cons b m =>
        rw [next2]
        split
        · exact ⟨by simp, by show 2 ≤ 2; omega, by show a.toNat % 32 * 64 + b.toNat % 64 < _; omega⟩
        · exact ⟨Nat.zero_le _, by decide, by decide⟩

theorem and_u8_192 (b : UInt8) : bits .and .u8 (b.toNat : Int) 192 = ((b.toNat / 64 * 64 : Nat) : Int) :=
  (show ∀ n : Fin 256, bits .and .u8 ((n.val : Nat) : Int) 192 = ((n.val / 64 * 64 : Nat) : Int) by decide +kernel) ⟨b.toNat, b.toNat_lt⟩
theorem and_u8_63 (b : UInt8) : bits .and .u8 (b.toNat : Int) 63 = ((b.toNat % 64 : Nat) : Int) :=
  (show ∀ n : Fin 256, bits .and .u8 ((n.val : Nat) : Int) 63 = ((n.val % 64 : Nat) : Int) by decide +kernel) ⟨b.toNat, b.toNat_lt⟩
theorem and_i32_31 (a : UInt8) : bits .and .i32 (a.toNat : Int) 31 = ((a.toNat % 32 : Nat) : Int) :=
  (show ∀ n : Fin 256, bits .and .i32 ((n.val : Nat) : Int) 31 = ((n.val % 32 : Nat) : Int) by decide +kernel) ⟨a.toNat, a.toNat_lt⟩
theorem or_i32 (x y : Nat) (hx : x < 32) (hy : y < 64) : bits .or .i32 ((x * 64 : Nat) : Int) (y : Int) = ((x * 64 + y : Nat) : Int) :=
  (show ∀ x : Fin 32, ∀ y : Fin 64, bits .or .i32 ((x.val * 64 : Nat) : Int) ((y.val : Nat) : Int) = ((x.val * 64 + y.val : Nat) : Int) by decide +kernel) ⟨x, hx⟩ ⟨y, hy⟩

set_option maxHeartbeats 3200000 in
theorem next_any (s : ByteArray) (c k : Nat) (w : World) (hc : c = (nextN s.data.toList).1) (hk : k = (nextN s.data.toList).2) :
    Calls Tryd.prog 58 #[.string s] w fun e w' => e = .returned (.tuple #[.int .i32 (c : Int), .int .i64 (k : Int)]) ∧ w' = w := by
  have hsl : s.data.toList.length = s.size := rfl
  cases hd : s.data.toList with
  | nil =>
    obtain rfl : s = ⟨#[]⟩ := by
      apply ByteArray.ext
      apply Array.ext'
      exact hd
    obtain rfl : c = 0 := hc
    obtain rfl : k = 0 := hk
    go_enter Tryd.func58, Tryd.ntmps58
    go_wp2
    go_ret2
    exact ⟨rfl, rfl⟩
  | cons a l =>
    have hsz : s.size = l.length + 1 := by rw [← hsl, hd, List.length_cons]
    have hse : (s.toList.isEmpty) = false := by rw [Go.ByteArray.toList_eq, hd]; rfl
    have hse2 : (s.toList == (⟨#[]⟩ : ByteArray).toList) = false := by
      rw [Go.ByteArray.toList_eq, Go.ByteArray.toList_eq, hd]
      rfl
    have hix : ∀ u, (Instr.index 9 (.string s) (.int .i64 0)).run Tryd.prog u = .ok (.int .u8 (a.toNat : Int)) u := fun u => by
      rw [run_index_string (P := Tryd.prog) u 9 s .i64 0 Tryd.underlying9, dif_pos ⟨by omega, by omega⟩]
      have : s[0]'(by omega) = a := by
        have h1 : s.data.toList[0]? = some a := by rw [hd]; rfl
        exact (List.getElem?_eq_some_iff.1 h1).2
      simp only [Int.toNat_zero, this]
    rw [hd] at hc hk
    have ha256 := a.toNat_lt
    have hw : IntKind.i32.wrap (a.toNat : Int) = (a.toNat : Int) := by rw [IntKind.wrap_i32]; omega
    by_cases ha : a.toNat < 128
    · have e : nextN (a :: l) = (a.toNat, 1) := by rw [nextN, if_pos ha]
      rw [e] at hc hk
      obtain rfl : c = a.toNat := hc
      obtain rfl : k = 1 := hk
      have g1 : decide ((a.toNat : Int) < 128) = true := decide_eq_true (by omega)
      have g2 : decide (a.toNat < 128) = true := decide_eq_true ha
      clear hsl hsz e ha
      go_enter Tryd.func58, Tryd.ntmps58
      go_wp2
      go_ret2
      exact ⟨rfl, rfl⟩
    · have g1 : decide ((a.toNat : Int) < 128) = false := decide_eq_false (by omega)
      have g2 : decide (a.toNat < 128) = false := decide_eq_false ha
      have e : nextN (a :: l) = next2 a l := by rw [nextN, if_neg ha]
      rw [e] at hc hk
      by_cases hlo : a.toNat < 194
      · have g3 : decide ((a.toNat : Int) < 194) = true := decide_eq_true (by omega)
        have g4 : decide (a.toNat < 194) = true := decide_eq_true hlo
        have e2 : next2 a l = (0, 0) := by
          cases l with
          | nil => rfl
          | cons b m => rw [next2, if_neg (by omega)]
        rw [e2] at hc hk
        obtain rfl : c = 0 := hc
        obtain rfl : k = 0 := hk
        clear hsl hsz e ha hlo e2
        go_enter Tryd.func58, Tryd.ntmps58
        go_wp2
        go_ret2
        exact ⟨rfl, rfl⟩
      have g3 : decide ((a.toNat : Int) < 194) = false := decide_eq_false (by omega)
      have g4 : decide (a.toNat < 194) = false := decide_eq_false hlo
      by_cases hhi : 223 < a.toNat
      · have g5 : decide (223 < (a.toNat : Int)) = true := decide_eq_true (by omega)
        have g6 : decide (223 < a.toNat) = true := decide_eq_true hhi
        have e2 : next2 a l = (0, 0) := by
          cases l with
          | nil => rfl
          | cons b m => rw [next2, if_neg (by omega)]
        rw [e2] at hc hk
        obtain rfl : c = 0 := hc
        obtain rfl : k = 0 := hk
        clear hsl hsz e ha hlo e2 hhi
        go_enter Tryd.func58, Tryd.ntmps58
        go_wp2
        go_ret2
        exact ⟨rfl, rfl⟩
      have g5 : decide (223 < (a.toNat : Int)) = false := decide_eq_false (by omega)
      have g6 : decide (223 < a.toNat) = false := decide_eq_false hhi
      cases l with
      | nil =>
        have hz1 : s.size = 1 := hsz
        have g7 : decide ((s.size : Int) < 2) = true := decide_eq_true (by omega)
        have g8 : decide (s.size < 2) = true := decide_eq_true (by omega)
        obtain rfl : c = 0 := hc
        obtain rfl : k = 0 := hk
        clear hsl hsz e ha hlo hhi hz1
        go_enter Tryd.func58, Tryd.ntmps58
        go_wp2
        go_ret2
        exact ⟨rfl, rfl⟩
      | cons b m =>
        have hz2 : 2 ≤ s.size := by rw [hsz]; simp
        have g7 : decide ((s.size : Int) < 2) = false := decide_eq_false (by omega)
        have g8 : decide (s.size < 2) = false := decide_eq_false (by omega)
        have hix1 : ∀ u, (Instr.index 9 (.string s) (.int .i64 1)).run Tryd.prog u = .ok (.int .u8 (b.toNat : Int)) u := fun u => by
          rw [run_index_string (P := Tryd.prog) u 9 s .i64 1 Tryd.underlying9, dif_pos ⟨by omega, by omega⟩]
          have : s[1]'(by omega) = b := by
            have h1 : s.data.toList[1]? = some b := by rw [hd]; rfl
            exact (List.getElem?_eq_some_iff.1 h1).2
          simp only [show (1 : Int).toNat = 1 from rfl, this]
        have hb1 := and_u8_192 b
        have hb2 := and_u8_63 b
        have hb3 := and_i32_31 a
        have hb256 := b.toNat_lt
        by_cases hb : b.toNat / 64 = 2
        · have e2 : next2 a (b :: m) = (a.toNat % 32 * 64 + b.toNat % 64, 2) := by rw [next2, if_pos ⟨by omega, by omega, hb⟩]
          rw [e2] at hc hk
          obtain rfl : k = 2 := hk
          obtain rfl : c = a.toNat % 32 * 64 + b.toNat % 64 := hc
          have g9 : ((b.toNat / 64 * 64 : Nat) : Int) = 128 := by omega
          rw [g9] at hb1
          have hb4 := or_i32 (a.toNat % 32) (b.toNat % 64) (by omega) (by omega)
          have hw2 : IntKind.i32.wrap ((b.toNat % 64 : Nat) : Int) = ((b.toNat % 64 : Nat) : Int) := by rw [IntKind.wrap_i32]; omega
          generalize hx : a.toNat % 32 = x at *
          generalize hy : b.toNat % 64 = y at *
          have hx32 : x < 32 := by omega
          have hy64 : y < 64 := by omega
          clear hsl hsz e ha hlo hhi hz2 hb g9 e2 hx hy
          go_enter Tryd.func58, Tryd.ntmps58
          go_wp2
          go_ret2
          exact ⟨by rw [show ((x * 64 + y : Nat) : Int) = (x : Int) * 64 + (y : Int) by omega]; rfl, rfl⟩
        · have e2 : next2 a (b :: m) = (0, 0) := by rw [next2, if_neg (fun h => hb h.2.2)]
          rw [e2] at hc hk
          obtain rfl : c = 0 := hc
          obtain rfl : k = 0 := hk
          have g9 : (((b.toNat / 64 * 64 : Nat) : Int) != 128) = true := by simp; omega
          generalize ((b.toNat / 64 * 64 : Nat) : Int) = z at *
          clear hsl hsz e ha hlo hhi hz2 hb e2
          go_enter Tryd.func58, Tryd.ntmps58
          go_wp2
          go_ret2
          exact ⟨rfl, rfl⟩
end Go.Proofs.YthlhhmhldpmpiaaDoor.RPhr
