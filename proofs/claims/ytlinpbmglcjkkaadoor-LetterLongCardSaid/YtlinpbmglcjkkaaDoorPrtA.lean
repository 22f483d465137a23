/-
  Num, Str, cut, readHigh, ReadNum and ReadStr of package parts answer what the plain mathematics of the text Prt says, and leave all memory that was there as it was. Conditions: that numbers and lengths fit.
-/
import Derived.Test.YtlinpbmglcjkkaaDoorPrt
import Derived.Test.YtlinpbmglcjkkaaDoorLnHigh
import Derived.Lib.Hide
import Derived.BigQuiet
import Derived.Deep.QuietTactic
namespace Go.Proofs.YtlinpbmglcjkkaaDoor.Prt
open Go.RowKit Mur Lanes
set_option maxRecDepth 100000

/-- What is told of an outcome. -/
def layX (r : Except Nat (List UInt8)) : ByteArray := match r with
  | .ok l => tx l
  | .error _ => ⟨#[]⟩
def errV {α : Type} (r : Except Nat α) : Int := match r with
  | .ok _ => 0
  | .error e => e
def posV {α : Type} (r : Except Nat (α × Nat)) : Int := match r with
  | .ok x => x.2
  | .error _ => 0
def numV (r : Except Nat (Nat × Nat)) : Int := match r with
  | .ok x => x.1
  | .error _ => 0
def strV (r : Except Nat (List UInt8 × Nat)) : ByteArray := match r with
  | .ok x => tx x.1
  | .error _ => ⟨#[]⟩
theorem piece_cut (s : ByteArray) (a n b : Nat) (hb : b = a + n) : s.extract a b = tx ((s.data.toList.drop a).take n) := by
  apply ByteArray.ext
  apply Array.ext'
  rw [hb]
  simp [ByteArray.data_extract, Array.toList_extract, List.extract]
theorem tx_self (s : ByteArray) : tx s.data.toList = s := rfl

set_option maxHeartbeats 1600000 in
theorem num_any (n : Int) (w : World) (X : ByteArray) (E : Int) (hX : X = layX (num n)) (hE : E = errV (num n)) (h1 : -9223372036854775808 ≤ n) (h2 : n ≤ 9223372036854775807) :
    Calls Tryd.prog 55 #[.int .i64 n] w fun e w' => e = .returned (.tuple #[.string X, .int .i64 E]) ∧ Below w.heap.size w w' := by
  by_cases hn : n < 0 ∨ 1099511627776 ≤ n
  · have hr : num n = .error 1 := by rw [num, if_pos hn]
    rw [hr] at hX hE
    obtain rfl : X = ⟨#[]⟩ := hX
    obtain rfl : E = 1 := hE
    clear hr
    by_cases ha : n < 0
    · have hd : decide (n < 0) = true := by simp [ha]
      clear hn
      go_enter Tryd.func55, Tryd.ntmps55
      go_wp2
      go_ret2
      exact ⟨rfl, Below.refl _ _⟩
    · have hb : 1099511627776 ≤ n := by omega
      have hd : decide (n < 0) = false := by simp; omega
      have hd2 : decide (1099511627776 ≤ n) = true := by simp [hb]
      clear hn
      go_enter Tryd.func55, Tryd.ntmps55
      go_wp2
      go_ret2
      exact ⟨rfl, Below.refl _ _⟩
  · obtain ⟨k, rfl⟩ : ∃ k : Nat, n = k := ⟨n.toNat, by omega⟩
    have hr : num (k : Int) = .ok (high k 5) := by rw [num, if_neg hn, Int.toNat_natCast]
    rw [hr] at hX hE
    obtain rfl : E = 0 := hE
    have R := Lib.hid (show ∀ u, Calls Tryd.prog 59 #[.int .u64 (k : Int), .int .i64 5] u fun e w' => e = .returned (.string X) ∧ Below u.heap.size u w' from fun u => by
      rw [hX]
      exact high_any k 5 u (by omega) (by omega) (by omega))
    have hw : IntKind.u64.wrap (k : Int) = (k : Int) := by rw [IntKind.wrap_u64]; omega
    have hd : decide ((k : Int) < 0) = false := decide_eq_false (by omega)
    have hd2 : decide (1099511627776 ≤ (k : Int)) = false := decide_eq_false (by omega)
    have hd3 : decide (1099511627776 ≤ k) = false := decide_eq_false (by omega)
    clear hr hX hn h1 h2
    go_enter Tryd.func55, Tryd.ntmps55
    go_wp2_with fail
    refine (R.out _).mono ?_
    rintro e w1 ⟨rfl, hb⟩
    go_wp2
    go_ret2
    exact ⟨rfl, hb⟩

set_option maxHeartbeats 1600000 in
theorem str_any (s : ByteArray) (w : World) (X : ByteArray) (E : Int) (hX : X = layX (str s.data.toList)) (hE : E = errV (str s.data.toList)) (h1 : s.size ≤ 9223372036854775807) :
    Calls Tryd.prog 51 #[.string s] w fun e w' => e = .returned (.tuple #[.string X, .int .i64 E]) ∧ Below w.heap.size w w' := by
  have hsl : s.data.toList.length = s.size := rfl
  by_cases hn : 6000 < s.size
  · have hr : str s.data.toList = .error 4 := by rw [str, if_pos (by rw [hsl]; exact hn)]
    rw [hr] at hX hE
    obtain rfl : X = ⟨#[]⟩ := hX
    obtain rfl : E = 4 := hE
    have hd : decide (6000 < (s.size : Int)) = true := by simp; omega
    clear hr hsl
    go_enter Tryd.func51, Tryd.ntmps51
    go_wp2
    go_ret2
    exact ⟨rfl, Below.refl _ _⟩
  · have hr : str s.data.toList = .ok (high s.size 2 ++ s.data.toList) := by rw [str, if_neg (by rw [hsl]; exact hn), hsl]
    rw [hr] at hX hE
    obtain rfl : E = 0 := hE
    obtain ⟨H, hH⟩ : ∃ H : ByteArray, H = tx (high s.size 2) := ⟨_, rfl⟩
    have hHs : H.size = 2 := by rw [hH, tx_size, high_length]
    have hap : H ++ s = X := by rw [hX, hH]; exact tx_append (high s.size 2) s.data.toList
    have R := Lib.hid (show ∀ u, Calls Tryd.prog 59 #[.int .u64 (s.size : Int), .int .i64 2] u fun e w' => e = .returned (.string H) ∧ Below u.heap.size u w' from fun u => by
      rw [hH]
      exact high_any s.size 2 u (by omega) (by omega) (by omega))
    have hw : IntKind.u64.wrap (s.size : Int) = (s.size : Int) := by rw [IntKind.wrap_u64]; omega
    have hd : decide (6000 < (s.size : Int)) = false := by simp; omega
    have hd2 : decide (6000 < s.size) = false := by simp; omega
    have hbig : ¬ 9223372036854775807 < H.size + s.size := by omega
    clear hr hX hH hsl
    go_enter Tryd.func51, Tryd.ntmps51
    go_wp2_with fail
    refine (R.out _).mono ?_
    rintro e w1 ⟨rfl, hb⟩
    go_wp2
    go_ret2
    exact ⟨rfl, hb⟩

set_option maxHeartbeats 1600000 in
theorem cut_any (s : ByteArray) (p : Int) (m : Nat) (w : World) (X : ByteArray) (B E : Int) (hX : X = strV (cut s.data.toList p m)) (hB : B = posV (cut s.data.toList p m)) (hE : E = errV (cut s.data.toList p m)) (h1 : -9223372036854775808 ≤ p) (h2 : p ≤ 9223372036854775807) (hs : s.size ≤ 1000000000) (hm : m ≤ 1000000000) :
    Calls Tryd.prog 57 #[.string s, .int .i64 p, .int .i64 (m : Int)] w fun e w' => e = .returned (.tuple #[.string X, .int .i64 B, .int .i64 E]) ∧ Below w.heap.size w w' := by
  have hsl : s.data.toList.length = s.size := rfl
  by_cases hn : p < 0 ∨ (s.size : Int) < p
  · have hr : cut s.data.toList p m = .error 1 := by rw [cut, if_pos (by rw [hsl]; exact hn)]
    rw [hr] at hX hB hE
    obtain rfl : X = ⟨#[]⟩ := hX
    obtain rfl : B = 0 := hB
    obtain rfl : E = 1 := hE
    clear hr hsl
    by_cases ha : p < 0
    · have hd : decide (p < 0) = true := by simp [ha]
      clear hn
      go_enter Tryd.func57, Tryd.ntmps57
      go_wp2
      go_ret3
      exact ⟨rfl, Below.refl _ _⟩
    · have hb : (s.size : Int) < p := by omega
      have hd : decide (p < 0) = false := by simp; omega
      have hd2 : decide ((s.size : Int) < p) = true := by simp [hb]
      clear hn
      go_enter Tryd.func57, Tryd.ntmps57
      go_wp2
      go_ret3
      exact ⟨rfl, Below.refl _ _⟩
  · obtain ⟨k, rfl⟩ : ∃ k : Nat, p = k := ⟨p.toNat, by omega⟩
    have hd : decide ((k : Int) < 0) = false := decide_eq_false (by omega)
    have hd2 : decide ((s.size : Int) < (k : Int)) = false := decide_eq_false (by omega)
    have hd3 : decide (s.size < k) = false := decide_eq_false (by omega)
    by_cases ha : (s.size : Int) - (k : Int) < (m : Int)
    · have hr : cut s.data.toList (k : Int) m = .error 2 := by rw [cut, if_neg (by rw [hsl]; exact hn), if_pos (by rw [hsl]; exact ha)]
      rw [hr] at hX hB hE
      obtain rfl : X = ⟨#[]⟩ := hX
      obtain rfl : B = 0 := hB
      obtain rfl : E = 2 := hE
      have hd4 : decide ((s.size : Int) - (k : Int) < (m : Int)) = true := decide_eq_true ha
      clear hr hsl
      go_enter Tryd.func57, Tryd.ntmps57
      go_wp2
      go_ret3
      exact ⟨rfl, Below.refl _ _⟩
    · have hr : cut s.data.toList (k : Int) m = .ok ((s.data.toList.drop k).take m, k + m) := by rw [cut, if_neg (by rw [hsl]; exact hn), if_neg (by rw [hsl]; exact ha)]; rfl
      rw [hr] at hX hB hE
      obtain rfl : E = 0 := hE
      obtain rfl : B = (k : Int) + (m : Int) := hB.trans (Int.natCast_add k m)
      have hd4 : decide ((s.size : Int) - (k : Int) < (m : Int)) = false := decide_eq_false (by omega)
      have hp : s.extract k (k + m) = X := by rw [hX]; exact piece_cut s k m _ rfl
      have hcut : ∀ u, (Instr.slice 9 (.string s) (some (.int .i64 (k : Int))) (some (.int .i64 ((k : Int) + (m : Int)))) none).run Tryd.prog u = .ok (.string X) u := fun u => by
        rw [← hp]
        exact run_slice_string u 9 s .i64 .i64 (k : Int) ((k : Int) + (m : Int)) Tryd.underlying9 (by omega) (by omega) (by omega)
      have e4 : (k : Int) ≤ (k : Int) + (m : Int) := by omega
      have e5 : (k : Int) + (m : Int) ≤ (s.size : Int) := by omega
      have e6 : (0 : Int) ≤ (k : Int) := by omega
      have e7 : (0 : Int) ≤ (k : Int) + (m : Int) := by omega
      have e8 : (k : Int).toNat = k := by omega
      have e9 : ((k : Int) + (m : Int)).toNat = k + m := by omega
      clear hr hsl hX hB hp hn h1 h2
      go_enter Tryd.func57, Tryd.ntmps57
      go_wp2
      go_ret3
      exact ⟨rfl, Below.refl _ _⟩
end Go.Proofs.YtlinpbmglcjkkaaDoor.Prt
