/-
  Plain lemmas on bytes and on a block of memory that a call has made itself. Nothing here speaks of a program: no condition but those that each lemma names.
-/
import Derived.WalkKit
import Derived.Lib.ConvBytes
import Derived.Lib.SlBytesRow
import Derived.Lib.Hide
namespace Go.Proofs.YtedgpglldlohfaaDoor.Mur
open Go.RowKit

/-- Block b begins with the values vs, and none of their cells is frozen. -/
def Row (w : World) (b : Nat) (vs : List Value) : Prop :=
  b < w.heap.size ∧ ∀ (i : Nat) (v : Value), vs[i]? = some v → w.cell? ⟨b, i, none⟩ = some v ∧ w.frozen? ⟨b, i, none⟩ = false

theorem Row.lt {w : World} {b : Nat} {vs : List Value} (h : Row w b vs) : b < w.heap.size := h.1
theorem Row.cell {w : World} {b : Nat} {vs : List Value} (h : Row w b vs) {i : Nat} {v : Value} (hi : vs[i]? = some v) : w.cell? ⟨b, i, none⟩ = some v := (h.2 i v hi).1
theorem Row.free {w : World} {b : Nat} {vs : List Value} (h : Row w b vs) {i : Nat} (hi : i < vs.length) : w.frozen? ⟨b, i, none⟩ = false :=
  (h.2 i vs[i] (by simp [hi])).2

theorem Row.drew {w : World} {b : Nat} {vs : List Value} (h : Row w b vs) : Row w.drew b vs := ⟨h.1, h.2⟩

theorem Row.set {w : World} {b : Nat} {vs : List Value} (h : Row w b vs) (i : Nat) (u : Value) : Row (w.setCell ⟨b, i, none⟩ u) b (vs.set i u) := by
  refine ⟨by rw [World.size_setCell]; exact h.1, fun j v hv => ?_⟩
  rw [World.frozen?_setCell]
  by_cases e : i = j
  · subst e
    have hl : i < vs.length := by
      have := (List.getElem?_eq_some_iff.mp hv).1
      simpa using this
    rw [List.getElem?_set_self hl] at hv
    cases hv
    exact ⟨World.cell?_setCell_same w _ _ (h.cell (i := i) (v := vs[i]) (by simp [hl])), h.free hl⟩
  · rw [List.getElem?_set_ne e] at hv
    rw [World.cell?_setCell_other w ⟨b, i, none⟩ ⟨b, j, none⟩ u (by intro h; cases h; exact e rfl)]
    exact h.2 j v hv

theorem Row.alloc {w : World} {b : Nat} {vs : List Value} (h : Row w b vs) (o : Obj) : Row (w.alloc o) b vs := by
  refine ⟨by have := h.1; simp; omega, fun j v hv => ?_⟩
  rw [World.cell?_alloc_old _ _ _ (Nat.ne_of_lt h.1), World.frozen?_alloc_old _ _ _ (Nat.ne_of_lt h.1)]
  exact h.2 j v hv

theorem Row.below {B : Nat} {w w' : World} {b : Nat} {vs : List Value} (h : Row w b vs) (hb : b < B) (k : Below B w w') : Row w' b vs := by
  refine ⟨Nat.lt_of_lt_of_le h.1 k.size, fun j v hv => ?_⟩
  rw [k.cell (p := ⟨b, j, none⟩) hb, k.frozen (p := ⟨b, j, none⟩) hb]
  exact h.2 j v hv

/-- A byte, and a word of 32 bits, as the model has them. -/
abbrev u8 (x : UInt8) : Value := .int .u8 (x.toNat : Int)
def bytesV (l : List UInt8) : List Value := l.map u8

theorem bytesV_length (l : List UInt8) : (bytesV l).length = l.length := by simp [bytesV]
theorem bytesV_at {l : List UInt8} {i : Nat} (h : i < l.length) : (bytesV l)[i]? = some (.int .u8 (l[i].toNat : Int)) := by simp [bytesV, h]
theorem bytesV_set (l : List UInt8) (i : Nat) (x : UInt8) : (bytesV l).set i (.int .u8 (x.toNat : Int)) = bytesV (l.set i x) := by simp [bytesV, List.map_set]

/-- What '[]byte(s)' makes. -/
theorem conv_row {P : Program} (w : World) (src dst e : TypeId) (s : ByteArray) {u : TypeDesc} (hs : P.underlying src = some u) (hd : P.underlying dst = some (.slice e)) (he : P.underlying e = some (.int .u8)) :
    ∃ cap w1, s.size ≤ cap ∧ (convert src dst (.string s)).run P w = .ok (.slice (some ⟨w.heap.size, 0, none⟩) s.size cap) w1 ∧ Row w1 w.heap.size (bytesV s.data.toList) ∧ Below w.heap.size w w1 := by
  refine ⟨_, _, grownCap_ge _ _ _ _, Lib.run_convert_string_bytes w src dst e s hs hd he, ⟨?_, ?_⟩, ?_⟩
  · rw [Lib.bytesWorld_size]; omega
  · intro i v hv
    have hl : i < s.data.toList.length := by
      have := (List.getElem?_eq_some_iff.mp hv).1
      simpa [bytesV] using this
    have hl' : i < s.size := by simpa using hl
    rw [bytesV_at hl] at hv
    cases hv
    refine ⟨?_, ?_⟩
    · rw [Lib.bytesWorld_cell w e s i hl']
      have hd : i < s.data.size := hl'
      simp only [List.getD, Array.getElem?_toList, Array.getElem_toList]
      rw [Array.getElem?_eq_getElem hd]
      rfl
    · have hc : i < (Lib.bytesCells w e s).size := by
        simp only [Lib.bytesCells, Array.size_append, Array.size_map]
        have : s.data.size = s.size := rfl
        omega
      simp [World.frozen?, Lib.bytesWorld_at_new]
      omega
  · refine ⟨?_, ?_, ?_, ?_, ?_⟩
    · simp [Lib.bytesWorld, World.freeze, World.alloc, World.drew, -World.alloc_eq, -World.drew_eq]
    · simp [Lib.bytesWorld, World.freeze, World.alloc, World.drew, -World.alloc_eq, -World.drew_eq]
    · simp [Lib.bytesWorld, World.freeze, World.alloc, World.drew, -World.alloc_eq, -World.drew_eq]
    · rw [Lib.bytesWorld_size]; omega
    · exact fun k hk => Lib.bytesWorld_at_old w e s k hk

/-- 'string(b)' of a slice that is a row of bytes from the head of its block on. -/
theorem string_row {P : Program} {w : World} {b : Nat} {l : List UInt8} (h : Row w b (bytesV l)) (src e dst : TypeId) (hs : P.underlying src = some (.slice e)) (he : P.underlying e = some (.int .u8)) (hd : P.underlying dst = some .string) (n cap : Nat) (hn : n = l.length) :
    (convert src dst (.slice (some ⟨b, 0, none⟩) n cap)).run P w = .ok (.string ⟨l.toArray⟩) w := by
  have hb : Lib.Bytes w b 0 ⟨l.toArray⟩ := fun i hi => by
    have hi' : i < l.length := hi
    rw [Nat.zero_add]
    exact h.cell (bytesV_at hi')
  have := Lib.run_convert_whole w src e dst hs he hd b 0 ⟨l.toArray⟩ hb cap
  subst hn
  exact this

theorem xor_u8 (x y : UInt8) : bits .xor .u8 (x.toNat : Int) (y.toNat : Int) = ((x ^^^ y).toNat : Int) := by
  rw [u8_xor_nat _ _ x.toNat_lt y.toNat_lt, UInt8.toNat_xor]
theorem or_u8 (x y : UInt8) : bits .or .u8 (x.toNat : Int) (y.toNat : Int) = ((x ||| y).toNat : Int) := by
  rw [u8_or_nat _ _ x.toNat_lt y.toNat_lt, UInt8.toNat_or]
theorem and_u8 (x y : UInt8) : bits .and .u8 (x.toNat : Int) (y.toNat : Int) = ((x &&& y).toNat : Int) := by
  rw [u8_and_nat _ _ x.toNat_lt y.toNat_lt, UInt8.toNat_and]

/-- Int's own operations at numbers below 2^63. -/
theorem ofInt64 (a : Nat) (ha : a < 9223372036854775808) : (BitVec.ofInt 64 (a : Int)).toNat = a := by
  rw [BitVec.ofInt_natCast, BitVec.toNat_ofNat]
  exact Nat.mod_eq_of_lt (by omega)
theorem and_i64_nat (a b : Nat) (ha : a < 9223372036854775808) (hb : b < 9223372036854775808) : bits .and .i64 (a : Int) (b : Int) = ((a &&& b : Nat) : Int) := by
  have hx : a &&& b < 2 ^ 63 := Nat.and_lt_two_pow a (by omega)
  show IntKind.i64.wrap ((BitVec.ofInt 64 (a : Int) &&& BitVec.ofInt 64 (b : Int)).toNat : Int) = _
  rw [BitVec.toNat_and, ofInt64 a ha, ofInt64 b hb, IntKind.wrap_i64]
  omega
theorem or_i64_nat (a b : Nat) (ha : a < 9223372036854775808) (hb : b < 9223372036854775808) : bits .or .i64 (a : Int) (b : Int) = ((a ||| b : Nat) : Int) := by
  have hx : a ||| b < 2 ^ 63 := Nat.or_lt_two_pow (by omega) (by omega)
  show IntKind.i64.wrap ((BitVec.ofInt 64 (a : Int) ||| BitVec.ofInt 64 (b : Int)).toNat : Int) = _
  rw [BitVec.toNat_or, ofInt64 a ha, ofInt64 b hb, IntKind.wrap_i64]
  omega
theorem xor_i64_nat (a b : Nat) (ha : a < 9223372036854775808) (hb : b < 9223372036854775808) : bits .xor .i64 (a : Int) (b : Int) = ((a ^^^ b : Nat) : Int) := by
  have hx : a ^^^ b < 2 ^ 63 := Nat.xor_lt_two_pow (by omega) (by omega)
  show IntKind.i64.wrap ((BitVec.ofInt 64 (a : Int) ^^^ BitVec.ofInt 64 (b : Int)).toNat : Int) = _
  rw [BitVec.toNat_xor, ofInt64 a ha, ofInt64 b hb, IntKind.wrap_i64]
  omega
theorem and_one (x : Nat) (h : x < 9223372036854775808) : bits .and .i64 (x : Int) 1 = ((x % 2 : Nat) : Int) := by
  have := and_i64_nat x 1 h (by omega)
  rw [Nat.and_one_is_mod] at this
  exact this

theorem belowN {B : Nat} {a w : World} (h : Below B a w) (n : Nat) : Below B a (w.drewN n) := ⟨h.os, h.tape, h.output, h.size, h.block⟩
theorem Row.drewN {w : World} {b : Nat} {vs : List Value} (h : Row w b vs) (n : Nat) : Row (w.drewN n) b vs := ⟨h.1, h.2⟩

end Go.Proofs.YtedgpglldlohfaaDoor.Mur
