/-
  A letter as seven cells; '==' and '!=' of letters; bounded and sized of package seal answer what the plain text here says, and leave all memory that was there as it was. Conditions: what each lemma names.
-/
import Derived.Test.YtnglnocdffjnoaaSea
import Derived.Test.YtnglnocdffjnoaaPrtB
import Derived.Test.YtnglnocdffjnoaaUseRep
import Derived.Test.YtnglnocdffjnoaaHold
import Derived.Test.YtnglnocdffjnoaaHoldB
import Derived.Lib.MinMax
namespace Go.Proofs.Ytnglnocdffjnoaa.Sea
open Go.RowKit Mur Prt Lanes
set_option maxRecDepth 100000

/-- A letter's parts as values. -/
structure SV where
  g : ByteArray
  e : Int
  r : Int
  k : Int
  f : Int
  b : ByteArray
  x : ByteArray
def SV.l (s : SV) : L := ⟨s.g.data.toList, s.e, s.r, s.k, s.f, s.b.data.toList, s.x.data.toList⟩
def SV.cells (s : SV) : List Value := [.string s.g, .int .i64 s.e, .int .i64 s.r, .int .i64 s.k, .int .i64 s.f, .string s.b, .string s.x]
/-- A row of values that is a letter. -/
structure Sl (X : List Value) (s : SV) : Prop where
  len : X.length = 7
  one : Hold.Single X
  c0 : X[0]? = some (.string s.g)
  c1 : X[1]? = some (.int .i64 s.e)
  c2 : X[2]? = some (.int .i64 s.r)
  c3 : X[3]? = some (.int .i64 s.k)
  c4 : X[4]? = some (.int .i64 s.f)
  c5 : X[5]? = some (.string s.b)
  c6 : X[6]? = some (.string s.x)
  agg : Value.agg X.toArray = .agg #[.string s.g, .int .i64 s.e, .int .i64 s.r, .int .i64 s.k, .int .i64 s.f, .string s.b, .string s.x]
theorem sl_cells (s : SV) : Sl s.cells s := ⟨rfl, by simp [Hold.Single, SV.cells, Value.oneCell'], rfl, rfl, rfl, rfl, rfl, rfl, rfl, rfl⟩
theorem named (s : SV) : ∃ X, Sl X s ∧ X = s.cells := ⟨s.cells, sl_cells s, rfl⟩
theorem seaRow : Hold.TyRow Try.prog 23 7 := ⟨_, Try.underlying23, rfl, by kernel_rfl⟩
theorem cellInt : Hold.TyCell Try.prog 3 := ⟨_, Try.underlying3, rfl, by kernel_rfl⟩
theorem cellStr : Hold.TyCell Try.prog 9 := ⟨_, Try.underlying9, rfl, by kernel_rfl⟩
def zero : SV := ⟨⟨#[]⟩, 0, 0, 0, 0, ⟨#[]⟩, ⟨#[]⟩⟩
def zeroC : List Value := zero.cells
theorem zeroC_len : zeroC.length = 7 := rfl
theorem zero_sea : (Try.prog.info? 23).map (fun i => (i.zero, i.size)) = some (some (.agg zeroC.toArray), zeroC.length) := by kernel_rfl

/-- Two letters are alike. -/
def same (s t : SV) : Bool := (s.g.toList == t.g.toList) && (s.e == t.e) && (s.r == t.r) && (s.k == t.k) && (s.f == t.f) && (s.b.toList == t.b.toList) && (s.x.toList == t.x.toList)
theorem same_iff (s t : SV) : same s t = true ↔ s = t := by
  obtain ⟨a, b, c, d, e, f, g⟩ := s
  obtain ⟨a', b', c', d', e', f', g'⟩ := t
  simp only [same, Bool.and_eq_true, beq_iff_eq, SV.mk.injEq, and_assoc, ByteArray.toList_eq]
  have k : ∀ x y : ByteArray, x.data.toList = y.data.toList ↔ x = y := fun x y => ⟨fun h => ByteArray.ext (Array.ext' h), fun h => by rw [h]⟩
  rw [k, k, k]
theorem same_self (s : SV) : same s s = true := (same_iff s s).2 rfl

set_option maxHeartbeats 1600000 in
theorem sea_eql {X Y : List Value} {s t : SV} (hX : Sl X s) (hY : Sl Y t) (b : Bool) (hb : b = same s t) {o : Oper} {a : Act} {x y : Operand} {ty : TypeId} (ho : o.op = .binOp .eql 23 x y ty) (hx : a.eval x = .agg X.toArray) (hy : a.eval y = .agg Y.toArray) (u : World) :
    (execOp a.eval o).run Try.prog u = .ok (.value (.bool b)) u := by
  subst hb
  rw [hX.agg] at hx
  rw [hY.agg] at hy
  unfold execOp
  simp only [ho, hx, hy]
  unfold same
  cases h0 : (s.g.toList == t.g.toList) with
  | false => go_simp
  | true =>
    cases h1 : (s.e == t.e) with
    | false => go_simp
    | true =>
      cases h2 : (s.r == t.r) with
      | false => go_simp
      | true =>
        cases h3 : (s.k == t.k) with
        | false => go_simp
        | true =>
          cases h4 : (s.f == t.f) with
          | false => go_simp
          | true =>
            cases h5 : (s.b.toList == t.b.toList) with
            | false => go_simp
            | true =>
              cases h6 : (s.x.toList == t.x.toList) with
              | false => go_simp
              | true =>
                go_simp
set_option maxHeartbeats 1600000 in
theorem sea_neq {X Y : List Value} {s t : SV} (hX : Sl X s) (hY : Sl Y t) (b : Bool) (hb : b = !same s t) {o : Oper} {a : Act} {x y : Operand} {ty : TypeId} (ho : o.op = .binOp .neq 23 x y ty) (hx : a.eval x = .agg X.toArray) (hy : a.eval y = .agg Y.toArray) (u : World) :
    (execOp a.eval o).run Try.prog u = .ok (.value (.bool b)) u := by
  subst hb
  rw [hX.agg] at hx
  rw [hY.agg] at hy
  unfold execOp
  simp only [ho, hx, hy]
  unfold same
  cases h0 : (s.g.toList == t.g.toList) with
  | false => go_simp
  | true =>
    cases h1 : (s.e == t.e) with
    | false => go_simp
    | true =>
      cases h2 : (s.r == t.r) with
      | false => go_simp
      | true =>
        cases h3 : (s.k == t.k) with
        | false => go_simp
        | true =>
          cases h4 : (s.f == t.f) with
          | false => go_simp
          | true =>
            cases h5 : (s.b.toList == t.b.toList) with
            | false => go_simp
            | true =>
              cases h6 : (s.x.toList == t.x.toList) with
              | false => go_simp
              | true =>
                go_simp

theorem bounded_any (n a b : Int) (w : World) :
    Calls Try.prog 37 #[.int .i64 n, .int .i64 a, .int .i64 b] w fun e w' => e = .returned (.int .i64 (min (max n a) b)) ∧ w = w' := by
  go_enter Try.func37, Try.ntmps37
  go_wp2
  go_ret
  exact ⟨rfl, rfl⟩

/-- A text, filled or cut. -/
def sizedB (s : ByteArray) (a m : Nat) : ByteArray := if s.size < a then s ++ ⟨(Lib.repeatL [32] (a - s.size)).toArray⟩ else s.extract 0 (min s.size m)
theorem repeatL_size (c : Nat) : (⟨(Lib.repeatL [32] c).toArray⟩ : ByteArray).size = c := by
  show (Lib.repeatL [32] c).length = c
  induction c with
  | zero => rfl
  | succ c ih =>
    rw [Lib.repeatL, List.length_append, ih]
    simp
    omega
theorem sized_some (s : ByteArray) (a m : Nat) (h : a ≤ s.size) : sizedB s a m = s.extract 0 (min s.size m) := by rw [sizedB, if_neg (by omega)]
theorem sized_size (s : ByteArray) (a m : Nat) : (sizedB s a m).size = if s.size < a then a else min s.size m := by
  unfold sizedB
  split
  · rw [ByteArray.size_append, repeatL_size]; omega
  · rw [ByteArray.size_extract]; omega
theorem sized_same (s : ByteArray) (a m : Nat) : (s.toList == (sizedB s a m).toList) = (decide (a ≤ s.size) && decide (s.size ≤ m)) := by
  have k : (s.toList == (sizedB s a m).toList) = decide (s = sizedB s a m) := by
    rw [ByteArray.toList_eq, ByteArray.toList_eq, Bool.eq_iff_iff, beq_iff_eq, decide_eq_true_eq]
    exact ⟨fun h => ByteArray.ext (Array.ext' h), fun h => by rw [← h]⟩
  rw [k, Bool.eq_iff_iff, decide_eq_true_eq, Bool.and_eq_true, decide_eq_true_eq, decide_eq_true_eq]
  constructor
  · intro h
    have := sized_size s a m
    rw [← h] at this
    split at this <;> omega
  · rintro ⟨h1, h2⟩
    rw [sized_some s a m h1, Nat.min_eq_left h2]
    exact (ByteArray.extract_zero_size).symm

set_option maxHeartbeats 800000 in
theorem sized_any (s : ByteArray) (a m : Nat) (Z : ByteArray) (w : World) (hZ : Z = sizedB s a m) (ha : a ≤ 1000) (hs : s.size ≤ 9223372036854775807) :
    Calls Try.prog 36 #[.string s, .int .i64 (a : Int), .int .i64 (m : Int)] w fun e w' => e = .returned (.string Z) ∧ Below w.heap.size w w' := by
  by_cases h : s.size < a
  · have hd : decide ((s.size : Int) < (a : Int)) = true := decide_eq_true (by omega)
    have hd2 : decide (s.size < a) = true := decide_eq_true h
    obtain ⟨c, hc⟩ : ∃ c, c = a - s.size := ⟨_, rfl⟩
    obtain ⟨P, hP⟩ : ∃ P : ByteArray, P = ⟨(Lib.repeatL [32] c).toArray⟩ := ⟨_, rfl⟩
    have hPs : P.size = c := by rw [hP, repeatL_size]
    have hZ2 : s ++ P = Z := by rw [hZ, sizedB, if_pos h, hP, hc]
    have R := Lib.hid (show ∀ u, Calls Try.prog 40 #[.string ⟨#[32]⟩, .int .i64 (c : Int)] u fun e w' => e = .returned (.string P) ∧ Below u.heap.size u w' from fun u => by
      rw [hP]
      exact Use.repeat_any ⟨#[32]⟩ c u (by omega) (by show 1 * c ≤ _; omega))
    have hcc : (a : Int) - (s.size : Int) = (c : Int) := by omega
    have hbig : ¬ 9223372036854775807 < s.size + P.size := by omega
    clear hZ hP hc hPs h
    go_enter Try.func36, Try.ntmps36
    go_wp2_with fail
    refine (R.out _).mono ?_
    rintro e w1 ⟨rfl, hb⟩
    go_wp2
    go_ret
    exact ⟨rfl, hb⟩
  · have hd : decide ((s.size : Int) < (a : Int)) = false := decide_eq_false (by omega)
    have hd2 : decide (s.size < a) = false := decide_eq_false h
    have hZ2 := (sized_some s a m (by omega)).symm.trans hZ.symm
    obtain ⟨q, hq⟩ : ∃ q : Nat, q = min s.size m := ⟨_, rfl⟩
    rw [← hq] at hZ2
    have hmin : min (s.size : Int) (m : Int) = (q : Int) := by omega
    have hcut : ∀ u, (Instr.slice 9 (.string s) none (some (.int .i64 (q : Int))) none).run Try.prog u = .ok (.string Z) u := fun u => by
      rw [← hZ2]
      exact run_slice_string_h (P := Try.prog) (w := u) (t := 9) (s := s) Try.underlying9 .i64 (q : Int) (by omega) (by omega)
    clear hZ hZ2 hq h
    go_enter Try.func36, Try.ntmps36
    go_wp2
    go_ret
    exact ⟨rfl, Below.refl _ _⟩
end Go.Proofs.Ytnglnocdffjnoaa.Sea
