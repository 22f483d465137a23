/-
  What the laws of layer 13 use of letters: a guarded operation as one step; a row of values that is a letter is just its seven cells; a letter out of what it is as plain text. No condition but those that each lemma names.
-/
import Derived.Test.YtnglnocdffjnoaaSeaE
namespace Go.Proofs.Ytnglnocdffjnoaa.Sea
open Go.RowKit Mur Prt Lanes
set_option maxRecDepth 100000

section
variable {P : Program} {ops : Array Oper} {rest : List Oper} {o : Oper} {a : Act} {w : World} {Q : Exit → Act → World → Prop}
theorem wpList_want (hw : Region.wanted o (yielded ops a.tmps) = true) (v : Value) (hr : (execOp a.eval o).run P w = .ok (.value v) w) (hk : wpList P ops Q rest (a.put o.dst v) w) : wpList P ops Q (o :: rest) a w := by
  refine wpList_step fun K hK => ?_
  rw [if_pos hw]
  unfold Oper.wp
  rw [hr]
  exact hK _ _ hk
end
theorem sl_eq {X : List Value} {s : SV} (h : Sl X s) : X = s.cells := by
  have := h.agg
  injection this with this
  have k := congrArg Array.toList this
  rw [SV.cells]
  simpa using k
theorem svOf_of (s : SV) : svOf s.l = s := by
  cases s
  simp only [svOf, SV.l, tx_data]
theorem bytes_size (l : L) (t : List UInt8) (h : bytes l = .ok t) : t.length ≤ 20000 := by
  have hr := bytes_ok l t h
  obtain ⟨u, d, h1, h2, h3⟩ := bytes_right l hr
  obtain ⟨a, b, c, k1, k2, k3, k4⟩ := text_right l hr
  rw [h3] at h
  obtain rfl := Except.ok.inj h
  rw [h1] at k4
  obtain rfl : u = a ++ (b ++ c) := Except.ok.inj k4
  have := str_length _ _ k1
  have := nums_size _ _ k2
  have := str_length _ _ k3
  have := str_length _ _ h2
  rw [List.length_append, List.length_append, List.length_append]
  omega
theorem text_error (l : L) (e : Nat) (h : text l = .error e) : e = 1 := by
  cases hr : right l with
  | true =>
    obtain ⟨a, b, c, -, -, -, k⟩ := text_right l hr
    rw [k] at h
    cases h
  | false =>
    rw [text_wrong l hr] at h
    cases h
    rfl
theorem bytes_error (l : L) (e : Nat) (h : bytes l = .error e) : e = 1 := by
  cases hr : right l with
  | true =>
    obtain ⟨a, b, -, -, k⟩ := bytes_right l hr
    rw [k] at h
    cases h
  | false =>
    rw [bytes_wrong l hr] at h
    cases h
    rfl
theorem told_err (s g : List UInt8) (ns : List Nat) (b x : List UInt8) (p e : Nat) (h : told s g ns b x p = .error e) : e = 3 := by
  unfold told at h
  split at h
  · cases h
  · cases h; rfl
theorem read_err (s : List UInt8) (e : Nat) (h : read s = .error e) : 1 ≤ e ∧ e ≤ 4 := by
  cases h1 : readStr s 0 with
  | error y => rw [read_one s y h1] at h; cases h; exact readStr_err _ _ _ h1
  | ok x1 =>
    obtain ⟨g, p1⟩ := x1
    cases h2 : readAll readNum s (p1 : Int) with
    | error y => rw [read_two s g p1 y h1 h2] at h; cases h; exact readAll_err _ _ _ h2
    | ok x2 =>
      obtain ⟨ns, p2⟩ := x2
      cases h3 : readStr s (p2 : Int) with
      | error y => rw [read_three s g ns p1 p2 y h1 h2 h3] at h; cases h; exact readStr_err _ _ _ h3
      | ok x3 =>
        obtain ⟨b, p3⟩ := x3
        cases h4 : readStr s (p3 : Int) with
        | error y => rw [read_four s g b ns p1 p2 p3 y h1 h2 h3 h4] at h; cases h; exact readStr_err _ _ _ h4
        | ok x4 =>
          obtain ⟨x, p4⟩ := x4
          rw [read_of s g b x ns p1 p2 p3 p4 h1 h2 h3 h4] at h
          have := told_err _ _ _ _ _ _ _ h
          omega
end Go.Proofs.Ytnglnocdffjnoaa.Sea
