/-
  The statements' own example of layer 18 answers true. Conditions: the listed tables; package frame answers as Con says.
-/
import Derived.Test.YtedgpglldlohfaaDoorFrB
namespace Go.Proofs.YtedgpglldlohfaaDoor.Frm
open Go.RowKit Mur Lanes Prt Tap Cel
set_option maxRecDepth 100000
set_option linter.unusedSimpArgs false

def seedT : ByteArray := ⟨#[115, 101, 101, 100]⟩
def ex : SayB := ⟨3, 1, ⟨#[104, 105]⟩, ⟨#[97, 98]⟩⟩
def exT : List UInt8 := layT ex.plain 5 2 seedT.data.toList
theorem ex_err : layE ex.plain 5 2 seedT.data.toList = 0 := by decide
theorem ex_long : layE ex.plain 1 2 seedT.data.toList = 4 := by decide
theorem ex_length : exT.length = 15 := by
  have := lay_length ex.plain 5 2 seedT.data.toList ex_err
  have e : Frm.long 5 2 = 15 := by decide
  rw [e] at this
  unfold exT
  omega
theorem ex_back : readE exT 5 2 = 0 ∧ readX exT 5 2 = ex.plain := back ex.plain 5 2 seedT.data.toList ex_err (fun h => by cases h) (fun _ => rfl)
theorem ex_form : readE exT 4 2 = 3 := by
  unfold readE
  have e : Frm.long 4 2 = 14 := by decide
  rw [e, ex_length, if_neg (by decide), if_pos (Or.inl (by decide))]
theorem ex_seed : (exT.drop 1).take 4 = seedT.data.toList := by
  unfold exT layT
  rw [if_pos ex_err]
  generalize hid seedT.data.toList (bodyT ex.plain 5 2) = b
  rfl
theorem none_is (s : List UInt8) (c g : Int) (h : readE s c g ≠ 0) : readX s c g = nothing := by
  unfold readX
  rw [if_neg h]
theorem ex_told : told 1 2 3 [120] = [115, 97, 121, 32, 49, 32, 50, 32, 51, 32, 120] := by
  have d1 : dec 1 = [49] := by rw [dec, if_neg (by decide), digits, if_pos (by decide)]; rfl
  have d2 : dec 2 = [50] := by rw [dec, if_neg (by decide), digits, if_pos (by decide)]; rfl
  have d3 : dec 3 = [51] := by rw [dec, if_neg (by decide), digits, if_pos (by decide)]; rfl
  unfold told
  rw [d1, d2, d3]
  rfl
theorem ex_one : turned [1] [3] = 1 := by decide
theorem ex_nil : turned [1] [0] = -1 := by decide
theorem built_said (x : SayB) : Tryd.prog.built 44 [(0, .int .i64 x.next), (1, .int .i64 x.seq), (2, .string x.text), (3, .string x.sig)] = some (sayV x).toArray := by kernel_rfl

end Go.Proofs.YtedgpglldlohfaaDoor.Frm
