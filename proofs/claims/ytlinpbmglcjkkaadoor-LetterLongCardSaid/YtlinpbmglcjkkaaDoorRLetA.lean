/-
  Small facts on what is laid (lengths, errors), which the texts of layer 14 share. Nothing here speaks of a program but the types' sizes.
-/
import Derived.Test.YtlinpbmglcjkkaaDoorLet
import Derived.Test.YtlinpbmglcjkkaaDoorHoldC
import Derived.Test.YtlinpbmglcjkkaaDoorPrtD
namespace Go.Proofs.YtlinpbmglcjkkaaDoor.RLet
open Go.RowKit Mur Prt Lanes Cod Let
open Ros (glue glue_error glue_ok)
set_option maxRecDepth 100000

theorem layX_size (r : Except Nat (List UInt8)) (n : Nat) (h : ∀ a, r = .ok a → a.length ≤ n) : (layX r).size ≤ n := by
  cases r with
  | error e => exact Nat.zero_le _
  | ok a => exact h a rfl
theorem nums_most (zs : List Int) (a : List UInt8) (h : layAll num zs = .ok a) : a.length ≤ 2000 := by
  have := all_most num 5 (fun x a h => by rw [num_length x a h]; omega) zs a h
  omega
theorem strs_most (zs : List ByteArray) (a : List UInt8) (h : layAll strB zs = .ok a) : a.length ≤ 2000000 := by
  have := all_most strB 6002 (fun _ a h => str_length _ a h) zs a h
  omega
/-- Texts as lists of bytes. -/
def bl (zs : List ByteArray) : List (List UInt8) := zs.map fun z => z.data.toList
theorem each_bl (zs : List ByteArray) : each strB zs = each str (bl zs) := by
  induction zs with
  | nil => rfl
  | cons x l ih =>
    show each strB (x :: l) = each str (x.data.toList :: bl l)
    rw [each, each, ih]
    rfl
theorem lay_bl (zs : List ByteArray) : layAll strB zs = layAll str (bl zs) := by
  rw [layAll, layAll, each_bl, bl, List.length_map]
theorem strB_errs (zs : List ByteArray) (e : Nat) (h : layAll strB zs = .error e) : 1 ≤ e ∧ e ≤ 4 := all_errs strB (fun _ e h => str_err _ e h) zs e h
theorem cellInt : Hold.TyCell Tryd.prog 3 := ⟨_, Tryd.underlying3, rfl, by kernel_rfl⟩
theorem cellStr : Hold.TyCell Tryd.prog 9 := ⟨_, Tryd.underlying9, rfl, by kernel_rfl⟩
theorem cellInts : Hold.TyCell Tryd.prog 22 := ⟨_, Tryd.underlying22, rfl, by kernel_rfl⟩
theorem cellStrs : Hold.TyCell Tryd.prog 23 := ⟨_, Tryd.underlying23, rfl, by kernel_rfl⟩

end Go.Proofs.YtlinpbmglcjkkaaDoor.RLet
