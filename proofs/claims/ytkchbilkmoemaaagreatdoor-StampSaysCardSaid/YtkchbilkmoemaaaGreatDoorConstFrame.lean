/-
  What the condition on the constant table gives: its cells, as the program's text lays them; and that the program's own start meets it. No condition.
-/
import Derived.Test.YtkchbilkmoemaaaGreatDoorMDig
import Derived.Test.YtkchbilkmoemaaaGreatDoorRows
import Derived.ProofKit
import Derived.LaidMore
import Derived.OpenShut
import Derived.Stop.Joined
namespace Go.Proofs.YtkchbilkmoemaaaGreatDoor.Sha
open Go.ChangeShapes Go.WideShapes Go.ChangeAt Go.RowKit Mur

def laidL : List (String × DataW Unit) := [("murmur/digest.constants", Rows.laid_murmur_digest_constants)]
theorem own : ownKnob Tryz.prog.godebug = none := by kernel_rfl
theorem gConst : Tryz.prog.globalNamed "murmur/digest.constants" = some 1 := by kernel_rfl
theorem tConst : (Tryz.prog.globals[1]?).map (·.type) = some 101 := by kernel_rfl

theorem door_met (os : Os) (args : Array Value) : laidMetH Tryz.prog laidL ((World.doorLaid Tryz.prog 400 os).forCall (fun _ _ => 0) ⟨#[], args, []⟩).memory :=
  laidMetH_of_parts3 (fuel := 8) (laidMet_of_run' 8 (by kernel_rfl) (by kernel_rfl)) (by kernel_rfl) (by kernel_rfl)

theorem of_laid {W : World} (h : laidMetH Tryz.prog laidL W) : Consts W := by
  rw [MakeChecks.laidMetH_plain _ _ _ (by kernel_rfl)] at h
  obtain ⟨ps, ⟨g0, t0, cs0, f0, p0, q0, hg0, ht0, hv0, hd0, h1, h2⟩, h3, h4⟩ := h
  obtain rfl := Option.some.inj (gConst.symm.trans hg0)
  obtain rfl := Option.some.inj (tConst.symm.trans ht0)
  obtain ⟨xs, m1, rfl, hx1, hlen, hn3, hel⟩ := DataW.trod_array Tryz.underlying101 hd0
  have hcell := World.var?_cell hg0 hv0
  have c22 : Tryz.prog.cellsOf 90 = 1 := by kernel_rfl
  have hl : Rows.laid_murmur_digest_constants (H := Unit) = .agg (ks.map fun (n : Nat) => .lit (.int .u32 (n : Int))) := by kernel_rfl
  have hk64 : ks.length = 64 := rfl
  have hmap : xs.map (·.1) = ks.map fun (n : Nat) => (.lit (.int .u32 (n : Int)) : DataW Unit) := by
    rw [hl] at hx1
    simp only [Prod.mk.injEq, DataW.agg.injEq] at hx1
    exact hx1.1.symm
  have one : ∀ i, i < 64 → W.cell? ⟨1, i, none⟩ = some (.int .u32 (ks.getD i 0 : Nat)) := fun i hi => by
    have hix : i < xs.length := by omega
    have hik : i < ks.length := by omega
    have h5 := hel i hi
    rw [List.getElem?_eq_getElem hix, c22, Nat.mul_one] at h5
    obtain ⟨k, e1, e2, _⟩ := DataW.trod_int Tryz.underlying90 h5
    have h6 : (xs.map (·.1))[i]? = (ks.map fun (n : Nat) => (.lit (.int .u32 (n : Int)) : DataW Unit))[i]? := by rw [hmap]
    rw [List.getElem?_map, List.getElem?_map, List.getElem?_eq_getElem hix, List.getElem?_eq_getElem hik, e2] at h6
    simp only [Option.map_some, Option.some.injEq, DataW.lit.injEq, Lit.int.injEq, true_and] at h6
    have h7 : cs0.toList[i]? = some (.int .u32 k) := by
      have := congrArg List.head? e1
      simpa [List.head?_take, List.head?_drop] using this
    have h8 : ks.getD i 0 = ks[i] := by simp [List.getD, hik]
    rw [hcell i, h8, ← h6]
    simpa using h7
  refine ⟨?_, one⟩
  have := one 0 (by omega)
  rcases Nat.lt_or_ge 1 W.heap.size with h0 | h0
  · exact h0
  · have e : W.heap[1]? = none := by simp [h0]
    simp [World.cell?, e] at this
end Go.Proofs.YtkchbilkmoemaaaGreatDoor.Sha
