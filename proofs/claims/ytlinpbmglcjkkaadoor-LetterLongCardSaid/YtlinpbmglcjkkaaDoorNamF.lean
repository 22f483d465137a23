/-
  What the condition on the table of names gives: its cells, as the program's text lays them; and that the program's own start meets it. No condition.
-/
import Derived.Test.YtlinpbmglcjkkaaDoorRLetG
import Derived.Test.YtlinpbmglcjkkaaDoorRows
import Derived.ProofKit
import Derived.LaidMore
import Derived.OpenShut
import Derived.Stop.Joined
namespace Go.Proofs.YtlinpbmglcjkkaaDoor.Nam
open Go.ChangeShapes Go.WideShapes Go.ChangeAt Go.RowKit Mur
open RLet (nameB)
set_option maxRecDepth 100000

def ks : List (List UInt8) := [[], [99, 97, 115, 116], [108, 105, 115, 116], [112, 108, 101, 100, 103, 101], [115, 104, 97, 114, 101], [99, 101, 114, 116], [111, 117, 116]]
/-- The table of names lies in its block. -/
def Names (w : World) : Prop := 0 < w.heap.size ∧ ∀ i, i < 7 → w.cell? ⟨0, i, none⟩ = some (.string (nameB (i : Int)))
theorem Names.below {w w' : World} (h : Names w) (k : Below w.heap.size w w') : Names w' :=
  ⟨Nat.lt_of_lt_of_le h.1 k.size, fun i hi => (k.cell (p := ⟨0, i, none⟩) h.1).trans (h.2 i hi)⟩

def laidL : List (String × DataW Unit) := [("murmur/letter.names", Rows.laid_murmur_letter_names)]
theorem own : ownKnob Tryd.prog.godebug = none := by kernel_rfl
theorem gNames : Tryd.prog.globalNamed "murmur/letter.names" = some 0 := by kernel_rfl
theorem tNames : (Tryd.prog.globals[0]?).map (·.type) = some 55 := by kernel_rfl

theorem door_met (os : Os) (args : Array Value) : laidMetH Tryd.prog laidL ((World.doorLaid Tryd.prog 400 os).forCall (fun _ _ => 0) ⟨#[], args, []⟩).memory :=
  laidMetH_of_parts3 (fuel := 8) (laidMet_of_run' 8 (by kernel_rfl) (by kernel_rfl)) (by kernel_rfl) (by kernel_rfl)

theorem name_at (i : Nat) (h : i < 7) (b : ByteArray) (k : ks[i]? = some b.data.toList) : b = nameB (i : Int) := by
  have e : ∀ (x y : ByteArray), x.data.toList = y.data.toList → x = y := fun x y h => by
    cases x; cases y
    exact congrArg ByteArray.mk (Array.toList_inj.1 h)
  match i, h with
  | 0, _ => exact e _ _ (Option.some.inj k).symm
  | 1, _ => exact e _ _ (Option.some.inj k).symm
  | 2, _ => exact e _ _ (Option.some.inj k).symm
  | 3, _ => exact e _ _ (Option.some.inj k).symm
  | 4, _ => exact e _ _ (Option.some.inj k).symm
  | 5, _ => exact e _ _ (Option.some.inj k).symm
  | 6, _ => exact e _ _ (Option.some.inj k).symm

theorem of_laid {W : World} (h : laidMetH Tryd.prog laidL W) : Names W := by
  rw [MakeChecks.laidMetH_plain _ _ _ (by kernel_rfl)] at h
  obtain ⟨ps, ⟨g0, t0, cs0, f0, p0, q0, hg0, ht0, hv0, hd0, h1, h2⟩, h3, h4⟩ := h
  obtain rfl := Option.some.inj (gNames.symm.trans hg0)
  obtain rfl := Option.some.inj (tNames.symm.trans ht0)
  obtain ⟨xs, m1, rfl, hx1, hlen, hn3, hel⟩ := DataW.trod_array Tryd.underlying55 hd0
  have hcell := World.var?_cell hg0 hv0
  have c22 : Tryd.prog.cellsOf 9 = 1 := by kernel_rfl
  have hl : Rows.laid_murmur_letter_names (H := Unit) = .agg (ks.map fun (n : List UInt8) => .lit (.string n)) := by kernel_rfl
  have hk : ks.length = 7 := rfl
  have hmap : xs.map (·.1) = ks.map fun (n : List UInt8) => (.lit (.string n) : DataW Unit) := by
    rw [hl] at hx1
    simp only [Prod.mk.injEq, DataW.agg.injEq] at hx1
    exact hx1.1.symm
  have one : ∀ i, i < 7 → W.cell? ⟨0, i, none⟩ = some (.string (nameB (i : Int))) := fun i hi => by
    have hix : i < xs.length := by omega
    have hik : i < ks.length := by omega
    have h5 := hel i hi
    rw [List.getElem?_eq_getElem hix, c22, Nat.mul_one] at h5
    obtain ⟨k, e1, e2, _⟩ := DataW.trod_string Tryd.underlying9 h5
    have h6 : (xs.map (·.1))[i]? = (ks.map fun (n : List UInt8) => (.lit (.string n) : DataW Unit))[i]? := by rw [hmap]
    rw [List.getElem?_map, List.getElem?_map, List.getElem?_eq_getElem hix, List.getElem?_eq_getElem hik, e2] at h6
    simp only [Option.map_some, Option.some.injEq, DataW.lit.injEq, Lit.string.injEq] at h6
    have h7 : cs0.toList[i]? = some (.string k) := by
      have := congrArg List.head? e1
      simpa [List.head?_take, List.head?_drop] using this
    have h8 : k = nameB (i : Int) := name_at i hi k (by rw [List.getElem?_eq_getElem hik, h6])
    rw [hcell i, ← h8]
    simpa using h7
  refine ⟨?_, one⟩
  have := one 0 (by omega)
  rcases Nat.lt_or_ge 0 W.heap.size with h0 | h0
  · exact h0
  · have e : W.heap[0]? = none := by simp [h0]
    simp [World.cell?, e] at this

set_option maxHeartbeats 1600000 in
theorem name_any (k : Int) (N : ByteArray) (w : World) (hN : N = nameB k) (hw : Names w) :
    Calls Tryd.prog 9 #[.int .i64 k] w fun e w' => e = .returned (.string N) ∧ w = w' := by
  by_cases h1 : k < 0
  · have d1 : decide (k < 0) = true := decide_eq_true h1
    obtain rfl : N = ⟨#[]⟩ := by
      rw [hN, nameB, if_neg (by omega), if_neg (by omega), if_neg (by omega), if_neg (by omega), if_neg (by omega), if_neg (by omega)]
    clear hN hw h1
    go_enter Tryd.func9, Tryd.ntmps9
    go_wp2
    go_ret
    exact ⟨rfl, rfl⟩
  by_cases h2 : 7 ≤ k
  · have d1 : decide (k < 0) = false := decide_eq_false h1
    have d2 : decide (7 ≤ k) = true := decide_eq_true h2
    obtain rfl : N = ⟨#[]⟩ := by
      rw [hN, nameB, if_neg (by omega), if_neg (by omega), if_neg (by omega), if_neg (by omega), if_neg (by omega), if_neg (by omega)]
    clear hN hw h1
    go_enter Tryd.func9, Tryd.ntmps9
    go_wp2
    go_ret
    exact ⟨rfl, rfl⟩
  obtain ⟨m, rfl⟩ : ∃ m : Nat, k = m := ⟨k.toNat, by omega⟩
  have hm : m < 7 := by omega
  have c0 := hw.2 m hm
  rw [← hN] at c0
  have d1 : decide ((m : Int) < 0) = false := decide_eq_false h1
  have d2 : decide (7 ≤ (m : Int)) = false := decide_eq_false h2
  have i1 : (m : Int) < 7 := by omega
  clear hN hw h1 h2
  go_enter Tryd.func9, Tryd.ntmps9
  go_wp2
  go_ret
  exact ⟨rfl, rfl⟩
end Go.Proofs.YtlinpbmglcjkkaaDoor.Nam
