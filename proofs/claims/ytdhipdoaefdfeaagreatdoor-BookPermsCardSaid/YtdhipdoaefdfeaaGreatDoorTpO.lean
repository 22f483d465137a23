/-
  What came in, opened: slices of cells; arrays of texts and of numbers. No condition.
-/
import Derived.Test.YtdhipdoaefdfeaaGreatDoorMTap
import Derived.Test.YtdhipdoaefdfeaaGreatDoorOpen
import Derived.ProofKit
import Derived.OpenShut
import Derived.SizedLaws
import Derived.ShutString
import Derived.Deep.SlicePairs
import Derived.ChangeOld
import Derived.Below
namespace Go.Proofs.YtdhipdoaefdfeaaGreatDoor.TpO
open Go.ChangeShapes Go.WideShapes Go.ChangeAt Go.ChangeMaps Go.RowKit Mur Cel
set_option maxRecDepth 100000

theorem int_wf {z : Int} (h : (Lit.int .i64 z).wf = true) : -9223372036854775808 ≤ z ∧ z ≤ 9223372036854775807 := by
  have h0 : IntKind.i64.min ≤ z ∧ z ≤ IntKind.i64.max := by simpa [Lit.wf] using h
  have e1 : IntKind.i64.min = -9223372036854775808 := by decide
  have e2 : IntKind.i64.max = 9223372036854775807 := by decide
  omega
def textOf (v : Value) : ByteArray := match v with
  | .string s => s
  | _ => ⟨#[]⟩
section
variable {H : Type} {enc : TypeId × Value → H} {w : World} {base : Nat} {spare : Nat → Bool} {held : Bool}
theorem cells_came {a : Option Addr} {n cap : Nat} {d : DataW H} {p : List MemPlace} (h : DataW.Trod enc Tryz.prog w base spare held 22 (.slice a n cap) d p) :
    ∃ l : List K, CelR w a l ∧ l.length = n ∧ n ≤ 9223372036854775807 ∧ n ≤ cap ∧ ∀ c ∈ l, c.1.size ≤ 9223372036854775807 ∧ c.2.size ≤ 9223372036854775807 := by
  obtain ⟨fuel, hf⟩ := h
  rcases Deep.open_slice_pairs Tryz.underlying22 Tryz.underlying60 (by kernel_rfl) rfl rfl (by kernel_rfl) (by kernel_rfl) hf with ⟨hcs, _⟩ | ⟨a', len, cp, m, q, V0, V1, D0, D1, P0, P1, hcs, _, hl, hm, hmm, _, hx⟩
  · simp [Value.cells] at hcs
    obtain ⟨rfl, rfl, rfl⟩ := hcs
    exact ⟨[], CelR.none w _, rfl, by omega, Nat.le_refl _, fun z hz => (by cases hz)⟩
  · simp [Value.cells] at hcs
    obtain ⟨rfl, rfl, rfl⟩ := hcs
    unfold maxLen at hm
    have hlm : n ≤ m := by rw [hmm]; split <;> omega
    have hs : ∀ i, i < n → V0 i = .string (textOf (V0 i)) ∧ V1 i = .string (textOf (V1 i)) ∧ (textOf (V0 i)).size ≤ 9223372036854775807 ∧ (textOf (V1 i)).size ≤ 9223372036854775807 := fun i hi => by
      obtain ⟨-, -, h0, h1⟩ := hx i (by omega)
      obtain ⟨s0, e0, -, l0⟩ := DataW.trod_string Tryz.underlying9 h0
      obtain ⟨s1, e1, -, l1⟩ := DataW.trod_string Tryz.underlying9 h1
      have e0 : V0 i = .string s0 := by simpa using e0
      have e1 : V1 i = .string s1 := by simpa using e1
      unfold maxLen at l0 l1
      rw [e0, e1]
      exact ⟨rfl, rfl, by show s0.size ≤ _; omega, by show s1.size ≤ _; omega⟩
    refine ⟨(List.range n).map fun i => (textOf (V0 i), textOf (V1 i)), fun h0 => ?_, by simp, by omega, hl, fun c hc => ?_⟩
    · have hn0 : 0 < n := by simp at h0; omega
      obtain ⟨b, off, spot⟩ := a'
      have hspot : spot = none := by simpa [Addr.add] using World.cell?_spot (hx 0 (by omega)).1
      subst hspot
      have hc0 := (hx 0 (by omega)).1
      refine ⟨b, off, rfl, ?_, fun i y hy => ?_⟩
      · rw [Go.WideShapes.add_plain] at hc0
        rcases Nat.lt_or_ge b w.heap.size with h' | h'
        · exact h'
        · simp [World.cell?, Array.getElem?_eq_none h'] at hc0
      · have hi : i < n := by
          have := (List.getElem?_eq_some_iff.1 hy).1
          simpa using this
        have e : y = (textOf (V0 i), textOf (V1 i)) := by
          have := (List.getElem?_eq_some_iff.1 hy).2
          rw [← this]
          simp
        obtain ⟨g0, g1, -, -⟩ := hx i (by omega)
        rw [Go.WideShapes.add_plain] at g0 g1
        have hsi := hs i hi
        rw [e]
        exact ⟨g0.trans (congrArg some hsi.1), g1.trans (congrArg some hsi.2.1)⟩
    · obtain ⟨i, hi, rfl⟩ := List.mem_map.1 hc
      have hi := List.mem_range.1 hi
      exact ⟨(hs i hi).2.2.1, (hs i hi).2.2.2⟩
theorem open_cells {r : Reach} {b0 : Nat} {v : Value} {d : DataW H} {p : List MemPlace} (hv : Value.okWide Tryz.prog w r b0 22 v) (h : DataW.Trod enc Tryz.prog w base spare held 22 v d p) :
    ∃ (l : List K) (n : Nat) (a : Option Addr) (c : Nat), v = .slice a n c ∧ CelR w a l ∧ l.length = n ∧ n ≤ 9223372036854775807 ∧ n ≤ c ∧ ∀ c ∈ l, c.1.size ≤ 9223372036854775807 ∧ c.2.size ≤ 9223372036854775807 := by
  obtain ⟨a, n, c, rfl⟩ := okWide_slice Tryz.underlying22 hv
  obtain ⟨l, h1, h2, h3, h4, h5⟩ := cells_came h
  exact ⟨l, n, a, c, rfl, h1, h2, h3, h4, h5⟩
theorem open_three {r : Reach} {b0 : Nat} {v : Value} {d : DataW H} {p : List MemPlace} (hv : Value.okWide Tryz.prog w r b0 23 v) (h : DataW.Trod enc Tryz.prog w base spare held 23 v d p) : ∃ a b c : ByteArray, v = .agg #[.string a, .string b, .string c] := by
  obtain ⟨ss, hl, rfl, -, -, -⟩ := Open.open_string_array Tryz.underlying23 Tryz.underlying9 (by kernel_rfl) (by kernel_rfl) hv h
  match ss, hl with
  | [a, b, c], _ => exact ⟨a, b, c, rfl⟩
end
end Go.Proofs.YtdhipdoaefdfeaaGreatDoor.TpO
