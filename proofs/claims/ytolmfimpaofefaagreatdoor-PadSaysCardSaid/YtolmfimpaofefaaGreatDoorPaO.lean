/-
  What came in, opened: slices of cells, with how long their texts are; slices and arrays of numbers. No condition.
-/
import Derived.Test.YtolmfimpaofefaaGreatDoorMTap
import Derived.Test.YtolmfimpaofefaaGreatDoorOpen
import Derived.ProofKit
import Derived.OpenShut
import Derived.SizedLaws
import Derived.ShutString
import Derived.SliceStrings
import Derived.ChangeSlices
import Derived.Deep.SlicePairs
import Derived.ChangeOld
import Derived.Below
namespace Go.Proofs.YtolmfimpaofefaaGreatDoor.PaO
open Go.ChangeShapes Go.WideShapes Go.ChangeAt Go.ChangeMaps Go.RowKit Mur Cel
set_option maxRecDepth 100000

def IntsR (w : World) (a : Option Addr) (l : List Int) : Prop := l.length ≠ 0 → ∃ b o, a = some ⟨b, o, none⟩ ∧ b < w.heap.size ∧ ∀ i x, l[i]? = some x → w.cell? ⟨b, o + i, none⟩ = some (.int .i64 x)
theorem int_wf {z : Int} (h : (Lit.int .i64 z).wf = true) : -9223372036854775808 ≤ z ∧ z ≤ 9223372036854775807 := by
  have h0 : IntKind.i64.min ≤ z ∧ z ≤ IntKind.i64.max := by simpa [Lit.wf] using h
  have e1 : IntKind.i64.min = -9223372036854775808 := by decide
  have e2 : IntKind.i64.max = 9223372036854775807 := by decide
  omega
def textOf (v : Value) : ByteArray := match v with
  | .string s => s
  | _ => ⟨#[]⟩
section
variable {H : Type} {enc : TypeId × Value → H} {w : World} {base : Nat} {spare : Nat → Bool} {held : Bool}
theorem all_mem {P : Program} {e : TypeId} : ∀ {l : List (DataW H)} {d : DataW H}, d ∈ l → ∀ n ∈ d.weights P e, n ∈ DataW.weightsAll P e l
  | x :: l, d, hd, n, hn => by
    rw [DataW.weightsAll, List.mem_append]
    rcases List.mem_cons.1 hd with rfl | hd
    · exact Or.inl hn
    · exact Or.inr (all_mem hd n hn)
theorem cells_came {a : Option Addr} {n cap : Nat} {d : DataW H} {p : List MemPlace} (h : DataW.Trod enc Tryz.prog w base spare held 22 (.slice a n cap) d p) (hw : ∀ m ∈ d.weights Tryz.prog 22, m ≤ reachBytes) :
    ∃ l : List K, CelR w a l ∧ l.length = n ∧ n ≤ 9223372036854775807 ∧ n ≤ cap ∧ ∀ c ∈ l, c.1.size ≤ 140737488351232 ∧ c.2.size ≤ 140737488351232 := by
  obtain ⟨fuel, hf⟩ := h
  rcases Deep.open_slice_pairs Tryz.underlying22 Tryz.underlying51 (by kernel_rfl) rfl rfl (by kernel_rfl) (by kernel_rfl) hf with ⟨hcs, _⟩ | ⟨a', len, cp, m, q, V0, V1, D0, D1, P0, P1, hcs, _, hl, hm, hmm, hxx, hx⟩
  · simp [Value.cells] at hcs
    obtain ⟨rfl, rfl, rfl⟩ := hcs
    exact ⟨[], CelR.none w _, rfl, by omega, Nat.le_refl _, fun z hz => (by cases hz)⟩
  · simp [Value.cells] at hcs
    obtain ⟨rfl, rfl, rfl⟩ := hcs
    unfold maxLen at hm
    have hlm : n ≤ m := by rw [hmm]; split <;> omega
    have hD : d = .slice ((List.range n).map fun i => .agg [D0 i, D1 i]) ((List.range (m - n)).map fun j => .agg [D0 (n + j), D1 (n + j)]) := congrArg Prod.fst hxx
    obtain ⟨fs, hu, hfs⟩ : ∃ fs : Array Field, Tryz.prog.underlying 51 = some (.struct fs) ∧ fs.toList.map (·.type) = [9, 9] := ⟨_, Tryz.underlying51, by kernel_rfl⟩
    have hrb : reachBytes ≤ 140737488351232 := by decide
    have hs : ∀ i, i < n → V0 i = .string (textOf (V0 i)) ∧ V1 i = .string (textOf (V1 i)) ∧ (textOf (V0 i)).size ≤ 140737488351232 ∧ (textOf (V1 i)).size ≤ 140737488351232 := fun i hi => by
      obtain ⟨-, -, h0, h1⟩ := hx i (by omega)
      obtain ⟨s0, e0, d0, l0⟩ := DataW.trod_string Tryz.underlying9 h0
      obtain ⟨s1, e1, d1, l1⟩ := DataW.trod_string Tryz.underlying9 h1
      have e0 : V0 i = .string s0 := by simpa using e0
      have e1 : V1 i = .string s1 := by simpa using e1
      have d0 : D0 i = .lit (.string s0.data.toList) := congrArg Prod.fst d0
      have d1 : D1 i = .lit (.string s1.data.toList) := congrArg Prod.fst d1
      have hin : ∀ k ∈ (DataW.agg [D0 i, D1 i]).weights Tryz.prog 51, k ≤ reachBytes := fun k hk => hw k (by
        rw [hD]
        simp only [DataW.weights, Tryz.underlying22]
        exact List.mem_cons_of_mem _ (List.mem_append_left _ (all_mem (List.mem_map.2 ⟨i, by simpa using hi, rfl⟩) k hk)))
      rw [d0, d1] at hin
      simp only [DataW.weights, hu, hfs, DataW.weightsEach] at hin
      have h2 := hin s0.data.toList.length (by simp)
      have h3 := hin s1.data.toList.length (by simp)
      rw [Array.length_toList] at h2 h3
      rw [e0, e1]
      exact ⟨rfl, rfl, Nat.le_trans h2 hrb, Nat.le_trans h3 hrb⟩
    refine ⟨(List.range n).map fun i => (textOf (V0 i), textOf (V1 i)), fun h0 => ?_, by simp, by omega, hl, fun c hc => ?_⟩
    · have hn0 : 0 < n := by simp at h0; omega
      obtain ⟨b, off, spot⟩ := a'
      have hspot : spot = none := by simpa [Addr.add] using World.cell?_spot (hx 0 (by omega)).1
      subst hspot
      have hc0 := (hx 0 (by omega)).1
      refine ⟨b, off, rfl, ?_, fun i y hy => ?_⟩
      · rw [Go.WideShapes.add_plain] at hc0
        rcases Nat.lt_or_ge b w.heap.size with h' | h'
        · exact h'
        · simp [World.cell?, Array.getElem?_eq_none h'] at hc0
      · have hi : i < n := by
          have := (List.getElem?_eq_some_iff.1 hy).1
          simpa using this
        have e : y = (textOf (V0 i), textOf (V1 i)) := by
          have := (List.getElem?_eq_some_iff.1 hy).2
          rw [← this]
          simp
        obtain ⟨g0, g1, -, -⟩ := hx i (by omega)
        rw [Go.WideShapes.add_plain] at g0 g1
        have hsi := hs i hi
        rw [e]
        exact ⟨g0.trans (congrArg some hsi.1), g1.trans (congrArg some hsi.2.1)⟩
    · obtain ⟨i, hi, rfl⟩ := List.mem_map.1 hc
      have hi := List.mem_range.1 hi
      exact ⟨(hs i hi).2.2.1, (hs i hi).2.2.2⟩
theorem open_cells {r : Reach} {b0 : Nat} {v : Value} {d : DataW H} {p : List MemPlace} (hv : Value.okWide Tryz.prog w r b0 22 v) (h : DataW.Trod enc Tryz.prog w base spare held 22 v d p) (hw : ∀ m ∈ d.weights Tryz.prog 22, m ≤ reachBytes) :
    ∃ (l : List K) (n : Nat) (a : Option Addr) (c : Nat), v = .slice a n c ∧ CelR w a l ∧ l.length = n ∧ n ≤ 9223372036854775807 ∧ n ≤ c ∧ ∀ c ∈ l, c.1.size ≤ 140737488351232 ∧ c.2.size ≤ 140737488351232 := by
  obtain ⟨a, n, c, rfl⟩ := okWide_slice Tryz.underlying22 hv
  obtain ⟨l, h1, h2, h3, h4, h5⟩ := cells_came h hw
  exact ⟨l, n, a, c, rfl, h1, h2, h3, h4, h5⟩
theorem open_five {r : Reach} {b0 : Nat} {v : Value} {d : DataW H} {p : List MemPlace} (hv : Value.okWide Tryz.prog w r b0 23 v) (h : DataW.Trod enc Tryz.prog w base spare held 23 v d p) : ∃ x y z u t : Int, v = .agg #[.int .i64 x, .int .i64 y, .int .i64 z, .int .i64 u, .int .i64 t] ∧ (-9223372036854775808 ≤ x ∧ x ≤ 9223372036854775807) ∧ (-9223372036854775808 ≤ y ∧ y ≤ 9223372036854775807) ∧ (-9223372036854775808 ≤ z ∧ z ≤ 9223372036854775807) ∧ (-9223372036854775808 ≤ u ∧ u ≤ 9223372036854775807) ∧ (-9223372036854775808 ≤ t ∧ t ≤ 9223372036854775807) := by
  obtain ⟨ss, hl, rfl, -, -, hs⟩ := Open.open_int_array Tryz.underlying23 Tryz.underlying3 (by kernel_rfl) (by kernel_rfl) hv h
  match ss, hl with
  | [x, y, z, u, t], _ => exact ⟨x, y, z, u, t, rfl, int_wf (hs x (by simp)), int_wf (hs y (by simp)), int_wf (hs z (by simp)), int_wf (hs u (by simp)), int_wf (hs t (by simp))⟩
end
end Go.Proofs.YtolmfimpaofefaaGreatDoor.PaO
