/-
  A signer that came in, opened: a shape, a text and a number; the reach of its text. No condition.
-/
import Derived.Test.YtkchbilkmoemaaaGreatDoorOpen
import Derived.Test.YtkchbilkmoemaaaGreatDoorChecked
import Derived.Lib.SmallJoins
import Derived.Deep.Strs
namespace Go.Proofs.YtkchbilkmoemaaaGreatDoor.Open
open Go.ChangeShapes Go.WideShapes Go.ChangeAt Go.RowKit Go.Joins
set_option maxRecDepth 100000

theorem open_signer {H : Type} {enc : TypeId × Value → H} {w : World} {base : Nat} {spare : Nat → Bool} {held : Bool} {r : Reach} {b0 : Nat} {v : Value} {d : DataW H} {p : List MemPlace}
    (hv : Value.okWide Tryz.prog w r b0 25 v) (h : DataW.Trod enc Tryz.prog w base spare held 25 v d p) :
    ∃ (a b : Int) (s : ByteArray) (x : Int), v = .agg #[.int .i64 a, .int .i64 b, .string s, .int .i64 x] ∧ d = .agg [.agg [.lit (.int .i64 a), .lit (.int .i64 b)], .lit (.string s.data.toList), .lit (.int .i64 x)] ∧ p = [] ∧ -9223372036854775808 ≤ x ∧ x < 9223372036854775808 := by
  obtain ⟨cs, rfl, hsz⟩ := okWide_struct Tryz.underlying25 hv
  obtain ⟨c0, c1, c2, c3, rfl⟩ := array4 (hsz.trans (by kernel_rfl))
  obtain ⟨fuel, hf⟩ := h
  obtain ⟨y0, y1, y2, n, hx, -, h0, h1, h2⟩ := Go.Deep.trod_struct3 Tryz.underlying25 hf
  have h0' : DataW.trod enc Tryz.prog w base spare held n 23 [c0, c1] = some y0 := h0
  have h1' : DataW.trod enc Tryz.prog w base spare held n 9 [c2] = some y1 := h1
  have h2' : DataW.trod enc Tryz.prog w base spare held n 3 [c3] = some y2 := h2
  obtain ⟨z0, z1, k, hz, -, g0, g1⟩ := trod_struct2 Tryz.underlying23 h0'
  have g0' : DataW.trod enc Tryz.prog w base spare held k 3 [c0] = some z0 := g0
  have g1' : DataW.trod enc Tryz.prog w base spare held k 3 [c1] = some z1 := g1
  obtain ⟨a, ea, xa, -⟩ := DataW.trod_int Tryz.underlying3 g0'
  obtain ⟨b, eb, xb, -⟩ := DataW.trod_int Tryz.underlying3 g1'
  obtain ⟨s, es, xs, -⟩ := DataW.trod_string Tryz.underlying9 h1'
  obtain ⟨x, ex, xx, hwf⟩ := DataW.trod_int Tryz.underlying3 h2'
  simp only [List.cons.injEq, and_true] at ea eb es ex
  subst ea eb es ex hz xa xb xs xx
  simp only [Prod.mk.injEq] at hx
  have hw : IntKind.i64.min ≤ x ∧ x ≤ IntKind.i64.max := by simpa [Lit.wf] using hwf
  have e1 : IntKind.i64.min = -9223372036854775808 := by decide
  have e2 : IntKind.i64.max = 9223372036854775807 := by decide
  exact ⟨a, b, s, x, rfl, hx.1, hx.2, by omega, by omega⟩
theorem sized_signer {H : Type} {ts : List TypeId} {ds : List (DataW H)} (h : (DataW.weightsEach Tryz.prog ts ds).all (· ≤ reachBytes) = true) {j : Nat} {a b x : Int} {s : ByteArray} (hj : ts[j]? = some 25) (hd : ds[j]? = some (.agg [.agg [.lit (.int .i64 a), .lit (.int .i64 b)], .lit (.string s.data.toList), .lit (.int .i64 x)])) : s.size ≤ 140737488351232 := by
  have := List.all_eq_true.1 h s.size (DataW.weights_mem_each hj hd s.size (by
    simp only [DataW.weights, Tryz.underlying25]
    simp [DataW.weightsEach, DataW.weights]))
  have h2 : s.size ≤ reachBytes := of_decide_eq_true this
  exact h2
end Go.Proofs.YtkchbilkmoemaaaGreatDoor.Open
