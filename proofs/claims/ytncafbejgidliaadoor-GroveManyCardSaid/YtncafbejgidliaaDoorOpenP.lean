/-
  A shape that came in, opened: two numbers. No condition.
-/
import Derived.Test.YtncafbejgidliaaDoorOpen
import Derived.Test.YtncafbejgidliaaDoorChecked
import Derived.Lib.SmallJoins
namespace Go.Proofs.YtncafbejgidliaaDoor.Open
open Go.ChangeShapes Go.WideShapes Go.ChangeAt Go.RowKit Go.Joins
set_option maxRecDepth 100000

theorem open_shape {H : Type} {enc : TypeId × Value → H} {w : World} {base : Nat} {spare : Nat → Bool} {held : Bool} {r : Reach} {b0 : Nat} {v : Value} {d : DataW H} {p : List MemPlace}
    (hv : Value.okWide Tryd.prog w r b0 23 v) (h : DataW.Trod enc Tryd.prog w base spare held 23 v d p) :
    ∃ a b : Int, v = .agg #[.int .i64 a, .int .i64 b] ∧ d = .agg [.lit (.int .i64 a), .lit (.int .i64 b)] ∧ p = [] := by
  obtain ⟨v0, v1, y0, y1, n, rfl, rfl, rfl, h0, h1⟩ := open_agg2 Tryd.underlying23 (by kernel_rfl) (by kernel_rfl) hv h
  obtain ⟨a, e0, x0, -⟩ := DataW.trod_int Tryd.underlying3 h0
  obtain ⟨b, e1, x1, -⟩ := DataW.trod_int Tryd.underlying3 h1
  subst x0 x1
  simp only [List.cons.injEq, and_true] at e0 e1
  subst e0 e1
  exact ⟨a, b, rfl, rfl, rfl⟩
end Go.Proofs.YtncafbejgidliaaDoor.Open
