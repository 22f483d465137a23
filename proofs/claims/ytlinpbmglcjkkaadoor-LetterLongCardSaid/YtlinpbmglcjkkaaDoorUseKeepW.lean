/-
  A Builder of Go's library stays what it is where nothing older is touched: no condition but that.
-/
import Derived.Test.YtlinpbmglcjkkaaDoorUseW
namespace Go.Proofs.YtlinpbmglcjkkaaDoor.Prt
open Go.RowKit
set_option maxRecDepth 100000

/-- A builder stays what it is where nothing older is touched. -/
theorem isBuilder_below {T e : TypeId} {B b : Nat} {bs : List Value} {w w' : World} (h : Lib.IsBuilder T e B b bs w) (k : Below w.heap.size w w') : Lib.IsBuilder T e B b bs w' := by
  have hold : ∀ g x, w.heap[g]? = some x → w'.heap[g]? = some x := fun g x h => by
    rw [k.block g (Array.getElem?_eq_some_iff.1 h).1]
    exact h
  have one : ∀ p, Lib.BuilderAt T e B b p bs w → Lib.BuilderAt T e B b p bs w' := fun p h => by
    obtain ⟨hB, v, hb, ⟨hl, ho⟩, hv⟩ := h
    refine ⟨hB, v, hold _ _ hb, ⟨hl, ?_⟩, hv⟩
    rcases ho with ho | ⟨g, cap, cur, h1, h2, h3, h4⟩
    · exact .inl ho
    · exact .inr ⟨g, cap, cur, h1, h2, hold _ _ h3, h4⟩
  exact h.elim (fun h => .inl (one _ h)) (fun h => .inr (one _ h))

end Go.Proofs.YtlinpbmglcjkkaaDoor.Prt
