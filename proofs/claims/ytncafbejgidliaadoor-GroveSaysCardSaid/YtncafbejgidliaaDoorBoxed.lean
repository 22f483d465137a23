/-
  Three arrays that came in and were boxed, one behind the other: where they lie and what their cells hold. No condition.
-/
import Derived.Test.YtncafbejgidliaaDoorMur
namespace Go.Proofs.YtncafbejgidliaaDoor.Boxed
open Go.RowKit Mur

theorem cell_at {w : World} {b : Nat} {xs : Array Value} {t : TypeId} (h : w.heap[b]? = some (.cells xs t (0, 0))) : ∀ (i : Nat) x, xs.toList[i]? = some x → w.cell? ⟨b, i, none⟩ = some x := fun i x hx => by
  simp only [World.cell?, h]
  simpa using hx
theorem cells_three (w : World) (X Y Z : Array Value) (s t u : TypeId) :
    w.heap.size + 2 < (((w.alloc (.cells X s)).alloc (.cells Y t)).alloc (.cells Z u)).heap.size ∧
    (∀ (i : Nat) x, X.toList[i]? = some x → (((w.alloc (.cells X s)).alloc (.cells Y t)).alloc (.cells Z u)).cell? ⟨w.heap.size, i, none⟩ = some x) ∧
    (∀ (i : Nat) x, Y.toList[i]? = some x → (((w.alloc (.cells X s)).alloc (.cells Y t)).alloc (.cells Z u)).cell? ⟨w.heap.size + 1, i, none⟩ = some x) ∧
    (∀ (i : Nat) x, Z.toList[i]? = some x → (((w.alloc (.cells X s)).alloc (.cells Y t)).alloc (.cells Z u)).cell? ⟨w.heap.size + 2, i, none⟩ = some x) := by
  refine ⟨by simp, fun i x hx => ?_, fun i x hx => ?_, fun i x hx => ?_⟩
  · rw [World.cell?_alloc_lt _ _ _ (by simp; omega), World.cell?_alloc_lt _ _ _ (by simp)]
    exact cell_at (_root_.Go.heap_alloc_new w _) i x hx
  · rw [World.cell?_alloc_lt _ _ _ (by simp)]
    have := cell_at (_root_.Go.heap_alloc_new (w.alloc (.cells X s)) (.cells Y t)) i x hx
    simpa using this
  · have := cell_at (_root_.Go.heap_alloc_new ((w.alloc (.cells X s)).alloc (.cells Y t)) (.cells Z u)) i x hx
    simpa using this
end Go.Proofs.YtncafbejgidliaaDoor.Boxed
