/-
  More of the Builder of Go's library, by the library's contracts: WriteString and what it leaves of other blocks; a Builder that was read stays what it is where nothing older is touched. No condition but those that each lemma names.
-/
import Derived.Test.YthlhhmhldpmpiaaDoorUseF
import Derived.Shelf.Strings.BuilderK
namespace Go.Proofs.YthlhhmhldpmpiaaDoor.Use
open Go.RowKit Go.Shelf

theorem builderF_below {T e : TypeId} {B b : Nat} {bs : List Value} {w w' : World} (h : Lib.IsBuilderF T e B b bs w) (k : Below w.heap.size w w') : Lib.IsBuilderF T e B b bs w' := by
  have hold : ∀ g x, w.heap[g]? = some x → w'.heap[g]? = some x := fun g x h => by
    rw [k.block g (Array.getElem?_eq_some_iff.1 h).1]
    exact h
  have one : ∀ p, Lib.BuilderAtF T e B b p bs w → Lib.BuilderAtF T e B b p bs w' := fun p h => by
    obtain ⟨hB, v, hb, ⟨hl, ho⟩, hv⟩ := h
    refine ⟨hB, v, hold _ _ hb, ⟨hl, ?_⟩, hv⟩
    rcases ho with ho | ⟨g, cap, cur, fz, h1, h2, h3, h4⟩
    · exact .inl ho
    · exact .inr ⟨g, cap, cur, fz, h1, h2, hold _ _ h3, h4⟩
  exact h.elim (fun h => .inl (one _ h)) (fun h => .inr (one _ h))
theorem write_k (B b : Nat) (l : List UInt8) (s : ByteArray) (w : World) (h : Lib.IsBuilderF 45 5 B b (Lib.byteCells l) w) (hlen : l.length + s.size ≤ 140737488355328) (hBw : B ≤ w.heap.size) :
    Calls Tryd.prog 51 #[.pointer (some ⟨b, 0, none⟩), .string s] w fun e w' => e = .returned (.tuple #[.int .i64 s.size, .nilIface]) ∧ (Lib.IsBuilderF 45 5 B b (Lib.byteCells (l ++ s.data.toList)) w' ∧ Below B w w' ∧ Lib.OthersKept 5 (some b) w w') :=
  (Any.Builder_WriteString_k (ρ := Tryd.lays105_ren) { Tryd.lays105 with } Tryd.Builder_Extra_105 B b (Lib.byteCells l) s w h (by rw [Lib.byteCells_length]; exact hlen) hBw).mono fun _ _ h => ⟨h.1, .inr (by have := h.2.1; rw [Lib.strCells_eq, ← Lib.byteCells_append] at this; exact this), h.2.2⟩
/-- What a block of no bytes holds stays where others are kept. -/
theorem kept_block {b g : Nat} {w w' : World} {cur : Array Value} {t : TypeId} {fz : Nat × Nat} (h : Lib.OthersKept 5 (some b) w w') (hg : w.heap[g]? = some (.cells cur t fz)) (hb : g ≠ b) (ht : t ≠ 5) : w'.heap[g]? = some (.cells cur t fz) :=
  h g _ hg (fun e => hb (Option.some.inj e)) (fun c f e => ht (by injection e))
end Go.Proofs.YthlhhmhldpmpiaaDoor.Use
