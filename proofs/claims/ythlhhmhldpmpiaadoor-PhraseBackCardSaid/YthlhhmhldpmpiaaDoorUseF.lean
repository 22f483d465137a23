/-
  More of the Builder of Go's library, by the library's contracts: one that was just made; String, and that it is a Builder still. No condition but those that each lemma names.
-/
import Derived.Test.YthlhhmhldpmpiaaDoorUseKeep
import Derived.Shelf.Strings.BuilderF
namespace Go.Proofs.YthlhhmhldpmpiaaDoor.Use
open Go.RowKit Go.Shelf
set_option maxRecDepth 100000

theorem builder_new (B b : Nat) (w : World) (hB : B ≤ b) (h : w.heap[b]? = some (.cells #[.pointer none, .slice none 0 0] 45 (0, 0))) : Lib.IsBuilder 45 5 B b (Lib.byteCells []) w :=
  .inl ⟨hB, _, h, ⟨by simp [Lib.byteCells], .inl ⟨rfl, rfl⟩⟩, by simp [Value.ownBlock]⟩
theorem string_f (B b : Nat) (l : List UInt8) (w : World) (h : Lib.IsBuilderF 45 5 B b (Lib.byteCells l) w) (hBw : B ≤ w.heap.size) :
    Calls Tryd.prog 46 #[.pointer (some ⟨b, 0, none⟩)] w fun e w' => e = .returned (.string ⟨l.toArray⟩) ∧ (Lib.IsBuilderF 45 5 B b (Lib.byteCells l) w' ∧ Below B w w') :=
  Any.Builder_String_any_f (ρ := Tryd.lays105_ren) { Tryd.lays105 with } Tryd.Builder_Extra_105 B b l w h hBw
end Go.Proofs.YthlhhmhldpmpiaaDoor.Use
