/-
  The functions of Go's library that package digest calls, by the library's contracts: strings.Repeat, the Builder's Grow, WriteString and String. Conditions: what is made takes no more than 2^47 bytes.
-/
import Derived.Test.YthlhhmhldpmpiaaDoorChecked
import Derived.Test.YthlhhmhldpmpiaaDoorShelf
namespace Go.Proofs.YthlhhmhldpmpiaaDoor.Use
open Go.RowKit Go.Shelf
set_option maxRecDepth 100000

theorem repeat_any (s : ByteArray) (c : Nat) (w : World) (hc : c ≤ 9223372036854775807) (hlen : s.size * c ≤ 140737488355328) :
    Calls Tryd.prog 49 #[.string s, .int .i64 c] w fun e w' => e = .returned (.string ⟨(Lib.repeatL s.data.toList c).toArray⟩) ∧ Below w.heap.size w w' :=
  Any.strings_Repeat Tryd.lays105 Tryd.Builder_Extra_105 s c w hc hlen
theorem grow_any (B b n : Nat) (w : World) (hB : B ≤ b) (hbk : w.heap[b]? = some (.cells #[.pointer none, .slice none 0 0] 45 (0, 0))) (hBw : B ≤ w.heap.size) (hn : n ≤ 281474976710656) :
    Calls Tryd.prog 43 #[.pointer (some ⟨b, 0, none⟩), .int .i64 n] w fun e w' => e = .returned (.tuple #[]) ∧ (Lib.IsBuilder 45 5 B b (Lib.byteCells []) w' ∧ Below B w w') :=
  (Any.Builder_Grow_fresh_cap (ρ := Tryd.lays105_ren) { Tryd.lays105 with } Tryd.Builder_Extra_105 B b n w hB hbk hBw hn).mono fun _ _ h => ⟨h.1, .inr h.2.1.1, h.2.1.2⟩
theorem write_any (B b : Nat) (l : List UInt8) (s : ByteArray) (w : World) (h : Lib.IsBuilder 45 5 B b (Lib.byteCells l) w) (hlen : l.length + s.size ≤ 140737488355328) (hBw : B ≤ w.heap.size) :
    Calls Tryd.prog 51 #[.pointer (some ⟨b, 0, none⟩), .string s] w fun e w' => e = .returned (.tuple #[.int .i64 s.size, .nilIface]) ∧ (Lib.IsBuilder 45 5 B b (Lib.byteCells (l ++ s.data.toList)) w' ∧ Below B w w') :=
  (Any.Builder_WriteString (ρ := Tryd.lays105_ren) { Tryd.lays105 with } Tryd.Builder_Extra_105 B b (Lib.byteCells l) s w h (by rw [Lib.byteCells_length]; exact hlen) hBw).mono fun _ _ h => ⟨h.1, .inr (by have := h.2.1; rw [Lib.strCells_eq, ← Lib.byteCells_append] at this; exact this), h.2.2⟩
theorem string_any (B b : Nat) (l : List UInt8) (w : World) (h : Lib.IsBuilder 45 5 B b (Lib.byteCells l) w) (hBw : B ≤ w.heap.size) :
    Calls Tryd.prog 46 #[.pointer (some ⟨b, 0, none⟩)] w fun e w' => e = .returned (.string ⟨l.toArray⟩) ∧ Below B w w' :=
  Any.Builder_String_any (ρ := Tryd.lays105_ren) { Tryd.lays105 with } Tryd.Builder_Extra_105 B b l w h hBw
end Go.Proofs.YthlhhmhldpmpiaaDoor.Use
