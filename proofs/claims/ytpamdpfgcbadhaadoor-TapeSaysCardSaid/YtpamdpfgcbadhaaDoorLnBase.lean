/-
  What make makes of bytes (the part of the text LnBase that names neither shift nor words). No condition but those that each names.
-/
import Derived.Test.YtpamdpfgcbadhaaDoorChecked
import Derived.Test.YtpamdpfgcbadhaaDoorLanesSpec
import Derived.BigQuiet
import Derived.StillTailTactics
import Derived.Deep.QuietTactic
namespace Go.Proofs.YtpamdpfgcbadhaaDoor.Lanes
open Go.RowKit Mur

theorem ret_int {k : IntKind} {a b : Int} (h : a = b) : Ending.returned (.int k a) = .returned (.int k b) := by rw [h]
theorem ret_bool {a b : Bool} (h : a = b) : Ending.returned (.bool a) = .returned (.bool b) := by rw [h]

theorem info_u8 : (Tryd.prog.info? 5).map (fun i => (i.zero, i.size, i.bytes)) = some (some (.int .u8 0), 1, 1) := by kernel_rfl

/-- What 'make([]byte, n)' and 'make([]uint32, n)' make. -/
theorem made_row (w : World) (k : IntKind) (e : TypeId) (n : Nat) : Row (w.alloc (.cells (madeCells #[.int k 0] n) e)) w.heap.size (List.replicate n (.int k 0)) := by
  refine ⟨by simp, fun i v hv => ⟨?_, by simp⟩⟩
  rw [World.cell?_alloc_new]
  rw [← toList_madeCells_one] at hv
  simpa using hv
theorem make_u8 (w : World) (n : Nat) (hn : n ≤ 281474976710656) : (Instr.makeSlice 51 (.int .i64 (n : Int)) (.int .i64 (n : Int))).run Tryd.prog w =
    .ok (.slice (some ⟨w.heap.size, 0, none⟩) n n) (w.alloc (.cells (madeCells #[.int .u8 0] n) 5)) := by
  obtain ⟨i0, hi, hz0, hz1, hz2⟩ := info_parts info_u8
  have h := run_make (P := Tryd.prog) w 51 5 i0 (.int .u8 0) Tryd.underlying51 hi hz0 .i64 .i64 (n : Int) (n : Int) (by omega) (Int.le_refl _) (by rw [hz2]; omega) (by omega)
  simpa [hz1, Value.cells] using h
theorem zero_bytes (n : Nat) : List.replicate n (Value.int .u8 0) = bytesV (List.replicate n 0) := by simp [bytesV]
theorem zero_words (n : Nat) : List.replicate n (Value.int .u32 0) = wordsV (List.replicate n 0) := by simp [wordsV]
end Go.Proofs.YtpamdpfgcbadhaaDoor.Lanes
