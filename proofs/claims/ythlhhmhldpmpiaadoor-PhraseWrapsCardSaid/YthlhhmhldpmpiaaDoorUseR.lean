/-
  The Builder's WriteRune of Go's library, by the library's contract: the numbers of its closure, laid by hand. No condition but those that each lemma names.
-/
import Derived.Test.YthlhhmhldpmpiaaDoorUseK
import Derived.Test.YthlhhmhldpmpiaaDoorPhrD
import Derived.Shelf.Strings.BuilderRune
import Derived.Lib.OthersKept
import Derived.KernelRfl
namespace Go.Proofs.YthlhhmhldpmpiaaDoor.Use
open Go.RowKit Go.Shelf
set_option maxRecDepth 100000

def renR : Go.Shelf.Ren := ⟨fun | 168 => 45 | 240 => 60 | 242 => 63 | 276 => 70 | 278 => 72 | n => n,
  fun | 0 => 0 | 3 => 3 | 4 => 4 | 5 => 5 | 9 => 9 | 12 => 12 | 20 => 20 | 21 => 21 | 37 => 43 | 46 => 61 | 51 => 74 | 70 => 42 | 72 => 45 | 75 => 49 | 76 => 50 | 80 => 52 | 127 => 64 | 164 => 71 | n => n, fun n => n⟩
theorem lays168 : Lays.n168 Tryd.prog renR := {
  mixed := by kernel_rfl
  f168 := Tryd.func45.trans (congrArg some (by kernel_rfl))
  f240 := Tryd.func60.trans (congrArg some (by kernel_rfl))
  f242 := Tryd.func63.trans (congrArg some (by kernel_rfl))
  f276 := Tryd.func70.trans (congrArg some (by kernel_rfl))
  f278 := Tryd.func72.trans (congrArg some (by kernel_rfl))
  t0 := Tryd.underlying0
  a0 := Tryd.isAgg0
  z0 := Tryd.sizeOf0
  v0 := Tryd.zeroValue0
  t3 := Tryd.underlying3
  a3 := Tryd.isAgg3
  z3 := Tryd.sizeOf3
  v3 := Tryd.zeroValue3
  t4 := Tryd.underlying4
  a4 := Tryd.isAgg4
  z4 := Tryd.sizeOf4
  v4 := Tryd.zeroValue4
  t5 := Tryd.underlying5
  a5 := Tryd.isAgg5
  z5 := Tryd.sizeOf5
  v5 := Tryd.zeroValue5
  t9 := Tryd.underlying9
  a9 := Tryd.isAgg9
  z9 := Tryd.sizeOf9
  v9 := Tryd.zeroValue9
  t20 := Tryd.underlying20
  a20 := Tryd.isAgg20
  z20 := Tryd.sizeOf20
  v20 := Tryd.zeroValue20
  t21 := Tryd.underlying21
  a21 := Tryd.isAgg21
  z21 := Tryd.sizeOf21
  v21 := Tryd.zeroValue21
  t37 := Tryd.underlying43
  a37 := Tryd.isAgg43
  z37 := Tryd.sizeOf43
  v37 := Tryd.zeroValue43
  t46 := Tryd.underlying61
  a46 := Tryd.isAgg61
  z46 := Tryd.sizeOf61
  v46 := Tryd.zeroValue61
  t51 := Tryd.underlying74
  a51 := Tryd.isAgg74
  z51 := Tryd.sizeOf74
  v51 := Tryd.zeroValue74
  t70 := Tryd.underlying42
  a70 := Tryd.isAgg42
  z70 := Tryd.sizeOf42
  v70 := Tryd.zeroValue42
  t72 := Tryd.underlying45
  a72 := Tryd.isAgg45
  z72 := Tryd.sizeOf45
  v72 := Tryd.zeroValue45
  t75 := Tryd.underlying49
  a75 := Tryd.isAgg49
  z75 := Tryd.sizeOf49
  v75 := Tryd.zeroValue49
  t164 := Tryd.underlying71
  a164 := Tryd.isAgg71
  z164 := Tryd.sizeOf71
  v164 := Tryd.zeroValue71 }
theorem extraR : Builder.Extra Tryd.prog renR := {
  sizeBuilder := by kernel_rfl
  liesBuilder := by kernel_rfl
  t5 := Tryd.underlying5
  a5 := Tryd.isAgg5
  z5 := Tryd.sizeOf5
  v5 := Tryd.zeroValue5
  infoByte := by kernel_rfl
  cellsByte := by kernel_rfl
  sizeByte := by kernel_rfl
  neB5 := by decide }

theorem cells_enc (c : Nat) (h : c < 0x800) : Lib.runeCells (c : Int) = Lib.byteCells (Phr.enc c) := by
  unfold Phr.enc Lib.byteCells
  by_cases hc : c < 128
  · rw [if_pos hc, Lib.runeCells, Lib.encodeRuneZ_one (by omega) (by omega)]
    simp
    omega
  · rw [if_neg hc, Lib.runeCells, Lib.encodeRuneZ_two (by omega) (by omega)]
    simp
    omega
theorem rune_k (B b : Nat) (l : List UInt8) (c : Nat) (w : World) (h : Lib.IsBuilderF 45 5 B b (Lib.byteCells l) w) (hc : c < 0x800) (hlen : l.length + 4 ≤ 140737488355328) (hBw : B ≤ w.heap.size) :
    Calls Tryd.prog 45 #[.pointer (some ⟨b, 0, none⟩), .int .i32 (c : Int)] w fun e w' => e = .returned (.tuple #[.int .i64 (Phr.enc c).length, .nilIface]) ∧ (Lib.IsBuilderF 45 5 B b (Lib.byteCells (l ++ Phr.enc c)) w' ∧ Below B w w' ∧ Lib.OthersKept 5 (some b) w w') :=
  (Any.Builder_WriteRune_k (ρ := renR) lays168 extraR B b (Lib.byteCells l) (c : Int) (by omega) (by omega) w h (by rw [Lib.byteCells_length]; exact hlen) hBw).mono fun e w' k => by
    rw [cells_enc c hc, ← Lib.byteCells_append, Lib.byteCells_length] at k
    exact ⟨k.1, .inr k.2.1, k.2.2⟩
end Go.Proofs.YthlhhmhldpmpiaaDoor.Use
