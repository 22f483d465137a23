/-
  Layer 6's own example answers true, and leaves all memory that was there as it was. No condition.
-/
import Derived.Test.YtcglobpklhkebaaLadEnds
namespace Go.Proofs.Ytcglobpklhkebaa.LadC
open Go.RowKit Mur Lanes Limb Hold Lad
set_option maxRecDepth 100000

def zeroT : ByteArray := ⟨(List.replicate 32 0).toArray⟩
def textB : ByteArray := ⟨#[48, 49, 50, 51, 52, 53, 54, 55, 56, 57, 48, 49, 50, 51, 52, 53, 54, 55, 56, 57, 48, 49, 50, 51, 52, 53, 54, 55, 56, 57, 48, 49]⟩
theorem pub_zero : pubN zeroT = 0 := by decide +kernel
theorem share_zero (s : ByteArray) : shareT s zeroT = numT 0 := by
  unfold shareT shareN
  rw [pub_zero, ladder_zero]
theorem made_bytes32 (u : World) : Row (u.alloc (.cells (madeCells #[.int .u8 0] 32) 5)) u.heap.size (bytesV (List.replicate 32 0)) := by
  rw [← Lanes.zero_bytes]
  exact made_row _ _ _ _

set_option maxHeartbeats 1600000 in
theorem awake_any (w0 : World) :
    Calls Try.prog 34 #[] w0 fun r w' => r = .returned (.bool true) ∧ Below w0.heap.size w0 w' := by
  obtain ⟨Z, hZ⟩ : ∃ Z, Z = zeroT := ⟨_, rfl⟩
  obtain ⟨B, hB⟩ : ∃ B, B = textB := ⟨_, rfl⟩
  have hZs : Z.size = 32 := by rw [hZ]; rfl
  have hBs : B.size = 32 := by rw [hB]; rfl
  have hmk : ∀ u : World, (Instr.makeSlice 53 (.int .i64 32) (.int .i64 32)).run Try.prog u = .ok (.slice (some ⟨u.heap.size, 0, none⟩) 32 32) (u.alloc (.cells (madeCells #[.int .u8 0] 32) 5)) := fun u => make_u8 u 32 (by omega)
  have hcv : ∀ u : World, (convert 53 9 (.slice (some ⟨u.heap.size, 0, none⟩) 32 32)).run Try.prog (u.alloc (.cells (madeCells #[.int .u8 0] 32) 5)) = .ok (.string Z) (u.alloc (.cells (madeCells #[.int .u8 0] 32) 5)) := fun u => by
    rw [hZ]
    exact string_row (P := Try.prog) (made_bytes32 u) 53 5 9 Try.underlying53 Try.underlying5 Try.underlying9 32 32 (by simp)
  have r1 : ∀ u, Calls Try.prog 35 #[.string B, .string Z] u fun r w' => r = .returned (.tuple #[.string ⟨#[]⟩, .int .i64 5]) ∧ Below u.heap.size u w' := fun u => by
    have := shared_any B Z u
    unfold sharedV at this
    rw [if_pos ⟨hBs, hZs⟩, hZ, share_zero, if_pos rfl] at this
    rw [hZ]
    exact this
  have r2 : ∀ u, Calls Try.prog 43 #[.string ⟨#[120]⟩] u fun r w' => r = .returned (.tuple #[.string ⟨#[]⟩, .int .i64 1]) ∧ Below u.heap.size u w' := fun u => by
    have := public_any ⟨#[120]⟩ u
    unfold timesV at this
    rw [if_neg (fun h => absurd h.1 (by decide))] at this
    exact this
  obtain ⟨T, hT⟩ : ∃ T, T = shareT B (numT 9) := ⟨_, rfl⟩
  have hTs : T.size = 32 := by rw [hT]; exact shareT_size _ _
  have r3 : ∀ u, Calls Try.prog 43 #[.string B] u fun r w' => r = .returned (.tuple #[.string T, .int .i64 0]) ∧ Below u.heap.size u w' := fun u => by
    have := public_any B u
    unfold timesV at this
    rw [if_pos ⟨hBs, numT_size 9⟩, ← hT] at this
    exact this
  obtain ⟨C1, hC1⟩ : ∃ C, C = clampT ⟨#[]⟩ := ⟨_, rfl⟩
  obtain ⟨C2, hC2⟩ : ∃ C, C = clampT ⟨#[255]⟩ := ⟨_, rfl⟩
  have hC1s : C1.size = 32 := by rw [hC1]; exact clampT_size _
  have hC2s : C2.size = 32 := by rw [hC2]; exact clampT_size _
  have hC2e : C2.extract 0 1 = ⟨#[248]⟩ := by rw [hC2]; decide +kernel
  have r4 : ∀ u, Calls Try.prog 39 #[.string ⟨#[]⟩] u fun r w' => r = .returned (.string C1) ∧ Below u.heap.size u w' := fun u => by rw [hC1]; exact clamp_any ⟨#[]⟩ u
  have r5 : ∀ u, Calls Try.prog 39 #[.string ⟨#[255]⟩] u fun r w' => r = .returned (.string C2) ∧ Below u.heap.size u w' := fun u => by rw [hC2]; exact clamp_any ⟨#[255]⟩ u
  have t1 : ((T.size : Int) == 32) = true := by rw [hTs]; rfl
  have t2 : ((C1.size : Int) == 32) = true := by rw [hC1s]; rfl
  have t3 : (1 : Int) ≤ (C2.size : Int) := by rw [hC2s]; decide
  have R1 := Lib.hid r1
  have R2 := Lib.hid r2
  have R3 := Lib.hid r3
  have R4 := Lib.hid r4
  have R5 := Lib.hid r5
  have HB := Lib.hid (show (⟨#[48, 49, 50, 51, 52, 53, 54, 55, 56, 57, 48, 49, 50, 51, 52, 53, 54, 55, 56, 57, 48, 49, 50, 51, 52, 53, 54, 55, 56, 57, 48, 49]⟩ : ByteArray) = B from hB.symm)
  clear hZ hB hZs hBs r1 r2 r3 r4 r5 hT hTs hC1 hC2 hC1s hC2s
  go_enter Try.func34, Try.ntmps34
  go_upto_region 2 with (fail)
  clear hmk hcv
  rw [HB.out]
  go_wp2_with fail
  refine (R1.out _).mono ?_
  rintro e w1 ⟨rfl, hb⟩
  have HB1 := Lib.hid (((Below.refl _ _).alloc (Nat.le_refl _) _).trans (hb.mono (by simp)))
  clear hb
  go_wp2_with fail
  refine (R2.out _).mono ?_
  rintro e w2 ⟨rfl, hb⟩
  have HB2 := Lib.hid (HB1.out.trans (hb.mono HB1.out.size))
  clear hb HB1
  go_wp2_with fail
  refine (R3.out _).mono ?_
  rintro e w3 ⟨rfl, hb⟩
  have HB3 := Lib.hid (HB2.out.trans (hb.mono HB2.out.size))
  clear hb HB2
  go_wp2_with fail
  refine (R4.out _).mono ?_
  rintro e w4 ⟨rfl, hb⟩
  have HB4 := Lib.hid (HB3.out.trans (hb.mono HB3.out.size))
  clear hb HB3
  go_wp2_with fail
  refine (R5.out _).mono ?_
  rintro e w5 ⟨rfl, hb⟩
  have HB5 := Lib.hid (HB4.out.trans (hb.mono HB4.out.size))
  clear hb HB4
  go_wp2
  go_ret
  exact ⟨rfl, HB5.out⟩
end Go.Proofs.Ytcglobpklhkebaa.LadC
