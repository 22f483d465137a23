/-
  The statements' helper 'number' answers the three lowest bytes of a number, the lowest first. No condition.
-/
import Derived.Test.YtblheplpaiokkabLmbAwake
namespace Go.Proofs.Ytblheplpaiokkab.Limb
open Go.RowKit Mur Lanes
set_option maxRecDepth 100000

/-- The three lowest bytes. -/
def three (n : Nat) : List UInt8 := [UInt8.ofNat n, UInt8.ofNat (n / 256), UInt8.ofNat (n / 65536)]
theorem three_num (n : Nat) (h : n < 16777216) : num (three n) = n := by
  unfold num three
  simp [lowN, byt]
  omega

set_option maxHeartbeats 800000 in
theorem number_any (n : Nat) (w : World) :
    Calls Try.prog 22 #[.int .u64 n] w fun e w' => e = .returned (.string ⟨(three n).toArray⟩) ∧ Below w.heap.size w w' := by
  obtain ⟨T, hT⟩ : ∃ T : ByteArray, T = ⟨(three n).toArray⟩ := ⟨_, rfl⟩
  have b0 : (n : Int) % 256 = ((UInt8.ofNat n).toNat : Int) := by simp
  have b1 : (n : Int) / 256 % 256 = ((UInt8.ofNat (n / 256)).toNat : Int) := by simp
  have b2 : (n : Int) / 65536 % 256 = ((UInt8.ofNat (n / 65536)).toNat : Int) := by simp
  have hcv : ∀ u : World, (convert 59 9 (.slice (some ⟨u.heap.size, 0, none⟩) 3 3)).run Try.prog (u.alloc (.cells #[.int .u8 ((n : Int) % 256), .int .u8 ((n : Int) / 256 % 256), .int .u8 ((n : Int) / 65536 % 256)] 5)) = .ok (.string T) (u.alloc (.cells #[.int .u8 ((n : Int) % 256), .int .u8 ((n : Int) / 256 % 256), .int .u8 ((n : Int) / 65536 % 256)] 5)) := fun u => by
    have hr : Row (u.alloc (.cells #[.int .u8 ((n : Int) % 256), .int .u8 ((n : Int) / 256 % 256), .int .u8 ((n : Int) / 65536 % 256)] 5)) u.heap.size (bytesV (three n)) := by
      rw [b0, b1, b2]
      exact (Whole.made u 5 (bytesV (three n))).row
    rw [hT]
    exact string_row (P := Try.prog) hr 59 5 9 Try.underlying59 Try.underlying5 Try.underlying9 3 3 rfl
  rw [← hT]
  have H := Lib.hid hcv
  clear hT b0 b1 b2 hcv
  go_enter Try.func22, Try.ntmps22
  have hcv := H.out
  go_wp2
  go_ret
  exact ⟨rfl, (Below.refl _ _).alloc (Nat.le_refl _) _⟩
end Go.Proofs.Ytblheplpaiokkab.Limb
