/-
  The document's own answer for what is laid in a slot (Lay of layer 18) is what the plain mathematics of the text Frm says; all memory that was there is left as it was. Conditions: texts of no more than 140737488351232 bytes, numbers of 64 bits.
-/
import Derived.Test.YtedgpglldlohfaaGreatDoorRFrB
namespace Go.Proofs.YtedgpglldlohfaaGreatDoor.RFrm
open Go.RowKit Mur Lanes Prt Tap Cel Frm
set_option maxRecDepth 100000
set_option linter.unusedSimpArgs false

theorem u8_in (z : Int) (h1 : 0 ≤ z) (h2 : z ≤ 255) : ∃ b : UInt8, b = UInt8.ofNat z.toNat ∧ IntKind.u8.wrap z = ((b.toNat : Nat) : Int) := by
  refine ⟨_, rfl, ?_⟩
  have e : (UInt8.ofNat z.toNat).toNat = z.toNat := by simp; omega
  rw [e]
  have hw : IntKind.u8.wrap z = z := by
    rw [IntKind.wrap_u8]
    omega
  rw [hw]
  omega
theorem body_is (b0 b1 b2 : UInt8) (f g : List UInt8) : (⟨#[b0, b1, b2]⟩ : ByteArray) ++ tx f ++ tx g = tx ([b0, b1, b2] ++ (f ++ g)) := by
  apply ByteArray.ext
  apply Array.toList_inj.1
  simp [ByteArray.toList_data_append]
theorem laid_is (seed : ByteArray) (m : ByteArray) : (⟨#[1]⟩ : ByteArray) ++ seed ++ m = tx ([1] ++ (seed.data.toList ++ m.data.toList)) := by
  apply ByteArray.ext
  apply Array.toList_inj.1
  simp [ByteArray.toList_data_append]

end Go.Proofs.YtedgpglldlohfaaGreatDoor.RFrm
