/-
  Each of six clients shares something with each of four servers, in the epoch 0, of the seed "seed". Nothing here speaks of a program: each number is reckoned by Lean's kernel.
-/
import Derived.Test.YtolmfimpaofefaaGreatDoorPadK
namespace Go.Proofs.YtolmfimpaofefaaGreatDoor.PadK
open Go.RowKit Mur Lanes Limb Hold Lad LadC Prt Tap Bkl Bkm Cel Pad
theorem server_1_0 : fromSeed [serverT, [49], [48]] = [119, 62, 12, 25, 204, 152, 170, 35, 199, 133, 255, 135, 12, 165, 193, 194, 32, 37, 29, 44, 205, 49, 253, 175, 150, 6, 132, 120, 67, 118, 64, 75] := by decide +kernel
theorem public_1_0 : isB [119, 62, 12, 25, 204, 152, 170, 35, 199, 133, 255, 135, 12, 165, 193, 194, 32, 37, 29, 44, 205, 49, 253, 175, 150, 6, 132, 120, 67, 118, 64, 75] 9 29306359779518504204939563407456888923425097224522582647110868860302206663670 = true := by decide +kernel
theorem good_100_1_0 : Good 100 1 0 := good_of _ _ _ [27, 111, 27, 213, 58, 224, 212, 207, 100, 107, 198, 77, 188, 43, 193, 194, 225, 148, 118, 191, 161, 85, 97, 166, 255, 100, 64, 230, 52, 6, 141, 247] [119, 62, 12, 25, 204, 152, 170, 35, 199, 133, 255, 135, 12, 165, 193, 194, 32, 37, 29, 44, 205, 49, 253, 175, 150, 6, 132, 120, 67, 118, 64, 75] 29306359779518504204939563407456888923425097224522582647110868860302206663670 (by rw [dec_100, dec_1, dec_0]; decide +kernel) (by rw [dec_1, dec_0]; exact server_1_0) (by decide) public_1_0 (by decide +kernel)
end Go.Proofs.YtolmfimpaofefaaGreatDoor.PadK
