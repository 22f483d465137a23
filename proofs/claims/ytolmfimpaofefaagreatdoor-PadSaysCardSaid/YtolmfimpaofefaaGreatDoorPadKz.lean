/-
  Two pads of the client 100 and the server 1 of the seed "seed", of twenty bytes, differ. Nothing here speaks of a program: each number is reckoned by Lean's kernel.
-/
import Derived.Test.YtolmfimpaofefaaGreatDoorPadK0
namespace Go.Proofs.YtolmfimpaofefaaGreatDoor.PadK
open Go.RowKit Mur Lanes Limb Hold Lad LadC Prt Tap Bkl Bkm Cel Pad
set_option maxRecDepth 100000

theorem shared_lit : shared seedT 100 1 0 = numT 43222280882547578642297010632980389394836023245904559045544731057012341580745 := by
  have h0 := good_100_1_0
  unfold shared
  have e : shareT (tx (secret seedT 100 1 0)) (pub seedT 1 0) = numT 43222280882547578642297010632980389394836023245904559045544731057012341580745 := by
    unfold secret pub server
    rw [derive_seed, derive_seed, dec_100, dec_1, dec_0, show fromSeed [pairT, [49, 48, 48], [49], [48]] = [27, 111, 27, 213, 58, 224, 212, 207, 100, 107, 198, 77, 188, 43, 193, 194, 225, 148, 118, 191, 161, 85, 97, 166, 255, 100, 64, 230, 52, 6, 141, 247] by decide +kernel, server_1_0, show shareT (tx [119, 62, 12, 25, 204, 152, 170, 35, 199, 133, 255, 135, 12, 165, 193, 194, 32, 37, 29, 44, 205, 49, 253, 175, 150, 6, 132, 120, 67, 118, 64, 75]) (numT 9) = numT 29306359779518504204939563407456888923425097224522582647110868860302206663670 from share_is _ 9 _ (by decide) public_1_0]
    exact share_is _ _ _ (by decide) (by decide +kernel)
  unfold sT
  have h1 : (tx (secret seedT 100 1 0)).size = 32 := by rw [tx_long, secret_length]
  rw [if_pos ⟨h1, pub_size _ _ _⟩, e, if_neg (by decide +kernel)]
theorem key_lit : padKey [201, 163, 205, 160, 81, 188, 144, 103, 206, 124, 208, 38, 86, 172, 119, 166, 203, 214, 254, 137, 39, 130, 63, 229, 84, 57, 125, 246, 172, 241, 142, 95] = [218, 87, 188, 12, 3, 39, 251, 152, 44, 42, 250, 61, 99, 227, 57, 215, 161, 106, 183, 138, 145, 71, 248, 93, 100, 14, 143, 155, 98, 240, 195, 178] := by
  unfold padKey
  rw [derive32]
  decide +kernel
theorem pads_unlike : (Cha.streamT (Cha.stateZ [218, 87, 188, 12, 3, 39, 251, 152, 44, 42, 250, 61, 99, 227, 57, 215, 161, 106, 183, 138, 145, 71, 248, 93, 100, 14, 143, 155, 98, 240, 195, 178] (nonce 7)) 20 == Cha.streamT (Cha.stateZ [218, 87, 188, 12, 3, 39, 251, 152, 44, 42, 250, 61, 99, 227, 57, 215, 161, 106, 183, 138, 145, 71, 248, 93, 100, 14, 143, 155, 98, 240, 195, 178] (nonce 8)) 20) = false := by decide +kernel
theorem bytes_lit : (numT 43222280882547578642297010632980389394836023245904559045544731057012341580745).data.toList = [201, 163, 205, 160, 81, 188, 144, 103, 206, 124, 208, 38, 86, 172, 119, 166, 203, 214, 254, 137, 39, 130, 63, 229, 84, 57, 125, 246, 172, 241, 142, 95] := by decide +kernel
theorem of_unlike : (of (shared seedT 100 1 0).data.toList 7 20 == of (shared seedT 100 1 0).data.toList 8 20) = false := by
  rw [shared_lit, bytes_lit]
  unfold of
  rw [key_lit]
  exact pads_unlike
end Go.Proofs.YtolmfimpaofefaaGreatDoor.PadK
