/-
  The example of layer 19's statements, as plain mathematics. No condition.
-/
import Derived.Test.YtedgpglldlohfaaGreatDoorLyo
namespace Go.Proofs.YtedgpglldlohfaaGreatDoor.Lyo
open Go.RowKit Mur Lanes Prt Tap Cel Frm
set_option maxRecDepth 100000

def exS : Say := ⟨7, 0, [], []⟩
def exSeed : List UInt8 := [115, 101, 101, 100]
def exL : List Int := [0, 5]
def exO (s : List UInt8) : List UInt8 := [4, 0] ++ s
theorem ex_err : layE exS 5 18 exSeed = 0 := by decide
theorem ex_total : total exL 18 = 33 := by decide
theorem ex_spot : spotA exL 18 1 = 2 ∧ spotB exL 18 1 = 33 := by decide
theorem ex_want : want exL 0 [17] = 0 := by decide
theorem ex_length (s : List UInt8) (h : s = layT exS 5 18 exSeed) : s.length = 31 := by
  have := lay_length exS 5 18 exSeed ex_err
  rw [← h] at this
  have e : Frm.long 5 18 = 31 := by decide
  omega
theorem ex_slot (s : List UInt8) (h : s = layT exS 5 18 exSeed) : slotT exL 18 1 (exO s) = s := by
  have hl := ex_length s h
  have ho : (exO s).length = 33 := by
    unfold exO
    rw [List.length_append, hl]
    rfl
  unfold slotT
  rw [ex_spot.1, ex_spot.2, if_neg (by omega)]
  show ((exO s).drop 2).take 31 = s
  have e : (exO s).drop 2 = s := rfl
  rw [e, ← hl, List.take_length]
theorem ex_next (s : List UInt8) (h : s = layT exS 5 18 exSeed) : next exL 18 (exO s) = [4, 7] := by
  have hb := back exS 5 18 exSeed ex_err (fun _ => ⟨rfl, rfl⟩) (fun h => absurd rfl h)
  rw [← h] at hb
  have h0 : nextOf exL 18 (exO s) 0 = 4 := by
    unfold nextOf
    rw [if_pos (by decide)]
    unfold want
    have ho : (exO s).length = 33 := by
      unfold exO
      rw [List.length_append, ex_length s h]
      rfl
    rw [if_pos ⟨by decide, by rw [ho]; decide, by show (4 : UInt8).toNat ≤ 16; decide⟩]
    rfl
  have h1 : nextOf exL 18 (exO s) 1 = 7 := by
    unfold nextOf
    rw [if_neg (by decide)]
    have e : exL.getD 1 0 = 5 := rfl
    have e2 : slotT exL 18 ((1 : Nat) : Int) (exO s) = s := ex_slot s h
    rw [e, e2, if_pos hb.1, hb.2]
    rfl
  have hf : (few exL).length = 2 := rfl
  unfold next
  rw [hf]
  show [nextOf exL 18 (exO s) 0, nextOf exL 18 (exO s) 1] = [4, 7]
  rw [h0, h1]
end Go.Proofs.YtedgpglldlohfaaGreatDoor.Lyo
