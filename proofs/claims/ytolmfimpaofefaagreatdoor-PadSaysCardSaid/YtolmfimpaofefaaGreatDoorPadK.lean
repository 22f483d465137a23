/-
  What is shared by the secrets of the seed "seed": the lemmas by which numbers are reckoned. Nothing here speaks of a program: each number is reckoned by Lean's kernel.
-/
import Derived.Test.YtolmfimpaofefaaGreatDoorPad
namespace Go.Proofs.YtolmfimpaofefaaGreatDoor.PadK
open Go.RowKit Mur Lanes Limb Hold Lad LadC Prt Tap Bkl Bkm Cel Pad
set_option maxRecDepth 100000

theorem prk_is : Ked.mac Ked.salt seedT = [73, 234, 79, 125, 106, 128, 40, 35, 89, 8, 103, 50, 243, 157, 3, 176, 208, 231, 74, 149, 94, 81, 96, 95, 211, 120, 84, 0, 131, 248, 247, 221] := by decide +kernel
theorem derive32 (k : List UInt8) (l : List (List UInt8)) : Ked.derive k 32 l = Ked.mac (Ked.mac Ked.salt k) (Ked.infoOf l ++ [1]) := by
  unfold Ked.derive
  rw [Ked.expand_of _ _ 1 32 (by decide) (by decide)]
  simp only [Ked.all, Ked.text, List.nil_append]
  exact List.take_of_length_le (Nat.le_of_eq (Ked.mac_length _ _))
/-- A key that is derived of the seed. -/
def fromSeed (l : List (List UInt8)) : List UInt8 := Ked.mac [73, 234, 79, 125, 106, 128, 40, 35, 89, 8, 103, 50, 243, 157, 3, 176, 208, 231, 74, 149, 94, 81, 96, 95, 211, 120, 84, 0, 131, 248, 247, 221] (Ked.infoOf l ++ [1])
theorem derive_seed (l : List (List UInt8)) : Ked.derive seedT 32 l = fromSeed l := by
  rw [derive32, prk_is]
  rfl
theorem inv_one {p b : Nat} (hp : Prime.IsPrime p) (hb : b % p ≠ 0) : b * (b ^ (p - 2) % p) % p = 1 := by
  have h2 := hp.1
  rw [Nat.mul_mod_mod, Nat.mul_comm, ← Nat.pow_succ, show (p - 2).succ = p - 1 by omega]
  exact Prime.fermat hp fun hd => hb (Nat.mod_eq_zero_of_dvd hd)
theorem over_is {p a b z : Nat} (hp : Prime.IsPrime p) (hz : z < p) (hb : b % p ≠ 0) (he : z * b % p = a % p) : a * (b ^ (p - 2) % p) % p = z := by
  have h := inv_one hp hb
  generalize b ^ (p - 2) % p = i at *
  rw [Nat.mul_mod, ← he, ← Nat.mul_mod, Nat.mul_assoc, Nat.mul_mod, h, Nat.mul_one, Nat.mod_mod, Nat.mod_eq_of_lt hz]
theorem over_ne {p a b : Nat} (hp : Prime.IsPrime p) (ha : a % p ≠ 0) (hb : b % p ≠ 0) : a * (b ^ (p - 2) % p) % p ≠ 0 := by
  have h := inv_one hp hb
  generalize b ^ (p - 2) % p = i at *
  intro h0
  have h1 : a * i * b % p = 0 := by rw [Nat.mul_mod, h0, Nat.zero_mul, Nat.zero_mod]
  rw [Nat.mul_assoc, Nat.mul_comm i b, Nat.mul_mod, h, Nat.mul_one, Nat.mod_mod] at h1
  exact ha h1
/-- The ladder's ends for a secret and a number. -/
def ends (s : List UInt8) (x : Nat) : Lad.St := ladN (bt (clampT ⟨s.toArray⟩)) x 255
def isB (s : List UInt8) (x z : Nat) : Bool := decide (z < Prime.P) && (decide ((ends s x).b % Prime.P ≠ 0) && decide (z * (ends s x).b % Prime.P = (ends s x).a % Prime.P))
def neB (s : List UInt8) (x : Nat) : Bool := decide ((ends s x).a % Prime.P ≠ 0) && decide ((ends s x).b % Prime.P ≠ 0)
theorem pubN_num (x : Nat) (h : x < Prime.P) : pubN (numT x) = x := by
  have h2 : x < 57896044618658097711785492504343953926634992332820282019728792003956564819968 := Nat.lt_trans h P_lt
  unfold pubN
  have e : num (numT x).data.toList = x := num_bytes x (Nat.lt_trans h2 (by decide))
  rw [e, Nat.mod_eq_of_lt h2]
theorem share_is (s : List UInt8) (x z : Nat) (hx : x < Prime.P) (h : isB s x z = true) : shareT ⟨s.toArray⟩ (numT x) = numT z := by
  unfold isB at h
  rw [Bool.and_eq_true, Bool.and_eq_true, decide_eq_true_eq, decide_eq_true_eq, decide_eq_true_eq] at h
  unfold shareT shareN
  rw [pubN_num x hx]
  exact congrArg numT (over_is Prime.prime h.1 h.2.1 h.2.2)
theorem share_ne (s : List UInt8) (x : Nat) (hx : x < Prime.P) (h : neB s x = true) : shareN ⟨s.toArray⟩ (numT x) ≠ 0 := by
  unfold neB at h
  rw [Bool.and_eq_true, decide_eq_true_eq, decide_eq_true_eq] at h
  unfold shareN
  rw [pubN_num x hx]
  exact over_ne Prime.prime h.1 h.2
/-- A client and a server of the seed share something. -/
def Good (c s e : Int) : Prop := shareN (tx (secret seedT c s e)) (pub seedT s e) ≠ 0
theorem good_of (c s e : Int) (k t : List UInt8) (x : Nat) (hk : fromSeed [pairT, dec c, dec s, dec e] = k) (ht : fromSeed [serverT, dec s, dec e] = t) (hx : x < Prime.P) (h9 : isB t 9 x = true) (h : neB k x = true) : Good c s e := by
  unfold Good secret pub server
  rw [derive_seed, derive_seed, hk, ht]
  rw [show shareT (tx t) (numT 9) = numT x from share_is t 9 x (by decide) h9]
  exact share_ne k x hx h
theorem dec_one (n : Nat) (h : n < 10) (h1 : 1 ≤ n) : dec (n : Int) = [UInt8.ofNat (48 + n)] := by
  rw [dec, if_neg (by omega), digits, if_pos (by omega)]
  rfl
theorem dec_0 : dec 0 = [48] := rfl
theorem dec_three (n : Nat) (h : 100 ≤ n) (h1 : n < 110) : dec (n : Int) = [49, 48, UInt8.ofNat (48 + n % 10)] := by
  have e1 : n / 10 = 10 := by omega
  rw [dec, if_neg (by omega), digits, if_neg (by omega)]
  show digits (n / 10) ++ [UInt8.ofNat (48 + n % 10)] = _
  rw [e1, digits, if_neg (by decide), digits, if_pos (by decide)]
  rfl
theorem dec_1 : dec 1 = [49] := dec_one 1 (by decide) (by decide)
theorem dec_100 : dec 100 = [49, 48, 48] := dec_three 100 (by decide) (by decide)
end Go.Proofs.YtolmfimpaofefaaGreatDoor.PadK
