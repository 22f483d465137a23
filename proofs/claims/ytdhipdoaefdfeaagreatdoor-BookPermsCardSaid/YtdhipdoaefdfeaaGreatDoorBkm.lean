/-
  The plain mathematics of package book (chapter 16), for the shape of two bytes and two leaves: cells, signatures, checks, orders and lifted books; what is signed is taken (P16.8). Nothing here speaks of a program: no condition but those that each lemma names.
-/
import Derived.Test.YtdhipdoaefdfeaaGreatDoorBkl
import Derived.Test.YtdhipdoaefdfeaaGreatDoorBkp
import Derived.Test.YtdhipdoaefdfeaaGreatDoorMStp
namespace Go.Proofs.YtdhipdoaefdfeaaGreatDoor.Bkm
open Tap Bkl

abbrev Iss := List UInt8 × List UInt8 × List UInt8
/-- A book. -/
structure Bk where
  ideal : Bool
  seed : List UInt8
  cells : List C
  used : List C
  counts : List (List UInt8 × Nat)
  issued : List Iss
  taken : List Iss
  forged : List Iss
  missed : List Iss
def cellT : List UInt8 := [99, 101, 108, 108]
def signT : List UInt8 := [115, 105, 103, 110]
def publicT : List UInt8 := [112, 117, 98, 108, 105, 99, 32]
def newB (ideal : Bool) (seed : List UInt8) (l : List C) : Bk := ⟨ideal, seed, if ideal = true then l else [], [], [], [], [], [], []⟩
def many (n : Int) : Nat := (max 0 (min n 6000)).toNat
/-- What a cell that is not used yet has. -/
def freshS (b : Bk) (name : List UInt8) (n : Int) : List UInt8 := if b.ideal = true then fit ((get b.cells name).getD []) n else fit (Ked.derive b.seed (many n) [cellT, name]) n
def cellS (b : Bk) (name : List UInt8) (n : Int) : List UInt8 := match get b.used name with
  | some s => fit s n
  | none => freshS b name n
def cellB (b : Bk) (name : List UInt8) (n : Int) : Bk := match get b.used name with
  | some _ => b
  | none => { b with used := put b.used name (freshS b name n) }
def signerSeed (seed who : List UInt8) : List UInt8 := Stp.seedOf (Ked.derive seed 32 [signT, who])
def signS (b : Bk) (who msg : List UInt8) : List UInt8 :=
  if b.ideal = true then cellS b (sigName who (count b.counts who)) 18 else Stp.signature 2 1 (signerSeed b.seed who) (count b.counts who) msg
/-- The book in which the signature is used. -/
def usedB (b : Bk) (who msg : List UInt8) : Bk :=
  if b.ideal = true then cellB b (sigName who (count b.counts who)) 18 else { b with used := put b.used (sigName who (count b.counts who)) (signS b who msg) }
def signB (b : Bk) (who msg : List UInt8) : Bk :=
  { usedB b who msg with counts := counted b.counts who, issued := add b.issued (who, msg, signS b who msg) }
def publicS (b : Bk) (who : List UInt8) : List UInt8 := Stp.pub 2 1 (signerSeed b.seed who)
def publicB (b : Bk) (who : List UInt8) : Bk := { b with cells := put b.cells (publicT ++ who) (publicS b who) }
/-- A public key that a real book has kept is the right one. -/
def Key (b : Bk) (who : List UInt8) : Prop := b.ideal = false → ∀ s, get b.cells (publicT ++ who) = some s → s = publicS b who
def checkO (b : Bk) (who msg sig : List UInt8) : Bool := if b.ideal = true then decide ((who, msg, sig) ∈ b.issued) else Stp.check 2 1 (publicS b who) msg sig
def told (b : Bk) (x : Iss) (ok : Bool) : Bk :=
  { b with missed := if ok = true then b.missed else add b.missed x, forged := if ok = true ∧ x ∉ b.issued then add b.forged x else b.forged, taken := if ok = true then add b.taken x else b.taken }
def checkB (b : Bk) (who msg sig : List UInt8) : Bk := told (if b.ideal = true then b else publicB b who) (who, msg, sig) (checkO b who msg sig)
def liftB (b : Bk) : Bk := ⟨true, [], b.used, [], [], [], [], [], []⟩

theorem add_last {l : List Iss} {x : Iss} (h : x ∈ l → l = [x]) : ∃ t, add l x = t ++ [x] := by
  unfold add
  split
  · rename_i hx
    exact ⟨[], h hx⟩
  · exact ⟨l, rfl⟩
theorem add_length (l : List Iss) (x : Iss) : (add l x).length ≤ l.length + 1 := by
  unfold add
  split
  · omega
  · simp
/-- How a book stands while one signs and is checked: so many signatures, no more of them taken, and a public key that is kept is the right one. -/
structure Going (b : Bk) (who : List UInt8) (k : Nat) : Prop where
  count : count b.counts who = k
  taken : b.taken.length ≤ k
  key : Key b who
theorem going_new (ideal : Bool) (seed : List UInt8) (l : List C) (who : List UInt8) : Going (newB ideal seed l) who 0 := by
  refine ⟨rfl, Nat.le_refl _, fun h s hs => ?_⟩
  have h : ideal = false := h
  subst h
  cases hs
theorem usedB_rest (b : Bk) (who msg : List UInt8) : (usedB b who msg).ideal = b.ideal ∧ (usedB b who msg).seed = b.seed ∧ (usedB b who msg).cells = b.cells ∧ (usedB b who msg).taken = b.taken ∧ (usedB b who msg).counts = b.counts ∧ (usedB b who msg).issued = b.issued := by
  unfold usedB cellB
  split
  · split
    · exact ⟨rfl, rfl, rfl, rfl, rfl, rfl⟩
    · exact ⟨rfl, rfl, rfl, rfl, rfl, rfl⟩
  · exact ⟨rfl, rfl, rfl, rfl, rfl, rfl⟩
theorem key_sign {b : Bk} {who : List UInt8} (h : Key b who) (other msg : List UInt8) : Key (signB b other msg) who := fun hi s hs => by
  obtain ⟨r1, r2, r3, -⟩ := usedB_rest b other msg
  have hi' : (usedB b other msg).ideal = false := hi
  have hs' : get (usedB b other msg).cells (publicT ++ who) = some s := hs
  rw [r3] at hs'
  rw [r1] at hi'
  rw [h hi' s hs']
  show Stp.pub 2 1 (signerSeed b.seed who) = Stp.pub 2 1 (signerSeed (usedB b other msg).seed who)
  rw [r2]
theorem add_mem (l : List Iss) (x : Iss) : x ∈ add l x := by
  unfold add
  split
  · assumption
  · simp
/-- What is signed is taken, and is the last that was. -/
theorem sign_taken (b : Bk) (who msg : List UInt8) (k : Nat) (hk : k < 2) (h : Going b who k) :
    checkO (signB b who msg) who msg (signS b who msg) = true ∧ Going (checkB (signB b who msg) who msg (signS b who msg)) who (k + 1) ∧
    ∃ t, (checkB (signB b who msg) who msg (signS b who msg)).taken = t ++ [(who, msg, signS b who msg)] := by
  obtain ⟨r1, r2, r3, r4, r5, r6⟩ := usedB_rest b who msg
  have e1 : (signB b who msg).ideal = b.ideal := r1
  have e2 : (signB b who msg).seed = b.seed := r2
  have e3 : (signB b who msg).cells = b.cells := r3
  have e4 : (signB b who msg).taken = b.taken := r4
  have e5 : (signB b who msg).counts = counted b.counts who := rfl
  have e6 : (signB b who msg).issued = add b.issued (who, msg, signS b who msg) := rfl
  have hok : checkO (signB b who msg) who msg (signS b who msg) = true := by
    unfold checkO
    rw [e1]
    by_cases hi : b.ideal = true
    · rw [if_pos hi, e6]
      exact decide_eq_true (add_mem _ _)
    · have hif : b.ideal = false := by simpa using hi
      rw [if_neg hi]
      have hp : publicS (signB b who msg) who = publicS b who := by
        unfold publicS
        rw [e2]
      rw [hp, signS, if_neg hi, h.count]
      exact Stp.check_signature 2 1 _ k msg (by omega) (by omega) (by omega)
  have hmem : ∀ x, x ∈ b.taken → b.taken = [x] := fun x hx => by
    have := h.taken
    match hb : b.taken, hx with
    | [y], hx => cases List.mem_singleton.1 hx; rfl
    | y :: z :: r, _ => rw [hb] at this; simp at this; omega
  have q : ∀ (c : Bk), (told c (who, msg, signS b who msg) true).taken = add c.taken (who, msg, signS b who msg) := fun c => rfl
  have p4 : (if (signB b who msg).ideal = true then signB b who msg else publicB (signB b who msg) who).taken = b.taken := by
    split
    · exact e4
    · exact e4
  have p5 : (if (signB b who msg).ideal = true then signB b who msg else publicB (signB b who msg) who).counts = counted b.counts who := by
    split
    · exact e5
    · exact e5
  have p1 : (if (signB b who msg).ideal = true then signB b who msg else publicB (signB b who msg) who).ideal = b.ideal := by
    split
    · exact e1
    · exact e1
  have p2 : (if (signB b who msg).ideal = true then signB b who msg else publicB (signB b who msg) who).seed = b.seed := by
    split
    · exact e2
    · exact e2
  refine ⟨hok, ⟨?_, ?_, ?_⟩, ?_⟩
  · show count ((if (signB b who msg).ideal = true then signB b who msg else publicB (signB b who msg) who).counts) who = _
    rw [p5, count_same, h.count]
  · rw [checkB, hok, q, p4]
    have := add_length b.taken (who, msg, signS b who msg)
    have := h.taken
    omega
  · intro hi s hs
    have hi' : b.ideal = false := by rw [← p1]; exact hi
    have hs' : get ((if (signB b who msg).ideal = true then signB b who msg else publicB (signB b who msg) who).cells) (publicT ++ who) = some s := hs
    have hseed : (checkB (signB b who msg) who msg (signS b who msg)).seed = b.seed := p2
    rw [e1, hi', if_neg (by decide)] at hs'
    have hs2 : get (put (signB b who msg).cells (publicT ++ who) (publicS (signB b who msg) who)) (publicT ++ who) = some s := hs'
    rw [put_got] at hs2
    rw [← Option.some.inj hs2]
    unfold publicS
    rw [hseed, e2]
  · rw [checkB, hok, q, p4]
    exact add_last (hmem _)
end Go.Proofs.YtdhipdoaefdfeaaGreatDoor.Bkm
