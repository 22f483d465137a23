/-
  The plain mathematics of package pad (chapter 17): secrets, what is shared, pads of it, and pads of a book. Nothing here speaks of a program: no condition but those that each lemma names.
-/
import Derived.Test.YtolmfimpaofefaaGreatDoorMBk
import Derived.Test.YtolmfimpaofefaaGreatDoorMCha
import Derived.Test.YtolmfimpaofefaaGreatDoorMLad
namespace Go.Proofs.YtolmfimpaofefaaGreatDoor.Pad
open Go.RowKit Mur Lanes Limb Hold Lad LadC Prt Tap Bkl Bkm Cel
set_option maxRecDepth 100000

def seedT : List UInt8 := [115, 101, 101, 100]
def pairT : List UInt8 := [112, 97, 105, 114]
def serverT : List UInt8 := [115, 101, 114, 118, 101, 114]
def padT : List UInt8 := [112, 97, 100]
def sharedT : List UInt8 := [115, 104, 97, 114, 101, 100, 32]
def secret (seed : List UInt8) (c s e : Int) : List UInt8 := Ked.derive seed 32 [pairT, dec c, dec s, dec e]
def server (seed : List UInt8) (s e : Int) : List UInt8 := Ked.derive seed 32 [serverT, dec s, dec e]
/-- What two share by a secret and a public key, and the error. -/
def sT (s p : ByteArray) : ByteArray := if s.size = 32 ∧ p.size = 32 then (if (shareT s p).data.toList = (numT 0).data.toList then ⟨#[]⟩ else shareT s p) else ⟨#[]⟩
def sE (s p : ByteArray) : Int := if s.size = 32 ∧ p.size = 32 then (if (shareT s p).data.toList = (numT 0).data.toList then 5 else 0) else 1
theorem sharedV_eq (s p : ByteArray) : sharedV s p = .tuple #[.string (sT s p), .int .i64 (sE s p)] := by
  unfold sharedV sT sE
  split
  · split <;> rfl
  · rfl
theorem sT_size (s p : ByteArray) : (sT s p).size ≤ 32 := by
  unfold sT
  split
  · split
    · exact Nat.zero_le _
    · exact Nat.le_of_eq (shareT_size _ _)
  · exact Nat.zero_le _
/-- A server's public key. -/
def pub (seed : List UInt8) (s e : Int) : ByteArray := shareT (tx (server seed s e)) (numT 9)
theorem pub_size (seed : List UInt8) (s e : Int) : (pub seed s e).size = 32 := shareT_size _ _
def shared (seed : List UInt8) (c s e : Int) : ByteArray := sT (tx (secret seed c s e)) (pub seed s e)
theorem shared_size (seed : List UInt8) (c s e : Int) : (shared seed c s e).size ≤ 32 := sT_size _ _
theorem secret_length (seed : List UInt8) (c s e : Int) : (secret seed c s e).length = 32 := Ked.expand_length _ _ _ (by decide)
theorem server_length (seed : List UInt8) (s e : Int) : (server seed s e).length = 32 := Ked.expand_length _ _ _ (by decide)
theorem tx_long (l : List UInt8) : (tx l).size = l.length := rfl
theorem public_is (seed : List UInt8) (s e : Int) : timesV (tx (server seed s e)) (numT 9) = .tuple #[.string (pub seed s e), .int .i64 0] := by
  have h : (tx (server seed s e)).size = 32 := by rw [tx_long, server_length]
  unfold timesV pub
  rw [if_pos ⟨h, numT_size 9⟩]
/-- How many bytes a pad has. -/
def long (n : Int) : Nat := (max 0 (min n 6000)).toNat
def nonce (round : Int) : List UInt8 := Lanes.high (max 0 round).toNat 12
theorem nonce_length (round : Int) : (nonce round).length = 12 := by simp [nonce, Lanes.high]
def padKey (sh : List UInt8) : List UInt8 := Ked.derive sh 32 [padT]
theorem padKey_length (sh : List UInt8) : (padKey sh).length = 32 := Ked.expand_length _ _ _ (by decide)
/-- The pad of a round, of what is shared. -/
def of (sh : List UInt8) (round n : Int) : List UInt8 := Cha.streamT (Cha.stateZ (padKey sh) (nonce round)) (long n)
theorem of_length (sh : List UInt8) (round n : Int) : (of sh round n).length = long n := Cha.streamT_length _ _
def name (c s e r : Int) : List UInt8 := joined padT [c, s, e, r]
/-- The name by which is kept what is shared: as this program has it, and as the document's own answer has it (with a blank behind it). -/
def kept (c s e _r : Int) : List UInt8 := sharedT ++ joined padT [c, s, e]
def keptD (c s e r : Int) : List UInt8 := sharedT ++ (name c s e r).take ((name c s e r).length - (dec r).length)
theorem joined_snoc (word : List UInt8) (l : List Int) (r : Int) : joined word (l ++ [r]) = joined word l ++ [32] ++ dec r := by
  rw [← joined_more]
  simp [joined, tail]
theorem name_parts (c s e r : Int) : name c s e r = joined padT [c, s, e] ++ [32] ++ dec r := joined_snoc padT [c, s, e] r
theorem kept_is (c s e r : Int) : kept c s e r = sharedT ++ joined padT [c, s, e] := rfl
/-- What is shared, as a book has it. -/
def sharedOf (b : Bk) (c s e r : Int) : List UInt8 := (get b.cells (kept c s e r)).getD (shared b.seed c s e).data.toList
def cellsOf (b : Bk) (c s e r : Int) : List C := match get b.cells (kept c s e r) with
  | some _ => b.cells
  | none => put b.cells (kept c s e r) (shared b.seed c s e).data.toList
def plain (b : Bk) (c s e r : Int) : Bool := b.ideal || (get b.used (name c s e r)).isSome
/-- A pad of a book, and the book behind it. -/
def padS (b : Bk) (c s e r n : Int) : List UInt8 := if plain b c s e r = true then cellS b (name c s e r) n else of (sharedOf b c s e r) r n
def padB (b : Bk) (c s e r n : Int) : Bk := if plain b c s e r = true then cellB b (name c s e r) n else
  { b with cells := cellsOf b c s e r, used := put b.used (name c s e r) (of (sharedOf b c s e r) r n) }
theorem digits_length (n : Nat) (h : n < 10000000000000000000) : (digits n).length ≤ 19 := by
  have H : ∀ k n, n < 10 ^ k → (digits n).length ≤ max 1 k := by
    intro k
    induction k with
    | zero => intro n h; rw [digits, if_pos (by omega)]; simp
    | succ k ih =>
      intro n h
      rw [digits]
      split
      · simp
      · have h2 : n / 10 < 10 ^ k := by rw [Nat.pow_succ] at h; omega
        have := ih _ h2
        have hk : 1 ≤ k := by
          rcases Nat.eq_zero_or_pos k with rfl | hk
          · omega
          · exact hk
        rw [List.length_append]
        simp only [List.length_cons, List.length_nil]
        omega
  have := H 19 n h
  omega
theorem dec_length (n : Int) (h : n ≤ 9223372036854775807) : (dec n).length ≤ 19 := by
  unfold dec
  split
  · decide
  · exact digits_length _ (by omega)
theorem tail_length (l : List Int) (h : ∀ x ∈ l, x ≤ 9223372036854775807) : (tail l).length ≤ 20 * l.length := by
  induction l with
  | nil => simp [tail]
  | cons x l ih =>
    have h1 := dec_length x (h x (by simp))
    have h2 := ih fun y hy => h y (by simp [hy])
    simp only [tail, List.length_append, List.length_cons] at *
    omega
theorem name_length (c s e r : Int) (h1 : c ≤ 9223372036854775807) (h2 : s ≤ 9223372036854775807) (h3 : e ≤ 9223372036854775807) (h4 : r ≤ 9223372036854775807) : (name c s e r).length ≤ 83 := by
  have := tail_length [c, s, e, r] (by intro x hx; simp only [List.mem_cons, List.not_mem_nil, or_false] at hx; rcases hx with rfl | rfl | rfl | rfl <;> assumption)
  rw [name, joined, List.length_append]
  simp only [padT, List.length_cons, List.length_nil] at *
  omega
theorem dec_name (c s e r : Int) : (dec r).length ≤ (name c s e r).length := by
  rw [name_parts, List.length_append]
  omega
end Go.Proofs.YtolmfimpaofefaaGreatDoor.Pad
