/-
  What later layers want of package frame (Long, Lay, Read): its functions' answers, as the plain mathematics of the text Frm says, as one structure; all memory that was there is left as it was. Conditions: those that each part names (short texts, numbers of 64 bits, the listed tables).
-/
import Derived.Test.YtedgpglldlohfaaDoorFrm
namespace Go.Proofs.YtedgpglldlohfaaDoor.Frm
open Go.RowKit Mur Lanes Prt Tap Cel
set_option maxRecDepth 100000

/-- The listed tables lie as the program's text lays them. -/
structure Laid (w : World) : Prop where
  consts : Sha.Consts w
theorem Laid.below {w w' : World} (h : Laid w) (k : Below w.heap.size w w') : Laid w' := ⟨h.consts.below h.consts.1 k⟩
/-- A number of 64 bits. -/
def InR (x : Int) : Prop := -9223372036854775808 ≤ x ∧ x ≤ 9223372036854775807
theorem inN (n : Nat) (h : n ≤ 1000000) : InR (n : Int) := ⟨by omega, by omega⟩
/-- What a slot says, as a program has it. -/
structure SayB where
  next : Int
  seq : Int
  text : ByteArray
  sig : ByteArray
def SayB.plain (x : SayB) : Say := ⟨x.next, x.seq, x.text.data.toList, x.sig.data.toList⟩
def ofSay (x : Say) : SayB := ⟨x.next, x.seq, tx x.text, tx x.sig⟩
theorem ofSay_plain (x : SayB) : ofSay x.plain = x := rfl
theorem plain_ofSay (x : Say) : (ofSay x).plain = x := rfl
def sayV (x : SayB) : List Value := [.int .i64 x.next, .int .i64 x.seq, .string x.text, .string x.sig]
structure Small (x : SayB) : Prop where
  next : InR x.next
  seq : InR x.seq
  text : x.text.size ≤ 140737488351232
  sig : x.sig.size ≤ 140737488351232
structure Con : Prop where
  long : ∀ (c s : Int) (w : World), InR c → InR s → Calls Tryd.prog 9 #[.int .i64 c, .int .i64 s] w fun z w' => z = .returned (.int .i64 (long c s)) ∧ Below w.heap.size w w'
  lay : ∀ (x : SayB) (c s : Int) (seed X : ByteArray) (E : Int) (w : World), X = tx (layT x.plain c s seed.data.toList) → E = layE x.plain c s seed.data.toList → Small x → seed.size ≤ 3000 → InR c → InR s → Laid w →
    Calls Tryd.prog 21 #[.agg (sayV x).toArray, .int .i64 c, .int .i64 s, .string seed] w fun z w' => z = .returned (.tuple #[.string X, .int .i64 E]) ∧ Below w.heap.size w w'
  read : ∀ (t : ByteArray) (c s : Int) (Y : SayB) (E : Int) (w : World), Y = ofSay (readX t.data.toList c s) → E = readE t.data.toList c s → t.size ≤ 10000 → InR c → InR s → Laid w →
    Calls Tryd.prog 25 #[.string t, .int .i64 c, .int .i64 s] w fun z w' => z = .returned (.tuple #[.agg (sayV Y).toArray, .int .i64 E]) ∧ Below w.heap.size w w'
end Go.Proofs.YtedgpglldlohfaaDoor.Frm
