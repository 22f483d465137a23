/-
  What the laws of layer 16 want of package book: its functions' answers, as the plain mathematics of the text Bkm says, as one structure; all memory that was there is left as it was. Conditions: those that each part names (short texts, few of each list, the listed tables).
-/
import Derived.Test.YtdhipdoaefdfeaaGreatDoorBkR
namespace Go.Proofs.YtdhipdoaefdfeaaGreatDoor.Bkr
open Go.RowKit Mur Prt Lanes Tap Bkl Bkm Rec Cel
set_option maxRecDepth 100000

structure Con : Prop where
  new : ∀ (ideal : Bool) (seed : ByteArray) (l : List K) (n : Nat) (a : Option Addr) (c : Nat) (b : Bk) (w : World), b = newB ideal seed.data.toList (toC l) → CelR w a l → l.length = n → n ≤ 1000 → n ≤ c → Laid w →
    Calls Tryz.prog 7 #[.bool ideal, .string seed, .agg #[.int .i64 2, .int .i64 1], .slice a n c] w fun e w' => ∃ v, e = .returned (.tuple #[.agg v.toArray, .int .i64 0]) ∧ BkR w' b v (fun k => w.heap.size ≤ k) ∧ Below w.heap.size w w'
  cell : ∀ (A : Nat → Prop) (b b' : Bk) (v : List Value) (name S : ByteArray) (n : Int) (w : World), S = tx (cellS b name.data.toList n) → b' = cellB b name.data.toList n → BkR w b v A → Room b 1000 → name.size ≤ 1000 → -9223372036854775808 ≤ n → n ≤ 9223372036854775807 → Laid w →
    Calls Tryz.prog 14 #[.agg v.toArray, .string name, .int .i64 n] w fun e w' => ∃ v', e = .returned (.tuple #[.string S, .agg v'.toArray]) ∧ BkR w' b' v' (fun k => A k ∨ w.heap.size ≤ k) ∧ Below w.heap.size w w'
  count : ∀ (A : Nat → Prop) (b : Bk) (v : List Value) (who : ByteArray) (k : Int) (w : World), k = (Bkl.count b.counts who.data.toList : Nat) → BkR w b v A → Room b 1000 →
    Calls Tryz.prog 11 #[.agg v.toArray, .string who] w fun e w' => e = .returned (.int .i64 k) ∧ Below w.heap.size w w'
  sign : ∀ (A : Nat → Prop) (b b' : Bk) (v : List Value) (who msg S : ByteArray) (E : Int) (w : World), S = tx (signO b who.data.toList msg.data.toList).1 → b' = (signO b who.data.toList msg.data.toList).2.1 → E = (signO b who.data.toList msg.data.toList).2.2 → BkR w b v A → Room b 1000 → who.size ≤ 1000 → msg.size ≤ 1000 → Laid w →
    Calls Tryz.prog 9 #[.agg v.toArray, .string who, .string msg] w fun e w' => ∃ v', e = .returned (.tuple #[.string S, .agg v'.toArray, .int .i64 E]) ∧ BkR w' b' v' (fun k => A k ∨ w.heap.size ≤ k) ∧ Below w.heap.size w w'
  check : ∀ (A : Nat → Prop) (b b' : Bk) (v : List Value) (who msg sig : ByteArray) (O : Bool) (w : World), O = checkO b who.data.toList msg.data.toList sig.data.toList → b' = checkB b who.data.toList msg.data.toList sig.data.toList → BkR w b v A → Room b 1000 → who.size ≤ 1000 → msg.size ≤ 1000 → sig.size ≤ 6000 → Bkl.count b.counts who.data.toList ≤ 2 → Key b who.data.toList → Laid w →
    Calls Tryz.prog 10 #[.agg v.toArray, .string who, .string msg, .string sig] w fun e w' => ∃ v', e = .returned (.tuple #[.bool O, .agg v'.toArray]) ∧ BkR w' b' v' (fun k => A k ∨ w.heap.size ≤ k) ∧ Below w.heap.size w w'
  perm : ∀ (A : Nat → Prop) (b b' : Bk) (v : List Value) (epoch n : Int) (L : List Nat) (N : Nat) (w : World), L = Bkp.perm (cellS b (joined [112, 101, 114, 109] [epoch]) n) → L.length = N → b' = cellB b (joined [112, 101, 114, 109] [epoch]) n → BkR w b v A → Room b 1000 → -9223372036854775808 ≤ epoch → epoch ≤ 9223372036854775807 → -9223372036854775808 ≤ n → n ≤ 9223372036854775807 → Laid w →
    Calls Tryz.prog 12 #[.agg v.toArray, .int .i64 epoch, .int .i64 n] w fun e w' => ∃ a c v', e = .returned (.tuple #[.slice a N c, .agg v'.toArray]) ∧ NumR w' a L ∧ (L.length ≠ 0 → ∀ q, a = some q → w.heap.size ≤ q.block) ∧ BkR w' b' v' (fun k => A k ∨ w.heap.size ≤ k) ∧ Below w.heap.size w w'
  lift : ∀ (A : Nat → Prop) (b b' : Bk) (v : List Value) (w : World), b' = liftB b → BkR w b v A → Room b 1000 →
    Calls Tryz.prog 15 #[.agg v.toArray] w fun e w' => ∃ v', e = .returned (.agg v'.toArray) ∧ BkR w' b' v' (fun k => A k ∨ w.heap.size ≤ k) ∧ Below w.heap.size w w'
end Go.Proofs.YtdhipdoaefdfeaaGreatDoor.Bkr
