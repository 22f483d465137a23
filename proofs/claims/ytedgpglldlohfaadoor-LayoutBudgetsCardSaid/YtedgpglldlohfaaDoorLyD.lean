/-
  What the laws LayoutBudgets and LayoutFits want of package layout's Budget, Share and Open, beside what the text LyC says. Conditions: those that it names.
-/
import Derived.Test.YtedgpglldlohfaaDoorLyC
namespace Go.Proofs.YtedgpglldlohfaaDoor.Lyo
open Go.RowKit Mur Lanes Prt Tap Cel Frm Zs
/-- Budget and Share. -/
structure ConB : Prop where
  budget : ∀ (l : List Int) (a : Option Addr) (n c : Nat) (s m : Int) (L : List Int) (N : Nat) (w : World), L = budget l s m → L.length = N → In w a n c l → InR s → InR m →
    Calls Tryd.prog 17 #[.slice a n c, .int .i64 s, .int .i64 m] w (Out w L N)
  share : ∀ (l : List Int) (a : Option Addr) (n c : Nat) (s k Q : Int) (w : World), Q = share l s k → In w a n c l → InR s → InR k →
    Calls Tryd.prog 19 #[.slice a n c, .int .i64 s, .int .i64 k] w fun z w' => z = .returned (.int .i64 Q) ∧ Below w.heap.size w w'
/-- Open answers which slots are open. -/
def ConOpen : Prop := ∀ (l : List Int) (a : Option Addr) (n c : Nat) (s : Int) (L : List Int) (N : Nat) (w : World), L = openL l s (few l).length → L.length = N → In w a n c l → InR s →
    Calls Tryd.prog 15 #[.slice a n c, .int .i64 s] w (Out w L N)
end Go.Proofs.YtedgpglldlohfaaDoor.Lyo
