/-
  What is answered of a reading: its part, or nothing. Nothing here speaks of a program.
-/
import Derived.Test.YtlinpbmglcjkkaaDoorRLetA
namespace Go.Proofs.YtlinpbmglcjkkaaDoor.RLet
open Go.RowKit Mur Prt Lanes Cod Let
set_option maxRecDepth 100000

def okB {α : Type} (f : α → List UInt8) (r : Except Nat α) : ByteArray := match r with
  | .ok x => tx (f x)
  | .error _ => ⟨#[]⟩
def okL {α β : Type} (f : α → List β) (r : Except Nat α) : List β := match r with
  | .ok x => f x
  | .error _ => []
def okN {α : Type} (f : α → Nat) (r : Except Nat α) : Int := match r with
  | .ok x => (f x : Int)
  | .error _ => 0
end Go.Proofs.YtlinpbmglcjkkaaDoor.RLet
