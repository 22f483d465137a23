/-
  Nothing but what it imports.
-/
import Derived.Test.YtlinpbmglcjkkaaDoorRLetB
namespace Go.Proofs.YtlinpbmglcjkkaaDoor.RLet
end Go.Proofs.YtlinpbmglcjkkaaDoor.RLet
