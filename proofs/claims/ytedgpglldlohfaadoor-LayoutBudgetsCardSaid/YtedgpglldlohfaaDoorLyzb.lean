/-
  The landed package layout answers as the structure ConB, and ConOpen, of the text LyD say. No condition but those that they name.
-/
import Derived.Test.YtedgpglldlohfaaDoorLyD
import Derived.Test.YtedgpglldlohfaaDoorLyz
import Derived.Test.YtedgpglldlohfaaDoorLyLs
import Derived.Test.YtedgpglldlohfaaDoorLyLo
import Derived.Test.YtedgpglldlohfaaDoorLyLb
namespace Go.Proofs.YtedgpglldlohfaaDoor.Lyo
open Go.RowKit Mur Lanes Prt Tap Cel Frm Zs

theorem con_b : ConB where
  budget := fun l a n c s m L N w hL hN h hs hm => Lyl.budget_any l a n c s m L N w hL hN h hs hm
  share := fun l a n c s k Q w hQ h hs hk => Lyl.share_any l a n c s k Q w hQ h hs hk
theorem con_open : ConOpen := fun l a n c s L N w hL hN h hs => Lyl.open_any l a n c s L N w hL hN h hs
end Go.Proofs.YtedgpglldlohfaaDoor.Lyo
