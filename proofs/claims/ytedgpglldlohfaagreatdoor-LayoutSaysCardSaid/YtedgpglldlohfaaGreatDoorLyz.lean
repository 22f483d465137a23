/-
  The landed package layout answers as the structure Con of the text LyC says. No condition but those that it names.
-/
import Derived.Test.YtedgpglldlohfaaGreatDoorLyC
import Derived.Test.YtedgpglldlohfaaGreatDoorLyL
import Derived.Test.YtedgpglldlohfaaGreatDoorLyLn
namespace Go.Proofs.YtedgpglldlohfaaGreatDoor.Lyo
open Go.RowKit Mur Lanes Prt Tap Cel Frm Zs

theorem con : Con where
  total := fun l a n c s T w hT h hs => Lyl.total_any l a n c s T w hT h hs
  spot := fun l a n c s k A B w hA hB h hs hk => Lyl.spot_any l a n c s k A B w hA hB h hs hk
  slot := fun l a n c s k t X w hX h hs hk ht => Lyl.slot_any l a n c s k t X w hX h hs hk ht
  want := fun l a n c k W t w hW h hk ht => Lyl.want_any l a n c k W t w hW h hk ht
  next := fun l a n c s t L N w hL hN h hs ht hl => Lyl.next_any l a n c s t L N w hL hN h hs ht hl
  first := fun k L N w hL hN hk => (Lyl.first_any k L N w hL hN hk).mono fun _ _ h => h.out
end Go.Proofs.YtedgpglldlohfaaGreatDoor.Lyo
