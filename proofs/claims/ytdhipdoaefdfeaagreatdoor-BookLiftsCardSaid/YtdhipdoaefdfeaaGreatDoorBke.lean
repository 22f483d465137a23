/-
  Package book answers as the laws of layer 16 want (Con): its functions' contracts together. No condition but those that Con names.
-/
import Derived.Test.YtdhipdoaefdfeaaGreatDoorBkd
import Derived.Test.YtdhipdoaefdfeaaGreatDoorBkL
namespace Go.Proofs.YtdhipdoaefdfeaaGreatDoor.Bkb
open Go.RowKit Mur Prt Lanes Tap Bkl Bkm Rec Cel Bkr
set_option maxRecDepth 100000

theorem con : Con where
  new := fun ideal seed l n a c b w hb ha hn hn2 hc _ => new_any ideal seed l n a c b w hb ha hn hn2 hc
  cell := fun A b b' v name S n w hS hb' h hro hs _ _ hl => cell_any A b b' v name S n w hS hb' h hro (by omega) hl.consts
  count := fun A b v who k w hk h hro => count_any A b v who k w hk h hro
  sign := fun A b b' v who msg S E w hS hb' hE h hro hs hm hl => sign_any A b b' v who msg S E w hS hb' hE h hro (by omega) (by omega) hl
  check := fun A b b' v who msg sig O w hO hb' h hro hs hm hg _ hkey hl => check_any A b b' v who msg sig O w hO hb' hkey h hro (by omega) (by omega) (by omega) hl
  perm := fun A b b' v epoch n L N w hL hN hb' h hro he1 he2 _ _ hl => perm_any A b b' v epoch n L N w hL hN hb' h hro he1 he2 hl
  lift := fun A b b' v w hb' h hro => lift_any A b b' v w hb' h hro
end Go.Proofs.YtdhipdoaefdfeaaGreatDoor.Bkb
