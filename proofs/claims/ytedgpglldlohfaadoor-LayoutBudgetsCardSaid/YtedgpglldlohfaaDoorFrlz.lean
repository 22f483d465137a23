/-
  The landed package frame answers as the structure Con of the text FrC says. No condition but those that it names.
-/
import Derived.Test.YtedgpglldlohfaaDoorFrlc
import Derived.Test.YtedgpglldlohfaaDoorFrle
namespace Go.Proofs.YtedgpglldlohfaaDoor.Frm
open Go.RowKit Mur Lanes Prt Tap Cel

theorem con : Con where
  long := fun c s w h1 h2 => Frl.long_any c s w h1 h2
  lay := fun x c s seed X E w hX hE sm hsd hc hs hl => Frl.lay_any x c s seed X E w hX hE sm (by omega) hc hs hl
  read := fun t c s Y E w hY hE ht hc hs hl => Frl.read_any t c s Y E w hY hE ht hc hs hl
end Go.Proofs.YtedgpglldlohfaaDoor.Frm
