/-
  The landed package frame of layer 18 answers as the structure Con of the text FrC says. No condition but those that it names.
-/
import Derived.Test.YtlodgomjlkpdhaaGreatDoorFrlc
import Derived.Test.YtlodgomjlkpdhaaGreatDoorFrle
import Derived.Test.YtlodgomjlkpdhaaGreatDoorFrlt
namespace Go.Proofs.YtlodgomjlkpdhaaGreatDoor.Frm
open Go.RowKit Mur Lanes Prt Tap Cel

theorem con : Con where
  long := fun c s w h1 h2 => Frl.long_any c s w h1 h2
  told := fun e s q t X w hX ht he hs hq hl => Frl.told_any e s q t X w hX (by omega) he hs hq hl
  lay := fun x c s seed X E w hX hE sm hsd hc hs hl => Frl.lay_any x c s seed X E w hX hE sm (by omega) hc hs hl
  read := fun t c s Y E w hY hE ht hc hs hl => Frl.read_any t c s Y E w hY hE ht hc hs hl
  turned := fun a b T w hT ha hb => Frl.turned_any a b T w hT ha hb
end Go.Proofs.YtlodgomjlkpdhaaGreatDoor.Frm
