/-
  Words and Text of package lanes: their contracts stand in the texts that are named here. No condition of its own.
-/
import Derived.Test.YtncafbejgidliaaDoorLnWords
import Derived.Test.YtncafbejgidliaaDoorLnText
