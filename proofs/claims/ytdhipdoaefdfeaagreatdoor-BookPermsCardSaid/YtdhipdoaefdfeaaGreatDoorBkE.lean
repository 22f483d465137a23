/-
  The ends of functions that answer a value beside a struct. Nothing here speaks of a program: no condition but those that each lemma names.
-/
import Derived.Test.YtdhipdoaefdfeaaGreatDoorBkV
namespace Go.Proofs.YtdhipdoaefdfeaaGreatDoor.Hold
open Go Go.RowKit Mur
section
variable {P : Program} {w w0 : World} {m : List Blk}
theorem resultsTC {fn : Func} {o p b : Nat} {ty t : TypeId} {v : List Value} {c : Value} (h : Hld w0 m w) (i : Nat) (hf : fn.results = #[.tmp o, .cell p ty]) (tmps : Array Value) (ho : tmps.getD o undef = c) (hp : tmps.getD p undef = .pointer (some ⟨b, 0, none⟩)) (hi : m[i]? = some ⟨b, t, v⟩) (hr : TyRow P ty v.length) :
    (results fn tmps).run P w = .ok (.tuple #[c, .agg v.toArray]) w := by
  obtain ⟨d, hu, hd, hs⟩ := hr
  have hp' : tmps[p]?.getD undef = .pointer (some ⟨b, 0, none⟩) := by simpa using hp
  have ho' : tmps[o]?.getD undef = c := by simpa using ho
  simp [results, hf, hp', ho', asAddr, run_loadVar_mid w b 0 ty v d (h.range i hi (Part.all v)) hu hd hs]
theorem resultsTCT {fn : Func} {o p q b : Nat} {ty t : TypeId} {v : List Value} {c e : Value} (h : Hld w0 m w) (i : Nat) (hf : fn.results = #[.tmp o, .cell p ty, .tmp q]) (tmps : Array Value) (ho : tmps.getD o undef = c) (hp : tmps.getD p undef = .pointer (some ⟨b, 0, none⟩)) (hq : tmps.getD q undef = e) (hi : m[i]? = some ⟨b, t, v⟩) (hr : TyRow P ty v.length) :
    (results fn tmps).run P w = .ok (.tuple #[c, .agg v.toArray, e]) w := by
  obtain ⟨d, hu, hd, hs⟩ := hr
  have hp' : tmps[p]?.getD undef = .pointer (some ⟨b, 0, none⟩) := by simpa using hp
  have ho' : tmps[o]?.getD undef = c := by simpa using ho
  have hq' : tmps[q]?.getD undef = e := by simpa using hq
  simp [results, hf, hp', ho', hq', asAddr, run_loadVar_mid w b 0 ty v d (h.range i hi (Part.all v)) hu hd hs]
end
end Go.Proofs.YtdhipdoaefdfeaaGreatDoor.Hold
