/-
  More on the blocks that a call has made: answers of a function, one in a block and one in a slot; slices that are made. Nothing here speaks of a program: no condition but those that each lemma names.
-/
import Derived.Test.YtpamdpfgcbadhaaDoorHold
namespace Go.Proofs.YtpamdpfgcbadhaaDoor.Hold
open Go Go.RowKit Mur

section
variable {P : Program} {ops : Array Oper} {rest : List Oper} {op : Oper} {a : Act} {w w0 : World} {m : List Blk} {Q : Exit → Act → World → Prop}
theorem resultsCT {fn : Func} {p q b : Nat} {ty t : TypeId} {v : List Value} {c : Value} (h : Hld w0 m w) (i : Nat) (hf : fn.results = #[.cell p ty, .tmp q]) (tmps : Array Value) (hp : tmps.getD p undef = .pointer (some ⟨b, 0, none⟩)) (hq : tmps.getD q undef = c) (hi : m[i]? = some ⟨b, t, v⟩) (hr : TyRow P ty v.length) :
    (results fn tmps).run P w = .ok (.tuple #[.agg v.toArray, c]) w := by
  obtain ⟨d, hu, hd, hs⟩ := hr
  have hp' : tmps[p]?.getD undef = .pointer (some ⟨b, 0, none⟩) := by simpa using hp
  have hq' : tmps[q]?.getD undef = c := by simpa using hq
  simp [results, hf, hp', hq', asAddr, run_loadVar_mid w b 0 ty v d (h.range i hi (Part.all v)) hu hd hs]
/-- A slice is made. -/
theorem make (h : Hld w0 m w) {t e : TypeId} {x y : Operand} {n : Nat} {cs : List Value} {vx vy : Value} (hg : op.guard = none) (ho : op.op = .makeSlice t x y) (hx : a.eval x = vx) (hy : a.eval y = vy)
    (hrun : ∀ u : World, (Instr.makeSlice t vx vy).run P u = .ok (.slice (some ⟨u.heap.size, 0, none⟩) n n) (u.alloc (.cells cs.toArray e)))
    (hk : ∀ b w', Hld w0 (m ++ [⟨b, e, cs⟩]) w' → wpList P ops Q rest (a.put op.dst (.slice (some ⟨b, 0, none⟩) n n)) w') : wpList P ops Q (op :: rest) a w := by
  refine wpList_plain hg fun K hK => ?_
  unfold Oper.wp execOp
  simp only [ho, hx, hy, Sem.run_bind, hrun, Result.andThen_ok]
  exact hK _ _ (hk _ _ (h.add e cs))
end
end Go.Proofs.YtpamdpfgcbadhaaDoor.Hold
