/-
  Plain lemmas on a block of memory whose content is known whole. Nothing here speaks of a program: no condition but those that each lemma names.
-/
import Derived.Test.YtpamdpfgcbadhaaDoorMur
import Derived.Deep.MidRow
import Derived.Laws.CopyOwn
import Derived.Deep.WholeRow
namespace Go.Proofs.YtpamdpfgcbadhaaDoor.Mur
open Go.RowKit

/-- Block b is an array of the values vs, and may be written. -/
def Whole (w : World) (b : Nat) (t : TypeId) (vs : List Value) : Prop := w.heap[b]? = some (.cells vs.toArray t (0, 0))

theorem Whole.lt {w : World} {b : Nat} {t : TypeId} {vs : List Value} (h : Whole w b t vs) : b < w.heap.size := (Array.getElem?_eq_some_iff.1 h).1
theorem Whole.row {w : World} {b : Nat} {t : TypeId} {vs : List Value} (h : Whole w b t vs) : Row w b vs := by
  refine ⟨h.lt, fun i v hv => ⟨?_, ?_⟩⟩
  · rw [cell_of_row w b i _ t _ h]
    simpa using hv
  · have h' : w.heap[b]? = some (.cells vs.toArray t (0, 0)) := h
    simp [World.frozen?, h']
theorem Whole.drewN {w : World} {b : Nat} {t : TypeId} {vs : List Value} (h : Whole w b t vs) (n : Nat) : Whole (w.drewN n) b t vs := h
theorem Whole.drew {w : World} {b : Nat} {t : TypeId} {vs : List Value} (h : Whole w b t vs) : Whole w.drew b t vs := h
theorem Whole.below {B : Nat} {w w' : World} {b : Nat} {t : TypeId} {vs : List Value} (h : Whole w b t vs) (hb : b < B) (k : Below B w w') : Whole w' b t vs := by
  show w'.heap[b]? = _
  rw [k.block b hb]
  exact h
theorem Whole.alloc {w : World} {b : Nat} {t : TypeId} {vs : List Value} (h : Whole w b t vs) (o : Obj) : Whole (w.alloc o) b t vs := by
  show (w.alloc o).heap[b]? = _
  rw [_root_.Go.heap_alloc_old w o h.lt]
  exact h
theorem Whole.made (w : World) (t : TypeId) (vs : List Value) : Whole (w.alloc (.cells vs.toArray t)) w.heap.size t vs := _root_.Go.heap_alloc_new w _
theorem Whole.made' (w : World) (t : TypeId) (vs : Array Value) (b : Nat) (hb : b = w.heap.size) : Whole (w.alloc (.cells vs t)) b t vs.toList := by
  subst hb
  exact _root_.Go.heap_alloc_new w _
theorem Whole.set {w : World} {b : Nat} {t : TypeId} {vs : List Value} (h : Whole w b t vs) (i : Nat) (u : Value) : Whole (w.setCell ⟨b, i, none⟩ u) b t (vs.set i u) := by
  show (w.setCell ⟨b, i, none⟩ u).heap[b]? = _
  rw [setCell_eq_setRow w b i vs.toArray t (0, 0) u h, setRow_heap w b _ _ t _ h]
  simp
theorem Whole.other {w : World} {b : Nat} {t : TypeId} {vs : List Value} (h : Whole w b t vs) (c i : Nat) (u : Value) (hc : c ≠ b) : Whole (w.setCell ⟨c, i, none⟩ u) b t vs := by
  show (w.setCell ⟨c, i, none⟩ u).heap[b]? = _
  have := (Below.refl (b + 1) w).setCell (p := ⟨c, i, none⟩)
  unfold World.setCell
  rw [Array.getElem?_modify]
  rw [if_neg hc]
  exact h
theorem Whole.range {w : World} {b : Nat} {t : TypeId} {vs : List Value} (h : Whole w b t vs) : w.rangeAt b 0 vs := fun j v hv => by
  rw [Nat.zero_add]
  exact (h.row).cell hv
theorem Whole.setRow {w : World} {b : Nat} {t : TypeId} {vs : List Value} (h : Whole w b t vs) (us : List Value) : Whole (w.setRow b us.toArray) b t us := setRow_heap w b _ _ t _ h

/-- What is loaded of a whole block. -/
theorem load_whole {P : Program} {w : World} {b : Nat} {t ty : TypeId} {vs : List Value} {d : TypeDesc} (h : Whole w b t vs) (hu : P.underlying ty = some d) (hd : d.isRow = true) (hi : (P.info? ty).map (·.size) = some vs.length) :
    (Instr.loadAt ty (.pointer (some ⟨b, 0, none⟩))).run P w = .ok (.agg vs.toArray) w := run_loadAt_mid w b 0 ty vs d h.range hu hd hi
theorem results_whole {P : Program} {fn : Func} {p : Tmp} {ty : TypeId} (h : fn.results = #[.cell p ty]) (tmps : Array Value) (w : World) (b : Nat) (t : TypeId) (vs : List Value) (d : TypeDesc)
    (hp : tmps.getD p undef = .pointer (some ⟨b, 0, none⟩)) (hg : Whole w b t vs) (hu : P.underlying ty = some d) (hd : (match d with | .struct _ | .array _ _ => true | _ => false) = true) (hi : (P.info? ty).map (·.size) = some vs.length) :
    (results fn tmps).run P w = .ok (.agg vs.toArray) w :=
  results_cell_row h tmps w b t vs.toArray (0, 0) d hp hg hu hd (by simpa using hi)

/-- A variable is made, a literal without parts is built, a value is laid into the block that was made last: the value under a name, whatever its length. -/
theorem wpList_alloc_z {P : Program} {ops : Array Oper} {rest : List Oper} {o : Oper} {a : Act} {w : World} {Q : Exit → Act → World → Prop} (hg : o.guard = none) (t : TypeId) (ho : o.op = .alloc t) (z : List Value)
    (hz : (P.info? t).map (fun i => (i.zero, i.size)) = some (some (.agg z.toArray), z.length))
    (h : wpList P ops Q rest (a.put o.dst (.pointer (some ⟨w.heap.size, 0, none⟩))) (w.alloc (.cells z.toArray t))) : wpList P ops Q (o :: rest) a w := by
  refine wpList_plain hg fun K hK => ?_
  cases hq : P.info? t with
  | none => simp [hq] at hz
  | some i =>
    simp only [hq, Option.map_some, Option.some.injEq, Prod.mk.injEq] at hz
    unfold Oper.wp execOp
    simp [ho, Instr.alloc, zeroValue, typeInfo, hq, hz.1, Sem.run_bind, newVar, newRow, newObj, Value.cells]
    exact hK _ _ h
theorem wpList_build_z {P : Program} {ops : Array Oper} {rest : List Oper} {o : Oper} {a : Act} {w : World} {Q : Exit → Act → World → Prop} (hg : o.guard = none) (t : TypeId) (ho : o.op = .build t #[]) (z : List Value)
    (hz : P.built t [] = some z.toArray) (h : wpList P ops Q rest (a.put o.dst (.agg z.toArray)) w) : wpList P ops Q (o :: rest) a w :=
  wpList_build hg t #[] ho (by simp [hz]) (by simpa [hz] using h)
theorem wpList_store_new {P : Program} {ops : Array Oper} {rest : List Oper} {o : Oper} {a : Act} {w : World} {Q : Exit → Act → World → Prop} (hg : o.guard = none) (t : TypeId) (x y : Operand) (ho : o.op = .store t x y) (n : Nat) (z old : List Value)
    (hx : a.eval x = .pointer (some ⟨n, 0, none⟩)) (hn : n = w.heap.size) (hy : a.eval y = .agg z.toArray) (hi : (P.info? t).map (·.size) = some z.length) (hold : old.length = z.length) (h1 : z.toArray.all (·.oneCell') = true)
    (h : wpList P ops Q rest (a.put o.dst undef) (w.alloc (.cells z.toArray t))) : wpList P ops Q (o :: rest) a (w.alloc (.cells old.toArray t)) := by
  subst hn
  refine wpList_store_row hg t x y ho w.heap.size z.toArray hx hy t old.toArray (_root_.Go.heap_alloc_new w _) (by simpa using hi) (by simpa using hold) h1 ?_
  rw [World.setRow_alloc_new]
  exact h

/-- A call of a Go function by its contract, as one step of a region that draws its order. -/
theorem step_call {P : Program} {ops : Array Oper} {o : Oper} {a : Act} {w : World} {K : Act → World → Prop} {Q : Exit → Act → World → Prop} {E : Prop} (hgd : o.guard = none) (n : FuncId) (hcall : ∀ (args : Array Value) (w : World), (callFunc n args).run P w = .ok (.enter n args) w) (xs : Array Operand) (ts : Array TypeId)
    (ho : o.op = .call { callee := .value (.func n), args := xs, argTypes := ts }) (vs : Array Value) (hv : xs.map a.eval = vs) (r : Value) (S : World → Prop) (hc : Calls P n vs w fun e w' => e = .returned r ∧ S w')
    (h : ∀ w', S w' → K (a.put o.dst r) w') : if Region.wanted o (yielded ops a.tmps) = true then Oper.wp P o a w K Q else E := by
  have hw : Region.wanted o (yielded ops a.tmps) = true := by simp [Region.wanted, hgd]
  rw [if_pos hw]
  unfold Oper.wp
  have hrun : (execOp a.eval o).run P w = .ok (.enter n vs) w := by
    subst hv
    simp [execOp, ho, resolve, invoke, Act.eval, Deferred.ofValue, hcall]
  rw [hrun, Oper.upon_enter]
  refine hc.mono ?_
  rintro e w' ⟨rfl, hs⟩
  exact h w' hs
end Go.Proofs.YtpamdpfgcbadhaaDoor.Mur
