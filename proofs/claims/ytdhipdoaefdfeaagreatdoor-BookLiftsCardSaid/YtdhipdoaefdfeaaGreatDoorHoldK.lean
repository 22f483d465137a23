/-
  More of the calculus of blocks: a new block and a store that tell what else of memory is as it was. Nothing here speaks of a program: no condition but those that each lemma names.
-/
import Derived.Test.YtdhipdoaefdfeaaGreatDoorMWk
namespace Go.Proofs.YtdhipdoaefdfeaaGreatDoor.Hold
open Go Go.RowKit Mur

/-- Of memory that was there all is as it was, but for one block. -/
structure But (n : Nat) (w w' : World) : Prop where
  size : w.heap.size ≤ w'.heap.size
  block : ∀ k, k < w.heap.size → k ≠ n → w'.heap[k]? = w.heap[k]?
theorem But.cell {n : Nat} {w w' : World} (h : But n w w') {p : Addr} (hp : p.block < w.heap.size) (hn : p.block ≠ n) : w'.cell? p = w.cell? p := World.cell?_of_block (h.block _ hp hn)
theorem But.of_below {n : Nat} {w w' : World} (h : Below w.heap.size w w') : But n w w' := ⟨h.size, fun k hk _ => h.block k hk⟩
theorem heap_sets : ∀ (cs : List Value) (w : World) (b o k : Nat), k ≠ b → (w.setCells b o cs).heap[k]? = w.heap[k]?
  | [], _, _, _, _, _ => rfl
  | x :: cs, w, b, o, k, h => by
    rw [World.setCells, heap_sets cs _ b (o + 1) k h]
    unfold World.setCell
    rw [Array.getElem?_modify, if_neg (fun e => h e.symm)]
theorem size_setsK : ∀ (cs : List Value) (w : World) (b o : Nat), (w.setCells b o cs).heap.size = w.heap.size
  | [], _, _, _ => rfl
  | x :: cs, w, b, o => by rw [World.setCells, size_setsK cs _ b (o + 1)]; simp
theorem but_sets (cs : List Value) (w : World) (b o : Nat) : But b w (w.setCells b o cs) := ⟨Nat.le_of_eq (size_setsK cs w b o).symm, fun k _ hn => heap_sets cs w b o k hn⟩

section
variable {P : Program} {ops : Array Oper} {rest : List Oper} {op : Oper} {a : Act} {w w0 : World} {m : List Blk} {Q : Exit → Act → World → Prop}
theorem wpList_want {o : Oper} (hw : Region.wanted o (yielded ops a.tmps) = true) (v : Value) (hr : (execOp a.eval o).run P w = .ok (.value v) w) (hk : wpList P ops Q rest (a.put o.dst v) w) : wpList P ops Q (o :: rest) a w := by
  refine wpList_step fun K hK => ?_
  rw [if_pos hw]
  unfold Oper.wp
  rw [hr]
  exact hK _ _ hk
theorem allocK (h : Hld w0 m w) {t : TypeId} (hg : op.guard = none) (ho : op.op = .alloc t) (z : List Value) (hz : (P.info? t).map (fun i => (i.zero, i.size)) = some (some (.agg z.toArray), z.length))
    (hk : ∀ b w', w.heap.size ≤ b → Below w.heap.size w w' → Hld w0 (m ++ [⟨b, t, z⟩]) w' → wpList P ops Q rest (a.put op.dst (.pointer (some ⟨b, 0, none⟩))) w') : wpList P ops Q (op :: rest) a w :=
  wpList_alloc_z hg t ho z hz (hk _ _ (Nat.le_refl _) ((Below.refl _ _).alloc (Nat.le_refl _) _) (h.add t z))
theorem boxK (h : Hld w0 m w) {t : TypeId} {x : Operand} {cs : List Value} (hg : op.guard = none) (ho : op.op = .box t x) (hx : a.eval x = .agg cs.toArray)
    (hk : ∀ b w', w.heap.size ≤ b → Below w.heap.size w w' → Hld w0 (m ++ [⟨b, t, cs⟩]) w' → wpList P ops Q rest (a.put op.dst (.pointer (some ⟨b, 0, none⟩))) w') : wpList P ops Q (op :: rest) a w := by
  refine wpList_plain hg fun K hK => ?_
  unfold Oper.wp execOp
  simp only [ho, hx, Sem.run_bind, Instr.box, newVar, newRow, run_newObj_alloc, Sem.run_pure, Result.andThen_ok, Value.cells]
  exact hK _ _ (hk _ _ (Nat.le_refl _) ((Below.refl _ _).alloc (Nat.le_refl _) _) (h.add t cs))
theorem storeK (h : Hld w0 m w) (i : Nat) {b o : Nat} {t ty : TypeId} {v cs v' : List Value} {x y : Operand} (hg : op.guard = none) (ho : op.op = .store ty x y) (hx : a.eval x = .pointer (some ⟨b, o, none⟩)) (hy : a.eval y = .agg cs.toArray) (hi : m[i]? = some ⟨b, t, v⟩) (hl : o + cs.length ≤ v.length) (hv : lay v o cs = v') (h1 : Single cs) (hr : TyRow P ty cs.length)
    (hk : ∀ w', But b w w' → Hld w0 (m.set i ⟨b, t, v'⟩) w' → wpList P ops Q rest (a.put op.dst undef) w') : wpList P ops Q (op :: rest) a w := by
  obtain ⟨d, hu, hd, hs⟩ := hr
  subst hv
  exact wpList_store_mid hg ty x y ho b o cs.toArray hx hy (by simpa using h.there i hi o cs.length hl) (by simpa using hs) h1 (hk _ (but_sets _ w b o) (by simpa using h.set i hi o cs))
end
end Go.Proofs.YtdhipdoaefdfeaaGreatDoor.Hold
