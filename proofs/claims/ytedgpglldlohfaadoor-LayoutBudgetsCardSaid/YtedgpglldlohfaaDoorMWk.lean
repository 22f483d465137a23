/-
  Several texts as one (Whole, StrA, IntA, StrB, Steady, SteadyN, SteadyA, SteadyH, Hold, HoldB, Reg). Plain lemmas on a block of memory whose content is known whole. Nothing here speaks of a program: no condition but those that each lemma names. Slices of texts: a row that a call has made itself, an append of one or of two texts, make. Nothing here speaks of the project's code: no condition but those that each lemma names. Slices of ints that a call has made itself: append of some, making with room, what such a slice is. Conditions: those that each lemma names. An append of one text to a row of texts that a call has made, as one operation of a statement whose order is open. Nothing here speaks of the project's code: no condition but those that the lemma names. A law on a statement whose order is open: where each operation but those of a forced tail yields a value of its own in every world that meets a condition, and keeps that condition (reads, reckoning, calls that make memory), all of them may be taken in the text's order. Nothing here speaks of a program: no condition but those that each lemma names. A law on a statement whose order is open and that makes several variables on its way: they may be made behind all the other operations, which go on in the text's order. Nothing here speaks of a program: no condition but those that each lemma names. A law on a statement whose order is open and that makes one variable on its way: the variable may be made behind all the other operations, which go on in the text's order. Nothing here speaks of a program: no condition but those that each lemma names. A statement whose order is open, taken phase by phase: where each operation of a phase but what waits for it yields a value of its own in every world that meets a condition, and keeps that condition, the phase may be taken in the text's order, whatever has come up before. Nothing here speaks of a program: no condition but those that each lemma names. The blocks that a call has made, as a list, each known whole: what is loaded, stored and made of them, whatever their content. Nothing here speaks of a program: no condition but those that each lemma names. More on the blocks that a call has made: answers of a function, one in a block and one in a slot; slices that are made. Nothing here speaks of a program: no condition but those that each lemma names. Two laws on a statement whose order is open: where one operation alone may come up it is carried out; where several reads come up together, each apart from the others, they may be taken in the text's order. Nothing here speaks of a program: no condition but those that each lemma names.
-/
import Derived.Test.YtedgpglldlohfaaDoorMur
import Derived.Deep.MidRow
import Derived.Laws.CopyOwn
import Derived.Deep.WholeRow
import Derived.Test.YtedgpglldlohfaaDoorMLn
import Derived.Laws.AppendOwn
import Derived.Laws.MakeOwn
import Derived.WalkKit
import Derived.StillTailTactics
import Derived.OrdersHeld
import Derived.Orders
namespace Go.Proofs.YtedgpglldlohfaaDoor.Mur
open Go.RowKit

/-- Block b is an array of the values vs, and may be written. -/
def Whole (w : World) (b : Nat) (t : TypeId) (vs : List Value) : Prop := w.heap[b]? = some (.cells vs.toArray t (0, 0))

theorem Whole.lt {w : World} {b : Nat} {t : TypeId} {vs : List Value} (h : Whole w b t vs) : b < w.heap.size := (Array.getElem?_eq_some_iff.1 h).1
theorem Whole.row {w : World} {b : Nat} {t : TypeId} {vs : List Value} (h : Whole w b t vs) : Row w b vs := by
  refine ⟨h.lt, fun i v hv => ⟨?_, ?_⟩⟩
  · rw [cell_of_row w b i _ t _ h]
    simpa using hv
  · have h' : w.heap[b]? = some (.cells vs.toArray t (0, 0)) := h
    simp [World.frozen?, h']
theorem Whole.drewN {w : World} {b : Nat} {t : TypeId} {vs : List Value} (h : Whole w b t vs) (n : Nat) : Whole (w.drewN n) b t vs := h
theorem Whole.drew {w : World} {b : Nat} {t : TypeId} {vs : List Value} (h : Whole w b t vs) : Whole w.drew b t vs := h
theorem Whole.below {B : Nat} {w w' : World} {b : Nat} {t : TypeId} {vs : List Value} (h : Whole w b t vs) (hb : b < B) (k : Below B w w') : Whole w' b t vs := by
  show w'.heap[b]? = _
  rw [k.block b hb]
  exact h
theorem Whole.alloc {w : World} {b : Nat} {t : TypeId} {vs : List Value} (h : Whole w b t vs) (o : Obj) : Whole (w.alloc o) b t vs := by
  show (w.alloc o).heap[b]? = _
  rw [_root_.Go.heap_alloc_old w o h.lt]
  exact h
theorem Whole.made (w : World) (t : TypeId) (vs : List Value) : Whole (w.alloc (.cells vs.toArray t)) w.heap.size t vs := _root_.Go.heap_alloc_new w _
theorem Whole.made' (w : World) (t : TypeId) (vs : Array Value) (b : Nat) (hb : b = w.heap.size) : Whole (w.alloc (.cells vs t)) b t vs.toList := by
  subst hb
  exact _root_.Go.heap_alloc_new w _
theorem Whole.set {w : World} {b : Nat} {t : TypeId} {vs : List Value} (h : Whole w b t vs) (i : Nat) (u : Value) : Whole (w.setCell ⟨b, i, none⟩ u) b t (vs.set i u) := by
  show (w.setCell ⟨b, i, none⟩ u).heap[b]? = _
  rw [setCell_eq_setRow w b i vs.toArray t (0, 0) u h, setRow_heap w b _ _ t _ h]
  simp
theorem Whole.other {w : World} {b : Nat} {t : TypeId} {vs : List Value} (h : Whole w b t vs) (c i : Nat) (u : Value) (hc : c ≠ b) : Whole (w.setCell ⟨c, i, none⟩ u) b t vs := by
  show (w.setCell ⟨c, i, none⟩ u).heap[b]? = _
  have := (Below.refl (b + 1) w).setCell (p := ⟨c, i, none⟩)
  unfold World.setCell
  rw [Array.getElem?_modify]
  rw [if_neg hc]
  exact h
theorem Whole.range {w : World} {b : Nat} {t : TypeId} {vs : List Value} (h : Whole w b t vs) : w.rangeAt b 0 vs := fun j v hv => by
  rw [Nat.zero_add]
  exact (h.row).cell hv
theorem Whole.setRow {w : World} {b : Nat} {t : TypeId} {vs : List Value} (h : Whole w b t vs) (us : List Value) : Whole (w.setRow b us.toArray) b t us := setRow_heap w b _ _ t _ h

/-- What is loaded of a whole block. -/
theorem load_whole {P : Program} {w : World} {b : Nat} {t ty : TypeId} {vs : List Value} {d : TypeDesc} (h : Whole w b t vs) (hu : P.underlying ty = some d) (hd : d.isRow = true) (hi : (P.info? ty).map (·.size) = some vs.length) :
    (Instr.loadAt ty (.pointer (some ⟨b, 0, none⟩))).run P w = .ok (.agg vs.toArray) w := run_loadAt_mid w b 0 ty vs d h.range hu hd hi
theorem results_whole {P : Program} {fn : Func} {p : Tmp} {ty : TypeId} (h : fn.results = #[.cell p ty]) (tmps : Array Value) (w : World) (b : Nat) (t : TypeId) (vs : List Value) (d : TypeDesc)
    (hp : tmps.getD p undef = .pointer (some ⟨b, 0, none⟩)) (hg : Whole w b t vs) (hu : P.underlying ty = some d) (hd : (match d with | .struct _ | .array _ _ => true | _ => false) = true) (hi : (P.info? ty).map (·.size) = some vs.length) :
    (results fn tmps).run P w = .ok (.agg vs.toArray) w :=
  results_cell_row h tmps w b t vs.toArray (0, 0) d hp hg hu hd (by simpa using hi)

/-- A variable is made, a literal without parts is built, a value is laid into the block that was made last: the value under a name, whatever its length. -/
theorem wpList_alloc_z {P : Program} {ops : Array Oper} {rest : List Oper} {o : Oper} {a : Act} {w : World} {Q : Exit → Act → World → Prop} (hg : o.guard = none) (t : TypeId) (ho : o.op = .alloc t) (z : List Value)
    (hz : (P.info? t).map (fun i => (i.zero, i.size)) = some (some (.agg z.toArray), z.length))
    (h : wpList P ops Q rest (a.put o.dst (.pointer (some ⟨w.heap.size, 0, none⟩))) (w.alloc (.cells z.toArray t))) : wpList P ops Q (o :: rest) a w := by
  refine wpList_plain hg fun K hK => ?_
  cases hq : P.info? t with
  | none => simp [hq] at hz
  | some i =>
    simp only [hq, Option.map_some, Option.some.injEq, Prod.mk.injEq] at hz
    unfold Oper.wp execOp
    simp [ho, Instr.alloc, zeroValue, typeInfo, hq, hz.1, Sem.run_bind, newVar, newRow, newObj, Value.cells]
    exact hK _ _ h
theorem wpList_build_z {P : Program} {ops : Array Oper} {rest : List Oper} {o : Oper} {a : Act} {w : World} {Q : Exit → Act → World → Prop} (hg : o.guard = none) (t : TypeId) (ho : o.op = .build t #[]) (z : List Value)
    (hz : P.built t [] = some z.toArray) (h : wpList P ops Q rest (a.put o.dst (.agg z.toArray)) w) : wpList P ops Q (o :: rest) a w :=
  wpList_build hg t #[] ho (by simp [hz]) (by simpa [hz] using h)
theorem wpList_store_new {P : Program} {ops : Array Oper} {rest : List Oper} {o : Oper} {a : Act} {w : World} {Q : Exit → Act → World → Prop} (hg : o.guard = none) (t : TypeId) (x y : Operand) (ho : o.op = .store t x y) (n : Nat) (z old : List Value)
    (hx : a.eval x = .pointer (some ⟨n, 0, none⟩)) (hn : n = w.heap.size) (hy : a.eval y = .agg z.toArray) (hi : (P.info? t).map (·.size) = some z.length) (hold : old.length = z.length) (h1 : z.toArray.all (·.oneCell') = true)
    (h : wpList P ops Q rest (a.put o.dst undef) (w.alloc (.cells z.toArray t))) : wpList P ops Q (o :: rest) a (w.alloc (.cells old.toArray t)) := by
  subst hn
  refine wpList_store_row hg t x y ho w.heap.size z.toArray hx hy t old.toArray (_root_.Go.heap_alloc_new w _) (by simpa using hi) (by simpa using hold) h1 ?_
  rw [World.setRow_alloc_new]
  exact h

/-- A call of a Go function by its contract, as one step of a region that draws its order. -/
theorem step_call {P : Program} {ops : Array Oper} {o : Oper} {a : Act} {w : World} {K : Act → World → Prop} {Q : Exit → Act → World → Prop} {E : Prop} (hgd : o.guard = none) (n : FuncId) (hcall : ∀ (args : Array Value) (w : World), (callFunc n args).run P w = .ok (.enter n args) w) (xs : Array Operand) (ts : Array TypeId)
    (ho : o.op = .call { callee := .value (.func n), args := xs, argTypes := ts }) (vs : Array Value) (hv : xs.map a.eval = vs) (r : Value) (S : World → Prop) (hc : Calls P n vs w fun e w' => e = .returned r ∧ S w')
    (h : ∀ w', S w' → K (a.put o.dst r) w') : if Region.wanted o (yielded ops a.tmps) = true then Oper.wp P o a w K Q else E := by
  have hw : Region.wanted o (yielded ops a.tmps) = true := by simp [Region.wanted, hgd]
  rw [if_pos hw]
  unfold Oper.wp
  have hrun : (execOp a.eval o).run P w = .ok (.enter n vs) w := by
    subst hv
    simp [execOp, ho, resolve, invoke, Act.eval, Deferred.ofValue, hcall]
  rw [hrun, Oper.upon_enter]
  refine hc.mono ?_
  rintro e w' ⟨rfl, hs⟩
  exact h w' hs
end Go.Proofs.YtedgpglldlohfaaDoor.Mur

namespace Go.Proofs.YtedgpglldlohfaaDoor.Strs
open Go.RowKit Mur

def strsV (l : List ByteArray) : List Value := l.map Value.string
theorem strsV_length (l : List ByteArray) : (strsV l).length = l.length := by simp [strsV]
theorem strsV_at {l : List ByteArray} {i : Nat} {x : ByteArray} (h : l[i]? = some x) : (strsV l)[i]? = some (.string x) := by simp [strsV, h]
theorem strsV_append (l m : List ByteArray) : strsV (l ++ m) = strsV l ++ strsV m := by simp [strsV]
theorem strsV_one (l : List ByteArray) : ∀ v ∈ strsV l, v.oneCell' = true := fun v hv => by
  simp only [strsV, List.mem_map] at hv
  obtain ⟨x, _, rfl⟩ := hv
  rfl
theorem info_str : (Tryd.prog.info? 9).map (fun i => (i.zero, i.size, i.bytes)) = some (some (.string ⟨#[]⟩), 1, 16) := by kernel_rfl
theorem add_zero (g j : Nat) : (⟨g, 0, none⟩ : Addr).add j = ⟨g, j, none⟩ := by unfold Addr.add; split <;> simp_all

theorem own_kept {w w' : World} {base n size : Nat} {e : TypeId} {v : Value} {xs : List Value} (h : w.ownsRow base e size v n xs) (hb : ∀ g, v.ownBlock = some g → w'.heap[g]? = w.heap[g]?) : w'.ownsRow base e size v n xs := by
  refine ⟨h.1, ?_⟩
  rcases h.2 with hn | ⟨g, cap, cur, rfl, h1, h2, h3⟩
  · exact .inl hn
  · exact .inr ⟨g, cap, cur, rfl, h1, by rw [hb g rfl]; exact h2, h3⟩
theorem own_below {w w' : World} {base n size : Nat} {e : TypeId} {v : Value} {xs : List Value} (h : w.ownsRow base e size v n xs) (hb : Below w.heap.size w w') : w'.ownsRow base e size v n xs :=
  own_kept h fun g hg => hb.block g (h.lt g hg).2
theorem own_cell {w : World} {base g c n : Nat} {e : TypeId} {xs : List Value} (h : w.ownsRow base e 1 (.slice (some ⟨g, 0, none⟩) n c) n xs) (i : Nat) (u : Value) (hu : xs[i]? = some u) : w.cell? ⟨g, i, none⟩ = some u := by
  have := h.cells (g := g) rfl i u hu
  rw [add_zero] at this
  exact this
theorem own_mono {w : World} {base base' n size : Nat} {e : TypeId} {v : Value} {xs : List Value} (h : w.ownsRow base e size v n xs) (hb : base' ≤ base) : w.ownsRow base' e size v n xs := by
  refine ⟨h.1, ?_⟩
  rcases h.2 with hn | ⟨g, cap, cur, he, h1, h2⟩
  · exact .inl hn
  · exact .inr ⟨g, cap, cur, he, Nat.le_trans hb h1, h2⟩
/-- A row that a call has made is nil and empty, or a block with as many cells. -/
theorem own_cases {w : World} {base n : Nat} {e : TypeId} {v : Value} {xs : List Value} (h : w.ownsRow base e 1 v n xs) :
    (v = .slice none 0 0 ∧ n = 0 ∧ xs = []) ∨ ∃ g c, v = .slice (some ⟨g, 0, none⟩) n c ∧ base ≤ g ∧ g < w.heap.size ∧ n ≤ c ∧ n = xs.length := by
  have hl := h.1
  rcases h.2 with ⟨h1, h2⟩ | ⟨g, cap, cur, rfl, h1, h2, h3, _⟩
  · left
    exact ⟨h1, h2, List.eq_nil_of_length_eq_zero (by omega)⟩
  · exact .inr ⟨g, cap, rfl, h1, (Array.getElem?_eq_some_iff.1 h2).1, h3, by omega⟩

/-- An append of texts that stand in a block of their own. -/
theorem append_strs {ops : Array Oper} {rest : List Oper} {o : Oper} {a : Act} {W : World} {Q : Exit → Act → World → Prop} (hgd : o.guard = none) (s x : Operand)
    (ho : o.op = .call { callee := .builtin .append, args := #[s, x], argTypes := #[66, 66] }) (base n : Nat) (v : Value) (l : List ByteArray) (hs : a.eval s = v) (hown : W.ownsRow base 9 1 v n (strsV l))
    (b m c : Nat) (news : List ByteArray) (hx : a.eval x = .slice (some ⟨b, 0, none⟩) m c) (hm : news.length = m) (hnews : ∀ j u, (strsV news)[j]? = some u → W.cell? ⟨b, j, none⟩ = some u) (hn : n + m ≤ 8796093022208) (hbase : base ≤ W.heap.size)
    (h : ∀ v' w', w'.ownsRow base 9 1 v' (n + m) (strsV (l ++ news)) → W.grownBy w' v.ownBlock → wpList Tryd.prog ops Q rest (a.put o.dst v') w') : wpList Tryd.prog ops Q (o :: rest) a W := by
  obtain ⟨i0, hi, hz0, hz1, hz2⟩ := info_parts info_str
  refine wpList_append_own W hgd s x 66 ho base 9 i0 (.string ⟨#[]⟩) 1 16 Tryd.underlying66 hi hz0 hz1 hz2 rfl (by decide) v n (strsV l) hs hown ⟨b, 0, none⟩ m c (strsV news) hx (by rw [strsV_length]; omega) (fun j u hu => by rw [add_zero]; exact hnews j u hu) (strsV_one news) (by unfold maxLen; omega) (by omega) hbase ?_
  intro v' w' h1 h2 _
  rw [← strsV_append] at h1
  exact h v' w' h1 h2
theorem new_one (W : World) (x : ByteArray) (t : TypeId) : ∀ j u, (strsV [x])[j]? = some u → (W.alloc (.cells #[.string x] t)).cell? ⟨W.heap.size, j, none⟩ = some u := fun j u hu => by
  match j, hu with
  | 0, hu => cases hu; simp [World.cell?_alloc_new]
theorem new_two (W : World) (x y : ByteArray) (t : TypeId) : ∀ j u, (strsV [x, y])[j]? = some u → (W.alloc (.cells #[.string x, .string y] t)).cell? ⟨W.heap.size, j, none⟩ = some u := fun j u hu => by
  match j, hu with
  | 0, hu => cases hu; simp [World.cell?_alloc_new]
  | 1, hu => cases hu; simp [World.cell?_alloc_new]

/-- What 'make([]string, n)' makes, with room for c. -/
theorem make_str (w : World) (n : Nat) (hn : 16 * n ≤ 281474976710656) : (Instr.makeSlice 66 (.int .i64 (n : Int)) (.int .i64 (n : Int))).run Tryd.prog w =
    .ok (.slice (some ⟨w.heap.size, 0, none⟩) n n) (w.alloc (.cells (madeCells #[.string ⟨#[]⟩] n) 9)) := by
  obtain ⟨i0, hi, hz0, hz1, hz2⟩ := info_parts info_str
  have h := run_make (P := Tryd.prog) w 66 9 i0 (.string ⟨#[]⟩) Tryd.underlying66 hi hz0 .i64 .i64 (n : Int) (n : Int) (by omega) (Int.le_refl _) (by rw [hz2]; omega) (by omega)
  simpa [hz1, Value.cells] using h

/-- What 'make([]string, 0, n)' makes. -/
theorem make_room (w : World) (n : Nat) (hn : 16 * n ≤ 281474976710656) : (Instr.makeSlice 66 (.int .i64 0) (.int .i64 (n : Int))).run Tryd.prog w =
    .ok (.slice (some ⟨w.heap.size, 0, none⟩) 0 n) (w.alloc (.cells (madeCells #[.string ⟨#[]⟩] n) 9)) := by
  obtain ⟨i0, hi, hz0, hz1, hz2⟩ := info_parts info_str
  have h := run_make (P := Tryd.prog) w 66 9 i0 (.string ⟨#[]⟩) Tryd.underlying66 hi hz0 .i64 .i64 0 (n : Int) (by omega) (by omega) (by rw [hz2]; omega) (by omega)
  simpa [hz1, Value.cells] using h
/-- A row that a call has made, as a slice: where it is not empty, it has a block. -/
theorem own_slice {w : World} {base n : Nat} {e : TypeId} {v : Value} {xs : List Value} (h : w.ownsRow base e 1 v n xs) :
    ∃ ao c, v = .slice ao n c ∧ n ≤ c ∧ n = xs.length ∧ ∀ i u, xs[i]? = some u → ∃ g, ao = some ⟨g, 0, none⟩ ∧ base ≤ g ∧ g < w.heap.size ∧ w.cell? ⟨g, i, none⟩ = some u := by
  rcases own_cases h with ⟨rfl, rfl, rfl⟩ | ⟨g, c, rfl, h1, h2, h3, h4⟩
  · exact ⟨none, 0, rfl, Nat.le_refl _, rfl, fun i u hu => by simp at hu⟩
  · exact ⟨_, c, rfl, h3, h4, fun i u hu => ⟨g, rfl, h1, h2, own_cell h i u hu⟩⟩
end Go.Proofs.YtedgpglldlohfaaDoor.Strs

namespace Go.Proofs.YtedgpglldlohfaaDoor.Ints
open Go.RowKit Mur

/-- Numbers as cells. -/
def intsV (l : List Nat) : List Value := l.map fun n : Nat => Value.int .i64 (n : Int)
theorem intsV_length (l : List Nat) : (intsV l).length = l.length := by simp [intsV]
theorem intsV_at {l : List Nat} {i : Nat} {x : Nat} (h : l[i]? = some x) : (intsV l)[i]? = some (.int .i64 (x : Int)) := by simp [intsV, h]
theorem intsV_append (l m : List Nat) : intsV (l ++ m) = intsV l ++ intsV m := by simp [intsV]
theorem intsV_one (l : List Nat) : ∀ v ∈ intsV l, v.oneCell' = true := fun v hv => by
  simp only [intsV, List.mem_map] at hv
  obtain ⟨x, _, rfl⟩ := hv
  rfl
theorem info_int : (Tryd.prog.info? 3).map (fun i => (i.zero, i.size, i.bytes)) = some (some (.int .i64 0), 1, 8) := by kernel_rfl

theorem append_ints {ops : Array Oper} {rest : List Oper} {o : Oper} {a : Act} {W : World} {Q : Exit → Act → World → Prop} (hgd : o.guard = none) (s x : Operand)
    (ho : o.op = .call { callee := .builtin .append, args := #[s, x], argTypes := #[22, 22] }) (base n : Nat) (v : Value) (l : List Nat) (hs : a.eval s = v) (hown : W.ownsRow base 3 1 v n (intsV l))
    (b m c : Nat) (news : List Nat) (hx : a.eval x = .slice (some ⟨b, 0, none⟩) m c) (hm : news.length = m) (hnews : ∀ j u, (intsV news)[j]? = some u → W.cell? ⟨b, j, none⟩ = some u) (hn : n + m ≤ 8796093022208) (hbase : base ≤ W.heap.size)
    (h : ∀ v' w', w'.ownsRow base 3 1 v' (n + m) (intsV (l ++ news)) → W.grownBy w' v.ownBlock → wpList Tryd.prog ops Q rest (a.put o.dst v') w') : wpList Tryd.prog ops Q (o :: rest) a W := by
  obtain ⟨i0, hi, hz0, hz1, hz2⟩ := info_parts info_int
  refine wpList_append_own W hgd s x 22 ho base 3 i0 (.int .i64 0) 1 8 Tryd.underlying22 hi hz0 hz1 hz2 rfl (by decide) v n (intsV l) hs hown ⟨b, 0, none⟩ m c (intsV news) hx (by rw [intsV_length]; omega) (fun j u hu => by rw [Strs.add_zero]; exact hnews j u hu) (intsV_one news) (by unfold maxLen; omega) (by omega) hbase ?_
  intro v' w' h1 h2 _
  rw [← intsV_append] at h1
  exact h v' w' h1 h2

theorem new_two (W : World) (x y : Nat) (t : TypeId) : ∀ j u, (intsV [x, y])[j]? = some u → (W.alloc (.cells #[.int .i64 (x : Int), .int .i64 (y : Int)] t)).cell? ⟨W.heap.size, j, none⟩ = some u := fun j u hu => by
  match j, hu with
  | 0, hu => cases hu; simp [World.cell?_alloc_new]
  | 1, hu => cases hu; simp [World.cell?_alloc_new]
theorem new_three (W : World) (x y z : Nat) (t : TypeId) : ∀ j u, (intsV [x, y, z])[j]? = some u → (W.alloc (.cells #[.int .i64 (x : Int), .int .i64 (y : Int), .int .i64 (z : Int)] t)).cell? ⟨W.heap.size, j, none⟩ = some u := fun j u hu => by
  match j, hu with
  | 0, hu => cases hu; simp [World.cell?_alloc_new]
  | 1, hu => cases hu; simp [World.cell?_alloc_new]
  | 2, hu => cases hu; simp [World.cell?_alloc_new]

/-- What 'make([]int, 0, n)' makes. -/
theorem make_room (w : World) (n : Nat) (c : Int) (hc : c = (n : Int)) (hn : 8 * n ≤ 281474976710656) : (Instr.makeSlice 22 (.int .i64 0) (.int .i64 c)).run Tryd.prog w =
    .ok (.slice (some ⟨w.heap.size, 0, none⟩) 0 n) (w.alloc (.cells (madeCells #[.int .i64 0] n) 3)) := by
  subst hc
  obtain ⟨i0, hi, hz0, hz1, hz2⟩ := info_parts info_int
  have h := run_make (P := Tryd.prog) w 22 3 i0 (.int .i64 0) Tryd.underlying22 hi hz0 .i64 .i64 0 (n : Int) (by omega) (by omega) (by rw [hz2]; omega) (by omega)
  simpa [hz1, Value.cells] using h
end Go.Proofs.YtedgpglldlohfaaDoor.Ints

namespace Go.Proofs.YtedgpglldlohfaaDoor.Strs
open Go.RowKit Mur

theorem step_append_str {ops : Array Oper} {o : Oper} {a : Act} {K : Act → World → Prop} {Q : Exit → Act → World → Prop} {E : Prop} (hgd : o.guard = none) (s x : Operand)
    (ho : o.op = .call { callee := .builtin .append, args := #[s, x], argTypes := #[66, 66] }) (W : World) (y : ByteArray) (base n : Nat) (v : Value) (l : List ByteArray)
    (hs : a.eval s = v) (hx : a.eval x = .slice (some ⟨W.heap.size, 0, none⟩) 1 1) (hown : W.ownsRow base 9 1 v n (strsV l)) (hn : n ≤ 1000) (hbase : base ≤ W.heap.size)
    (h : ∀ v' w', w'.ownsRow base 9 1 v' (n + 1) (strsV (l ++ [y])) → (W.alloc (.cells #[.string y] 9)).grownBy w' v.ownBlock → K (a.put o.dst v') w') :
    if Region.wanted o (yielded ops a.tmps) = true then Oper.wp Tryd.prog o a (W.alloc (.cells #[.string y] 9)) K Q else E := by
  have hw : Region.wanted o (yielded ops a.tmps) = true := by simp [Region.wanted, hgd]
  rw [if_pos hw]
  obtain ⟨i0, hi, hz0, hz1, hz2⟩ := info_parts info_str
  obtain ⟨v', w', hr, h2, h3, h4⟩ := run_append_own (P := Tryd.prog) (w := W.alloc (.cells #[.string y] 9)) base 66 o.type 9 i0 (.string ⟨#[]⟩) 1 16 Tryd.underlying66 hi hz0 hz1 hz2 rfl (by decide) v n (strsV l) (hown.alloc _) ⟨W.heap.size, 0, none⟩ 1 1 (strsV [y]) rfl (fun j u hu => by rw [add_zero]; exact new_one W y _ j u hu) (strsV_one [y]) (by unfold maxLen; omega) (by omega) (Nat.le_trans hbase (by simp))
  unfold Oper.wp execOp
  simp only [ho, resolve, invoke, builtin, Sem.run_bind, Sem.run_pure, Result.andThen_ok, List.map_toArray, List.map_cons, List.map_nil, hs, hx, hr]
  rw [← strsV_append] at h2
  exact h v' w' h2 h3
end Go.Proofs.YtedgpglldlohfaaDoor.Strs

namespace Go.Proofs.YtedgpglldlohfaaDoor.Steady
open Go Go.RowKit

section
variable {P : Program} {ops : Array Oper} {md : Region.Mode} {S : World → Prop}

/-- In state a, in world w, operation o leaves v, and S is met behind it. -/
def Good (P : Program) (S : World → Prop) (o : Oper) (a : Act) (v : Value) (w : World) : Prop :=
  ((execOp a.eval o).run P w = .ok (.value v) w) ∨ ((execOp a.eval o).run P w = .ok .skip w ∧ v = undef) ∨
    ∃ f args, (execOp a.eval o).run P w = .ok (.enter f args) w ∧ Calls P f args w fun e w' => e = .returned v ∧ S w'
def YieldsS (P : Program) (ops : Array Oper) (S : World → Prop) (o : Oper) (v : Value) (a : Act) : Prop :=
  (Region.wanted o (yielded ops a.tmps) = true ∧ ∀ w, S w → Good P S o a v w) ∨ (Region.wanted o (yielded ops a.tmps) = false ∧ v = undef)

theorem YieldsS.of_same {o : Oper} {v : Value} {a a' : Act} (hy : YieldsS P ops S o v a) (he : execOp a'.eval o = execOp a.eval o)
    (hw : Region.wanted o (yielded ops a'.tmps) = Region.wanted o (yielded ops a.tmps)) : YieldsS P ops S o v a' := by
  unfold YieldsS Good at *
  rw [he, hw]
  exact hy

theorem YieldsS.wpOp {i : Nat} {o : Oper} {v : Value} {a : Act} (hi : ops[i]? = some o) (hy : YieldsS P ops S o v a) {Q : Exit → Act → World → Prop} {K : Act → World → Prop} {w : World} (hS : S w)
    (h : ∀ w', S w' → K (a.put o.dst v) w') : wpOp P ops Q i K a w := by
  unfold Go.wpOp
  simp only [hi]
  rcases hy with ⟨hw, hg⟩ | ⟨hw, rfl⟩
  · simp only [hw, if_true]
    refine .inl ?_
    unfold Oper.wp
    rcases hg w hS with hv | ⟨hv, rfl⟩ | ⟨f, args, hv, hc⟩
    · rw [hv]
      exact h w hS
    · rw [hv]
      exact h w hS
    · rw [hv, Oper.upon_enter]
      refine hc.mono ?_
      rintro e w' ⟨rfl, hs⟩
      exact h w' hs
  · simp only [hw, Bool.false_eq_true, if_false]
    exact h w hS

/-- The operations below n in whatever order, without a word of the world. -/
def anyT (P : Program) (md : Region.Mode) (ops : Array Oper) (S : World → Prop) (n : Nat) (L : Array Bool → Act → Prop) : Nat → Array Bool → Act → Prop
  | 0, listed, a => L listed a
  | f + 1, listed, a => Region.ready md ops listed ≠ [] ∧ ∀ i ∈ Region.ready md ops listed, i < n ∧ ∃ o v, ops[i]? = some o ∧ YieldsS P ops S o v a ∧ anyT P md ops S n L f (listed.setIfInBounds i true) (a.put o.dst v)

theorem any_of_T {n g : Nat} {L : Array Bool → Act → Prop} {Q : Exit → Act → World → Prop} (hL : ∀ listed a w, S w → L listed a → wpAny P md ops Q g listed a w) :
    ∀ (f : Nat) (listed : Array Bool) (a : Act), anyT P md ops S n L f listed a → ∀ w, S w → wpAny P md ops Q (f + g) listed a w
  | 0, listed, a, h, w, hS => by
    rw [Nat.zero_add]
    exact hL _ _ _ hS h
  | f + 1, listed, a, h, w, hS => by
    rw [show f + 1 + g = (f + g) + 1 by omega]
    refine ⟨fun h0 => absurd h0 h.1, fun i hi => ?_⟩
    obtain ⟨-, o, v, ho, hy, hk⟩ := h.2 i hi
    exact hy.wpOp ho hS fun w' hS' => any_of_T hL f _ _ hk w' hS'

theorem put_yields {oi oj : Oper} {v u : Value} {a : Act} (hap : oi.apart ops oj = true) (hsi : ∀ cs b, oi.op ≠ .select cs b) (hsj : ∀ cs b, oj.op ≠ .select cs b)
    (hy : YieldsS P ops S oi v a) (hu : YieldsS P ops S oj u (a.put oi.dst v)) : YieldsS P ops S oj u a ∧ YieldsS P ops S oi v (a.put oj.dst u) ∧ (a.put oi.dst v).put oj.dst u = (a.put oj.dst u).put oi.dst v := by
  obtain ⟨h1, h2, h3⟩ := Oper.apart_spec hap
  exact ⟨hu.of_same (execOp_put oj hsj a oi.dst v h1).symm (wanted_put oj a oi.dst v h1).symm, hy.of_same (execOp_put oi hsi a oj.dst u h3) (wanted_put oi a oj.dst u h3), Act.put_comm a v u h2⟩

theorem T_first {n i : Nat} {oi : Oper} {v : Value} {L : Array Bool → Act → Prop} (hi : ops[i]? = some oi) (hsel : ∀ (j : Nat) (o : Oper) cs b, ops[j]? = some o → o.op ≠ .select cs b)
    (hs : Region.sinkB md ops n = true) (hc : Region.chainB md ops n = true) (hn : n < ops.size) (hin : i < n)
    (hdone : ∀ listed a, L listed a → ∀ j ∈ Region.ready md ops listed, n ≤ j) :
    ∀ (f : Nat) (listed : Array Bool) (a : Act), HeadInv md ops n listed →
      (∀ j oj, ops[j]? = some oj → j ≠ i → listed.getD j true = false → (∀ e ∈ oj.after, Region.binds md e = true → e.on ≠ i) → oi.apart ops oj = true) →
      i ∈ Region.ready md ops listed → YieldsS P ops S oi v a →
      anyT P md ops S n L f (listed.setIfInBounds i true) (a.put oi.dst v) → anyT P md ops S n L (f + 1) listed a := by
  intro f
  induction f with
  | zero =>
    intro listed a inv _ hr hy H
    have hun := (mem_ready.1 hr).1
    refine ⟨fun h => (by rw [h] at hr; cases hr), fun j hj => ?_⟩
    have hjn : j < n := by
      rcases Nat.lt_or_ge j n with h | h
      · exact h
      · exact absurd hj (tail_waits hs hc hn inv _ i rfl hin hun j h)
    refine ⟨hjn, ?_⟩
    by_cases hji : j = i
    · subst hji
      exact ⟨oi, v, hi, hy, H⟩
    · have := hdone _ _ H j (ready_mono hj hji)
      omega
  | succ f ih =>
    intro listed a inv hfree hr hy H
    have hun := (mem_ready.1 hr).1
    refine ⟨fun h => (by rw [h] at hr; cases hr), fun j hj => ?_⟩
    have hjn : j < n := by
      rcases Nat.lt_or_ge j n with h | h
      · exact h
      · exact absurd hj (tail_waits hs hc hn inv _ i rfl hin hun j h)
    refine ⟨hjn, ?_⟩
    by_cases hji : j = i
    · subst hji
      exact ⟨oi, v, hi, hy, H⟩
    · obtain ⟨oj', u, hoj', hu, hk⟩ := (H.2 j (ready_mono hj hji)).2
      obtain ⟨hjun, oj, hoj, hall⟩ := mem_ready.1 hj
      obtain rfl : oj' = oj := Option.some.inj (hoj'.symm.trans hoj)
      have hnot : ∀ e ∈ oj'.after, Region.binds md e = true → e.on ≠ i := fun e he hb heq => by
        have h1 := hall e he hb
        rw [heq, getD_both hun] at h1
        cases h1
      obtain ⟨g1, g2, g3⟩ := put_yields (hfree j oj' hoj hji hjun hnot) (fun cs b => hsel i oi cs b hi) (fun cs b => hsel j oj' cs b hoj) hy hu
      have hfree' : ∀ k ok, ops[k]? = some ok → k ≠ i → (listed.setIfInBounds j true).getD k true = false →
          (∀ e ∈ ok.after, Region.binds md e = true → e.on ≠ i) → oi.apart ops ok = true := fun k ok hk hki hun hno => by
        refine hfree k ok hk hki ?_ hno
        by_cases hjk : j = k
        · subst hjk; exact hjun
        · rw [getD_set_ne true hjk] at hun; exact hun
      refine ⟨oj', u, hoj, g1, ih (listed.setIfInBounds j true) _ (inv.set hj hjn) hfree' (ready_mono hr (Ne.symm hji)) g2 ?_⟩
      rw [← g3, Array.setIfInBounds_comm _ _ hji]
      exact hk

/-- The operations one by one, in the text's order. -/
def steps (P : Program) (ops : Array Oper) (S : World → Prop) (Q : Act → Prop) : List Oper → Act → Prop
  | [], a => Q a
  | o :: rest, a => ∃ v, YieldsS P ops S o v a ∧ steps P ops S Q rest (a.put o.dst v)

theorem T_lex {n g : Nat} {Lq : Act → Prop} (hsel : Region.noSelect ops = true) (hs : Region.sinkB md ops n = true) (hc : Region.chainB md ops n = true) (hn : n < ops.size) :
    ∀ (l : List Oper) (k : Nat) (listed : Array Bool) (a : Act), (∀ j, j < l.length → l[j]? = ops[k + j]?) → k + l.length = n → HeadInv md ops n listed →
    Region.lexHead md ops g l.length k listed = true → steps P ops S Lq l a →
    anyT P md ops S n (fun listed' a' => Region.seqB md ops g n listed' = true ∧ Lq a') l.length listed a
  | [], k, listed, a, _, hk, _, hB, h => by
    have : k = n := by simpa using hk
    subst this
    exact ⟨by simpa [Region.lexHead] using hB, h⟩
  | o :: l, k, listed, a, hl, hk, inv, hB, h => by
    have h0 : ops[k]? = some o := by simpa using (hl 0 (by simp)).symm
    simp only [List.length_cons, Region.lexHead, Bool.and_eq_true] at hB
    obtain ⟨⟨hr, hf⟩, hB'⟩ := hB
    have hkn : k < n := by simp only [List.length_cons] at hk; omega
    have hr' : k ∈ Region.ready md ops listed := by simpa using hr
    obtain ⟨v, hy, hK⟩ := h
    exact T_first h0 (Region.noSelect_spec hsel) hs hc hn hkn (fun listed' a' hL => seqB_ready hL.1) l.length listed a inv (Region.free_spec h0 hf) hr' hy
      (T_lex hsel hs hc hn l (k + 1) _ _ (fun j hj => by have := hl (j + 1) (by simp; omega); simpa [Nat.add_assoc, Nat.add_comm 1 j] using this) (by simp only [List.length_cons] at hk; omega) (inv.set hr' hkn) hB' hK)

/-- The beginning: the operations below n by steps, those from n on as they come. -/
theorem region {id : Nat} {Q : Exit → Act → World → Prop} {a : Act} {w : World} {l : List Oper} (n : Nat) (hm : P.follows .mixedOrders = true) (hB : Region.lexTailB .any l.toArray n = true) (S : World → Prop) (hS : S w.drew)
    (h : steps P l.toArray S (fun a' => ∀ w', S w' → wpList P l.toArray Q (l.drop n) a' w') (l.take n) a) : (Code.region id l.toArray true).wp P Q a w := by
  simp only [Region.lexTailB, Bool.and_eq_true, decide_eq_true_eq] at hB
  obtain ⟨⟨⟨⟨hsel, hn⟩, hs⟩, hc⟩, hlex⟩ := hB
  have hn' : n < l.length := by simpa using hn
  have htl : (l.take n).length = n := by simp; omega
  have hdl : (l.drop n).length = l.toArray.size - n := by simp
  have inv0 : HeadInv .any l.toArray n (Array.replicate l.toArray.size false) :=
    ⟨by simp, fun j oj _ hl => (by rw [getD_replicate_false] at hl; cases hl), fun t _ ht => getD_in (by simpa using ht) (getD_replicate_false _ _)⟩
  have H := T_lex (md := .any) (g := l.toArray.size - n) hsel hs hc hn (l.take n) 0 _ a (fun j hj => by
    have hj' : j < n := by rw [htl] at hj; exact hj
    simp [hj']) (by simpa using htl) inv0 (by rw [htl]; exact hlex) h
  refine wp_region_any hm ?_
  have := any_of_T (Q := Q) (g := l.toArray.size - n) (fun listed a' w' hS' hL => by
    have := wpAny_of_seq (md := .any) (Q' := Q) (l.drop n) n listed a' w' (fun j => by simp [List.getElem?_drop]) (by rw [hdl]; exact hL.1) (hL.2 w' hS')
    rwa [hdl] at this) _ _ _ H _ hS
  rw [htl, show n + (l.toArray.size - n) = l.toArray.size by omega] at this
  exact this

/-- No operation from n on comes up before all below n have. -/
def rootB (md : Region.Mode) (ops : Array Oper) (n : Nat) : Bool := (List.range ops.size).all fun t => decide (t < n) || Region.waitsFor md ops t (n - 1)
theorem root_waits {n : Nat} {listed : Array Bool} (hs : Region.sinkB md ops (n - 1) = true) (hc : rootB md ops n = true) (inv : HeadInv md ops n listed) {i : Nat} (hin : i < n) (hun : listed.getD i true = false) (t : Nat) (ht : n ≤ t) : t ∉ Region.ready md ops listed := by
  intro hr
  obtain ⟨_, ot, hot, hall⟩ := mem_ready.1 hr
  have htlt : t < ops.size := (Array.getElem?_eq_some_iff.1 hot).1
  have h1 := List.all_eq_true.1 hc t (List.mem_range.2 htlt)
  simp only [Bool.or_eq_true, decide_eq_true_eq] at h1
  rcases h1 with h1 | h1
  · omega
  obtain ⟨o', ho', e, he, hb, hon⟩ := Region.waitsFor_spec h1
  obtain rfl : o' = ot := Option.some.inj (ho'.symm.trans hot)
  have hroot : listed.getD (n - 1) false = true := by
    have h2 := hall e he hb
    rwa [hon] at h2
  have all : ∀ (d j : Nat), n - 1 - j = d → j ≤ n - 1 → listed.getD j false = true := by
    intro d
    induction d using Nat.strongRecOn with
    | _ d ih =>
      intro j hd hj
      by_cases hjn : j = n - 1
      · rw [hjn]
        exact hroot
      · have h1 := List.all_eq_true.1 hs j (List.mem_range.2 (by omega))
        obtain ⟨m, hm, hm2⟩ := List.any_eq_true.1 h1
        simp only [Bool.and_eq_true, decide_eq_true_eq] at hm2
        obtain ⟨om, hom, e, he, hb, hon⟩ := Region.waitsFor_spec hm2.2
        have hml := List.mem_range.1 hm
        have h2 := inv.closed m om hom (ih (n - 1 - m) (by omega) m rfl (by omega)) e he hb
        rwa [hon] at h2
  have := all _ i rfl (by omega)
  rw [getD_both hun] at this
  cases this

theorem F_first {n i : Nat} {oi : Oper} {v : Value} {L : Array Bool → Act → Prop} (hi : ops[i]? = some oi) (hsel : ∀ (j : Nat) (o : Oper) cs b, ops[j]? = some o → o.op ≠ .select cs b)
    (hs : Region.sinkB md ops (n - 1) = true) (hc : rootB md ops n = true) (hin : i < n)
    (hdone : ∀ listed a, L listed a → ∀ j ∈ Region.ready md ops listed, n ≤ j) :
    ∀ (f : Nat) (listed : Array Bool) (a : Act), HeadInv md ops n listed →
      (∀ j oj, ops[j]? = some oj → j ≠ i → listed.getD j true = false → (∀ e ∈ oj.after, Region.binds md e = true → e.on ≠ i) → oi.apart ops oj = true) →
      i ∈ Region.ready md ops listed → YieldsS P ops S oi v a →
      anyT P md ops S n L f (listed.setIfInBounds i true) (a.put oi.dst v) → anyT P md ops S n L (f + 1) listed a := by
  intro f
  induction f with
  | zero =>
    intro listed a inv _ hr hy H
    have hun := (mem_ready.1 hr).1
    refine ⟨fun h => (by rw [h] at hr; cases hr), fun j hj => ?_⟩
    have hjn : j < n := by
      rcases Nat.lt_or_ge j n with h | h
      · exact h
      · exact absurd hj (root_waits hs hc inv hin hun j h)
    refine ⟨hjn, ?_⟩
    by_cases hji : j = i
    · subst hji
      exact ⟨oi, v, hi, hy, H⟩
    · have := hdone _ _ H j (ready_mono hj hji)
      omega
  | succ f ih =>
    intro listed a inv hfree hr hy H
    have hun := (mem_ready.1 hr).1
    refine ⟨fun h => (by rw [h] at hr; cases hr), fun j hj => ?_⟩
    have hjn : j < n := by
      rcases Nat.lt_or_ge j n with h | h
      · exact h
      · exact absurd hj (root_waits hs hc inv hin hun j h)
    refine ⟨hjn, ?_⟩
    by_cases hji : j = i
    · subst hji
      exact ⟨oi, v, hi, hy, H⟩
    · obtain ⟨oj', u, hoj', hu, hk⟩ := (H.2 j (ready_mono hj hji)).2
      obtain ⟨hjun, oj, hoj, hall⟩ := mem_ready.1 hj
      obtain rfl : oj' = oj := Option.some.inj (hoj'.symm.trans hoj)
      have hnot : ∀ e ∈ oj'.after, Region.binds md e = true → e.on ≠ i := fun e he hb heq => by
        have h1 := hall e he hb
        rw [heq, getD_both hun] at h1
        cases h1
      obtain ⟨g1, g2, g3⟩ := put_yields (hfree j oj' hoj hji hjun hnot) (fun cs b => hsel i oi cs b hi) (fun cs b => hsel j oj' cs b hoj) hy hu
      have hfree' : ∀ k ok, ops[k]? = some ok → k ≠ i → (listed.setIfInBounds j true).getD k true = false →
          (∀ e ∈ ok.after, Region.binds md e = true → e.on ≠ i) → oi.apart ops ok = true := fun k ok hk hki hun hno => by
        refine hfree k ok hk hki ?_ hno
        by_cases hjk : j = k
        · subst hjk; exact hjun
        · rw [getD_set_ne true hjk] at hun; exact hun
      refine ⟨oj', u, hoj, g1, ih (listed.setIfInBounds j true) _ (inv.set hj hjn) hfree' (ready_mono hr (Ne.symm hji)) g2 ?_⟩
      rw [← g3, Array.setIfInBounds_comm _ _ hji]
      exact hk

/-- The operations from k on, f of them, have come up. -/
def fill : Nat → Nat → Array Bool → Array Bool
  | 0, _, listed => listed
  | f + 1, k, listed => fill f (k + 1) (listed.setIfInBounds k true)
def preB (md : Region.Mode) (ops : Array Oper) (n : Nat) : Nat → Nat → Array Bool → Bool
  | 0, _, listed => (Region.ready md ops listed).all fun j => decide (n ≤ j)
  | f + 1, k, listed => (Region.ready md ops listed).contains k && Region.free md ops listed k && preB md ops n f (k + 1) (listed.setIfInBounds k true)
def headB (md : Region.Mode) (ops : Array Oper) (n : Nat) : Bool :=
  Region.noSelect ops && decide (n < ops.size) && Region.sinkB md ops (n - 1) && rootB md ops n && preB md ops n n 0 (Array.replicate ops.size false)

theorem F_lex {n : Nat} {Lq : Act → Prop} (hsel : Region.noSelect ops = true) (hs : Region.sinkB md ops (n - 1) = true) (hc : rootB md ops n = true) (fin : Array Bool) (hfin : ∀ j ∈ Region.ready md ops fin, n ≤ j) :
    ∀ (l : List Oper) (k : Nat) (listed : Array Bool) (a : Act), (∀ j, j < l.length → l[j]? = ops[k + j]?) → k + l.length = n → HeadInv md ops n listed → fill l.length k listed = fin →
    preB md ops n l.length k listed = true → steps P ops S Lq l a →
    anyT P md ops S n (fun listed' a' => listed' = fin ∧ Lq a') l.length listed a
  | [], k, listed, a, _, _, _, hf, _, h => ⟨hf, h⟩
  | o :: l, k, listed, a, hl, hk, inv, hf, hB, h => by
    have h0 : ops[k]? = some o := by simpa using (hl 0 (by simp)).symm
    simp only [List.length_cons, preB, Bool.and_eq_true] at hB
    obtain ⟨⟨hr, hfr⟩, hB'⟩ := hB
    have hkn : k < n := by simp only [List.length_cons] at hk; omega
    have hr' : k ∈ Region.ready md ops listed := by simpa using hr
    obtain ⟨v, hy, hK⟩ := h
    exact F_first (L := fun listed' a' => listed' = fin ∧ Lq a') h0 (Region.noSelect_spec hsel) hs hc hkn (fun listed' a' hL => hL.1 ▸ hfin) l.length listed a inv (Region.free_spec h0 hfr) hr' hy
      (F_lex hsel hs hc fin hfin l (k + 1) _ _ (fun j hj => by have := hl (j + 1) (by simp; omega); simpa [Nat.add_assoc, Nat.add_comm 1 j] using this) (by simp only [List.length_cons] at hk; omega) (inv.set hr' hkn) hf hB' hK)

theorem preB_fin {n : Nat} : ∀ (f k : Nat) (listed : Array Bool), preB md ops n f k listed = true → ∀ j ∈ Region.ready md ops (fill f k listed), n ≤ j
  | 0, k, listed, h => fun j hj => by simpa using List.all_eq_true.1 h j hj
  | f + 1, k, listed, h => by
    simp only [preB, Bool.and_eq_true] at h
    exact preB_fin f (k + 1) _ h.2

/-- The beginning, where those from n on may come up in more than one order. -/
theorem region_free {id : Nat} {Q : Exit → Act → World → Prop} {a : Act} {w : World} {l : List Oper} (n : Nat) (hm : P.follows .mixedOrders = true) (hB : headB .any l.toArray n = true) (S : World → Prop) (hS : S w.drew)
    (h : steps P l.toArray S (fun a' => ∀ w', S w' → wpAny P .any l.toArray Q (l.length - n) (fill n 0 (Array.replicate l.length false)) a' w') (l.take n) a) : (Code.region id l.toArray true).wp P Q a w := by
  simp only [headB, Bool.and_eq_true, decide_eq_true_eq] at hB
  obtain ⟨⟨⟨⟨hsel, hn⟩, hs⟩, hc⟩, hpre⟩ := hB
  have hn' : n < l.length := by simpa using hn
  have htl : (l.take n).length = n := by simp; omega
  have inv0 : HeadInv .any l.toArray n (Array.replicate l.toArray.size false) :=
    ⟨by simp, fun j oj _ hl => (by rw [getD_replicate_false] at hl; cases hl), fun t _ ht => getD_in (by simpa using ht) (getD_replicate_false _ _)⟩
  have hpre' : preB .any l.toArray n (l.take n).length 0 (Array.replicate l.toArray.size false) = true := by rw [htl]; exact hpre
  have H := F_lex (md := .any) hsel hs hc _ (preB_fin _ _ _ hpre') (l.take n) 0 _ a (fun j hj => by
    have hj' : j < n := by rw [htl] at hj; exact hj
    simp [hj']) (by simpa using htl) inv0 rfl hpre' h
  refine wp_region_any hm ?_
  have := any_of_T (Q := Q) (g := l.length - n) (fun listed a' w' hS' hL => by
    obtain ⟨rfl, hL⟩ := hL
    have := hL w' hS'
    rw [htl]
    simpa using this) _ _ _ H _ hS
  rw [htl, show n + (l.length - n) = l.toArray.size by simp; omega] at this
  exact this

theorem nil {Q : Act → Prop} {a : Act} (h : Q a) : steps P ops S Q [] a := h
/-- A read, or reckoning. -/
theorem take {Q : Act → Prop} {a : Act} {o : Oper} {rest : List Oper} (v : Value) (hg : Region.wanted o (yielded ops a.tmps) = true) (hy : ∀ w, S w → (execOp a.eval o).run P w = .ok (.value v) w)
    (h : steps P ops S Q rest (a.put o.dst v)) : steps P ops S Q (o :: rest) a := ⟨v, .inl ⟨hg, fun w hS => .inl (hy w hS)⟩, h⟩
/-- An operation that is not wanted. -/
theorem pass {Q : Act → Prop} {a : Act} {o : Oper} {rest : List Oper} (hg : Region.wanted o (yielded ops a.tmps) = false)
    (h : steps P ops S Q rest (a.put o.dst undef)) : steps P ops S Q (o :: rest) a := ⟨undef, .inr ⟨hg, rfl⟩, h⟩
/-- A call of a Go function. -/
theorem call {Q : Act → Prop} {a : Act} {o : Oper} {rest : List Oper} (v : Value) (f : FuncId) (args : Array Value) (hg : Region.wanted o (yielded ops a.tmps) = true)
    (hy : ∀ w, (execOp a.eval o).run P w = .ok (.enter f args) w) (hc : ∀ w, S w → Calls P f args w fun e w' => e = .returned v ∧ S w')
    (h : steps P ops S Q rest (a.put o.dst v)) : steps P ops S Q (o :: rest) a := ⟨v, .inl ⟨hg, fun w hS => .inr (.inr ⟨f, args, hy w, hc w hS⟩)⟩, h⟩
/-- A contract that leaves all memory, under the condition that all memory is left. -/
theorem kept {W : World} {f : FuncId} {args : Array Value} {v : Value} (R : ∀ u, Calls P f args u fun e w' => e = .returned v ∧ Below u.heap.size u w') :
    ∀ w, Below W.heap.size W w → Calls P f args w fun e w' => e = .returned v ∧ Below W.heap.size W w' := fun w h =>
  (R w).mono fun _ _ ⟨he, hb⟩ => ⟨he, h.trans (hb.mono h.size)⟩
theorem same {f : FuncId} {args : Array Value} {v : Value} (R : ∀ u, Calls P f args u fun e w' => e = .returned v ∧ u = w') :
    ∀ w, S w → Calls P f args w fun e w' => e = .returned v ∧ S w' := fun w h =>
  (R w).mono fun _ _ ⟨he, hb⟩ => ⟨he, hb ▸ h⟩
end
end Go.Proofs.YtedgpglldlohfaaDoor.Steady

namespace Go.Proofs.YtedgpglldlohfaaDoor.SteadyN
open Go Go.RowKit Mur Steady

section
variable {P : Program} {ops : Array Oper} {md : Region.Mode} {S : (Nat → Option Value) → World → Prop}

/-- The variable m is made. -/
def upd (s : Nat → Option Value) (m : Nat) (p : Value) : Nat → Option Value := fun i => if i = m then some p else s i
theorem upd_comm (s : Nat → Option Value) (m n : Nat) (p q : Value) (h : m ≠ n) : upd (upd s m p) n q = upd (upd s n q) m p := by
  funext i
  unfold upd
  by_cases h1 : i = n
  · subst h1
    rw [if_pos rfl, if_neg (Ne.symm h), if_pos rfl]
  · rw [if_neg h1]
    by_cases h2 : i = m
    · rw [if_pos h2, if_pos h2]
    · rw [if_neg h2, if_neg h2, if_neg h1]
theorem upd_other (s : Nat → Option Value) (m n : Nat) (p : Value) (h : n ≠ m) : upd s m p n = s n := if_neg h

def YieldsN (P : Program) (ops : Array Oper) (S : (Nat → Option Value) → World → Prop) (o : Oper) (v : Value) (a : Act) : Prop :=
  (Region.wanted o (yielded ops a.tmps) = true ∧ ∀ s w, S s w → Steady.Good P (S s) o a v w) ∨ (Region.wanted o (yielded ops a.tmps) = false ∧ v = undef)
theorem YieldsN.of_same {o : Oper} {v : Value} {a a' : Act} (hy : YieldsN P ops S o v a) (he : execOp a'.eval o = execOp a.eval o)
    (hw : Region.wanted o (yielded ops a'.tmps) = Region.wanted o (yielded ops a.tmps)) : YieldsN P ops S o v a' := by
  unfold YieldsN Steady.Good at *
  rw [he, hw]
  exact hy
theorem YieldsN.to {o : Oper} {v : Value} {a : Act} (hy : YieldsN P ops S o v a) (s : Nat → Option Value) : YieldsS P ops (S s) o v a :=
  hy.imp (fun h => ⟨h.1, fun w => h.2 s w⟩) id
def MakesN (P : Program) (S : (Nat → Option Value) → World → Prop) (m : Nat) (o : Oper) : Prop :=
  o.guard = none ∧ ∀ s, s m = none → ∀ (a : Act) w, S s w → ∃ p w', (execOp a.eval o).run P w = .ok (.value p) w' ∧ S (upd s m p) w'

/-- The operations below n in whatever order, the variables ms among them, without a word of the world. -/
def anyN (P : Program) (md : Region.Mode) (ops : Array Oper) (S : (Nat → Option Value) → World → Prop) (n : Nat) (ms : List Nat) (L : Array Bool → Act → (Nat → Option Value) → Prop) : Nat → Array Bool → Act → (Nat → Option Value) → Prop
  | 0, listed, a, s => L listed a s
  | f + 1, listed, a, s => Region.ready md ops listed ≠ [] ∧ ∀ i ∈ Region.ready md ops listed, i < n ∧ (i ∉ ms → ∃ o v, ops[i]? = some o ∧ YieldsN P ops S o v a ∧ anyN P md ops S n ms L f (listed.setIfInBounds i true) (a.put o.dst v) s) ∧
      (i ∈ ms → s i = none ∧ ∃ o, ops[i]? = some o ∧ ∀ p, anyN P md ops S n ms L f (listed.setIfInBounds i true) (a.put o.dst p) (upd s i p))

theorem any_of_N {n g : Nat} {ms : List Nat} {L : Array Bool → Act → (Nat → Option Value) → Prop} {Q : Exit → Act → World → Prop} (hmk : ∀ m ∈ ms, ∀ o, ops[m]? = some o → MakesN P S m o) (hL : ∀ listed a s w, S s w → L listed a s → wpAny P md ops Q g listed a w) :
    ∀ (f : Nat) (listed : Array Bool) (a : Act) (s : Nat → Option Value), anyN P md ops S n ms L f listed a s → ∀ w, S s w → wpAny P md ops Q (f + g) listed a w
  | 0, listed, a, s, h, w, hS => by
    rw [Nat.zero_add]
    exact hL _ _ _ _ hS h
  | f + 1, listed, a, s, h, w, hS => by
    rw [show f + 1 + g = (f + g) + 1 by omega]
    refine ⟨fun h0 => absurd h0 h.1, fun i hi => ?_⟩
    obtain ⟨-, h1, h2⟩ := h.2 i hi
    by_cases hm : i ∈ ms
    · obtain ⟨hs, o, ho, hk⟩ := h2 hm
      obtain ⟨hg, hmk'⟩ := hmk i hm o ho
      obtain ⟨p, w', hr, hS'⟩ := hmk' s hs a w hS
      unfold wpOp
      simp only [ho]
      rw [if_pos (by simp [Region.wanted, hg])]
      refine .inl ?_
      unfold Oper.wp
      rw [hr]
      exact any_of_N hmk hL f _ _ _ (hk p) w' hS'
    · obtain ⟨o, v, ho, hy, hk⟩ := h1 hm
      exact (hy.to s).wpOp ho hS fun w' hS' => any_of_N hmk hL f _ _ _ hk w' hS'

theorem N_first {n i : Nat} {ms : List Nat} {oi : Oper} {v : Value} {L : Array Bool → Act → (Nat → Option Value) → Prop} (hi : ops[i]? = some oi) (him : i ∉ ms) (hsel : ∀ (j : Nat) (o : Oper) cs b, ops[j]? = some o → o.op ≠ .select cs b)
    (hs : Region.sinkB md ops n = true) (hc : Region.chainB md ops n = true) (hn : n < ops.size) (hin : i < n)
    (hdone : ∀ listed a s, L listed a s → ∀ j ∈ Region.ready md ops listed, n ≤ j) :
    ∀ (f : Nat) (listed : Array Bool) (a : Act) (s : Nat → Option Value), HeadInv md ops n listed →
      (∀ j oj, ops[j]? = some oj → j ≠ i → listed.getD j true = false → (∀ e ∈ oj.after, Region.binds md e = true → e.on ≠ i) → oi.apart ops oj = true) →
      i ∈ Region.ready md ops listed → YieldsN P ops S oi v a →
      anyN P md ops S n ms L f (listed.setIfInBounds i true) (a.put oi.dst v) s → anyN P md ops S n ms L (f + 1) listed a s := by
  intro f
  induction f with
  | zero =>
    intro listed a s inv _ hr hy H
    have hun := (mem_ready.1 hr).1
    refine ⟨fun h => (by rw [h] at hr; cases hr), fun j hj => ?_⟩
    have hjn : j < n := by
      rcases Nat.lt_or_ge j n with h | h
      · exact h
      · exact absurd hj (tail_waits hs hc hn inv _ i rfl hin hun j h)
    by_cases hji : j = i
    · subst hji
      exact ⟨hjn, fun _ => ⟨oi, v, hi, hy, H⟩, fun h => absurd h him⟩
    · have := hdone _ _ _ H j (ready_mono hj hji)
      omega
  | succ f ih =>
    intro listed a s inv hfree hr hy H
    have hun := (mem_ready.1 hr).1
    refine ⟨fun h => (by rw [h] at hr; cases hr), fun j hj => ?_⟩
    have hjn : j < n := by
      rcases Nat.lt_or_ge j n with h | h
      · exact h
      · exact absurd hj (tail_waits hs hc hn inv _ i rfl hin hun j h)
    by_cases hji : j = i
    · subst hji
      exact ⟨hjn, fun _ => ⟨oi, v, hi, hy, H⟩, fun h => absurd h him⟩
    · obtain ⟨-, H1, H2⟩ := H.2 j (ready_mono hj hji)
      obtain ⟨hjun, oj, hoj, hall⟩ := mem_ready.1 hj
      have hnot : ∀ e ∈ oj.after, Region.binds md e = true → e.on ≠ i := fun e he hb heq => by
        have h1 := hall e he hb
        rw [heq, getD_both hun] at h1
        cases h1
      have hap := hfree j oj hoj hji hjun hnot
      obtain ⟨q1, q2, q3⟩ := Oper.apart_spec hap
      have hfree' : ∀ k ok, ops[k]? = some ok → k ≠ i → (listed.setIfInBounds j true).getD k true = false →
          (∀ e ∈ ok.after, Region.binds md e = true → e.on ≠ i) → oi.apart ops ok = true := fun k ok hk hki hun hno => by
        refine hfree k ok hk hki ?_ hno
        by_cases hjk : j = k
        · subst hjk; exact hjun
        · rw [getD_set_ne true hjk] at hun; exact hun
      have keep : ∀ u, YieldsN P ops S oi v (a.put oj.dst u) := fun u => hy.of_same (execOp_put oi (fun cs b => hsel i oi cs b hi) a oj.dst u q3) (wanted_put oi a oj.dst u q3)
      refine ⟨hjn, fun hjm => ?_, fun hjm => ?_⟩
      · obtain ⟨oj', u, hoj', hu, hk⟩ := H1 hjm
        obtain rfl : oj' = oj := Option.some.inj (hoj'.symm.trans hoj)
        refine ⟨oj', u, hoj, hu.of_same (execOp_put oj' (fun cs b => hsel j oj' cs b hoj) a oi.dst v q1).symm (wanted_put oj' a oi.dst v q1).symm, ih (listed.setIfInBounds j true) _ s (inv.set hj hjn) hfree' (ready_mono hr (Ne.symm hji)) (keep u) ?_⟩
        rw [← Act.put_comm a v u q2, Array.setIfInBounds_comm _ _ hji]
        exact hk
      · obtain ⟨hsj, oj', hoj', hk⟩ := H2 hjm
        obtain rfl : oj' = oj := Option.some.inj (hoj'.symm.trans hoj)
        refine ⟨hsj, oj', hoj, fun p => ih (listed.setIfInBounds j true) _ (upd s j p) (inv.set hj hjn) hfree' (ready_mono hr (Ne.symm hji)) (keep p) ?_⟩
        rw [← Act.put_comm a v p q2, Array.setIfInBounds_comm _ _ hji]
        exact hk p

theorem A_first {n m : Nat} {ms : List Nat} {om : Oper} {L : Array Bool → Act → (Nat → Option Value) → Prop} (hom : ops[m]? = some om) (hmm : m ∈ ms)
    (hs : Region.sinkB md ops n = true) (hc : Region.chainB md ops n = true) (hn : n < ops.size) (hmn : m < n)
    (hdone : ∀ listed a s, L listed a s → ∀ j ∈ Region.ready md ops listed, n ≤ j) :
    ∀ (f : Nat) (listed : Array Bool) (a : Act) (s : Nat → Option Value), HeadInv md ops n listed → (∀ j, j < n → listed.getD j true = false → j ∈ ms) →
      (∀ j oj, ops[j]? = some oj → j ≠ m → listed.getD j true = false → (∀ e ∈ oj.after, Region.binds md e = true → e.on ≠ m) → om.apart ops oj = true) →
      m ∈ Region.ready md ops listed → s m = none →
      (∀ p, anyN P md ops S n ms L f (listed.setIfInBounds m true) (a.put om.dst p) (upd s m p)) → anyN P md ops S n ms L (f + 1) listed a s := by
  intro f
  induction f with
  | zero =>
    intro listed a s inv hall _ hr hsm H
    have hun := (mem_ready.1 hr).1
    refine ⟨fun h => (by rw [h] at hr; cases hr), fun j hj => ?_⟩
    have hjn : j < n := by
      rcases Nat.lt_or_ge j n with h | h
      · exact h
      · exact absurd hj (tail_waits hs hc hn inv _ m rfl hmn hun j h)
    by_cases hji : j = m
    · subst hji
      exact ⟨hjn, fun h => absurd hmm h, fun _ => ⟨hsm, om, hom, H⟩⟩
    · have := hdone _ _ _ (H undef) j (ready_mono hj hji)
      omega
  | succ f ih =>
    intro listed a s inv hall hfree hr hsm H
    have hun := (mem_ready.1 hr).1
    refine ⟨fun h => (by rw [h] at hr; cases hr), fun j hj => ?_⟩
    have hjn : j < n := by
      rcases Nat.lt_or_ge j n with h | h
      · exact h
      · exact absurd hj (tail_waits hs hc hn inv _ m rfl hmn hun j h)
    by_cases hji : j = m
    · subst hji
      exact ⟨hjn, fun h => absurd hmm h, fun _ => ⟨hsm, om, hom, H⟩⟩
    · obtain ⟨hjun, oj, hoj, hallj⟩ := mem_ready.1 hj
      have hjm : j ∈ ms := hall j hjn hjun
      have hnot : ∀ e ∈ oj.after, Region.binds md e = true → e.on ≠ m := fun e he hb heq => by
        have h1 := hallj e he hb
        rw [heq, getD_both hun] at h1
        cases h1
      obtain ⟨-, q2, -⟩ := Oper.apart_spec (hfree j oj hoj hji hjun hnot)
      have hfree' : ∀ k ok, ops[k]? = some ok → k ≠ m → (listed.setIfInBounds j true).getD k true = false →
          (∀ e ∈ ok.after, Region.binds md e = true → e.on ≠ m) → om.apart ops ok = true := fun k ok hk hki hun hno => by
        refine hfree k ok hk hki ?_ hno
        by_cases hjk : j = k
        · subst hjk; exact hjun
        · rw [getD_set_ne true hjk] at hun; exact hun
      have hall' : ∀ k, k < n → (listed.setIfInBounds j true).getD k true = false → k ∈ ms := fun k hk hun => by
        by_cases hjk : j = k
        · subst hjk; exact hjm
        · rw [getD_set_ne true hjk] at hun; exact hall k hk hun
      have hsj : s j = none := by
        have := ((H undef).2 j (ready_mono hj hji)).2.2 hjm
        rw [← upd_other s m j undef hji]
        exact this.1
      refine ⟨hjn, fun h => absurd hjm h, fun _ => ⟨hsj, oj, hoj, fun q => ih (listed.setIfInBounds j true) _ (upd s j q) (inv.set hj hjn) hall' hfree' (ready_mono hr (Ne.symm hji)) (by rw [upd_other _ _ _ _ (Ne.symm hji)]; exact hsm) fun p => ?_⟩⟩
      obtain ⟨-, oj', hoj', hk⟩ := ((H p).2 j (ready_mono hj hji)).2.2 hjm
      obtain rfl : oj' = oj := Option.some.inj (hoj'.symm.trans hoj)
      have := hk q
      rw [upd_comm s m j p q (Ne.symm hji), Act.put_comm a p q q2, Array.setIfInBounds_comm _ _ (Ne.symm hji)] at this
      exact this

/-- The operations one by one, in the text's order; then the variables. -/
def stepsN (P : Program) (ops : Array Oper) (S : (Nat → Option Value) → World → Prop) (Q : Act → Prop) : List Oper → Act → Prop
  | [], a => Q a
  | o :: rest, a => ∃ v, YieldsN P ops S o v a ∧ stepsN P ops S Q rest (a.put o.dst v)
def made (S : (Nat → Option Value) → World → Prop) (Q : Act → World → Prop) : List (Nat × Oper) → Act → (Nat → Option Value) → Prop
  | [], a, s => ∀ w, S s w → Q a w
  | (m, o) :: rest, a, s => ∀ p, made S Q rest (a.put o.dst p) (upd s m p)

def orderA (md : Region.Mode) (ops : Array Oper) (n : Nat) (ms : List Nat) : List Nat → Array Bool → Bool
  | [], listed => Region.seqB md ops (ops.size - n) n listed
  | m :: rs, listed => decide (m < n) && ms.contains m && !rs.contains m && (Region.ready md ops listed).contains m && Region.free md ops listed m && orderA md ops n ms rs (listed.setIfInBounds m true)
def orderN (md : Region.Mode) (ops : Array Oper) (n : Nat) (ms : List Nat) : List Nat → Array Bool → Bool
  | [], listed => ((List.range n).all fun j => listed.getD j true || ms.contains j) && orderA md ops n ms ms listed
  | k :: ks, listed => decide (k < n) && !ms.contains k && (Region.ready md ops listed).contains k && Region.free md ops listed k && orderN md ops n ms ks (listed.setIfInBounds k true)
def allocB (md : Region.Mode) (ops : Array Oper) (n : Nat) (ms ks : List Nat) : Bool :=
  Region.noSelect ops && decide (n < ops.size) && Region.sinkB md ops n && Region.chainB md ops n && decide (ks.length + ms.length = n) && orderN md ops n ms ks (Array.replicate ops.size false)

/-- What holds at the end. -/
def Last (md : Region.Mode) (ops : Array Oper) (n : Nat) (S : (Nat → Option Value) → World → Prop) (Q : Act → World → Prop) (listed : Array Bool) (a : Act) (s : Nat → Option Value) : Prop :=
  Region.seqB md ops (ops.size - n) n listed = true ∧ ∀ w, S s w → Q a w

theorem A_lex {n : Nat} {ms : List Nat} {Q : Act → World → Prop} (hs : Region.sinkB md ops n = true) (hc : Region.chainB md ops n = true) (hn : n < ops.size) :
    ∀ (rs : List Nat) (listed : Array Bool) (a : Act) (s : Nat → Option Value), HeadInv md ops n listed → (∀ j, j < n → listed.getD j true = false → j ∈ ms) → (∀ m ∈ rs, s m = none) →
    orderA md ops n ms rs listed = true → made S Q (rs.filterMap fun m => (ops[m]?).map fun o => (m, o)) a s →
    anyN P md ops S n ms (Last md ops n S Q) rs.length listed a s
  | [], listed, a, s, _, _, _, hB, h => ⟨hB, h⟩
  | m :: rs, listed, a, s, inv, hall, hnone, hB, h => by
    simp only [orderA, Bool.and_eq_true, decide_eq_true_eq, Bool.not_eq_true'] at hB
    obtain ⟨⟨⟨⟨⟨hmn, hmm⟩, hnd⟩, hr⟩, hf⟩, hB'⟩ := hB
    have hr' : m ∈ Region.ready md ops listed := by simpa using hr
    have hmm' : m ∈ ms := by simpa using hmm
    have hnd' : m ∉ rs := by simpa using hnd
    obtain ⟨hun, o, h0, -⟩ := mem_ready.1 hr'
    rw [List.filterMap_cons_some (b := (m, o)) (by rw [h0]; rfl)] at h
    have hall' : ∀ k, k < n → (listed.setIfInBounds m true).getD k true = false → k ∈ ms := fun k hk hunk => by
      by_cases hmk : m = k
      · subst hmk; exact hmm'
      · rw [getD_set_ne true hmk] at hunk; exact hall k hk hunk
    exact A_first h0 hmm' hs hc hn hmn (fun listed' a' s' hL => seqB_ready hL.1) rs.length listed a s inv hall (Region.free_spec h0 hf) hr' (hnone m (by simp)) fun p =>
      A_lex hs hc hn rs _ _ _ (inv.set hr' hmn) hall' (fun k hk => by rw [upd_other _ _ _ _ (fun e => hnd' (by rw [← e]; exact hk))]; exact hnone k (by simp [hk])) hB' (h p)

theorem N_lex {n : Nat} {ms : List Nat} {Q : Act → World → Prop} (hsel : Region.noSelect ops = true) (hs : Region.sinkB md ops n = true) (hc : Region.chainB md ops n = true) (hn : n < ops.size) :
    ∀ (ks : List Nat) (l : List Oper) (listed : Array Bool) (a : Act), l = ks.filterMap (fun k => ops[k]?) → HeadInv md ops n listed →
    orderN md ops n ms ks listed = true → stepsN P ops S (fun a' => made S Q (ms.filterMap fun m => (ops[m]?).map fun o => (m, o)) a' fun _ => none) l a →
    anyN P md ops S n ms (Last md ops n S Q) (ks.length + ms.length) listed a fun _ => none
  | [], l, listed, a, hl, inv, hB, h => by
    subst hl
    simp only [orderN, Bool.and_eq_true] at hB
    have := A_lex (P := P) (S := S) (Q := Q) hs hc hn ms listed a (fun _ => none) inv (fun j hj hun => by
      have h1 := List.all_eq_true.1 hB.1 j (List.mem_range.2 hj)
      rw [hun] at h1
      simpa using h1) (fun _ _ => rfl) hB.2 h
    simpa using this
  | k :: ks, l, listed, a, hl, inv, hB, h => by
    simp only [orderN, Bool.and_eq_true, decide_eq_true_eq, Bool.not_eq_true'] at hB
    obtain ⟨⟨⟨⟨hkn, hkm⟩, hr⟩, hf⟩, hB'⟩ := hB
    have hr' : k ∈ Region.ready md ops listed := by simpa using hr
    obtain ⟨-, o, h0, -⟩ := mem_ready.1 hr'
    rw [List.filterMap_cons_some h0] at hl
    subst hl
    obtain ⟨v, hy, hK⟩ := h
    rw [List.length_cons, show ks.length + 1 + ms.length = ks.length + ms.length + 1 by omega]
    exact N_first (L := Last md ops n S Q) h0 (by simpa using hkm) (Region.noSelect_spec hsel) hs hc hn hkn (fun listed' a' s' hL => seqB_ready hL.1) _ listed a _ inv (Region.free_spec h0 hf) hr' hy
      (N_lex hsel hs hc hn ks _ _ _ rfl (inv.set hr' hkn) hB' hK)

/-- The beginning: the operations ks by steps, then the variables ms, then those from n on as they come. -/
theorem region {id : Nat} {Q : Exit → Act → World → Prop} {a : Act} {w : World} {l : List Oper} (n : Nat) (ms ks : List Nat) (hm : P.follows .mixedOrders = true) (hB : allocB .any l.toArray n ms ks = true) (S : (Nat → Option Value) → World → Prop) (hmk : ∀ m ∈ ms, ∀ o, l.toArray[m]? = some o → MakesN P S m o) (hS : S (fun _ => none) w.drew)
    (h : stepsN P l.toArray S (fun a' => made S (fun a'' w' => wpList P l.toArray Q (l.drop n) a'' w') (ms.filterMap fun m => (l[m]?).map fun o => (m, o)) a' fun _ => none) (ks.filterMap fun k => l[k]?) a) : (Code.region id l.toArray true).wp P Q a w := by
  simp only [allocB, Bool.and_eq_true, decide_eq_true_eq] at hB
  obtain ⟨⟨⟨⟨⟨hsel, hn⟩, hs⟩, hc⟩, hlen⟩, hord⟩ := hB
  have hn' : n < l.length := by simpa using hn
  have hdl : (l.drop n).length = l.toArray.size - n := by simp
  have inv0 : HeadInv .any l.toArray n (Array.replicate l.toArray.size false) :=
    ⟨by simp, fun j oj _ hl => (by rw [getD_replicate_false] at hl; cases hl), fun t _ ht => getD_in (by simpa using ht) (getD_replicate_false _ _)⟩
  have H := N_lex (P := P) (md := .any) (S := S) (ops := l.toArray) (Q := fun a'' w' => wpList P l.toArray Q (l.drop n) a'' w') hsel hs hc hn ks (ks.filterMap fun k => l[k]?) _ a (by simp) inv0 hord (by simpa using h)
  refine wp_region_any hm ?_
  have := any_of_N (Q := Q) (g := l.toArray.size - n) hmk (fun listed a' s w' hS' hL => by
    have := wpAny_of_seq (md := .any) (Q' := Q) (l.drop n) n listed a' w' (fun j => by simp [List.getElem?_drop]) (by rw [hdl]; exact hL.1) (hL.2 w' hS')
    rwa [hdl] at this) _ _ _ _ H _ hS
  rw [hlen, show n + (l.toArray.size - n) = l.toArray.size by omega] at this
  exact this

theorem nil {Q : Act → Prop} {a : Act} (h : Q a) : stepsN P ops S Q [] a := h
theorem take {Q : Act → Prop} {a : Act} {o : Oper} {rest : List Oper} (v : Value) (hg : Region.wanted o (yielded ops a.tmps) = true) (hy : ∀ s w, S s w → (execOp a.eval o).run P w = .ok (.value v) w)
    (h : stepsN P ops S Q rest (a.put o.dst v)) : stepsN P ops S Q (o :: rest) a := ⟨v, .inl ⟨hg, fun s w hS => .inl (hy s w hS)⟩, h⟩
theorem call {Q : Act → Prop} {a : Act} {o : Oper} {rest : List Oper} (v : Value) (f : FuncId) (args : Array Value) (hg : Region.wanted o (yielded ops a.tmps) = true)
    (hy : ∀ w, (execOp a.eval o).run P w = .ok (.enter f args) w) (hc : ∀ s w, S s w → Calls P f args w fun e w' => e = .returned v ∧ S s w')
    (h : stepsN P ops S Q rest (a.put o.dst v)) : stepsN P ops S Q (o :: rest) a := ⟨v, .inl ⟨hg, fun s w hS => .inr (.inr ⟨f, args, hy w, hc s w hS⟩)⟩, h⟩

/-- All memory that was there is left; the variables, once made, hold their first values, each in a block of its own. -/
structure Made (W : World) (t : TypeId) (z : List Value) (s : Nat → Option Value) (u : World) : Prop where
  below : Below W.heap.size W u
  at_ : ∀ m p, s m = some p → ∃ b, p = .pointer (some ⟨b, 0, none⟩) ∧ W.heap.size ≤ b ∧ Whole u b t z
  own : ∀ m n p, s m = some p → s n = some p → m = n
theorem Made.start (W : World) (t : TypeId) (z : List Value) : Made W t z (fun _ => none) W := ⟨Below.refl _ _, (fun _ _ h => by cases h), (fun _ _ _ h _ => by cases h)⟩
theorem Made.next {W u u' : World} {t : TypeId} {z : List Value} {s : Nat → Option Value} (h : Made W t z s u) (q : Below u.heap.size u u') : Made W t z s u' :=
  ⟨h.below.trans (q.mono h.below.size), fun m p hp => by
    obtain ⟨b, h1, h2, h3⟩ := h.at_ m p hp
    exact ⟨b, h1, h2, h3.below h3.lt q⟩, h.own⟩
theorem kept {W : World} {t : TypeId} {z : List Value} {f : FuncId} {args : Array Value} {v : Value} (R : ∀ u, Calls P f args u fun e w' => e = .returned v ∧ Below u.heap.size u w') :
    ∀ s w, Made W t z s w → Calls P f args w fun e w' => e = .returned v ∧ Made W t z s w' := fun _ w h =>
  (R w).mono fun _ _ ⟨he, hb⟩ => ⟨he, h.next hb⟩
theorem same {f : FuncId} {args : Array Value} {v : Value} (R : ∀ u, Calls P f args u fun e w' => e = .returned v ∧ u = w') :
    ∀ s w, S s w → Calls P f args w fun e w' => e = .returned v ∧ S s w' := fun _ w h =>
  (R w).mono fun _ _ ⟨he, hb⟩ => ⟨he, hb ▸ h⟩
theorem makes {W : World} {m : Nat} {o : Oper} (hg : o.guard = none) (t : TypeId) (ho : o.op = .alloc t) (z : List Value)
    (hz : (P.info? t).map (fun i => (i.zero, i.size)) = some (some (.agg z.toArray), z.length)) : MakesN P (Made W t z) m o := by
  refine ⟨hg, fun s hs a u hS => ⟨.pointer (some ⟨u.heap.size, 0, none⟩), u.alloc (.cells z.toArray t), ?_, hS.below.alloc hS.below.size _, fun k p hp => ?_, fun k l p hk hl => ?_⟩⟩
  · cases hq : P.info? t with
    | none => simp [hq] at hz
    | some i =>
      simp only [hq, Option.map_some, Option.some.injEq, Prod.mk.injEq] at hz
      unfold execOp
      simp [ho, Instr.alloc, zeroValue, typeInfo, hq, hz.1, Sem.run_bind, newVar, newRow, newObj, Value.cells]
      rfl
  · unfold upd at hp
    by_cases hk : k = m
    · rw [if_pos hk] at hp
      cases hp
      exact ⟨u.heap.size, rfl, hS.below.size, Whole.made u t z⟩
    · rw [if_neg hk] at hp
      obtain ⟨b, h1, h2, h3⟩ := hS.at_ k p hp
      exact ⟨b, h1, h2, h3.alloc _⟩
  · have old : ∀ j q, s j = some q → q ≠ .pointer (some ⟨u.heap.size, 0, none⟩) := fun j q hq e => by
      obtain ⟨b, h1, -, h3⟩ := hS.at_ j q hq
      rw [e] at h1
      cases h1
      exact absurd h3.lt (Nat.lt_irrefl _)
    unfold upd at hk hl
    by_cases h1 : k = m
    · by_cases h2 : l = m
      · rw [h1, h2]
      · rw [if_pos h1] at hk
        rw [if_neg h2] at hl
        cases hk
        exact absurd rfl (old l _ hl)
    · rw [if_neg h1] at hk
      by_cases h2 : l = m
      · rw [if_pos h2] at hl
        cases hl
        exact absurd rfl (old k _ hk)
      · rw [if_neg h2] at hl
        exact hS.own k l p hk hl
end
end Go.Proofs.YtedgpglldlohfaaDoor.SteadyN

namespace Go.Proofs.YtedgpglldlohfaaDoor.Steady
open Go Go.RowKit Mur

section
variable {P : Program} {ops : Array Oper} {md : Region.Mode} {S : Option Value → World → Prop}

def YieldsM (P : Program) (ops : Array Oper) (S : Option Value → World → Prop) (o : Oper) (v : Value) (a : Act) : Prop :=
  (Region.wanted o (yielded ops a.tmps) = true ∧ ∀ s w, S s w → Good P (S s) o a v w) ∨ (Region.wanted o (yielded ops a.tmps) = false ∧ v = undef)

theorem YieldsM.of_same {o : Oper} {v : Value} {a a' : Act} (hy : YieldsM P ops S o v a) (he : execOp a'.eval o = execOp a.eval o)
    (hw : Region.wanted o (yielded ops a'.tmps) = Region.wanted o (yielded ops a.tmps)) : YieldsM P ops S o v a' := by
  unfold YieldsM Good at *
  rw [he, hw]
  exact hy
theorem YieldsM.to {o : Oper} {v : Value} {a : Act} (hy : YieldsM P ops S o v a) (s : Option Value) : YieldsS P ops (S s) o v a :=
  hy.imp (fun h => ⟨h.1, fun w => h.2 s w⟩) id

/-- What the making of the variable does, whatever the state. -/
def Makes (P : Program) (S : Option Value → World → Prop) (o : Oper) : Prop :=
  o.guard = none ∧ ∀ (a : Act) w, S none w → ∃ p w', (execOp a.eval o).run P w = .ok (.value p) w' ∧ S (some p) w'

/-- The operations below n in whatever order, the variable m among them, without a word of the world. -/
def anyM (P : Program) (md : Region.Mode) (ops : Array Oper) (S : Option Value → World → Prop) (n m : Nat) (om : Oper) (L : Array Bool → Act → Option Value → Prop) : Nat → Array Bool → Act → Option Value → Prop
  | 0, listed, a, s => L listed a s
  | f + 1, listed, a, s => Region.ready md ops listed ≠ [] ∧ ∀ i ∈ Region.ready md ops listed, i < n ∧ (i ≠ m → ∃ o v, ops[i]? = some o ∧ YieldsM P ops S o v a ∧ anyM P md ops S n m om L f (listed.setIfInBounds i true) (a.put o.dst v) s) ∧
      (i = m → s = none ∧ ∀ p, anyM P md ops S n m om L f (listed.setIfInBounds m true) (a.put om.dst p) (some p))

theorem any_of_M {n m g : Nat} {om : Oper} {L : Array Bool → Act → Option Value → Prop} {Q : Exit → Act → World → Prop} (hom : ops[m]? = some om) (hmk : Makes P S om) (hL : ∀ listed a s w, S s w → L listed a s → wpAny P md ops Q g listed a w) :
    ∀ (f : Nat) (listed : Array Bool) (a : Act) (s : Option Value), anyM P md ops S n m om L f listed a s → ∀ w, S s w → wpAny P md ops Q (f + g) listed a w
  | 0, listed, a, s, h, w, hS => by
    rw [Nat.zero_add]
    exact hL _ _ _ _ hS h
  | f + 1, listed, a, s, h, w, hS => by
    rw [show f + 1 + g = (f + g) + 1 by omega]
    refine ⟨fun h0 => absurd h0 h.1, fun i hi => ?_⟩
    obtain ⟨-, h1, h2⟩ := h.2 i hi
    by_cases hm : i = m
    · subst hm
      obtain ⟨rfl, hk⟩ := h2 rfl
      obtain ⟨p, w', hr, hS'⟩ := hmk.2 a w hS
      unfold wpOp
      simp only [hom]
      rw [if_pos (by simp [Region.wanted, hmk.1])]
      refine .inl ?_
      unfold Oper.wp
      rw [hr]
      exact any_of_M hom hmk hL f _ _ _ (hk p) w' hS'
    · obtain ⟨o, v, ho, hy, hk⟩ := h1 hm
      exact (hy.to s).wpOp ho hS fun w' hS' => any_of_M hom hmk hL f _ _ _ hk w' hS'

theorem M_first {n m i : Nat} {om oi : Oper} {v : Value} {L : Array Bool → Act → Option Value → Prop} (hi : ops[i]? = some oi) (him : i ≠ m) (hom : ops[m]? = some om) (hsel : ∀ (j : Nat) (o : Oper) cs b, ops[j]? = some o → o.op ≠ .select cs b)
    (hs : Region.sinkB md ops n = true) (hc : Region.chainB md ops n = true) (hn : n < ops.size) (hin : i < n)
    (hdone : ∀ listed a s, L listed a s → ∀ j ∈ Region.ready md ops listed, n ≤ j) :
    ∀ (f : Nat) (listed : Array Bool) (a : Act) (s : Option Value), HeadInv md ops n listed →
      (∀ j oj, ops[j]? = some oj → j ≠ i → listed.getD j true = false → (∀ e ∈ oj.after, Region.binds md e = true → e.on ≠ i) → oi.apart ops oj = true) →
      i ∈ Region.ready md ops listed → YieldsM P ops S oi v a →
      anyM P md ops S n m om L f (listed.setIfInBounds i true) (a.put oi.dst v) s → anyM P md ops S n m om L (f + 1) listed a s := by
  intro f
  induction f with
  | zero =>
    intro listed a s inv _ hr hy H
    have hun := (mem_ready.1 hr).1
    refine ⟨fun h => (by rw [h] at hr; cases hr), fun j hj => ?_⟩
    have hjn : j < n := by
      rcases Nat.lt_or_ge j n with h | h
      · exact h
      · exact absurd hj (tail_waits hs hc hn inv _ i rfl hin hun j h)
    by_cases hji : j = i
    · subst hji
      exact ⟨hjn, fun _ => ⟨oi, v, hi, hy, H⟩, fun h => absurd h him⟩
    · have := hdone _ _ _ H j (ready_mono hj hji)
      omega
  | succ f ih =>
    intro listed a s inv hfree hr hy H
    have hun := (mem_ready.1 hr).1
    refine ⟨fun h => (by rw [h] at hr; cases hr), fun j hj => ?_⟩
    have hjn : j < n := by
      rcases Nat.lt_or_ge j n with h | h
      · exact h
      · exact absurd hj (tail_waits hs hc hn inv _ i rfl hin hun j h)
    by_cases hji : j = i
    · subst hji
      exact ⟨hjn, fun _ => ⟨oi, v, hi, hy, H⟩, fun h => absurd h him⟩
    · obtain ⟨-, H1, H2⟩ := H.2 j (ready_mono hj hji)
      obtain ⟨hjun, oj, hoj, hall⟩ := mem_ready.1 hj
      have hnot : ∀ e ∈ oj.after, Region.binds md e = true → e.on ≠ i := fun e he hb heq => by
        have h1 := hall e he hb
        rw [heq, getD_both hun] at h1
        cases h1
      have hap := hfree j oj hoj hji hjun hnot
      obtain ⟨q1, q2, q3⟩ := Oper.apart_spec hap
      have hfree' : ∀ k ok, ops[k]? = some ok → k ≠ i → (listed.setIfInBounds j true).getD k true = false →
          (∀ e ∈ ok.after, Region.binds md e = true → e.on ≠ i) → oi.apart ops ok = true := fun k ok hk hki hun hno => by
        refine hfree k ok hk hki ?_ hno
        by_cases hjk : j = k
        · subst hjk; exact hjun
        · rw [getD_set_ne true hjk] at hun; exact hun
      have keep : ∀ u, YieldsM P ops S oi v (a.put oj.dst u) := fun u => hy.of_same (execOp_put oi (fun cs b => hsel i oi cs b hi) a oj.dst u q3) (wanted_put oi a oj.dst u q3)
      refine ⟨hjn, fun hjm => ?_, fun hjm => ?_⟩
      · obtain ⟨oj', u, hoj', hu, hk⟩ := H1 hjm
        obtain rfl : oj' = oj := Option.some.inj (hoj'.symm.trans hoj)
        refine ⟨oj', u, hoj, hu.of_same (execOp_put oj' (fun cs b => hsel j oj' cs b hoj) a oi.dst v q1).symm (wanted_put oj' a oi.dst v q1).symm, ih (listed.setIfInBounds j true) _ s (inv.set hj hjn) hfree' (ready_mono hr (Ne.symm hji)) (keep u) ?_⟩
        rw [← Act.put_comm a v u q2, Array.setIfInBounds_comm _ _ hji]
        exact hk
      · obtain ⟨rfl, hk⟩ := H2 hjm
        subst hjm
        obtain rfl : om = oj := Option.some.inj (hom.symm.trans hoj)
        refine ⟨rfl, fun p => ih (listed.setIfInBounds j true) _ (some p) (inv.set hj hjn) hfree' (ready_mono hr (Ne.symm hji)) (keep p) ?_⟩
        rw [← Act.put_comm a v p q2, Array.setIfInBounds_comm _ _ hji]
        exact hk p

/-- The operations one by one, in the text's order. -/
def stepsM (P : Program) (ops : Array Oper) (S : Option Value → World → Prop) (Q : Act → Prop) : List Oper → Act → Prop
  | [], a => Q a
  | o :: rest, a => ∃ v, YieldsM P ops S o v a ∧ stepsM P ops S Q rest (a.put o.dst v)

/-- The operations of ks may be taken one behind the other; then m alone is left below n; then the rest comes up in order. -/
def orderB (md : Region.Mode) (ops : Array Oper) (n m : Nat) : List Nat → Array Bool → Bool
  | [], listed => decide (Region.ready md ops listed = [m]) && Region.seqB md ops (ops.size - n) n (listed.setIfInBounds m true)
  | k :: ks, listed => decide (k < n) && decide (k ≠ m) && (Region.ready md ops listed).contains k && Region.free md ops listed k && orderB md ops n m ks (listed.setIfInBounds k true)
def allocB (md : Region.Mode) (ops : Array Oper) (n m : Nat) (ks : List Nat) : Bool :=
  Region.noSelect ops && decide (n < ops.size) && decide (m < n) && Region.sinkB md ops n && Region.chainB md ops n && decide (ks.length + 1 = n) && orderB md ops n m ks (Array.replicate ops.size false)

theorem M_lex {n m : Nat} {om : Oper} {Lq : Act → Prop} (hom : ops[m]? = some om) (hsel : Region.noSelect ops = true) (hs : Region.sinkB md ops n = true) (hc : Region.chainB md ops n = true) (hn : n < ops.size) (hmn : m < n) :
    ∀ (ks : List Nat) (l : List Oper) (listed : Array Bool) (a : Act), l = ks.filterMap (fun k => ops[k]?) → HeadInv md ops n listed →
    orderB md ops n m ks listed = true → stepsM P ops S Lq l a →
    anyM P md ops S n m om (fun listed' a' s => Region.seqB md ops (ops.size - n) n listed' = true ∧ ∃ p a'', s = some p ∧ a' = a''.put om.dst p ∧ Lq a'') (ks.length + 1) listed a none
  | [], l, listed, a, hl, inv, hB, h => by
    subst hl
    simp only [orderB, Bool.and_eq_true, decide_eq_true_eq] at hB
    refine ⟨by rw [hB.1]; simp, fun i hi => ?_⟩
    rw [hB.1] at hi
    obtain rfl : i = m := by simpa using hi
    exact ⟨hmn, fun h => absurd rfl h, fun _ => ⟨rfl, fun p => ⟨hB.2, p, a, rfl, rfl, h⟩⟩⟩
  | k :: ks, l, listed, a, hl, inv, hB, h => by
    simp only [orderB, Bool.and_eq_true, decide_eq_true_eq] at hB
    obtain ⟨⟨⟨⟨hkn, hkm⟩, hr⟩, hf⟩, hB'⟩ := hB
    have hr' : k ∈ Region.ready md ops listed := by simpa using hr
    obtain ⟨-, o, h0, -⟩ := mem_ready.1 hr'
    rw [List.filterMap_cons_some h0] at hl
    subst hl
    obtain ⟨v, hy, hK⟩ := h
    exact M_first (L := fun listed' a' s => Region.seqB md ops (ops.size - n) n listed' = true ∧ ∃ p a'', s = some p ∧ a' = a''.put om.dst p ∧ Lq a'') h0 hkm hom (Region.noSelect_spec hsel) hs hc hn hkn (fun listed' a' _ hL => seqB_ready hL.1) (ks.length + 1) listed a none inv (Region.free_spec h0 hf) hr' hy
      (M_lex hom hsel hs hc hn hmn ks _ _ _ rfl (inv.set hr' hkn) hB' hK)

/-- The beginning: the operations ks by steps, then the variable m, then those from n on as they come. -/
theorem region_alloc {id : Nat} {Q : Exit → Act → World → Prop} {a : Act} {w : World} {l : List Oper} (n m : Nat) (ks : List Nat) (om : Oper) (hom : l[m]? = some om) (hm : P.follows .mixedOrders = true) (hB : allocB .any l.toArray n m ks = true) (S : Option Value → World → Prop) (hmk : Makes P S om) (hS : S none w.drew)
    (h : stepsM P l.toArray S (fun a' => ∀ p w', S (some p) w' → wpList P l.toArray Q (l.drop n) (a'.put om.dst p) w') (ks.filterMap fun k => l[k]?) a) : (Code.region id l.toArray true).wp P Q a w := by
  simp only [allocB, Bool.and_eq_true, decide_eq_true_eq] at hB
  obtain ⟨⟨⟨⟨⟨⟨hsel, hn⟩, hmn⟩, hs⟩, hc⟩, hlen⟩, hord⟩ := hB
  have hn' : n < l.length := by simpa using hn
  have hdl : (l.drop n).length = l.toArray.size - n := by simp
  have inv0 : HeadInv .any l.toArray n (Array.replicate l.toArray.size false) :=
    ⟨by simp, fun j oj _ hl => (by rw [getD_replicate_false] at hl; cases hl), fun t _ ht => getD_in (by simpa using ht) (getD_replicate_false _ _)⟩
  have H := M_lex (P := P) (md := .any) (S := S) (om := om) (by simpa using hom) hsel hs hc hn hmn ks _ _ a (by simp) inv0 hord h
  refine wp_region_any hm ?_
  have := any_of_M (Q := Q) (g := l.toArray.size - n) (by simpa using hom) hmk (fun listed a' s w' hS' hL => by
    obtain ⟨hq, p, a'', rfl, rfl, hL⟩ := hL
    have := wpAny_of_seq (md := .any) (Q' := Q) (l.drop n) n listed (a''.put om.dst p) w' (fun j => by simp [List.getElem?_drop]) (by rw [hdl]; exact hq) (hL p w' hS')
    rwa [hdl] at this) _ _ _ _ H _ hS
  rw [hlen, show n + (l.toArray.size - n) = l.toArray.size by omega] at this
  exact this

theorem nilM {Q : Act → Prop} {a : Act} (h : Q a) : stepsM P ops S Q [] a := h
theorem takeM {Q : Act → Prop} {a : Act} {o : Oper} {rest : List Oper} (v : Value) (hg : Region.wanted o (yielded ops a.tmps) = true) (hy : ∀ s w, S s w → (execOp a.eval o).run P w = .ok (.value v) w)
    (h : stepsM P ops S Q rest (a.put o.dst v)) : stepsM P ops S Q (o :: rest) a := ⟨v, .inl ⟨hg, fun s w hS => .inl (hy s w hS)⟩, h⟩
theorem callM {Q : Act → Prop} {a : Act} {o : Oper} {rest : List Oper} (v : Value) (f : FuncId) (args : Array Value) (hg : Region.wanted o (yielded ops a.tmps) = true)
    (hy : ∀ w, (execOp a.eval o).run P w = .ok (.enter f args) w) (hc : ∀ s w, S s w → Calls P f args w fun e w' => e = .returned v ∧ S s w')
    (h : stepsM P ops S Q rest (a.put o.dst v)) : stepsM P ops S Q (o :: rest) a := ⟨v, .inl ⟨hg, fun s w hS => .inr (.inr ⟨f, args, hy w, hc s w hS⟩)⟩, h⟩

/-- All memory that was there is left; the variable, once made, holds its first values. -/
def Made (W : World) (t : TypeId) (z : List Value) : Option Value → World → Prop
  | none, u => Below W.heap.size W u
  | some p, u => Below W.heap.size W u ∧ ∃ b, p = .pointer (some ⟨b, 0, none⟩) ∧ W.heap.size ≤ b ∧ Whole u b t z
theorem Made.below {W u : World} {t : TypeId} {z : List Value} {s : Option Value} (h : Made W t z s u) : Below W.heap.size W u := by
  cases s with
  | none => exact h
  | some p => exact h.1
theorem keptM {W : World} {t : TypeId} {z : List Value} {f : FuncId} {args : Array Value} {v : Value} (R : ∀ u, Calls P f args u fun e w' => e = .returned v ∧ Below u.heap.size u w') :
    ∀ s w, Made W t z s w → Calls P f args w fun e w' => e = .returned v ∧ Made W t z s w' := fun s w h =>
  (R w).mono fun _ w' ⟨he, hb⟩ => ⟨he, by
    cases s with
    | none => exact Below.trans h (hb.mono (Below.size h))
    | some p =>
      obtain ⟨h1, b, h2, h3, h4⟩ := h
      exact ⟨h1.trans (hb.mono h1.size), b, h2, h3, h4.below h4.lt hb⟩⟩
theorem sameM {f : FuncId} {args : Array Value} {v : Value} (R : ∀ u, Calls P f args u fun e w' => e = .returned v ∧ u = w') :
    ∀ s w, S s w → Calls P f args w fun e w' => e = .returned v ∧ S s w' := fun _ w h =>
  (R w).mono fun _ _ ⟨he, hb⟩ => ⟨he, hb ▸ h⟩
theorem makes_alloc {W : World} {o : Oper} (hg : o.guard = none) (t : TypeId) (ho : o.op = .alloc t) (z : List Value)
    (hz : (P.info? t).map (fun i => (i.zero, i.size)) = some (some (.agg z.toArray), z.length)) : Makes P (Made W t z) o := by
  refine ⟨hg, fun a u hS => ⟨.pointer (some ⟨u.heap.size, 0, none⟩), u.alloc (.cells z.toArray t), ?_, Below.alloc hS (Below.size hS) _, u.heap.size, rfl, Below.size hS, Whole.made u t z⟩⟩
  cases hq : P.info? t with
  | none => simp [hq] at hz
  | some i =>
    simp only [hq, Option.map_some, Option.some.injEq, Prod.mk.injEq] at hz
    unfold execOp
    simp [ho, Instr.alloc, zeroValue, typeInfo, hq, hz.1, Sem.run_bind, newVar, newRow, newObj, Value.cells]
    rfl
end
end Go.Proofs.YtedgpglldlohfaaDoor.Steady

namespace Go.Proofs.YtedgpglldlohfaaDoor.Steady
open Go Go.RowKit

section
variable {P : Program} {ops : Array Oper} {md : Region.Mode} {S : World → Prop}

/-- No operation from n on comes up before all below n have: it waits for the last of them, or for one from n on. -/
def rootB2 (md : Region.Mode) (ops : Array Oper) (n : Nat) : Bool := (List.range ops.size).all fun t => decide (t < n) || Region.waitsFor md ops t (n - 1) || (List.range ops.size).any fun j => decide (n ≤ j) && Region.waitsFor md ops t j
theorem root_waits2 {n : Nat} {listed : Array Bool} (hs : Region.sinkB md ops (n - 1) = true) (hc : rootB2 md ops n = true) (inv : HeadInv md ops n listed) {i : Nat} (hin : i < n) (hun : listed.getD i true = false) (t : Nat) (ht : n ≤ t) : t ∉ Region.ready md ops listed := by
  intro hr
  obtain ⟨_, ot, hot, hall⟩ := mem_ready.1 hr
  have htlt : t < ops.size := (Array.getElem?_eq_some_iff.1 hot).1
  have h1 := List.all_eq_true.1 hc t (List.mem_range.2 htlt)
  simp only [Bool.or_eq_true, decide_eq_true_eq] at h1
  rcases h1 with (h1 | h1) | h1
  · omega
  · obtain ⟨o', ho', e, he, hb, hon⟩ := Region.waitsFor_spec h1
    obtain rfl : o' = ot := Option.some.inj (ho'.symm.trans hot)
    have hroot : listed.getD (n - 1) false = true := by
      have h2 := hall e he hb
      rwa [hon] at h2
    have all : ∀ (d j : Nat), n - 1 - j = d → j ≤ n - 1 → listed.getD j false = true := by
      intro d
      induction d using Nat.strongRecOn with
      | _ d ih =>
        intro j hd hj
        by_cases hjn : j = n - 1
        · rw [hjn]
          exact hroot
        · have h1 := List.all_eq_true.1 hs j (List.mem_range.2 (by omega))
          obtain ⟨m, hm, hm2⟩ := List.any_eq_true.1 h1
          simp only [Bool.and_eq_true, decide_eq_true_eq] at hm2
          obtain ⟨om, hom, e, he, hb, hon⟩ := Region.waitsFor_spec hm2.2
          have hml := List.mem_range.1 hm
          have h2 := inv.closed m om hom (ih (n - 1 - m) (by omega) m rfl (by omega)) e he hb
          rwa [hon] at h2
    have := all _ i rfl (by omega)
    rw [getD_both hun] at this
    cases this
  · obtain ⟨j, hj, hj2⟩ := List.any_eq_true.1 h1
    simp only [Bool.and_eq_true, decide_eq_true_eq] at hj2
    obtain ⟨o', ho', e, he, hb, hon⟩ := Region.waitsFor_spec hj2.2
    obtain rfl : o' = ot := Option.some.inj (ho'.symm.trans hot)
    have h2 := hall e he hb
    rw [hon, getD_both (inv.tail j hj2.1 (List.mem_range.1 hj))] at h2
    cases h2

theorem H_first {n i : Nat} {oi : Oper} {v : Value} {L : Array Bool → Act → Prop} (hi : ops[i]? = some oi) (hsel : ∀ (j : Nat) (o : Oper) cs b, ops[j]? = some o → o.op ≠ .select cs b)
    (hs : Region.sinkB md ops (n - 1) = true) (hc : rootB2 md ops n = true) (hin : i < n)
    (hdone : ∀ listed a, L listed a → ∀ j ∈ Region.ready md ops listed, n ≤ j) :
    ∀ (f : Nat) (listed : Array Bool) (a : Act), HeadInv md ops n listed →
      (∀ j oj, ops[j]? = some oj → j ≠ i → listed.getD j true = false → (∀ e ∈ oj.after, Region.binds md e = true → e.on ≠ i) → oi.apart ops oj = true) →
      i ∈ Region.ready md ops listed → YieldsS P ops S oi v a →
      anyT P md ops S n L f (listed.setIfInBounds i true) (a.put oi.dst v) → anyT P md ops S n L (f + 1) listed a := by
  intro f
  induction f with
  | zero =>
    intro listed a inv _ hr hy H
    have hun := (mem_ready.1 hr).1
    refine ⟨fun h => (by rw [h] at hr; cases hr), fun j hj => ?_⟩
    have hjn : j < n := by
      rcases Nat.lt_or_ge j n with h | h
      · exact h
      · exact absurd hj (root_waits2 hs hc inv hin hun j h)
    refine ⟨hjn, ?_⟩
    by_cases hji : j = i
    · subst hji
      exact ⟨oi, v, hi, hy, H⟩
    · have := hdone _ _ H j (ready_mono hj hji)
      omega
  | succ f ih =>
    intro listed a inv hfree hr hy H
    have hun := (mem_ready.1 hr).1
    refine ⟨fun h => (by rw [h] at hr; cases hr), fun j hj => ?_⟩
    have hjn : j < n := by
      rcases Nat.lt_or_ge j n with h | h
      · exact h
      · exact absurd hj (root_waits2 hs hc inv hin hun j h)
    refine ⟨hjn, ?_⟩
    by_cases hji : j = i
    · subst hji
      exact ⟨oi, v, hi, hy, H⟩
    · obtain ⟨oj', u, hoj', hu, hk⟩ := (H.2 j (ready_mono hj hji)).2
      obtain ⟨hjun, oj, hoj, hall⟩ := mem_ready.1 hj
      obtain rfl : oj' = oj := Option.some.inj (hoj'.symm.trans hoj)
      have hnot : ∀ e ∈ oj'.after, Region.binds md e = true → e.on ≠ i := fun e he hb heq => by
        have h1 := hall e he hb
        rw [heq, getD_both hun] at h1
        cases h1
      obtain ⟨g1, g2, g3⟩ := put_yields (hfree j oj' hoj hji hjun hnot) (fun cs b => hsel i oi cs b hi) (fun cs b => hsel j oj' cs b hoj) hy hu
      have hfree' : ∀ k ok, ops[k]? = some ok → k ≠ i → (listed.setIfInBounds j true).getD k true = false →
          (∀ e ∈ ok.after, Region.binds md e = true → e.on ≠ i) → oi.apart ops ok = true := fun k ok hk hki hun hno => by
        refine hfree k ok hk hki ?_ hno
        by_cases hjk : j = k
        · subst hjk; exact hjun
        · rw [getD_set_ne true hjk] at hun; exact hun
      refine ⟨oj', u, hoj, g1, ih (listed.setIfInBounds j true) _ (inv.set hj hjn) hfree' (ready_mono hr (Ne.symm hji)) g2 ?_⟩
      rw [← g3, Array.setIfInBounds_comm _ _ hji]
      exact hk

theorem H_lex {n : Nat} {Lq : Act → Prop} (hsel : Region.noSelect ops = true) (hs : Region.sinkB md ops (n - 1) = true) (hc : rootB2 md ops n = true) (fin : Array Bool) (hfin : ∀ j ∈ Region.ready md ops fin, n ≤ j) :
    ∀ (l : List Oper) (k : Nat) (listed : Array Bool) (a : Act), (∀ j, j < l.length → l[j]? = ops[k + j]?) → k + l.length = n → HeadInv md ops n listed → fill l.length k listed = fin →
    preB md ops n l.length k listed = true → steps P ops S Lq l a →
    anyT P md ops S n (fun listed' a' => listed' = fin ∧ Lq a') l.length listed a
  | [], k, listed, a, _, _, _, hf, _, h => ⟨hf, h⟩
  | o :: l, k, listed, a, hl, hk, inv, hf, hB, h => by
    have h0 : ops[k]? = some o := by simpa using (hl 0 (by simp)).symm
    simp only [List.length_cons, preB, Bool.and_eq_true] at hB
    obtain ⟨⟨hr, hfr⟩, hB'⟩ := hB
    have hkn : k < n := by simp only [List.length_cons] at hk; omega
    have hr' : k ∈ Region.ready md ops listed := by simpa using hr
    obtain ⟨v, hy, hK⟩ := h
    exact H_first (L := fun listed' a' => listed' = fin ∧ Lq a') h0 (Region.noSelect_spec hsel) hs hc hkn (fun listed' a' hL => hL.1 ▸ hfin) l.length listed a inv (Region.free_spec h0 hfr) hr' hy
      (H_lex hsel hs hc fin hfin l (k + 1) _ _ (fun j hj => by have := hl (j + 1) (by simp; omega); simpa [Nat.add_assoc, Nat.add_comm 1 j] using this) (by simp only [List.length_cons] at hk; omega) (inv.set hr' hkn) hf hB' hK)

theorem anyH_of_T {n g : Nat} {L : Array Bool → Act → Prop} {Q : Exit → Act → World → Prop} (hL : ∀ listed a w, S w → L listed a → wpAnyH P md ops Q S g listed a w) :
    ∀ (f : Nat) (listed : Array Bool) (a : Act), anyT P md ops S n L f listed a → ∀ w, S w → wpAnyH P md ops Q S (f + g) listed a w
  | 0, listed, a, h, w, hS => by
    rw [Nat.zero_add]
    exact hL _ _ _ hS h
  | f + 1, listed, a, h, w, hS => by
    rw [show f + 1 + g = (f + g) + 1 by omega]
    refine ⟨fun h0 => absurd h0 h.1, fun i hi => ?_⟩
    obtain ⟨-, o, v, ho, hy, hk⟩ := h.2 i hi
    exact hy.wpOp ho hS fun w' hS' => ⟨hS', anyH_of_T hL f _ _ hk w' hS'⟩

/-- What has come up is closed, and nothing from n on has. -/
def invB (md : Region.Mode) (ops : Array Oper) (n : Nat) (listed : Array Bool) : Bool :=
  decide (listed.size = ops.size) && ((List.range ops.size).all fun j => !listed.getD j false || (match ops[j]? with | none => true | some oj => oj.after.toList.all fun e => !Region.binds md e || listed.getD e.on false)) &&
    ((List.range ops.size).all fun t => decide (t < n) || !listed.getD t true)
theorem inv_of {n : Nat} {listed : Array Bool} (h : invB md ops n listed = true) : HeadInv md ops n listed := by
  simp only [invB, Bool.and_eq_true, decide_eq_true_eq] at h
  obtain ⟨⟨h1, h2⟩, h3⟩ := h
  refine ⟨h1, fun j oj hj hl e he hb => ?_, fun t ht ht' => ?_⟩
  · have hlt : j < ops.size := (Array.getElem?_eq_some_iff.1 hj).1
    have h4 := List.all_eq_true.1 h2 j (List.mem_range.2 hlt)
    rw [hl, hj] at h4
    simp only [Bool.not_true, Bool.false_or] at h4
    have h5 := List.all_eq_true.1 h4 e (by simpa using he)
    rw [hb] at h5
    simpa using h5
  · have h4 := List.all_eq_true.1 h3 t (List.mem_range.2 ht')
    simp only [Bool.or_eq_true, decide_eq_true_eq] at h4
    rcases h4 with h4 | h4
    · omega
    · simpa using h4
def phaseB (md : Region.Mode) (ops : Array Oper) (k n : Nat) (listed : Array Bool) : Bool :=
  Region.noSelect ops && decide (k ≤ n) && decide (n ≤ ops.size) && Region.sinkB md ops (n - 1) && rootB2 md ops n && preB md ops n (n - k) k listed && invB md ops n listed

/-- The operations from k on as far as n, in the text's order, whatever has come up before. -/
theorem phase {l : List Oper} {listed : Array Bool} {Q : Exit → Act → World → Prop} {a : Act} {w : World} {fuel : Nat} (k n g : Nat) (hf : n - k + g = fuel) (hB : phaseB md l.toArray k n listed = true) (hS : S w)
    (h : steps P l.toArray S (fun a' => ∀ w', S w' → wpAnyH P md l.toArray Q S g (fill (n - k) k listed) a' w') ((l.drop k).take (n - k)) a) : wpAnyH P md l.toArray Q S fuel listed a w := by
  subst hf
  simp only [phaseB, Bool.and_eq_true, decide_eq_true_eq] at hB
  obtain ⟨⟨⟨⟨⟨⟨hsel, hkn⟩, hn⟩, hs⟩, hc⟩, hpre⟩, hinv⟩ := hB
  have hn' : n ≤ l.length := by simpa using hn
  have hlen : ((l.drop k).take (n - k)).length = n - k := by simp; omega
  have hpre' : preB md l.toArray n ((l.drop k).take (n - k)).length k listed = true := by rw [hlen]; exact hpre
  have H := H_lex (md := md) hsel hs hc _ (preB_fin _ _ _ hpre') ((l.drop k).take (n - k)) k listed a (fun j hj => by
    rw [hlen] at hj
    rw [List.getElem?_take_of_lt hj]
    simp) (by rw [hlen]; omega) (inv_of hinv) rfl hpre' h
  have := anyH_of_T (Q := Q) (g := g) (fun listed' a' w' hS' hL => by
    obtain ⟨rfl, hL⟩ := hL
    have := hL w' hS'
    rw [hlen]
    exact this) _ _ _ H w hS
  rwa [hlen] at this
/-- A call that comes up: what it answers may hang on the world. -/
theorem call_any {i : Nat} {o : Oper} {a : Act} {w : World} {K : Act → World → Prop} {Q : Exit → Act → World → Prop} (hi : ops[i]? = some o) (hg : Region.wanted o (yielded ops a.tmps) = true) (f : FuncId) (args : Array Value)
    (hy : (execOp a.eval o).run P w = .ok (.enter f args) w) (R : Value → World → Prop) (hc : Calls P f args w fun e w' => ∃ v, e = .returned v ∧ R v w') (h : ∀ v w', R v w' → K (a.put o.dst v) w') : wpOp P ops Q i K a w := by
  unfold Go.wpOp
  simp only [hi, hg, if_true]
  refine .inl ?_
  unfold Oper.wp
  rw [hy, Oper.upon_enter]
  refine hc.mono ?_
  rintro e w' ⟨v, rfl, hr⟩
  exact h v w' hr
theorem call_next {i : Nat} {o : Oper} {fuel : Nat} {listed : Array Bool} {a : Act} {w : World} {Q : Exit → Act → World → Prop} (hr : Region.ready md ops listed = [i]) (hi : ops[i]? = some o) (hg : Region.wanted o (yielded ops a.tmps) = true) (f : FuncId) (args : Array Value)
    (hy : (execOp a.eval o).run P w = .ok (.enter f args) w) (R : Value → World → Prop) (hc : Calls P f args w fun e w' => ∃ v, e = .returned v ∧ R v w')
    (h : ∀ v w', R v w' → S w' ∧ wpAnyH P md ops Q S fuel (listed.setIfInBounds i true) (a.put o.dst v) w') : wpAnyH P md ops Q S (fuel + 1) listed a w :=
  wpAnyH_all (rs := [i]) hr (by simp) fun j hj => by
    obtain rfl : j = i := by simpa using hj
    exact call_any hi hg f args hy R hc h
end
end Go.Proofs.YtedgpglldlohfaaDoor.Steady

namespace Go.Proofs.YtedgpglldlohfaaDoor.Hold
open Go Go.RowKit Mur

/-- A block: where it lies, its type, what it holds. -/
structure Blk where
  n : Nat
  t : TypeId
  v : List Value

/-- v, with cs laid into it from o on. -/
def lay : List Value → Nat → List Value → List Value
  | v, _, [] => v
  | v, o, c :: cs => lay (v.set o c) (o + 1) cs
theorem lay_length : ∀ (cs v : List Value) (o : Nat), (lay v o cs).length = v.length
  | [], _, _ => rfl
  | c :: cs, v, o => by rw [lay, lay_length cs, List.length_set]
theorem lay_head : ∀ (Y X Z : List Value) (P : List Value), X.length = Y.length → lay (P ++ (X ++ Z)) P.length Y = P ++ (Y ++ Z)
  | [], X, Z, P, h => by
    obtain rfl := List.eq_nil_of_length_eq_zero h
    rfl
  | y :: Y, [], Z, P, h => by cases h
  | y :: Y, x :: X, Z, P, h => by
    have e : (P ++ (x :: X ++ Z)).set P.length y = (P ++ [y]) ++ (X ++ Z) := by
      rw [List.set_append_right _ _ (Nat.le_refl _), Nat.sub_self]
      simp
    rw [lay, e, show P.length + 1 = (P ++ [y]).length by simp, lay_head Y X Z (P ++ [y]) (by simpa using h)]
    simp
theorem lay_at {X Y Z P : List Value} {o : Nat} (ho : P.length = o) (h : X.length = Y.length) : lay (P ++ (X ++ Z)) o Y = P ++ (Y ++ Z) := by
  rw [← ho]
  exact lay_head Y X Z P h
theorem lay_all {v cs : List Value} (h : v.length = cs.length) : lay v 0 cs = cs := by
  have := lay_head cs v [] [] h
  simpa using this
theorem lay_left {X Y Z : List Value} (h : X.length = Y.length) : lay (X ++ Z) 0 Y = Y ++ Z := lay_head Y X Z [] h
theorem lay_right {X Y Z : List Value} {o : Nat} (ho : X.length = o) (h : Z.length = Y.length) : lay (X ++ Z) o Y = X ++ Y := by
  have := lay_at (P := X) (X := Z) (Z := []) ho h
  simpa using this

/-- The cells cs lie in v from o on. -/
def Part (v : List Value) (o : Nat) (cs : List Value) : Prop := ∀ j u, cs[j]? = some u → v[o + j]? = some u
theorem Part.all (v : List Value) : Part v 0 v := fun j u h => by rw [Nat.zero_add]; exact h
theorem Part.left (X Z : List Value) : Part (X ++ Z) 0 X := fun j u h => by
  rw [Nat.zero_add, List.getElem?_append_left (List.getElem?_eq_some_iff.1 h).1]
  exact h
theorem Part.mid {X Y Z : List Value} {o : Nat} (ho : X.length = o) : Part (X ++ (Y ++ Z)) o Y := fun j u h => by
  rw [List.getElem?_append_right (by omega), ho, Nat.add_sub_cancel_left, List.getElem?_append_left (List.getElem?_eq_some_iff.1 h).1]
  exact h
theorem Part.right {X Z : List Value} {o : Nat} (ho : X.length = o) : Part (X ++ Z) o Z := fun j u h => by
  rw [List.getElem?_append_right (by omega), ho, Nat.add_sub_cancel_left]
  exact h
theorem Part.len {v cs : List Value} {o : Nat} (h : Part v o cs) (hc : cs ≠ []) : o + cs.length ≤ v.length := by
  have hl : 0 < cs.length := List.length_pos_iff.2 hc
  have := h (cs.length - 1) _ (List.getElem?_eq_getElem (by omega))
  have := (List.getElem?_eq_some_iff.1 this).1
  omega

theorem whole_setCells : ∀ (cs : List Value) {w : World} {b : Nat} {t : TypeId} {v : List Value} (o : Nat), Whole w b t v → Whole (w.setCells b o cs) b t (lay v o cs)
  | [], _, _, _, _, _, h => h
  | c :: cs, w, b, t, v, o, h => by
    rw [World.setCells, lay]
    exact whole_setCells cs (o + 1) (h.set o c)
theorem other_setCells : ∀ (cs : List Value) {w : World} {b : Nat} {t : TypeId} {v : List Value} (c o : Nat), c ≠ b → Whole w b t v → Whole (w.setCells c o cs) b t v
  | [], _, _, _, _, _, _, _, h => h
  | x :: cs, w, b, t, v, c, o, hc, h => by
    rw [World.setCells]
    exact other_setCells cs c (o + 1) hc (h.other c o x hc)
theorem below_setCells : ∀ (cs : List Value) {k : Nat} {w w' : World} (c o : Nat), k ≤ c → Below k w w' → Below k w (w'.setCells c o cs)
  | [], _, _, _, _, _, _, h => h
  | x :: cs, k, w, w', c, o, hc, h => by
    rw [World.setCells]
    exact below_setCells cs c (o + 1) hc (h.setCell (p := ⟨c, o, none⟩) hc _)

/-- What a call that began in w0 has made: each block whole, none older than the call, all apart; all else is left. -/
structure Hld (w0 : World) (m : List Blk) (w : World) : Prop where
  whole : ∀ x ∈ m, Whole w x.n x.t x.v
  old : ∀ x ∈ m, w0.heap.size ≤ x.n
  own : (m.map Blk.n).Nodup
  below : Below w0.heap.size w0 w

section
variable {w0 w u : World} {m : List Blk}
theorem Hld.start (w : World) : Hld w [] w := ⟨fun _ h => (by cases h), fun _ h => (by cases h), List.nodup_nil, Below.refl _ _⟩
theorem Hld.next (h : Hld w0 m w) (q : Below w.heap.size w u) : Hld w0 m u :=
  ⟨fun x hx => (h.whole x hx).below (h.whole x hx).lt q, h.old, h.own, h.below.trans (q.mono h.below.size)⟩
theorem Hld.drew (h : Hld w0 m w) : Hld w0 m w.drew := ⟨fun x hx => (h.whole x hx).drew, h.old, h.own, h.below.drew⟩
theorem Hld.at (h : Hld w0 m w) (i : Nat) {x : Blk} (hi : m[i]? = some x) : Whole w x.n x.t x.v := h.whole x (List.mem_of_getElem? hi)
theorem Hld.join {n : Nat} {t : TypeId} {v : List Value} (h : Hld w0 m w) (q : Below w.heap.size w u) (hn : w.heap.size ≤ n) (hv : Whole u n t v) : Hld w0 (m ++ [⟨n, t, v⟩]) u := by
  refine ⟨fun x hx => ?_, fun x hx => ?_, ?_, (h.next q).below⟩
  · rcases List.mem_append.1 hx with hx | hx
    · exact (h.next q).whole x hx
    · obtain rfl := List.mem_singleton.1 hx
      exact hv
  · rcases List.mem_append.1 hx with hx | hx
    · exact h.old x hx
    · obtain rfl := List.mem_singleton.1 hx
      exact Nat.le_trans h.below.size hn
  · rw [List.map_append, List.nodup_append]
    refine ⟨h.own, by simp, fun a ha b hb => ?_⟩
    obtain ⟨x, hx, rfl⟩ := List.mem_map.1 ha
    obtain rfl : b = n := by simpa using hb
    have := (h.whole x hx).lt
    omega
theorem Hld.add (h : Hld w0 m w) (t : TypeId) (v : List Value) : Hld w0 (m ++ [⟨w.heap.size, t, v⟩]) (w.alloc (.cells v.toArray t)) :=
  h.join ((Below.refl _ _).alloc (Nat.le_refl _) _) (Nat.le_refl _) (Whole.made w t v)
theorem Hld.set (h : Hld w0 m w) (i : Nat) {x : Blk} (hi : m[i]? = some x) (o : Nat) (cs : List Value) : Hld w0 (m.set i ⟨x.n, x.t, lay x.v o cs⟩) (w.setCells x.n o cs) := by
  have hil := (List.getElem?_eq_some_iff.1 hi).1
  have hix : m[i] = x := (List.getElem?_eq_some_iff.1 hi).2
  have hmap : (m.set i ⟨x.n, x.t, lay x.v o cs⟩).map Blk.n = m.map Blk.n := by
    rw [List.map_set]
    refine List.ext_getElem (by simp) fun j h1 h2 => ?_
    rw [List.getElem_set]
    split
    · rename_i e
      subst e
      simp [hix]
    · rfl
  refine ⟨fun y hy => ?_, fun y hy => ?_, by rw [hmap]; exact h.own, below_setCells cs _ _ (h.old x (List.mem_of_getElem? hi)) h.below⟩
  · obtain ⟨j, hj, rfl⟩ := List.mem_iff_getElem.1 hy
    rw [List.getElem_set]
    split
    · exact whole_setCells cs o (h.at i hi)
    · rename_i e
      have hj' : j < m.length := by simpa using hj
      refine other_setCells cs _ _ (fun e2 => e ?_) (h.whole _ (List.getElem_mem hj'))
      have hnd := List.pairwise_iff_getElem.1 h.own
      rcases Nat.lt_trichotomy i j with g | g | g
      · exact absurd (show (m.map Blk.n)[i]'(by simpa using hil) = (m.map Blk.n)[j]'(by simpa using hj') by rw [List.getElem_map, List.getElem_map, hix, e2]) (hnd i j (by simpa using hil) (by simpa using hj') g)
      · exact g
      · exact absurd (show (m.map Blk.n)[j]'(by simpa using hj') = (m.map Blk.n)[i]'(by simpa using hil) by rw [List.getElem_map, List.getElem_map, hix, e2]) (hnd j i (by simpa using hj') (by simpa using hil) g)
  · rcases List.mem_or_eq_of_mem_set hy with hy | rfl
    · exact h.old y hy
    · exact h.old x (List.mem_of_getElem? hi)
theorem Hld.there (h : Hld w0 m w) (i : Nat) {x : Blk} (hi : m[i]? = some x) (o n : Nat) (hl : o + n ≤ x.v.length) : w.there x.n o n := fun j hj => by
  have hw := (h.at i hi).row
  have hl : o + j < x.v.length := by omega
  exact ⟨by rw [hw.cell (List.getElem?_eq_getElem hl)]; rfl, hw.free hl⟩
theorem Hld.range (h : Hld w0 m w) (i : Nat) {x : Blk} (hi : m[i]? = some x) {o : Nat} {cs : List Value} (hp : Part x.v o cs) : w.rangeAt x.n o cs := fun j v hv => (h.at i hi).row.cell (hp j v hv)
end

/-- A type of so many cells. -/
def TyRow (P : Program) (ty : TypeId) (n : Nat) : Prop := ∃ d, P.underlying ty = some d ∧ d.isRow = true ∧ (P.info? ty).map (·.size) = some n
/-- Each is one cell. -/
def Single (cs : List Value) : Prop := cs.toArray.all (·.oneCell') = true
theorem Single.append {X Y : List Value} (h : Single X) (h' : Single Y) : Single (X ++ Y) := by
  unfold Single at *
  simp only [List.all_toArray, List.all_eq_true] at *
  intro x hx
  rcases List.mem_append.1 hx with hx | hx
  · exact h x hx
  · exact h' x hx

section
variable {P : Program} {ops : Array Oper} {rest : List Oper} {op : Oper} {a : Act} {w w0 : World} {m : List Blk} {Q : Exit → Act → World → Prop}
theorem load_run (h : Hld w0 m w) (i : Nat) {b o : Nat} {t ty : TypeId} {v cs : List Value} {x : Operand} (ho : op.op = .load ty x) (hx : a.eval x = .pointer (some ⟨b, o, none⟩)) (hi : m[i]? = some ⟨b, t, v⟩) (hp : Part v o cs) (hr : TyRow P ty cs.length) :
    (execOp a.eval op).run P w = .ok (.value (.agg cs.toArray)) w := by
  obtain ⟨d, hu, hd, hs⟩ := hr
  unfold execOp
  simp only [ho, hx, Instr.loadAt, Instr.sureAddr, Sem.run_bind, Sem.run_pure, Result.andThen_ok, run_loadVar_mid w b o ty cs d (h.range i hi hp) hu hd hs]
theorem load (h : Hld w0 m w) (i : Nat) {b o : Nat} {t ty : TypeId} {v cs : List Value} {x : Operand} (hg : op.guard = none) (ho : op.op = .load ty x) (hx : a.eval x = .pointer (some ⟨b, o, none⟩)) (hi : m[i]? = some ⟨b, t, v⟩) (hp : Part v o cs) (hr : TyRow P ty cs.length)
    (hk : wpList P ops Q rest (a.put op.dst (.agg cs.toArray)) w) : wpList P ops Q (op :: rest) a w := by
  refine wpList_plain hg fun K hK => ?_
  unfold Oper.wp
  rw [load_run h i ho hx hi hp hr]
  exact hK _ _ hk
theorem store (h : Hld w0 m w) (i : Nat) {b o : Nat} {t ty : TypeId} {v cs v' : List Value} {x y : Operand} (hg : op.guard = none) (ho : op.op = .store ty x y) (hx : a.eval x = .pointer (some ⟨b, o, none⟩)) (hy : a.eval y = .agg cs.toArray) (hi : m[i]? = some ⟨b, t, v⟩) (hl : o + cs.length ≤ v.length) (hv : lay v o cs = v') (h1 : Single cs) (hr : TyRow P ty cs.length)
    (hk : ∀ w', Hld w0 (m.set i ⟨b, t, v'⟩) w' → wpList P ops Q rest (a.put op.dst undef) w') : wpList P ops Q (op :: rest) a w := by
  obtain ⟨d, hu, hd, hs⟩ := hr
  subst hv
  exact wpList_store_mid hg ty x y ho b o cs.toArray hx hy (by simpa using h.there i hi o cs.length hl) (by simpa using hs) h1 (hk _ (by simpa using h.set i hi o cs))
theorem alloc (h : Hld w0 m w) {t : TypeId} (hg : op.guard = none) (ho : op.op = .alloc t) (z : List Value) (hz : (P.info? t).map (fun i => (i.zero, i.size)) = some (some (.agg z.toArray), z.length))
    (hk : ∀ b w', Hld w0 (m ++ [⟨b, t, z⟩]) w' → wpList P ops Q rest (a.put op.dst (.pointer (some ⟨b, 0, none⟩))) w') : wpList P ops Q (op :: rest) a w :=
  wpList_alloc_z hg t ho z hz (hk _ _ (h.add t z))
theorem box (h : Hld w0 m w) {t : TypeId} {x : Operand} {cs : List Value} (hg : op.guard = none) (ho : op.op = .box t x) (hx : a.eval x = .agg cs.toArray)
    (hk : ∀ b w', Hld w0 (m ++ [⟨b, t, cs⟩]) w' → wpList P ops Q rest (a.put op.dst (.pointer (some ⟨b, 0, none⟩))) w') : wpList P ops Q (op :: rest) a w := by
  refine wpList_plain hg fun K hK => ?_
  unfold Oper.wp execOp
  simp only [ho, hx, Sem.run_bind, Instr.box, newVar, newRow, run_newObj_alloc, Sem.run_pure, Result.andThen_ok, Value.cells]
  exact hK _ _ (hk _ _ (h.add t cs))
theorem build {t : TypeId} {parts : Array (Nat × Operand)} {cs : List Value} (hg : op.guard = none) (ho : op.op = .build t parts) (hb : P.built t (parts.map fun (i, x) => (i, a.eval x)).toList = some cs.toArray)
    (hk : wpList P ops Q rest (a.put op.dst (.agg cs.toArray)) w) : wpList P ops Q (op :: rest) a w :=
  wpList_build hg t parts ho (by rw [hb]; rfl) (by rw [hb]; exact hk)
theorem build_run {t : TypeId} {parts : Array (Nat × Operand)} {cs : List Value} (ho : op.op = .build t parts) (hb : P.built t (parts.map fun (i, x) => (i, a.eval x)).toList = some cs.toArray) : (execOp a.eval op).run P w = .ok (.value (.agg cs.toArray)) w := by
  unfold execOp
  simp only [ho, Sem.run_bind, run_build w t _ _ hb, Result.andThen_ok]
  rfl
/-- A contract that leaves all memory keeps what is held. -/
theorem kept {f : FuncId} {args : Array Value} {v : Value} (R : ∀ u, Calls P f args u fun e w' => e = .returned v ∧ Below u.heap.size u w') : ∀ u, Hld w0 m u → Calls P f args u fun e w' => e = .returned v ∧ Hld w0 m w' := fun u h =>
  (R u).mono fun _ _ ⟨he, hb⟩ => ⟨he, h.next hb⟩
theorem keptN {W : World} {t : TypeId} {z : List Value} {f : FuncId} {args : Array Value} {v : Value} (R : ∀ u, Calls P f args u fun e w' => e = .returned v ∧ Below u.heap.size u w') :
    ∀ s u, SteadyN.Made W t z s u → Calls P f args u fun e w' => e = .returned v ∧ SteadyN.Made W t z s w' := SteadyN.kept R
theorem load_made {W : World} (h : Hld w0 m W) {t' : TypeId} {z : List Value} {s : Nat → Option Value} (hS : SteadyN.Made W t' z s w) (i : Nat) {b o : Nat} {t ty : TypeId} {v cs : List Value} {x : Operand} (ho : op.op = .load ty x) (hx : a.eval x = .pointer (some ⟨b, o, none⟩)) (hi : m[i]? = some ⟨b, t, v⟩) (hp : Part v o cs) (hr : TyRow P ty cs.length) :
    (execOp a.eval op).run P w = .ok (.value (.agg cs.toArray)) w := load_run (h.next hS.below) i ho hx hi hp hr
theorem made1 {W : World} (h : Hld w0 m W) {t : TypeId} {z : List Value} {s : Nat → Option Value} (hS : SteadyN.Made W t z s w) {i : Nat} {p : Value} (hi : s i = some p) : ∃ b, p = .pointer (some ⟨b, 0, none⟩) ∧ Hld w0 (m ++ [⟨b, t, z⟩]) w := by
  obtain ⟨b, h1, h2, h3⟩ := hS.at_ i p hi
  exact ⟨b, h1, h.join hS.below h2 h3⟩
theorem made2 {W : World} (h : Hld w0 m W) {t : TypeId} {z : List Value} {s : Nat → Option Value} (hS : SteadyN.Made W t z s w) {i j : Nat} {p q : Value} (hi : s i = some p) (hj : s j = some q) (hij : i ≠ j) : ∃ b c, p = .pointer (some ⟨b, 0, none⟩) ∧ q = .pointer (some ⟨c, 0, none⟩) ∧ Hld w0 (m ++ [⟨b, t, z⟩, ⟨c, t, z⟩]) w := by
  obtain ⟨b, h1, h2, h3⟩ := hS.at_ i p hi
  obtain ⟨c, g1, g2, g3⟩ := hS.at_ j q hj
  have hbc : b ≠ c := fun e => hij (hS.own i j p hi (by rw [hj, g1, h1, e]))
  have H := h.join hS.below h2 h3
  refine ⟨b, c, h1, g1, ?_⟩
  refine ⟨fun x hx => ?_, fun x hx => ?_, ?_, H.below⟩
  · rw [show m ++ [⟨b, t, z⟩, ⟨c, t, z⟩] = (m ++ [⟨b, t, z⟩]) ++ [⟨c, t, z⟩] by simp] at hx
    rcases List.mem_append.1 hx with hx | hx
    · exact H.whole x hx
    · obtain rfl := List.mem_singleton.1 hx
      exact g3
  · rw [show m ++ [⟨b, t, z⟩, ⟨c, t, z⟩] = (m ++ [⟨b, t, z⟩]) ++ [⟨c, t, z⟩] by simp] at hx
    rcases List.mem_append.1 hx with hx | hx
    · exact H.old x hx
    · obtain rfl := List.mem_singleton.1 hx
      exact Nat.le_trans h.below.size g2
  · rw [show m ++ [⟨b, t, z⟩, ⟨c, t, z⟩] = (m ++ [⟨b, t, z⟩]) ++ [⟨c, t, z⟩] by simp, List.map_append, List.nodup_append]
    refine ⟨H.own, by simp, fun x hx y hy => ?_⟩
    obtain rfl : y = c := by simpa using hy
    rw [List.map_append] at hx
    rcases List.mem_append.1 hx with hx | hx
    · obtain ⟨k, hk, rfl⟩ := List.mem_map.1 hx
      have := (h.whole k hk).lt
      omega
    · obtain rfl : x = b := by simpa using hx
      exact hbc

/-- The end of a function whose answers lie in blocks. -/
theorem results1 {fn : Func} {p b : Nat} {ty t : TypeId} {v : List Value} (h : Hld w0 m w) (i : Nat) (hf : fn.results = #[.cell p ty]) (tmps : Array Value) (hp : tmps.getD p undef = .pointer (some ⟨b, 0, none⟩)) (hi : m[i]? = some ⟨b, t, v⟩) (hr : TyRow P ty v.length) :
    (results fn tmps).run P w = .ok (.agg v.toArray) w := by
  obtain ⟨d, hu, hd, hs⟩ := hr
  have hp' : tmps[p]?.getD undef = .pointer (some ⟨b, 0, none⟩) := by simpa using hp
  simp [results, hf, hp', asAddr, run_loadVar_mid w b 0 ty v d (h.range i hi (Part.all v)) hu hd hs]
theorem results2 {fn : Func} {p q b c : Nat} {ty ty' t t' : TypeId} {v v' : List Value} (h : Hld w0 m w) (i j : Nat) (hf : fn.results = #[.cell p ty, .cell q ty']) (tmps : Array Value) (hp : tmps.getD p undef = .pointer (some ⟨b, 0, none⟩)) (hq : tmps.getD q undef = .pointer (some ⟨c, 0, none⟩)) (hi : m[i]? = some ⟨b, t, v⟩) (hj : m[j]? = some ⟨c, t', v'⟩) (hr : TyRow P ty v.length) (hr' : TyRow P ty' v'.length) :
    (results fn tmps).run P w = .ok (.tuple #[.agg v.toArray, .agg v'.toArray]) w := by
  obtain ⟨d, hu, hd, hs⟩ := hr
  obtain ⟨d', hu', hd', hs'⟩ := hr'
  have hp' : tmps[p]?.getD undef = .pointer (some ⟨b, 0, none⟩) := by simpa using hp
  have hq' : tmps[q]?.getD undef = .pointer (some ⟨c, 0, none⟩) := by simpa using hq
  simp [results, hf, hp', hq', asAddr, Sem.run_bind, run_loadVar_mid w b 0 ty v d (h.range i hi (Part.all v)) hu hd hs, run_loadVar_mid w c 0 ty' v' d' (h.range j hj (Part.all v')) hu' hd' hs']

/-- One operation of a region whose order is open. -/
theorem op_load {i : Nat} {K : Act → World → Prop} {x : Operand} {ty t : TypeId} {b o k : Nat} {v cs : List Value} (h : Hld w0 m w) (hi : ops[i]? = some op) (hg : op.guard = none) (ho : op.op = .load ty x) (hx : a.eval x = .pointer (some ⟨b, o, none⟩)) (hk : m[k]? = some ⟨b, t, v⟩) (hp : Part v o cs) (hr : TyRow P ty cs.length)
    (hK : K (a.put op.dst (.agg cs.toArray)) w) : wpOp P ops Q i K a w := by
  unfold wpOp
  simp only [hi]
  rw [if_pos (by simp [Region.wanted, hg])]
  refine .inl ?_
  unfold Oper.wp
  rw [load_run h k ho hx hk hp hr]
  exact hK
theorem op_store {i : Nat} {K : Act → World → Prop} {x y : Operand} {ty t : TypeId} {b o k : Nat} {v cs v' : List Value} (h : Hld w0 m w) (hi : ops[i]? = some op) (hg : op.guard = none) (ho : op.op = .store ty x y) (hx : a.eval x = .pointer (some ⟨b, o, none⟩)) (hy : a.eval y = .agg cs.toArray) (hk : m[k]? = some ⟨b, t, v⟩) (hl : o + cs.length ≤ v.length) (hv : lay v o cs = v') (h1 : Single cs) (hr : TyRow P ty cs.length)
    (hK : ∀ w', Hld w0 (m.set k ⟨b, t, v'⟩) w' → K (a.put op.dst undef) w') : wpOp P ops Q i K a w := by
  obtain ⟨d, hu, hd, hs⟩ := hr
  subst hv
  unfold wpOp
  simp only [hi]
  rw [if_pos (by simp [Region.wanted, hg])]
  refine .inl (wp_store_mid ty x y ho b o cs.toArray hx hy (by simpa using h.there k hk o cs.length hl) (by simpa using hs) h1 ?_)
  exact hK _ (by simpa using h.set k hk o cs)

/-- Two variables are loaded, and laid into two others: the second load may come up behind the first store. -/
theorem pair_end {id k0 k1 k2 k3 d0 d1 b0 b1 b2 b3 : Nat} {x0 x1 x2 x3 : Nat} {o0 o1 o2 o3 : Oper} {ty0 ty1 ty2 ty3 t0 t1 t2 t3 : TypeId} {v0 v1 v2 v3 : List Value} (h : Hld w0 m w) (hm : P.follows .mixedOrders = true)
    (r1 : Region.ready .any #[o0, o1, o2, o3] #[false, false, false, false] = [0, 1]) (r2 : Region.ready .any #[o0, o1, o2, o3] #[true, false, false, false] = [1, 2]) (r3 : Region.ready .any #[o0, o1, o2, o3] #[false, true, false, false] = [0])
    (r4 : Region.ready .any #[o0, o1, o2, o3] #[true, true, false, false] = [2]) (r5 : Region.ready .any #[o0, o1, o2, o3] #[true, false, true, false] = [1]) (r6 : Region.ready .any #[o0, o1, o2, o3] #[true, true, true, false] = [3]) (r7 : Region.ready .any #[o0, o1, o2, o3] #[true, true, true, true] = [])
    (g0 : o0.guard = none) (g1 : o1.guard = none) (g2 : o2.guard = none) (g3 : o3.guard = none) (e0 : o0.op = .load ty0 (.tmp x0)) (e1 : o1.op = .load ty1 (.tmp x1)) (e2 : o2.op = .store ty2 (.tmp x2) (.tmp d0)) (e3 : o3.op = .store ty3 (.tmp x3) (.tmp d1)) (s0 : o0.dst = some d0) (s1 : o1.dst = some d1) (s2 : o2.dst = none) (s3 : o3.dst = none)
    (y0 : a.eval (.tmp x0) = .pointer (some ⟨b0, 0, none⟩)) (y1 : a.eval (.tmp x1) = .pointer (some ⟨b1, 0, none⟩)) (y2 : a.eval (.tmp x2) = .pointer (some ⟨b2, 0, none⟩)) (y3 : a.eval (.tmp x3) = .pointer (some ⟨b3, 0, none⟩))
    (hd : d0 ≠ d1 ∧ d0 ≠ x1 ∧ d0 ≠ x2 ∧ d0 ≠ x3 ∧ d1 ≠ x0 ∧ d1 ≠ x2 ∧ d1 ≠ x3) (hl0 : d0 < a.tmps.size) (hl1 : d1 < a.tmps.size)
    (m0 : m[k0]? = some ⟨b0, t0, v0⟩) (m1 : m[k1]? = some ⟨b1, t1, v1⟩) (m2 : m[k2]? = some ⟨b2, t2, v2⟩) (m3 : m[k3]? = some ⟨b3, t3, v3⟩) (hk : k2 ≠ k1 ∧ k2 ≠ k3)
    (q0 : TyRow P ty0 v0.length) (q1 : TyRow P ty1 v1.length) (q2 : TyRow P ty2 v0.length) (q3 : TyRow P ty3 v1.length) (l2 : v2.length = v0.length) (l3 : v3.length = v1.length) (z0 : Single v0) (z1 : Single v1)
    (hQ : ∀ w', Hld w0 ((m.set k2 ⟨b2, t2, v0⟩).set k3 ⟨b3, t3, v1⟩) w' → Q .normal ((a.put (some d0) (.agg v0.toArray)).put (some d1) (.agg v1.toArray)) w') : (Code.region id [o0, o1, o2, o3].toArray true).wp P Q a w := by
  obtain ⟨n1, n2, n3, n4, n5, n6, n7⟩ := hd
  have getP : ∀ (a : Act) (d : Nat) (v : Value) (x : Nat), d ≠ x → (a.put (some d) v).eval (.tmp x) = a.eval (.tmp x) := fun a d v x hn => by
    simp [Act.put, Act.eval, hn]
  have getS : ∀ (a : Act) (d : Nat) (v : Value), d < a.tmps.size → (a.put (some d) v).eval (.tmp d) = v := fun a d v hn => by
    simp [Act.put, Act.eval, hn]
  have szP : ∀ (a : Act) (d : Nat) (v : Value), (a.put (some d) v).tmps.size = a.tmps.size := fun a d v => by simp [Act.put]
  have comm : (a.put (some d1) (.agg v1.toArray)).put (some d0) (.agg v0.toArray) = (a.put (some d0) (.agg v0.toArray)).put (some d1) (.agg v1.toArray) := Act.put_comm a _ _ (fun d e e2 => n1 (by cases e; cases e2; rfl))
  have mk1 : (m.set k2 ⟨b2, t2, v0⟩)[k1]? = some ⟨b1, t1, v1⟩ := by rw [List.getElem?_set_ne hk.1]; exact m1
  have mk3 : (m.set k2 ⟨b2, t2, v0⟩)[k3]? = some ⟨b3, t3, v3⟩ := by rw [List.getElem?_set_ne hk.2]; exact m3
  -- the last store
  have last : ∀ w', Hld w0 (m.set k2 ⟨b2, t2, v0⟩) w' → wpAny P .any #[o0, o1, o2, o3] Q 1 #[true, true, true, false] ((a.put (some d0) (.agg v0.toArray)).put (some d1) (.agg v1.toArray)) w' := fun w' hw => by
    refine wpAny_all r6 (by simp) (fun i hi => ?_)
    obtain rfl : i = 3 := by simpa using hi
    refine op_store hw (k := k3) (op := o3) rfl g3 e3 (by rw [getP _ _ _ _ n7, getP _ _ _ _ n4]; exact y3) (getS _ _ _ (by rw [szP]; exact hl1)) mk3 (by rw [l3]; omega) (lay_all l3) z1 q3 (fun w'' hw'' => ?_)
    rw [s3]
    exact wpAny_done r7 (hQ w'' hw'') _
  have both : ∀ w', Hld w0 m w' → wpAny P .any #[o0, o1, o2, o3] Q 2 #[true, true, false, false] ((a.put (some d0) (.agg v0.toArray)).put (some d1) (.agg v1.toArray)) w' := fun w' hw => by
    refine wpAny_all r4 (by simp) (fun i hi => ?_)
    obtain rfl : i = 2 := by simpa using hi
    refine op_store hw (k := k2) (op := o2) rfl g2 e2 (by rw [getP _ _ _ _ n6, getP _ _ _ _ n3]; exact y2) (by rw [getP _ _ _ _ (Ne.symm n1)]; exact getS _ _ _ hl0) m2 (by rw [l2]; omega) (lay_all l2) z0 q2 (fun w'' hw'' => ?_)
    rw [s2]
    exact last w'' hw''
  refine wp_region_any hm ?_
  show wpAny P .any #[o0, o1, o2, o3] Q 4 #[false, false, false, false] a w.drew
  refine wpAny_all r1 (by simp) (fun i hi => ?_)
  have hi' : i = 0 ∨ i = 1 := by simpa using hi
  rcases hi' with rfl | rfl
  · refine op_load h.drew (k := k0) (op := o0) rfl g0 e0 y0 m0 (Part.all v0) q0 ?_
    rw [s0]
    refine wpAny_all r2 (by simp) (fun i hi => ?_)
    have hi' : i = 1 ∨ i = 2 := by simpa using hi
    rcases hi' with rfl | rfl
    · refine op_load h.drew (k := k1) (op := o1) rfl g1 e1 (by rw [getP _ _ _ _ n2]; exact y1) m1 (Part.all v1) q1 ?_
      rw [s1]
      exact both _ h.drew
    · refine op_store h.drew (k := k2) (op := o2) rfl g2 e2 (by rw [getP _ _ _ _ n3]; exact y2) (getS _ _ _ hl0) m2 (by rw [l2]; omega) (lay_all l2) z0 q2 (fun w'' hw'' => ?_)
      rw [s2]
      refine wpAny_all r5 (by simp) (fun i hi => ?_)
      obtain rfl : i = 1 := by simpa using hi
      refine op_load hw'' (k := k1) (op := o1) rfl g1 e1 (by rw [show (a.put (some d0) (.agg v0.toArray)).put none undef = a.put (some d0) (.agg v0.toArray) from rfl, getP _ _ _ _ n2]; exact y1) mk1 (Part.all v1) q1 ?_
      rw [s1]
      exact last w'' hw''
  · refine op_load h.drew (k := k1) (op := o1) rfl g1 e1 y1 m1 (Part.all v1) q1 ?_
    rw [s1]
    refine wpAny_all r3 (by simp) (fun i hi => ?_)
    obtain rfl : i = 0 := by simpa using hi
    refine op_load h.drew (k := k0) (op := o0) rfl g0 e0 (by rw [getP _ _ _ _ n5]; exact y0) m0 (Part.all v0) q0 ?_
    rw [s0, comm]
    exact both _ h.drew

theorem Hld.front {m' : List Blk} (h : Hld w0 (m ++ m') w) : Hld w0 m w :=
  ⟨fun x hx => h.whole x (List.mem_append_left _ hx), fun x hx => h.old x (List.mem_append_left _ hx), by have := h.own; rw [List.map_append, List.nodup_append] at this; exact this.1, h.below⟩
theorem Hld.turn {x y : Blk} (h : Hld w0 (m ++ [x, y]) w) : Hld w0 (m ++ [y, x]) w := by
  have hp : (m ++ [x, y]).Perm (m ++ [y, x]) := (List.Perm.swap y x []).append_left m
  refine ⟨fun z hz => h.whole z (hp.mem_iff.2 hz), fun z hz => h.old z (hp.mem_iff.2 hz), ?_, h.below⟩
  exact (hp.map Blk.n).nodup_iff.1 h.own
theorem op_alloc {i : Nat} {K : Act → World → Prop} {t : TypeId} (h : Hld w0 m w) (hi : ops[i]? = some op) (hg : op.guard = none) (ho : op.op = .alloc t) (z : List Value) (hz : (P.info? t).map (fun i => (i.zero, i.size)) = some (some (.agg z.toArray), z.length))
    (hK : ∀ b w', Hld w0 (m ++ [⟨b, t, z⟩]) w' → K (a.put op.dst (.pointer (some ⟨b, 0, none⟩))) w') : wpOp P ops Q i K a w := by
  unfold wpOp
  simp only [hi]
  rw [if_pos (by simp [Region.wanted, hg])]
  refine .inl ?_
  cases hq : P.info? t with
  | none => simp [hq] at hz
  | some i =>
    simp only [hq, Option.map_some, Option.some.injEq, Prod.mk.injEq] at hz
    unfold Oper.wp execOp
    simp [ho, Instr.alloc, zeroValue, typeInfo, hq, hz.1, Sem.run_bind, newVar, newRow, newObj, Value.cells]
    exact hK _ _ (h.add t z)

/-- Two variables are made, in either order, and hold what is laid into them, the first one's ahead of the other's. -/
theorem new_end {md : Region.Mode} {i j k l di dj x y : Nat} {L : Array Bool} {oi oj ok ol : Oper} {t t' ty ty' : TypeId} {z z' v v' : List Value} (h : Hld w0 m w)
    (gi : ops[i]? = some oi) (gj : ops[j]? = some oj) (gk : ops[k]? = some ok) (gl : ops[l]? = some ol) (hij : i ≠ j)
    (r1 : Region.ready md ops L = [i, j]) (r2 : Region.ready md ops (L.setIfInBounds i true) = [j]) (r3 : Region.ready md ops (L.setIfInBounds j true) = [i]) (r4 : Region.ready md ops ((L.setIfInBounds i true).setIfInBounds j true) = [k])
    (r5 : Region.ready md ops (((L.setIfInBounds i true).setIfInBounds j true).setIfInBounds k true) = [l]) (r6 : Region.ready md ops ((((L.setIfInBounds i true).setIfInBounds j true).setIfInBounds k true).setIfInBounds l true) = [])
    (ni : oi.guard = none) (nj : oj.guard = none) (nk : ok.guard = none) (nl : ol.guard = none) (ei : oi.op = .alloc t) (ej : oj.op = .alloc t') (ek : ok.op = .store ty (.tmp di) (.tmp x)) (el : ol.op = .store ty' (.tmp dj) (.tmp y))
    (si : oi.dst = some di) (sj : oj.dst = some dj) (sk : ok.dst = none) (sl : ol.dst = none) (hx : a.eval (.tmp x) = .agg v.toArray) (hy : a.eval (.tmp y) = .agg v'.toArray)
    (hd : di ≠ dj ∧ di ≠ x ∧ di ≠ y ∧ dj ≠ x ∧ dj ≠ y) (hli : di < a.tmps.size) (hlj : dj < a.tmps.size)
    (hz : (P.info? t).map (fun i => (i.zero, i.size)) = some (some (.agg z.toArray), z.length)) (hz' : (P.info? t').map (fun i => (i.zero, i.size)) = some (some (.agg z'.toArray), z'.length))
    (q : TyRow P ty v.length) (q' : TyRow P ty' v'.length) (hl : z.length = v.length) (hl' : z'.length = v'.length) (h1 : Single v) (h1' : Single v')
    (hQ : ∀ b b' w', Hld w0 (m ++ [⟨b, t, v⟩, ⟨b', t', v'⟩]) w' → Q .normal ((a.put (some di) (.pointer (some ⟨b, 0, none⟩))).put (some dj) (.pointer (some ⟨b', 0, none⟩))) w') : wpAnyH P md ops Q (fun u => Hld w0 m u) 4 L a w := by
  obtain ⟨n1, n2, n3, n4, n5⟩ := hd
  have getP : ∀ (a : Act) (d : Nat) (v : Value) (x : Nat), d ≠ x → (a.put (some d) v).eval (.tmp x) = a.eval (.tmp x) := fun a d v x hn => by
    simp [Act.put, Act.eval, hn]
  have getS : ∀ (a : Act) (d : Nat) (v : Value), d < a.tmps.size → (a.put (some d) v).eval (.tmp d) = v := fun a d v hn => by
    simp [Act.put, Act.eval, hn]
  have szP : ∀ (a : Act) (d : Nat) (v : Value), (a.put (some d) v).tmps.size = a.tmps.size := fun a d v => by simp [Act.put]
  have e2 : ∀ A B : Blk, m ++ [A, B] = (m ++ [A]) ++ [B] := fun A B => by simp
  -- both are made
  have both : ∀ b b' w', Hld w0 (m ++ [⟨b, t, z⟩, ⟨b', t', z'⟩]) w' → wpAnyH P md ops Q (fun u => Hld w0 m u) 2 ((L.setIfInBounds i true).setIfInBounds j true) ((a.put (some di) (.pointer (some ⟨b, 0, none⟩))).put (some dj) (.pointer (some ⟨b', 0, none⟩))) w' := fun b b' w' hw => by
    refine wpAnyH_all r4 (by simp) (fun o ho => ?_)
    obtain rfl : o = k := by simpa using ho
    refine op_store hw (k := m.length) (op := ok) gk nk ek (b := b) (o := 0) (t := t) (v := z) (cs := v) (by rw [getP _ _ _ _ (Ne.symm n1)]; exact getS _ _ _ hli) (by rw [getP _ _ _ _ n4, getP _ _ _ _ n2]; exact hx) (by simp) (by omega) (lay_all hl) h1 q (fun w2 hw2 => ?_)
    rw [sk]
    have hw2 : Hld w0 (m ++ [⟨b, t, v⟩, ⟨b', t', z'⟩]) w2 := by simpa [List.set_append] using hw2
    refine ⟨hw2.front, wpAnyH_all r5 (by simp) (fun o ho => ?_)⟩
    obtain rfl : o = l := by simpa using ho
    refine op_store hw2 (k := m.length + 1) (op := ol) gl nl el (b := b') (o := 0) (t := t') (v := z') (cs := v') (getS _ _ _ (by rw [szP]; exact hlj)) (by rw [show ∀ a : Act, a.put none undef = a from fun _ => rfl, getP _ _ _ _ n5, getP _ _ _ _ n3]; exact hy) (by simp) (by omega) (lay_all hl') h1' q' (fun w3 hw3 => ?_)
    rw [sl]
    have hw3 : Hld w0 (m ++ [⟨b, t, v⟩, ⟨b', t', v'⟩]) w3 := by simpa [List.set_append] using hw3
    exact ⟨hw3.front, ⟨r6, hQ b b' w3 hw3⟩⟩
  refine wpAnyH_all r1 (by simp) (fun o ho => ?_)
  have ho' : o = i ∨ o = j := by simpa using ho
  rcases ho' with rfl | rfl
  · refine op_alloc h gi ni ei z hz (fun b w1 hw1 => ⟨hw1.front, ?_⟩)
    rw [si]
    refine wpAnyH_all r2 (by simp) (fun o' ho' => ?_)
    obtain rfl : o' = j := by simpa using ho'
    refine op_alloc hw1 gj nj ej z' hz' (fun b' w2 hw2 => ?_)
    rw [sj]
    rw [← e2] at hw2
    exact ⟨hw2.front, both b b' w2 hw2⟩
  · refine op_alloc h gj nj ej z' hz' (fun b' w1 hw1 => ⟨hw1.front, ?_⟩)
    rw [sj]
    refine wpAnyH_all r3 (by simp) (fun o' ho' => ?_)
    obtain rfl : o' = i := by simpa using ho'
    refine op_alloc hw1 gi ni ei z hz (fun b w2 hw2 => ?_)
    rw [si]
    rw [← e2] at hw2
    have hw2 := hw2.turn
    refine ⟨hw2.front, ?_⟩
    rw [Act.put_comm a _ _ (fun d e e' => n1 (by cases e; cases e'; rfl)), Array.setIfInBounds_comm _ _ (Ne.symm hij)]
    exact both b b' w2 hw2

/-- 'copy' of a text into a block of bytes, from its head on. -/
theorem run_copyText (h : Hld w0 m w) (i : Nat) {b L C : Nat} {dT sT ty elem t : TypeId} {v : List Value} {s : ByteArray} (hi : m[i]? = some ⟨b, t, v⟩) (hu : P.underlying dT = some (.slice elem)) (hz : ∀ w, (Go.sizeOf elem).run P w = .ok 1 w) (hl : min s.size L ≤ v.length) :
    (Builtin.copy_ #[dT, sT] ty #[.slice (some ⟨b, 0, none⟩) L C, .string s]).run P w = .ok (goInt (min s.size L : Nat)) (w.setCells b 0 ((bytesV s.data.toList).take (min s.size L))) := by
  have hth := h.there i hi 0 (min s.size L) (by rw [Nat.zero_add]; exact hl)
  have hsz : (bytesV s.data.toList).length = s.size := by rw [bytesV_length]; rfl
  have hcl : ((bytesV s.data.toList).take (min s.size L)).length = min s.size L := by rw [List.length_take, hsz]; omega
  have hst := run_storeCells_cells (P := P) b 0 ((bytesV s.data.toList).take (min s.size L)) 0 w (by rw [hcl]; intro j hj; simpa using (hth j hj).1) (by rw [hcl]; intro j hj; simpa using (hth j hj).2) (by
    intro x hx
    obtain ⟨y, -, rfl⟩ := List.mem_map.1 (List.mem_of_mem_take hx)
    rfl)
  rw [Nat.zero_add] at hst
  have hst' : (storeCells ⟨b, 0, none⟩ (List.take (s.size.min L) (List.map (fun b => Value.int .u8 (b.toNat : Int)) s.data.toList))).run P w = .ok () (w.setCells b 0 ((bytesV s.data.toList).take (min s.size L))) := hst
  simp [Builtin.copy_, run_underlying hu, Builtin.lenOf, Builtin.firstCells, hz, hst']
theorem copyText (h : Hld w0 m w) (i : Nat) {b L C : Nat} {dT sT elem t : TypeId} {v : List Value} {s : ByteArray} {d x : Operand} (hg : op.guard = none) (ho : op.op = .call { callee := .builtin .copy, args := #[d, x], argTypes := #[dT, sT] }) (hd : a.eval d = .slice (some ⟨b, 0, none⟩) L C) (hx : a.eval x = .string s)
    (hi : m[i]? = some ⟨b, t, v⟩) (hu : P.underlying dT = some (.slice elem)) (hz : ∀ w, (Go.sizeOf elem).run P w = .ok 1 w) (hl : min s.size L ≤ v.length)
    (hk : ∀ w', Hld w0 (m.set i ⟨b, t, lay v 0 ((bytesV s.data.toList).take (min s.size L))⟩) w' → wpList P ops Q rest (a.put op.dst (goInt (min s.size L : Nat))) w') : wpList P ops Q (op :: rest) a w := by
  refine wpList_plain hg fun K hK => ?_
  have hrun := run_copyText (P := P) (dT := dT) (sT := sT) (ty := op.type) (C := C) h i hi hu hz hl
  unfold Oper.wp
  simp [execOp, ho, resolve, invoke, builtin, hd, hx, hrun, Result.andThen]
  exact hK _ _ (hk _ (h.set i hi 0 _))

/-- A number is one cell. -/
theorem cell_int (k : IntKind) (n : Int) : (Value.int k n).cells = #[Value.int k n] ∧ (Value.int k n).oneCell' = true := ⟨rfl, rfl⟩
/-- A type of one cell. -/
def TyCell (P : Program) (ty : TypeId) : Prop := ∃ d, P.underlying ty = some d ∧ d.isRow = false ∧ (P.info? ty).map (·.size) = some 1
theorem load1_run (h : Hld w0 m w) (i : Nat) {b o : Nat} {t ty : TypeId} {v : List Value} {c : Value} {x : Operand} (ho : op.op = .load ty x) (hx : a.eval x = .pointer (some ⟨b, o, none⟩)) (hi : m[i]? = some ⟨b, t, v⟩) (hc : v[o]? = some c) (hr : TyCell P ty) :
    (execOp a.eval op).run P w = .ok (.value c) w := by
  obtain ⟨d, hu, hd, hs⟩ := hr
  have hcell : w.cell? ⟨b, o, none⟩ = some c := (h.at i hi).row.cell hc
  have hagg : (isAgg ty).run P w = .ok false w := by
    unfold isAgg
    rw [Sem.run_bind, run_underlying hu w]
    cases d <;> simp_all
  unfold execOp
  simp [ho, hx, Instr.loadAt, Instr.sureAddr, Sem.run_bind, loadVar, hagg, hcell]
theorem load1 (h : Hld w0 m w) (i : Nat) {b o : Nat} {t ty : TypeId} {v : List Value} {c : Value} {x : Operand} (hg : op.guard = none) (ho : op.op = .load ty x) (hx : a.eval x = .pointer (some ⟨b, o, none⟩)) (hi : m[i]? = some ⟨b, t, v⟩) (hc : v[o]? = some c) (hr : TyCell P ty)
    (hk : wpList P ops Q rest (a.put op.dst c) w) : wpList P ops Q (op :: rest) a w := by
  refine wpList_plain hg fun K hK => ?_
  unfold Oper.wp
  rw [load1_run h i ho hx hi hc hr]
  exact hK _ _ hk
theorem store1 (h : Hld w0 m w) (i : Nat) {b o : Nat} {t ty : TypeId} {v v' : List Value} {c : Value} {x y : Operand} (hg : op.guard = none) (ho : op.op = .store ty x y) (hx : a.eval x = .pointer (some ⟨b, o, none⟩)) (hy : a.eval y = c) (hi : m[i]? = some ⟨b, t, v⟩) (hl : o < v.length) (hv : v.set o c = v') (h1 : c.cells = #[c] ∧ c.oneCell' = true) (hr : TyCell P ty)
    (hk : ∀ w', Hld w0 (m.set i ⟨b, t, v'⟩) w' → wpList P ops Q rest (a.put op.dst undef) w') : wpList P ops Q (op :: rest) a w := by
  obtain ⟨d, hu, hd, hs⟩ := hr
  subst hv
  have hth := h.there i hi o 1 (by show o + 1 ≤ v.length; omega)
  have hst := run_storeCells_cells (P := P) b o [c] 0 w (by intro j hj; simpa using (hth j (by simpa using hj)).1) (by intro j hj; simpa using (hth j (by simpa using hj)).2) (by
    intro z hz
    obtain rfl := List.mem_singleton.1 hz
    exact h1.2)
  rw [Nat.add_zero] at hst
  have hrun : (storeVar ty ⟨b, o, none⟩ c).run P w = .ok () (w.setCells b o [c]) := by
    cases hq : P.info? ty with
    | none => simp [hq] at hs
    | some i =>
      have hs1 : i.size = 1 := by simpa [hq] using hs
      simp [storeVar, sizeOf, typeInfo, hq, h1.1, hs1, hst]
  refine wpList_plain hg fun K hK => ?_
  unfold Oper.wp execOp
  simp only [ho, hx, hy, Instr.storeAt, Instr.sureAddr, Sem.run_bind, Sem.run_pure, Result.andThen_ok, hrun]
  exact hK _ _ (hk _ (h.set i hi o [c]))
end
end Go.Proofs.YtedgpglldlohfaaDoor.Hold

namespace Go.Proofs.YtedgpglldlohfaaDoor.Hold
open Go Go.RowKit Mur

section
variable {P : Program} {ops : Array Oper} {rest : List Oper} {op : Oper} {a : Act} {w w0 : World} {m : List Blk} {Q : Exit → Act → World → Prop}
theorem resultsCT {fn : Func} {p q b : Nat} {ty t : TypeId} {v : List Value} {c : Value} (h : Hld w0 m w) (i : Nat) (hf : fn.results = #[.cell p ty, .tmp q]) (tmps : Array Value) (hp : tmps.getD p undef = .pointer (some ⟨b, 0, none⟩)) (hq : tmps.getD q undef = c) (hi : m[i]? = some ⟨b, t, v⟩) (hr : TyRow P ty v.length) :
    (results fn tmps).run P w = .ok (.tuple #[.agg v.toArray, c]) w := by
  obtain ⟨d, hu, hd, hs⟩ := hr
  have hp' : tmps[p]?.getD undef = .pointer (some ⟨b, 0, none⟩) := by simpa using hp
  have hq' : tmps[q]?.getD undef = c := by simpa using hq
  simp [results, hf, hp', hq', asAddr, run_loadVar_mid w b 0 ty v d (h.range i hi (Part.all v)) hu hd hs]
/-- A slice is made. -/
theorem make (h : Hld w0 m w) {t e : TypeId} {x y : Operand} {n : Nat} {cs : List Value} {vx vy : Value} (hg : op.guard = none) (ho : op.op = .makeSlice t x y) (hx : a.eval x = vx) (hy : a.eval y = vy)
    (hrun : ∀ u : World, (Instr.makeSlice t vx vy).run P u = .ok (.slice (some ⟨u.heap.size, 0, none⟩) n n) (u.alloc (.cells cs.toArray e)))
    (hk : ∀ b w', Hld w0 (m ++ [⟨b, e, cs⟩]) w' → wpList P ops Q rest (a.put op.dst (.slice (some ⟨b, 0, none⟩) n n)) w') : wpList P ops Q (op :: rest) a w := by
  refine wpList_plain hg fun K hK => ?_
  unfold Oper.wp execOp
  simp only [ho, hx, hy, Sem.run_bind, hrun, Result.andThen_ok]
  exact hK _ _ (hk _ _ (h.add e cs))
end
end Go.Proofs.YtedgpglldlohfaaDoor.Hold

namespace Go.Proofs.YtedgpglldlohfaaDoor.Reg
open Go.RowKit

section
variable {P : Program} {ops : Array Oper} {Q : Exit → Act → World → Prop} {md : Region.Mode}

theorem wanted_free {o : Oper} (hg : o.guard = none) (y : Nat → Option Bool) : Region.wanted o y = true := by simp [Region.wanted, hg]

theorem only {i fuel : Nat} {o : Oper} {listed : Array Bool} {a : Act} {w : World} (ho : ops[i]? = some o) (hg : o.guard = none) (hr : Region.ready md ops listed = [i])
    (h : ∀ K : Act → World → Prop, (∀ a w, wpAny P md ops Q fuel (listed.setIfInBounds i true) a w → K a w) → Oper.wp P o a w K Q) : wpAny P md ops Q (fuel + 1) listed a w := by
  refine wpAny_all hr (by simp) (fun j hj => ?_)
  obtain rfl : j = i := by simpa using hj
  unfold wpOp
  simp only [ho]
  rw [if_pos (by simp [Region.wanted, hg])]
  exact .inl (h _ fun _ _ h => h)

/-- The operations 'is' come up together, whichever of them has been taken. -/
def together (md : Region.Mode) (ops : Array Oper) : Nat → Array Bool → List Nat → Bool
  | 0, _, is => is.isEmpty
  | f + 1, listed, is => is.isEmpty || ((Region.ready md ops listed == is) && is.all fun i => together md ops f (listed.setIfInBounds i true) (is.erase i))

/-- They look at nothing that another of them makes. -/
def apartB (ops : Array Oper) (is : List Nat) : Bool := is.all fun i => is.all fun j => i == j || (match ops[i]?, ops[j]? with | some x, some y => x.apart ops y | _, _ => false)
/-- None is guarded, none is a select. -/
def plainB (ops : Array Oper) (is : List Nat) : Bool := is.all fun i => match ops[i]? with | some x => x.guard.isNone && (match x.op with | .select _ _ => false | _ => true) | none => false

theorem reads (val : Nat → Option Tmp × Value) {fuel : Nat} {w : World} : ∀ (n : Nat) (is : List Nat) (listed : Array Bool) (a : Act), is.length = n → is.Nodup → together md ops n listed is = true → plainB ops is = true → apartB ops is = true →
    (∀ i ∈ is, ∃ o, ops[i]? = some o ∧ o.dst = (val i).1 ∧ (execOp a.eval o).run P w = .ok (.value (val i).2) w) →
    wpAny P md ops Q fuel (is.foldl (fun l i => l.setIfInBounds i true) listed) (is.foldl (fun b i => b.put (val i).1 (val i).2) a) w →
    wpAny P md ops Q (fuel + n) listed a w := by
  intro n
  induction n with
  | zero =>
    intro is listed a hn _ _ _ _ _ h
    obtain rfl := List.eq_nil_of_length_eq_zero hn
    exact h
  | succ n ih =>
    intro is listed a hn hnd ht hpl hap hy h
    have hne : is ≠ [] := by rintro rfl; cases hn
    have ht' : Region.ready md ops listed = is ∧ ∀ i ∈ is, together md ops n (listed.setIfInBounds i true) (is.erase i) = true := by
      simp only [together, Bool.or_eq_true, Bool.and_eq_true, beq_iff_eq, List.all_eq_true, List.isEmpty_iff] at ht
      exact ht.resolve_left hne
    have ap : ∀ i ∈ is, ∀ j ∈ is, i ≠ j → ∀ x y, ops[i]? = some x → ops[j]? = some y → x.apart ops y = true := fun i hi j hj hij x y hx hy' => by
      have := List.all_eq_true.1 (List.all_eq_true.1 hap i hi) j hj
      simpa [hx, hy', hij] using this
    have pl : ∀ i ∈ is, ∀ x, ops[i]? = some x → x.guard = none ∧ ∀ cs b, x.op ≠ .select cs b := fun i hi x hx => by
      have := List.all_eq_true.1 hpl i hi
      simp only [hx, Bool.and_eq_true, Option.isNone_iff_eq_none] at this
      refine ⟨this.1, fun cs b e => ?_⟩
      have h2 := this.2
      rw [e] at h2
      cases h2
    show wpAny P md ops Q ((fuel + n) + 1) listed a w
    refine wpAny_all ht'.1 hne (fun i hi => ?_)
    obtain ⟨o, h1, hd, h4⟩ := hy i hi
    unfold wpOp
    simp only [h1]
    rw [if_pos (by simp [Region.wanted, (pl i hi o h1).1])]
    refine .inl ?_
    unfold Oper.wp
    rw [h4]
    simp only [Oper.upon]
    refine ih (is.erase i) _ _ (by rw [List.length_erase_of_mem hi, hn]; rfl) (hnd.erase i) (ht'.2 i hi) ?_ ?_ (fun j hj => ?_) ?_
    · exact List.all_eq_true.2 fun j hj => List.all_eq_true.1 hpl j (List.mem_of_mem_erase hj)
    · exact List.all_eq_true.2 fun j hj => List.all_eq_true.2 fun k hk => List.all_eq_true.1 (List.all_eq_true.1 hap j (List.mem_of_mem_erase hj)) k (List.mem_of_mem_erase hk)
    · have hji : j ≠ i := fun e => by
        subst e
        exact (hnd.not_mem_erase) hj
      obtain ⟨x, g1, gd, g4⟩ := hy j (List.mem_of_mem_erase hj)
      refine ⟨x, g1, gd, ?_⟩
      rw [execOp_put (ops := ops) x (pl j (List.mem_of_mem_erase hj) x g1).2 a o.dst (val i).2 (Oper.apart_spec (ap i hi j (List.mem_of_mem_erase hj) hji.symm o x h1 g1)).1]
      exact g4
    · have hp : is.Perm (i :: is.erase i) := List.perm_cons_erase hi
      have e1 : is.foldl (fun l i => l.setIfInBounds i true) listed = (is.erase i).foldl (fun l i => l.setIfInBounds i true) (listed.setIfInBounds i true) := by
        refine (hp.foldl_eq' (fun x _ y _ z => ?_) listed).trans rfl
        by_cases e : x = y
        · rw [e]
        · rw [Array.setIfInBounds_comm _ _ e]
      have e2 : is.foldl (fun b i => b.put (val i).1 (val i).2) a = (is.erase i).foldl (fun b i => b.put (val i).1 (val i).2) (a.put (val i).1 (val i).2) := by
        refine (hp.foldl_eq' (fun x hx y hy' z => ?_) a).trans rfl
        by_cases e : x = y
        · rw [e]
        · obtain ⟨ox, gx, dx, -⟩ := hy x hx
          obtain ⟨oy, gy, dy, -⟩ := hy y hy'
          rw [← dx, ← dy]
          exact Act.put_comm z _ _ (Oper.apart_spec (ap x hx y hy' e ox oy gx gy)).2.1
      rw [e1, e2, ← hd] at h
      exact h
end
end Go.Proofs.YtedgpglldlohfaaDoor.Reg
