/-
  Several texts as one (Rec, HoldK, Bkl, Bkm, BkR). Slices of records (structs whose parts are single cells), whatever the record: as they are read, cut, made, copied, and rows that a call has made itself, with appends to them. Nothing here speaks of a program: no condition but those that each lemma names. More of the calculus of blocks: a new block and a store that tell what else of memory is as it was. Nothing here speaks of a program: no condition but those that each lemma names. A book's cells and signatures in the real mode, and once more in the ideal one with what was used as its tape (chapter 16): plain mathematics. Conditions: no cell that is asked for has a signature's name; signatures have one length, at most 6000. The plain mathematics of package book (chapter 16), for the shape of two bytes and two leaves: cells, signatures, checks, orders and lifted books; what is signed is taken (P16.8). Nothing here speaks of a program: no condition but those that each lemma names. A book (chapter 16) in memory: eleven cells, seven of them slices, each read where it lies; the shape of the statements. Conditions: those that each lemma names.
-/
import Derived.Test.YtolmfimpaofefaaGreatDoorMWk
import Derived.Deep.Upon
import Derived.Laws.AppendOwn
import Derived.Laws.MakeOwn
import Derived.Laws.CopyOwn
import Derived.Test.YtolmfimpaofefaaGreatDoorMTap
import Derived.Test.YtolmfimpaofefaaGreatDoorMKed
namespace Go.Proofs.YtolmfimpaofefaaGreatDoor.Rec
open Go.RowKit Mur

/-- A kind of record: its slice's type T, its own type E, how many cells and bytes it has, its zero, and its cells. -/
structure Kind (P : Program) (T E : TypeId) (sz bytes : Nat) (z : List Value) {α : Type} (f : α → List Value) : Prop where
  und : P.underlying T = some (.slice E)
  info : (P.info? E).map (fun i => (i.zero, i.size, i.bytes)) = some (some (.agg z.toArray), sz, bytes)
  zlen : z.length = sz
  pos : 0 < sz
  few : bytes ≤ 1000
  len : ∀ x, (f x).length = sz
  one : ∀ x, ∀ u ∈ f x, u.oneCell' = true

def rowV {α : Type} (f : α → List Value) (l : List α) : List Value := l.flatMap f
/-- A slice of records as it is read. -/
def RecR {α : Type} (sz : Nat) (f : α → List Value) (w : World) (a : Option Addr) (l : List α) : Prop :=
  l.length ≠ 0 → ∃ b o, a = some ⟨b, o, none⟩ ∧ b < w.heap.size ∧ ∀ i x, l[i]? = some x → ∀ j u, (f x)[j]? = some u → w.cell? ⟨b, o + i * sz + j, none⟩ = some u
/-- Where what is behind place k begins. -/
def behindA (sz : Nat) (a : Option Addr) (c k : Nat) : Option Addr := if c = k then a else a.map (·.add (k * sz))

section
variable {α : Type} {sz : Nat} {f : α → List Value}
theorem rowV_append (l m : List α) : rowV f (l ++ m) = rowV f l ++ rowV f m := by simp [rowV]
theorem rowV_length (hf : ∀ x, (f x).length = sz) (l : List α) : (rowV f l).length = l.length * sz := by
  induction l with
  | nil => simp [rowV]
  | cons x l ih =>
    have e : rowV f (x :: l) = f x ++ rowV f l := rfl
    rw [e, List.length_append, hf, ih, List.length_cons, Nat.add_mul]
    omega
theorem rowV_at (hf : ∀ x, (f x).length = sz) (l : List α) (i : Nat) (x : α) (h : l[i]? = some x) (j : Nat) (hj : j < sz) : (rowV f l)[i * sz + j]? = (f x)[j]? := by
  induction l generalizing i with
  | nil => simp at h
  | cons y l ih =>
    have e : rowV f (y :: l) = f y ++ rowV f l := rfl
    rw [e]
    cases i with
    | zero =>
      simp at h
      subst h
      rw [Nat.zero_mul, Nat.zero_add, List.getElem?_append_left (by rw [hf]; exact hj)]
    | succ i =>
      have e2 : (i + 1) * sz = i * sz + sz := Nat.succ_mul i sz
      rw [e2, List.getElem?_append_right (by rw [hf]; omega), hf, show i * sz + sz + j - sz = i * sz + j by omega]
      exact ih i (by simpa using h)
theorem rowV_ones (hf : ∀ x, ∀ u ∈ f x, u.oneCell' = true) (l : List α) : ∀ u ∈ rowV f l, u.oneCell' = true := fun u hu => by
  simp only [rowV, List.mem_flatMap] at hu
  obtain ⟨x, _, hx⟩ := hu
  exact hf x u hx
theorem RecR.none (w : World) (a : Option Addr) : RecR sz f w a [] := fun h => absurd rfl h
theorem RecR.below {w w' : World} {a : Option Addr} {l : List α} (h : RecR sz f w a l) (k : Below w.heap.size w w') : RecR sz f w' a l := fun hl => by
  obtain ⟨b, o, ha, hb, hc⟩ := h hl
  exact ⟨b, o, ha, Nat.lt_of_lt_of_le hb k.size, fun i x hx j u hu => (k.cell (p := ⟨b, o + i * sz + j, Option.none⟩) hb).trans (hc i x hx j u hu)⟩
theorem RecR.take {w : World} {a : Option Addr} {l : List α} (h : RecR sz f w a l) (k : Nat) : RecR sz f w a (l.take k) := fun h0 => by
  obtain ⟨b, o, ha, hb, hc⟩ := h (fun e => h0 (by rw [List.length_take, e]; simp))
  exact ⟨b, o, ha, hb, fun i x hx => hc i x (by rw [List.getElem?_take] at hx; split at hx; exact hx; cases hx)⟩
theorem RecR.drop {w : World} {a : Option Addr} {l : List α} {c : Nat} (h : RecR sz f w a l) (hc : l.length ≤ c) (k : Nat) : RecR sz f w (behindA sz a c k) (l.drop k) := fun h0 => by
  rw [List.length_drop] at h0
  obtain ⟨b, o, rfl, hb, hcl⟩ := h (by omega)
  refine ⟨b, o + k * sz, ?_, hb, fun i x hx j u hu => ?_⟩
  · rw [behindA, if_neg (by omega)]
    show some ((⟨b, o, Option.none⟩ : Addr).add (k * sz)) = _
    rw [Go.WideShapes.add_plain]
  · rw [List.getElem?_drop] at hx
    have := hcl (k + i) x hx j u hu
    rw [show o + k * sz + i * sz + j = o + (k + i) * sz + j by rw [Nat.add_mul]; omega]
    exact this
/-- All cells of such a slice. -/
theorem RecR.cells {w : World} {a : Option Addr} {l : List α} (h : RecR sz f w a l) (hf : ∀ x, (f x).length = sz) (hp : 0 < sz) (hl : l.length ≠ 0) : ∃ b o, a = some ⟨b, o, Option.none⟩ ∧ b < w.heap.size ∧ ∀ k u, (rowV f l)[k]? = some u → w.cell? ⟨b, o + k, Option.none⟩ = some u := by
  obtain ⟨b, o, ha, hb, hc⟩ := h hl
  refine ⟨b, o, ha, hb, fun k u hu => ?_⟩
  have hk : k < l.length * sz := by rw [← rowV_length hf]; exact (List.getElem?_eq_some_iff.1 hu).1
  have hd : k / sz < l.length := Nat.div_lt_of_lt_mul (by rw [Nat.mul_comm]; exact hk)
  have hm : k % sz < sz := Nat.mod_lt k hp
  have e : k / sz * sz + k % sz = k := by rw [Nat.mul_comm]; exact Nat.div_add_mod k sz
  obtain ⟨x, hx⟩ : ∃ x, l[k / sz]? = some x := ⟨_, List.getElem?_eq_getElem hd⟩
  have h1 := rowV_at hf l (k / sz) x hx (k % sz) hm
  rw [e, hu] at h1
  have h2 := hc (k / sz) x hx (k % sz) u h1.symm
  rw [Nat.add_assoc, e] at h2
  exact h2
/-- One record in a block of its own. -/
theorem RecR.new (W : World) (x : α) (t : TypeId) : RecR sz f (W.alloc (.cells (f x).toArray t)) (some ⟨W.heap.size, 0, Option.none⟩) [x] := fun _ => ⟨W.heap.size, 0, rfl, by simp, fun i y hy j u hu => by
  match i, hy with
  | 0, hy =>
    cases hy
    rw [World.cell?_alloc_new]
    simpa using hu⟩
theorem own_kept {w w' : World} {base n size : Nat} {e : TypeId} {v : Value} {xs : List Value} (h : w.ownsRow base e size v n xs) (hb : ∀ g, v.ownBlock = some g → w'.heap[g]? = w.heap[g]?) : w'.ownsRow base e size v n xs := by
  refine ⟨h.1, ?_⟩
  rcases h.2 with hn | ⟨g, cap, cur, rfl, h1, h2, h3⟩
  · exact .inl hn
  · exact .inr ⟨g, cap, cur, rfl, h1, by rw [hb g rfl]; exact h2, h3⟩
theorem own_below {w w' : World} {base n size : Nat} {e : TypeId} {v : Value} {xs : List Value} (h : w.ownsRow base e size v n xs) (hb : Below w.heap.size w w') : w'.ownsRow base e size v n xs :=
  own_kept h fun g hg => hb.block g (h.lt g hg).2
theorem own_mono {w : World} {base base' n size : Nat} {e : TypeId} {v : Value} {xs : List Value} (h : w.ownsRow base e size v n xs) (hb : base' ≤ base) : w.ownsRow base' e size v n xs := by
  refine ⟨h.1, ?_⟩
  rcases h.2 with hn | ⟨g, cap, cur, he, h1, h2⟩
  · exact .inl hn
  · exact .inr ⟨g, cap, cur, he, Nat.le_trans hb h1, h2⟩
theorem own_start (w : World) (base : Nat) (t : TypeId) : w.ownsRow base t sz (.slice Option.none 0 0) 0 (rowV f []) := ⟨by simp [rowV], .inl ⟨rfl, rfl⟩⟩
theorem own_empty (w : World) (base : Nat) (hb : base ≤ w.heap.size) (t : TypeId) : (w.alloc (.cells #[] t)).ownsRow base t sz (.slice (some ⟨w.heap.size, 0, Option.none⟩) 0 0) 0 (rowV f []) :=
  ⟨by simp [rowV], .inr ⟨w.heap.size, 0, #[], rfl, hb, _root_.Go.heap_alloc_new w _, Nat.le_refl _, by unfold maxLen; omega, by simp, by simp [rowV]⟩⟩
/-- What such a row is, as it is read. -/
theorem own_rec {w : World} {base n : Nat} {t : TypeId} {v : Value} {l : List α} (hf : ∀ x, (f x).length = sz) (hp : 0 < sz) (h : w.ownsRow base t sz v n (rowV f l)) : ∃ ao c, v = .slice ao n c ∧ n = l.length ∧ n ≤ c ∧ RecR sz f w ao l ∧ ∀ q, ao = some q → base ≤ q.block := by
  have hl := h.1
  rw [rowV_length hf] at hl
  have hn : n = l.length := (Nat.eq_of_mul_eq_mul_right hp hl).symm
  rcases h.2 with ⟨rfl, h2⟩ | ⟨g, cap, cur, rfl, h1, h2, h3, h4⟩
  · subst h2
    obtain rfl : l = [] := List.eq_nil_of_length_eq_zero hn.symm
    exact ⟨Option.none, 0, rfl, rfl, Nat.le_refl _, RecR.none w _, fun q hq => by cases hq⟩
  · refine ⟨some ⟨g, 0, Option.none⟩, cap, rfl, hn, h3, fun _ => ⟨g, 0, rfl, (Array.getElem?_eq_some_iff.1 h2).1, fun i x hx j u hu => ?_⟩, fun q hq => by cases hq; exact h1⟩
    have hj : j < sz := by rw [← hf x]; exact (List.getElem?_eq_some_iff.1 hu).1
    have hc := rowV_at hf l i x hx j hj
    rw [hu] at hc
    have hr := h.cells (g := g) rfl _ u hc
    rw [Go.WideShapes.add_plain] at hr
    rw [Nat.zero_add]
    rwa [Nat.zero_add] at hr
end

section
variable {P : Program} {T E : TypeId} {sz bytes : Nat} {z : List Value} {α : Type} {f : α → List Value}
theorem Kind.parts (K : Kind P T E sz bytes z f) : ∃ i0, P.info? E = some i0 ∧ i0.zero = some (.agg z.toArray) ∧ i0.size = sz ∧ i0.bytes = bytes := by
  have h := K.info
  cases hq : P.info? E with
  | none => rw [hq] at h; cases h
  | some i =>
    rw [hq] at h
    simp only [Option.map_some, Option.some.injEq, Prod.mk.injEq] at h
    exact ⟨i, rfl, h.1, h.2.1, h.2.2⟩
theorem Kind.size (K : Kind P T E sz bytes z f) (w : World) : (Go.sizeOf E).run P w = .ok sz w := by
  obtain ⟨i, hi, _, hs, _⟩ := K.parts
  simp [Go.sizeOf, typeInfo, hi, hs]
theorem Kind.elem (K : Kind P T E sz bytes z f) : P.elem T = E := by simp [Program.elem, K.und]
theorem Kind.und' (K : Kind P T E sz bytes z f) : P.underlying T = some (.slice (P.elem T)) := by rw [K.elem]; exact K.und
theorem Kind.zcells (K : Kind P T E sz bytes z f) (hz : (Value.agg z.toArray).cells = z.toArray) : (Value.agg z.toArray).cells.size = sz := by rw [hz, List.size_toArray, K.zlen]

theorem cut_to (K : Kind P T E sz bytes z f) (a : Option Addr) (n c k : Nat) (h : k ≤ c) (u : World) : (Instr.slice T (.slice a n c) none (some (.int .i64 (k : Int))) none).run P u = .ok (.slice a k c) u := by
  rw [run_slice_h u T a n c K.und' .i64 (k : Int) (by omega) (by omega), K.elem, K.size]
  have e : sliced a 0 k c sz = .slice a k c := by
    unfold sliced
    cases a with
    | none => simp
    | some x =>
      obtain ⟨b, o, sp⟩ := x
      simp [Addr.add]
  simp [Result.andThen, e]
theorem cut_from (K : Kind P T E sz bytes z f) (a : Option Addr) (n c k : Nat) (h : k ≤ n) (y : Int) (hy : y = (k : Int)) (u : World) : (Instr.slice T (.slice a n c) (some (.int .i64 y)) none none).run P u = .ok (.slice (behindA sz a c k) (n - k) (c - k)) u := by
  subst hy
  rw [run_slice_l u T a n c K.und' .i64 (k : Int) (by omega) (by omega), K.elem, K.size]
  have : ((k : Int)).toNat = k := by omega
  simp only [Result.andThen, sliced, this]
  rfl
/-- An append onto a row of one's own, of records that are read wherever they are. -/
theorem run_append_rec (K : Kind P T E sz bytes z f) (hz : (Value.agg z.toArray).cells = z.toArray) {W : World} {base n : Nat} {v : Value} {l news : List α} {ao : Option Addr} {m c : Nat} (ty : TypeId) (hown : W.ownsRow base E sz v n (rowV f l)) (hs : RecR sz f W ao news) (hm : news.length = m) (hn : n + m ≤ 1000000000) (hbase : base ≤ W.heap.size) :
    ∃ v' w', (Builtin.append_ #[T, T] ty #[v, .slice ao m c]).run P W = .ok v' w' ∧ w'.ownsRow base E sz v' (n + m) (rowV f (l ++ news)) ∧ W.grownBy w' v.ownBlock := by
  obtain ⟨i0, hi, hz0, hz1, hz2⟩ := K.parts
  have hbs : (n + m) * bytes ≤ 1000000000 * 1000 := Nat.mul_le_mul hn K.few
  subst hm
  by_cases h0 : news = []
  · subst h0
    obtain ⟨a, c', rfl, -, hle, -, -⟩ := own_rec K.len K.pos hown
    have hsrc : Src P i0.size T (.slice ao 0 c) 0 [] W := by
      cases ao with
      | none => exact Src.ofNil W K.und c
      | some a => exact Src.ofSlice W K.und a 0 c [] (by simp) (fun j u hu => by simp at hu) (fun u hu => by simp at hu)
    refine ⟨_, W, run_append_nothing W T T ty E i0 K.und hi a n c' hle _ hsrc, ?_, ⟨rfl, rfl, rfl, Nat.le_refl _, fun _ _ _ => rfl⟩⟩
    rw [List.append_nil]
    exact hown
  · have hne : news.length ≠ 0 := by intro e; exact h0 (List.eq_nil_of_length_eq_zero e)
    obtain ⟨b, o, rfl, _, hc⟩ := hs.cells K.len K.pos hne
    obtain ⟨v', w', hrun, r1, r2, _⟩ := run_append_own (P := P) W base T ty E i0 (.agg z.toArray) sz bytes K.und hi hz0 hz1 hz2 (K.zcells hz) K.pos v n (rowV f l) hown ⟨b, o, none⟩ news.length c (rowV f news) (rowV_length K.len news) (fun j u hu => by
      rw [Go.WideShapes.add_plain]
      exact hc j u hu) (rowV_ones K.one news) (by unfold maxLen; omega) (by omega) hbase
    rw [← rowV_append] at r1
    exact ⟨v', w', hrun, r1, r2⟩
theorem append_rec (K : Kind P T E sz bytes z f) (hz : (Value.agg z.toArray).cells = z.toArray) {ops : Array Oper} {rest : List Oper} {o : Oper} {a : Act} {W : World} {Q : Exit → Act → World → Prop} (hgd : o.guard = none) (s x : Operand)
    (ho : o.op = .call { callee := .builtin .append, args := #[s, x], argTypes := #[T, T] }) (base n : Nat) (v : Value) (l news : List α) (ao : Option Addr) (m c : Nat) (hs : a.eval s = v) (hx : a.eval x = .slice ao m c)
    (hown : W.ownsRow base E sz v n (rowV f l)) (hr : RecR sz f W ao news) (hm : news.length = m) (hn : n + m ≤ 1000000000) (hbase : base ≤ W.heap.size)
    (h : ∀ v' w', w'.ownsRow base E sz v' (n + m) (rowV f (l ++ news)) → W.grownBy w' v.ownBlock → wpList P ops Q rest (a.put o.dst v') w') : wpList P ops Q (o :: rest) a W := by
  refine wpList_plain hgd fun K' hK' => ?_
  obtain ⟨v', w', hrun, r1, r2⟩ := run_append_rec K hz (c := c) o.type hown hr hm hn hbase
  unfold Oper.wp
  simp [execOp, ho, resolve, invoke, builtin, hs, hx, hrun, Result.andThen]
  exact hK' _ _ (h v' w' r1 r2)
end
end Go.Proofs.YtolmfimpaofefaaGreatDoor.Rec

namespace Go.Proofs.YtolmfimpaofefaaGreatDoor.Hold
open Go Go.RowKit Mur

/-- Of memory that was there all is as it was, but for one block. -/
structure But (n : Nat) (w w' : World) : Prop where
  size : w.heap.size ≤ w'.heap.size
  block : ∀ k, k < w.heap.size → k ≠ n → w'.heap[k]? = w.heap[k]?
theorem But.cell {n : Nat} {w w' : World} (h : But n w w') {p : Addr} (hp : p.block < w.heap.size) (hn : p.block ≠ n) : w'.cell? p = w.cell? p := World.cell?_of_block (h.block _ hp hn)
theorem heap_sets : ∀ (cs : List Value) (w : World) (b o k : Nat), k ≠ b → (w.setCells b o cs).heap[k]? = w.heap[k]?
  | [], _, _, _, _, _ => rfl
  | x :: cs, w, b, o, k, h => by
    rw [World.setCells, heap_sets cs _ b (o + 1) k h]
    unfold World.setCell
    rw [Array.getElem?_modify, if_neg (fun e => h e.symm)]
theorem size_setsK : ∀ (cs : List Value) (w : World) (b o : Nat), (w.setCells b o cs).heap.size = w.heap.size
  | [], _, _, _ => rfl
  | x :: cs, w, b, o => by rw [World.setCells, size_setsK cs _ b (o + 1)]; simp
theorem but_sets (cs : List Value) (w : World) (b o : Nat) : But b w (w.setCells b o cs) := ⟨Nat.le_of_eq (size_setsK cs w b o).symm, fun k _ hn => heap_sets cs w b o k hn⟩

section
variable {P : Program} {ops : Array Oper} {rest : List Oper} {op : Oper} {a : Act} {w w0 : World} {m : List Blk} {Q : Exit → Act → World → Prop}
theorem wpList_want {o : Oper} (hw : Region.wanted o (yielded ops a.tmps) = true) (v : Value) (hr : (execOp a.eval o).run P w = .ok (.value v) w) (hk : wpList P ops Q rest (a.put o.dst v) w) : wpList P ops Q (o :: rest) a w := by
  refine wpList_step fun K hK => ?_
  rw [if_pos hw]
  unfold Oper.wp
  rw [hr]
  exact hK _ _ hk
theorem allocK (h : Hld w0 m w) {t : TypeId} (hg : op.guard = none) (ho : op.op = .alloc t) (z : List Value) (hz : (P.info? t).map (fun i => (i.zero, i.size)) = some (some (.agg z.toArray), z.length))
    (hk : ∀ b w', w.heap.size ≤ b → Below w.heap.size w w' → Hld w0 (m ++ [⟨b, t, z⟩]) w' → wpList P ops Q rest (a.put op.dst (.pointer (some ⟨b, 0, none⟩))) w') : wpList P ops Q (op :: rest) a w :=
  wpList_alloc_z hg t ho z hz (hk _ _ (Nat.le_refl _) ((Below.refl _ _).alloc (Nat.le_refl _) _) (h.add t z))
theorem boxK (h : Hld w0 m w) {t : TypeId} {x : Operand} {cs : List Value} (hg : op.guard = none) (ho : op.op = .box t x) (hx : a.eval x = .agg cs.toArray)
    (hk : ∀ b w', w.heap.size ≤ b → Below w.heap.size w w' → Hld w0 (m ++ [⟨b, t, cs⟩]) w' → wpList P ops Q rest (a.put op.dst (.pointer (some ⟨b, 0, none⟩))) w') : wpList P ops Q (op :: rest) a w := by
  refine wpList_plain hg fun K hK => ?_
  unfold Oper.wp execOp
  simp only [ho, hx, Sem.run_bind, Instr.box, newVar, newRow, run_newObj_alloc, Sem.run_pure, Result.andThen_ok, Value.cells]
  exact hK _ _ (hk _ _ (Nat.le_refl _) ((Below.refl _ _).alloc (Nat.le_refl _) _) (h.add t cs))
theorem storeK (h : Hld w0 m w) (i : Nat) {b o : Nat} {t ty : TypeId} {v cs v' : List Value} {x y : Operand} (hg : op.guard = none) (ho : op.op = .store ty x y) (hx : a.eval x = .pointer (some ⟨b, o, none⟩)) (hy : a.eval y = .agg cs.toArray) (hi : m[i]? = some ⟨b, t, v⟩) (hl : o + cs.length ≤ v.length) (hv : lay v o cs = v') (h1 : Single cs) (hr : TyRow P ty cs.length)
    (hk : ∀ w', But b w w' → Hld w0 (m.set i ⟨b, t, v'⟩) w' → wpList P ops Q rest (a.put op.dst undef) w') : wpList P ops Q (op :: rest) a w := by
  obtain ⟨d, hu, hd, hs⟩ := hr
  subst hv
  exact wpList_store_mid hg ty x y ho b o cs.toArray hx hy (by simpa using h.there i hi o cs.length hl) (by simpa using hs) h1 (hk _ (but_sets _ w b o) (by simpa using h.set i hi o cs))
end
end Go.Proofs.YtolmfimpaofefaaGreatDoor.Hold

namespace Go.Proofs.YtolmfimpaofefaaGreatDoor.Bkl
open Tap Prt
structure St where
  used : List C
  counts : List (List UInt8 × Nat)
  issued : List (List UInt8 × List UInt8 × List UInt8)
inductive Op where
  | cell (name : List UInt8)
  | sign (who msg : List UInt8)
def count : List (List UInt8 × Nat) → List UInt8 → Nat
  | [], _ => 0
  | c :: l, who => if c.1 = who then c.2 else count l who
def counted : List (List UInt8 × Nat) → List UInt8 → List (List UInt8 × Nat)
  | [], who => [(who, 1)]
  | c :: l, who => if c.1 = who then (c.1, c.2 + 1) :: l else c :: counted l who
def sigName (who : List UInt8) (n : Nat) : List UInt8 := joined ([115, 105, 103, 32] ++ who) [(n : Int)]
def add (l : List (List UInt8 × List UInt8 × List UInt8)) (x : List UInt8 × List UInt8 × List UInt8) : List (List UInt8 × List UInt8 × List UInt8) := if x ∈ l then l else l ++ [x]
/-- An answer: bytes, and whether there was an error. -/
abbrev Ans := List UInt8 × Bool
variable (D : List UInt8 → List UInt8) (S : List UInt8 → Nat → List UInt8 → List UInt8) (L : Nat) (U : List C)
def real (st : St) : Op → Ans × St
  | .cell n => match get st.used n with
    | some s => ((fit s 8, false), st)
    | none => ((fit (D n) 8, false), { st with used := put st.used n (fit (D n) 8) })
  | .sign who msg => if 2 ≤ count st.counts who then (([], true), st) else
    ((S who (count st.counts who) msg, false), ⟨put st.used (sigName who (count st.counts who)) (S who (count st.counts who) msg), counted st.counts who, add st.issued (who, msg, S who (count st.counts who) msg)⟩)
def cellI (n : List UInt8) (k : Nat) (used : List C) : List UInt8 × List C := match get used n with
  | some s => (fit s k, used)
  | none => (fit ((get U n).getD []) k, put used n (fit ((get U n).getD []) k))
def ideal (st : St) : Op → Ans × St
  | .cell n => (((cellI U n 8 st.used).1, false), { st with used := (cellI U n 8 st.used).2 })
  | .sign who msg => if 2 ≤ count st.counts who then (([], true), st) else
    (((cellI U (sigName who (count st.counts who)) L st.used).1, false), ⟨(cellI U (sigName who (count st.counts who)) L st.used).2, counted st.counts who, add st.issued (who, msg, (cellI U (sigName who (count st.counts who)) L st.used).1)⟩)
def Good (st : St) : Prop := ∀ who n s, get st.used (sigName who n) = some s → n < count st.counts who
def okOp : Op → Prop
  | .cell n => n.take 4 ≠ [115, 105, 103, 32]
  | .sign _ _ => True
def play (step : St → Op → Ans × St) (st : St) : List Op → List Ans × St
  | [] => ([], st)
  | op :: l => let r := step st op; let q := play step r.2 l; (r.1 :: q.1, q.2)
end Go.Proofs.YtolmfimpaofefaaGreatDoor.Bkl

namespace Go.Proofs.YtolmfimpaofefaaGreatDoor.Bkm
open Tap Bkl

abbrev Iss := List UInt8 × List UInt8 × List UInt8
/-- A book. -/
structure Bk where
  ideal : Bool
  seed : List UInt8
  cells : List C
  used : List C
  counts : List (List UInt8 × Nat)
  issued : List Iss
  taken : List Iss
  forged : List Iss
  missed : List Iss
def cellT : List UInt8 := [99, 101, 108, 108]
def signT : List UInt8 := [115, 105, 103, 110]
def publicT : List UInt8 := [112, 117, 98, 108, 105, 99, 32]
def newB (ideal : Bool) (seed : List UInt8) (l : List C) : Bk := ⟨ideal, seed, if ideal = true then l else [], [], [], [], [], [], []⟩
def many (n : Int) : Nat := (max 0 (min n 6000)).toNat
/-- What a cell that is not used yet has. -/
def freshS (b : Bk) (name : List UInt8) (n : Int) : List UInt8 := if b.ideal = true then fit ((get b.cells name).getD []) n else fit (Ked.derive b.seed (many n) [cellT, name]) n
def cellS (b : Bk) (name : List UInt8) (n : Int) : List UInt8 := match get b.used name with
  | some s => fit s n
  | none => freshS b name n
def cellB (b : Bk) (name : List UInt8) (n : Int) : Bk := match get b.used name with
  | some _ => b
  | none => { b with used := put b.used name (freshS b name n) }
def told (b : Bk) (x : Iss) (ok : Bool) : Bk :=
  { b with missed := if ok = true then b.missed else add b.missed x, forged := if ok = true ∧ x ∉ b.issued then add b.forged x else b.forged, taken := if ok = true then add b.taken x else b.taken }
def liftB (b : Bk) : Bk := ⟨true, [], b.used, [], [], [], [], [], []⟩

end Go.Proofs.YtolmfimpaofefaaGreatDoor.Bkm

namespace Go.Proofs.YtolmfimpaofefaaGreatDoor.Bkr
open Go.RowKit Mur Prt Lanes Tap Bkl Bkm Rec Cel
set_option maxRecDepth 100000
set_option linter.unusedSimpArgs false


def cntV (c : List UInt8 × Nat) : List Value := [.string (tx c.1), .int .i64 (c.2 : Int)]
def issV (x : Iss) : List Value := [.string (tx x.1), .string (tx x.2.1), .string (tx x.2.2)]
def numV (n : Nat) : List Value := [.int .i64 (n : Int)]
abbrev CntR (w : World) (a : Option Addr) (l : List (List UInt8 × Nat)) : Prop := RecR 2 cntV w a l
abbrev IssR (w : World) (a : Option Addr) (l : List Iss) : Prop := RecR 3 issV w a l
abbrev NumR (w : World) (a : Option Addr) (l : List Nat) : Prop := RecR 1 numV w a l

/-- A slice's value is told by an address, its list is read there, and lies in a block of which A says so. -/
def Lies {α : Type} (R : World → Option Addr → List α → Prop) (A : Nat → Prop) (w : World) (u : Option Value) (l : List α) : Prop :=
  ∃ a n c, u = some (.slice a n c) ∧ l.length = n ∧ n ≤ c ∧ R w a l ∧ (l.length ≠ 0 → ∀ q, a = some q → A q.block)
def CelRb (w : World) (a : Option Addr) (l : List C) : Prop := CelR w a (ofC l)
theorem celRb_low {w : World} {a : Option Addr} {l : List C} (h : CelRb w a l) (hl : l.length ≠ 0) (q : Addr) (hq : a = some q) : q.block < w.heap.size := by
  obtain ⟨b, o, ha, hb, _⟩ := h (by rw [ofC_length]; exact hl)
  rw [hq] at ha
  cases ha
  exact hb
theorem rec_low {α : Type} {sz : Nat} {f : α → List Value} {w : World} {a : Option Addr} {l : List α} (h : RecR sz f w a l) (hl : l.length ≠ 0) (q : Addr) (hq : a = some q) : q.block < w.heap.size := by
  obtain ⟨b, o, ha, hb, _⟩ := h hl
  rw [hq] at ha
  cases ha
  exact hb
theorem celRb_but {n : Nat} {w w' : World} (k : Hold.But n w w') {a : Option Addr} {l : List C} (h : CelRb w a l) (hn : l.length ≠ 0 → ∀ q, a = some q → q.block ≠ n) : CelRb w' a l := fun hl => by
  obtain ⟨b, o, ha, hb, hc⟩ := h hl
  have hne : b ≠ n := hn (by rwa [ofC_length] at hl) _ ha
  exact ⟨b, o, ha, Nat.lt_of_lt_of_le hb k.size, fun i x hx => ⟨(k.cell (p := ⟨b, o + i * 2, none⟩) hb hne).trans (hc i x hx).1, (k.cell (p := ⟨b, o + i * 2 + 1, none⟩) hb hne).trans (hc i x hx).2⟩⟩
theorem rec_but {α : Type} {sz : Nat} {f : α → List Value} {n : Nat} {w w' : World} (k : Hold.But n w w') {a : Option Addr} {l : List α} (h : RecR sz f w a l) (hn : l.length ≠ 0 → ∀ q, a = some q → q.block ≠ n) : RecR sz f w' a l := fun hl => by
  obtain ⟨b, o, ha, hb, hc⟩ := h hl
  have hne : b ≠ n := hn hl _ ha
  exact ⟨b, o, ha, Nat.lt_of_lt_of_le hb k.size, fun i x hx j u hu => (k.cell (p := ⟨b, o + i * sz + j, none⟩) hb hne).trans (hc i x hx j u hu)⟩
/-- A book as it lies in memory; its lists lie in blocks of which A says so. -/
structure BkR (w : World) (b : Bk) (v : List Value) (A : Nat → Prop) : Prop where
  len : v.length = 11
  one : Hold.Single v
  at0 : v[0]? = some (.bool b.ideal)
  at1 : v[1]? = some (.string (tx b.seed))
  at2 : v[2]? = some (.int .i64 2)
  at3 : v[3]? = some (.int .i64 1)
  at4 : Lies CelRb A w v[4]? b.cells
  at5 : Lies CelRb A w v[5]? b.used
  at6 : Lies CntR A w v[6]? b.counts
  at7 : Lies IssR A w v[7]? b.issued
  at8 : Lies IssR A w v[8]? b.taken
  at9 : Lies IssR A w v[9]? b.forged
  at10 : Lies IssR A w v[10]? b.missed
  names : ∀ c ∈ b.used, c.1.length ≤ 1000000
theorem Lies.to {α : Type} {R : World → Option Addr → List α → Prop} {A A' : Nat → Prop} {w w' : World} {u : Option Value} {l : List α} (h : Lies R A w u l) (hR : ∀ a, R w a l → (l.length ≠ 0 → ∀ q, a = some q → A q.block) → R w' a l) (hA : ∀ a, R w a l → l.length ≠ 0 → ∀ q, a = some q → A q.block → A' q.block) : Lies R A' w' u l := by
  obtain ⟨a, n, c, h1, h2, h3, h4, h5⟩ := h
  exact ⟨a, n, c, h1, h2, h3, hR a h4 h5, fun hl q hq => hA a h4 hl q hq (h5 hl q hq)⟩
theorem BkR.below {w w' : World} {b : Bk} {v : List Value} {A : Nat → Prop} (h : BkR w b v A) (k : Below w.heap.size w w') : BkR w' b v A :=
  ⟨h.len, h.one, h.at0, h.at1, h.at2, h.at3, h.at4.to (fun _ x _ => CelR.below x k) (fun _ _ _ _ _ x => x), h.at5.to (fun _ x _ => CelR.below x k) (fun _ _ _ _ _ x => x), h.at6.to (fun _ x _ => RecR.below x k) (fun _ _ _ _ _ x => x), h.at7.to (fun _ x _ => RecR.below x k) (fun _ _ _ _ _ x => x), h.at8.to (fun _ x _ => RecR.below x k) (fun _ _ _ _ _ x => x), h.at9.to (fun _ x _ => RecR.below x k) (fun _ _ _ _ _ x => x), h.at10.to (fun _ x _ => RecR.below x k) (fun _ _ _ _ _ x => x), h.names⟩
/-- Where lists lie may be told otherwise; each lies in a block that is there. -/
theorem BkR.mono {w : World} {b : Bk} {v : List Value} {A A' : Nat → Prop} (h : BkR w b v A) (hA : ∀ k, k < w.heap.size → A k → A' k) : BkR w b v A' :=
  ⟨h.len, h.one, h.at0, h.at1, h.at2, h.at3, h.at4.to (fun _ x _ => x) (fun _ x hl q hq y => hA _ (celRb_low x hl q hq) y), h.at5.to (fun _ x _ => x) (fun _ x hl q hq y => hA _ (celRb_low x hl q hq) y), h.at6.to (fun _ x _ => x) (fun _ x hl q hq y => hA _ (rec_low x hl q hq) y), h.at7.to (fun _ x _ => x) (fun _ x hl q hq y => hA _ (rec_low x hl q hq) y), h.at8.to (fun _ x _ => x) (fun _ x hl q hq y => hA _ (rec_low x hl q hq) y), h.at9.to (fun _ x _ => x) (fun _ x hl q hq y => hA _ (rec_low x hl q hq) y), h.at10.to (fun _ x _ => x) (fun _ x hl q hq y => hA _ (rec_low x hl q hq) y), h.names⟩
/-- A store into a block in which no list lies. -/
theorem BkR.but {w w' : World} {b : Bk} {v : List Value} {A : Nat → Prop} {n : Nat} (h : BkR w b v A) (k : Hold.But n w w') (hA : ∀ k, A k → k ≠ n) : BkR w' b v A :=
  ⟨h.len, h.one, h.at0, h.at1, h.at2, h.at3, h.at4.to (fun _ x y => celRb_but k x fun hl q hq => hA _ (y hl q hq)) (fun _ _ _ _ _ x => x), h.at5.to (fun _ x y => celRb_but k x fun hl q hq => hA _ (y hl q hq)) (fun _ _ _ _ _ x => x), h.at6.to (fun _ x y => rec_but k x fun hl q hq => hA _ (y hl q hq)) (fun _ _ _ _ _ x => x), h.at7.to (fun _ x y => rec_but k x fun hl q hq => hA _ (y hl q hq)) (fun _ _ _ _ _ x => x), h.at8.to (fun _ x y => rec_but k x fun hl q hq => hA _ (y hl q hq)) (fun _ _ _ _ _ x => x), h.at9.to (fun _ x y => rec_but k x fun hl q hq => hA _ (y hl q hq)) (fun _ _ _ _ _ x => x), h.at10.to (fun _ x y => rec_but k x fun hl q hq => hA _ (y hl q hq)) (fun _ _ _ _ _ x => x), h.names⟩
/-- Blocks that are held hold none of its lists. -/
def Off (m : List Hold.Blk) (k : Nat) : Prop := ∀ x ∈ m, x.n ≠ k
theorem off_snoc {m : List Hold.Blk} {x : Hold.Blk} {k : Nat} (h : Off m k) (hx : x.n ≠ k) : Off (m ++ [x]) k := fun y hy => by
  rcases List.mem_append.1 hy with hy | hy
  · exact h y hy
  · obtain rfl := List.mem_singleton.1 hy
    exact hx
/-- What a call answers lies in none of the blocks that are held. -/
theorem BkR.answered {w0 w w' : World} {m : List Hold.Blk} {b : Bk} {v : List Value} (h : BkR w' b v (fun k => Off m k ∨ w.heap.size ≤ k)) (hm : Hold.Hld w0 m w) : BkR w' b v (Off m) :=
  h.mono fun k _ hk => hk.elim id fun h1 x hx e => by
    have := (hm.whole x hx).lt
    omega
/-- A new block is none in which a list lies. -/
theorem BkR.alloc {w w' : World} {m : List Hold.Blk} {b : Bk} {v : List Value} {n : Nat} {t : TypeId} {z : List Value} (h : BkR w b v (Off m)) (hn : w.heap.size ≤ n) (k : Below w.heap.size w w') : BkR w' b v (Off (m ++ [⟨n, t, z⟩])) :=
  (h.mono (A' := Off (m ++ [⟨n, t, z⟩])) fun k hk ho => off_snoc ho (by show n ≠ k; omega)).below k
/-- A store into a block that is held. -/
theorem BkR.stored {w w' : World} {m : List Hold.Blk} {b : Bk} {v : List Value} {n i : Nat} {t : TypeId} {z z' : List Value} (h : BkR w b v (Off m)) (hi : m[i]? = some ⟨n, t, z⟩) (k : Hold.But n w w') : BkR w' b v (Off (m.set i ⟨n, t, z'⟩)) := by
  have h2 := h.but k fun j hj => fun e => hj _ (List.mem_of_getElem? hi) e.symm
  refine h2.mono fun j _ hj x hx => ?_
  rcases List.mem_or_eq_of_mem_set hx with hx | rfl
  · exact hj x hx
  · exact hj ⟨n, t, z⟩ (List.mem_of_getElem? hi)
def zeroBk : List Value := [.bool false, .string ⟨#[]⟩, .int .i64 0, .int .i64 0, .slice none 0 0, .slice none 0 0, .slice none 0 0, .slice none 0 0, .slice none 0 0, .slice none 0 0, .slice none 0 0]
theorem zero_len : zeroBk.length = 11 := rfl
theorem zero_bk : (Tryz.prog.info? 30).map (fun i => (i.zero, i.size)) = some (some (.agg zeroBk.toArray), zeroBk.length) := by kernel_rfl
theorem bkRow : Hold.TyRow Tryz.prog 30 11 := ⟨_, Tryz.underlying30, rfl, by kernel_rfl⟩
theorem bkRowOf {v : List Value} (h : v.length = 11) : Hold.TyRow Tryz.prog 30 v.length := by rw [h]; exact bkRow
theorem bkFits {v z : List Value} (h : v.length = 11) (k : z.length = 11) : 0 + v.length ≤ z.length := by omega
theorem bkLaid {v z : List Value} (h : v.length = 11) (k : z.length = 11) : Hold.lay z 0 v = v := Hold.lay_all (k.trans h.symm)
theorem cellI : Hold.TyCell Tryz.prog 28 := ⟨_, Tryz.underlying28, rfl, by kernel_rfl⟩
theorem cellC : Hold.TyCell Tryz.prog 22 := ⟨_, Tryz.underlying22, rfl, by kernel_rfl⟩

theorem eleven {v : List Value} (h : v.length = 11) : ∃ a b c d e f g i j k l, v = [a, b, c, d, e, f, g, i, j, k, l] := by
  match v, h with
  | [a, b, c, d, e, f, g, i, j, k, l], _ => exact ⟨a, b, c, d, e, f, g, i, j, k, l, rfl⟩
/-- A list of numbers that lies in none of the blocks that are held. -/
structure Num (w : World) (a : Option Addr) (l : List Nat) (m : List Hold.Blk) : Prop where
  read : NumR w a l
  off : l.length ≠ 0 → ∀ q, a = some q → Off m q.block
theorem Num.below {w w' : World} {a : Option Addr} {l : List Nat} {m : List Hold.Blk} (h : Num w a l m) (k : Below w.heap.size w w') : Num w' a l m := ⟨h.read.below k, h.off⟩
theorem Num.alloc {w w' : World} {a : Option Addr} {l : List Nat} {m : List Hold.Blk} {n : Nat} {t : TypeId} {z : List Value} (h : Num w a l m) (hn : w.heap.size ≤ n) (k : Below w.heap.size w w') : Num w' a l (m ++ [⟨n, t, z⟩]) :=
  ⟨h.read.below k, fun hl q hq => off_snoc (h.off hl q hq) (by have := rec_low h.read hl q hq; show n ≠ q.block; omega)⟩
theorem Num.stored {w w' : World} {a : Option Addr} {l : List Nat} {m : List Hold.Blk} {n i : Nat} {t : TypeId} {z z' : List Value} (h : Num w a l m) (hi : m[i]? = some ⟨n, t, z⟩) (k : Hold.But n w w') : Num w' a l (m.set i ⟨n, t, z'⟩) :=
  ⟨rec_but k h.read fun hl q hq e => h.off hl q hq _ (List.mem_of_getElem? hi) e.symm, fun hl q hq x hx => by
    rcases List.mem_or_eq_of_mem_set hx with hx | rfl
    · exact h.off hl q hq x hx
    · exact h.off hl q hq ⟨n, t, z⟩ (List.mem_of_getElem? hi)⟩
/-- The listed tables lie in their variables. -/
structure Laid (w : World) : Prop where
  consts : Sha.Consts w
  pow : Tape.Pow w
theorem Laid.below {w w' : World} (h : Laid w) (k : Below w.heap.size w w') : Laid w' := ⟨h.consts.below h.consts.1 k, h.pow.below k⟩

/-- How many of each a book may have. -/
structure Room (b : Bk) (m : Nat) : Prop where
  seed : b.seed.length ≤ 1000
  cells : b.cells.length ≤ m
  used : b.used.length ≤ m
  counts : b.counts.length ≤ m
  issued : b.issued.length ≤ m
  taken : b.taken.length ≤ m
  forged : b.forged.length ≤ m
  missed : b.missed.length ≤ m
theorem Room.more {b : Bk} {m n : Nat} (h : Room b m) (hn : m ≤ n) : Room b n :=
  ⟨h.seed, Nat.le_trans h.cells hn, Nat.le_trans h.used hn, Nat.le_trans h.counts hn, Nat.le_trans h.issued hn, Nat.le_trans h.taken hn, Nat.le_trans h.forged hn, Nat.le_trans h.missed hn⟩
theorem putF_length (n s : List UInt8) (d : Bool) (l : List C) : (putF n s d l).length ≤ l.length + 1 := by
  have h3 : ∀ d l, d = true → (putF n s d l).length ≤ l.length := by
    intro d l
    induction l generalizing d with
    | nil => intro h; subst h; simp [putF]
    | cons c l ih =>
      intro h
      subst h
      have := ih true rfl
      rw [RTap.putF_cons]
      split
      · rw [if_pos rfl, List.length_cons]; omega
      · rw [List.length_cons, List.length_cons]; omega
  induction l generalizing d with
  | nil => cases d <;> simp [putF]
  | cons c l ih =>
    have h1 := ih d
    rw [RTap.putF_cons]
    split
    · split
      · have := h3 true l rfl
        rw [List.length_cons]; omega
      · have := h3 true l rfl
        rw [List.length_cons, List.length_cons]
        omega
    · rw [List.length_cons, List.length_cons]
      omega
theorem put_length (l : List C) (n s : List UInt8) : (put l n s).length ≤ l.length + 1 := putF_length n s false l
theorem Room.new (ideal : Bool) (seed : List UInt8) (l : List C) (m : Nat) (hs : seed.length ≤ 1000) (hl : l.length ≤ m) : Room (newB ideal seed l) m := by
  refine ⟨hs, ?_, Nat.zero_le _, Nat.zero_le _, Nat.zero_le _, Nat.zero_le _, Nat.zero_le _, Nat.zero_le _⟩
  show (if ideal = true then l else []).length ≤ m
  split
  · exact hl
  · exact Nat.zero_le _
theorem Room.cell {b : Bk} {m : Nat} (h : Room b m) (name : List UInt8) (n : Int) : Room (cellB b name n) (m + 1) := by
  unfold cellB
  split
  · exact h.more (Nat.le_succ m)
  · have h2 := h.more (Nat.le_succ m)
    exact ⟨h2.seed, h2.cells, Nat.le_trans (put_length _ _ _) (Nat.succ_le_succ h.used), h2.counts, h2.issued, h2.taken, h2.forged, h2.missed⟩
end Go.Proofs.YtolmfimpaofefaaGreatDoor.Bkr
