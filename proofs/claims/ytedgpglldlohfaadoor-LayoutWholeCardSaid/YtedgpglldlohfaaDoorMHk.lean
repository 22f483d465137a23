/-
  Several texts as one (Rec, HoldK). Slices of records (structs whose parts are single cells), whatever the record: as they are read, cut, made, copied, and rows that a call has made itself, with appends to them. Nothing here speaks of a program: no condition but those that each lemma names. More of the calculus of blocks: a new block and a store that tell what else of memory is as it was. Nothing here speaks of a program: no condition but those that each lemma names.
-/
import Derived.Test.YtedgpglldlohfaaDoorMWk
import Derived.Deep.Upon
import Derived.Laws.AppendOwn
import Derived.Laws.MakeOwn
import Derived.Laws.CopyOwn
namespace Go.Proofs.YtedgpglldlohfaaDoor.Rec
open Go.RowKit Mur

/-- A kind of record: its slice's type T, its own type E, how many cells and bytes it has, its zero, and its cells. -/
structure Kind (P : Program) (T E : TypeId) (sz bytes : Nat) (z : List Value) {α : Type} (f : α → List Value) : Prop where
  und : P.underlying T = some (.slice E)
  info : (P.info? E).map (fun i => (i.zero, i.size, i.bytes)) = some (some (.agg z.toArray), sz, bytes)
  zlen : z.length = sz
  pos : 0 < sz
  few : bytes ≤ 1000
  len : ∀ x, (f x).length = sz
  one : ∀ x, ∀ u ∈ f x, u.oneCell' = true

def rowV {α : Type} (f : α → List Value) (l : List α) : List Value := l.flatMap f
/-- A slice of records as it is read. -/
def RecR {α : Type} (sz : Nat) (f : α → List Value) (w : World) (a : Option Addr) (l : List α) : Prop :=
  l.length ≠ 0 → ∃ b o, a = some ⟨b, o, none⟩ ∧ b < w.heap.size ∧ ∀ i x, l[i]? = some x → ∀ j u, (f x)[j]? = some u → w.cell? ⟨b, o + i * sz + j, none⟩ = some u
/-- Where what is behind place k begins. -/
def behindA (sz : Nat) (a : Option Addr) (c k : Nat) : Option Addr := if c = k then a else a.map (·.add (k * sz))

section
variable {α : Type} {sz : Nat} {f : α → List Value}
theorem rowV_nil : rowV f [] = [] := rfl
theorem rowV_append (l m : List α) : rowV f (l ++ m) = rowV f l ++ rowV f m := by simp [rowV]
theorem rowV_one_rec (x : α) : rowV f [x] = f x := by simp [rowV]
theorem rowV_length (hf : ∀ x, (f x).length = sz) (l : List α) : (rowV f l).length = l.length * sz := by
  induction l with
  | nil => simp [rowV]
  | cons x l ih =>
    have e : rowV f (x :: l) = f x ++ rowV f l := rfl
    rw [e, List.length_append, hf, ih, List.length_cons, Nat.add_mul]
    omega
theorem rowV_at (hf : ∀ x, (f x).length = sz) (l : List α) (i : Nat) (x : α) (h : l[i]? = some x) (j : Nat) (hj : j < sz) : (rowV f l)[i * sz + j]? = (f x)[j]? := by
  induction l generalizing i with
  | nil => simp at h
  | cons y l ih =>
    have e : rowV f (y :: l) = f y ++ rowV f l := rfl
    rw [e]
    cases i with
    | zero =>
      simp at h
      subst h
      rw [Nat.zero_mul, Nat.zero_add, List.getElem?_append_left (by rw [hf]; exact hj)]
    | succ i =>
      have e2 : (i + 1) * sz = i * sz + sz := Nat.succ_mul i sz
      rw [e2, List.getElem?_append_right (by rw [hf]; omega), hf, show i * sz + sz + j - sz = i * sz + j by omega]
      exact ih i (by simpa using h)
theorem rowV_ones (hf : ∀ x, ∀ u ∈ f x, u.oneCell' = true) (l : List α) : ∀ u ∈ rowV f l, u.oneCell' = true := fun u hu => by
  simp only [rowV, List.mem_flatMap] at hu
  obtain ⟨x, _, hx⟩ := hu
  exact hf x u hx
theorem RecR.none (w : World) (a : Option Addr) : RecR sz f w a [] := fun h => absurd rfl h
theorem RecR.below {w w' : World} {a : Option Addr} {l : List α} (h : RecR sz f w a l) (k : Below w.heap.size w w') : RecR sz f w' a l := fun hl => by
  obtain ⟨b, o, ha, hb, hc⟩ := h hl
  exact ⟨b, o, ha, Nat.lt_of_lt_of_le hb k.size, fun i x hx j u hu => (k.cell (p := ⟨b, o + i * sz + j, Option.none⟩) hb).trans (hc i x hx j u hu)⟩
theorem RecR.take {w : World} {a : Option Addr} {l : List α} (h : RecR sz f w a l) (k : Nat) : RecR sz f w a (l.take k) := fun h0 => by
  obtain ⟨b, o, ha, hb, hc⟩ := h (fun e => h0 (by rw [List.length_take, e]; simp))
  exact ⟨b, o, ha, hb, fun i x hx => hc i x (by rw [List.getElem?_take] at hx; split at hx; exact hx; cases hx)⟩
theorem RecR.drop {w : World} {a : Option Addr} {l : List α} {c : Nat} (h : RecR sz f w a l) (hc : l.length ≤ c) (k : Nat) : RecR sz f w (behindA sz a c k) (l.drop k) := fun h0 => by
  rw [List.length_drop] at h0
  obtain ⟨b, o, rfl, hb, hcl⟩ := h (by omega)
  refine ⟨b, o + k * sz, ?_, hb, fun i x hx j u hu => ?_⟩
  · rw [behindA, if_neg (by omega)]
    show some ((⟨b, o, Option.none⟩ : Addr).add (k * sz)) = _
    rw [Go.WideShapes.add_plain]
  · rw [List.getElem?_drop] at hx
    have := hcl (k + i) x hx j u hu
    rw [show o + k * sz + i * sz + j = o + (k + i) * sz + j by rw [Nat.add_mul]; omega]
    exact this
/-- All cells of such a slice. -/
theorem RecR.cells {w : World} {a : Option Addr} {l : List α} (h : RecR sz f w a l) (hf : ∀ x, (f x).length = sz) (hp : 0 < sz) (hl : l.length ≠ 0) : ∃ b o, a = some ⟨b, o, Option.none⟩ ∧ b < w.heap.size ∧ ∀ k u, (rowV f l)[k]? = some u → w.cell? ⟨b, o + k, Option.none⟩ = some u := by
  obtain ⟨b, o, ha, hb, hc⟩ := h hl
  refine ⟨b, o, ha, hb, fun k u hu => ?_⟩
  have hk : k < l.length * sz := by rw [← rowV_length hf]; exact (List.getElem?_eq_some_iff.1 hu).1
  have hd : k / sz < l.length := Nat.div_lt_of_lt_mul (by rw [Nat.mul_comm]; exact hk)
  have hm : k % sz < sz := Nat.mod_lt k hp
  have e : k / sz * sz + k % sz = k := by rw [Nat.mul_comm]; exact Nat.div_add_mod k sz
  obtain ⟨x, hx⟩ : ∃ x, l[k / sz]? = some x := ⟨_, List.getElem?_eq_getElem hd⟩
  have h1 := rowV_at hf l (k / sz) x hx (k % sz) hm
  rw [e, hu] at h1
  have h2 := hc (k / sz) x hx (k % sz) u h1.symm
  rw [Nat.add_assoc, e] at h2
  exact h2
/-- One record in a block of its own. -/
theorem RecR.new (W : World) (x : α) (t : TypeId) : RecR sz f (W.alloc (.cells (f x).toArray t)) (some ⟨W.heap.size, 0, Option.none⟩) [x] := fun _ => ⟨W.heap.size, 0, rfl, by simp, fun i y hy j u hu => by
  match i, hy with
  | 0, hy =>
    cases hy
    rw [World.cell?_alloc_new]
    simpa using hu⟩
theorem cell_alloc_new (W : World) (v : List Value) (t : TypeId) (j : Nat) (u : Value) (hu : v[j]? = some u) : (W.alloc (.cells v.toArray t)).cell? ⟨W.heap.size, j, Option.none⟩ = some u := by
  rw [World.cell?_alloc_new]
  simpa using hu

theorem own_kept {w w' : World} {base n size : Nat} {e : TypeId} {v : Value} {xs : List Value} (h : w.ownsRow base e size v n xs) (hb : ∀ g, v.ownBlock = some g → w'.heap[g]? = w.heap[g]?) : w'.ownsRow base e size v n xs := by
  refine ⟨h.1, ?_⟩
  rcases h.2 with hn | ⟨g, cap, cur, rfl, h1, h2, h3⟩
  · exact .inl hn
  · exact .inr ⟨g, cap, cur, rfl, h1, by rw [hb g rfl]; exact h2, h3⟩
theorem own_below {w w' : World} {base n size : Nat} {e : TypeId} {v : Value} {xs : List Value} (h : w.ownsRow base e size v n xs) (hb : Below w.heap.size w w') : w'.ownsRow base e size v n xs :=
  own_kept h fun g hg => hb.block g (h.lt g hg).2
theorem own_mono {w : World} {base base' n size : Nat} {e : TypeId} {v : Value} {xs : List Value} (h : w.ownsRow base e size v n xs) (hb : base' ≤ base) : w.ownsRow base' e size v n xs := by
  refine ⟨h.1, ?_⟩
  rcases h.2 with hn | ⟨g, cap, cur, he, h1, h2⟩
  · exact .inl hn
  · exact .inr ⟨g, cap, cur, he, Nat.le_trans hb h1, h2⟩
theorem own_start (w : World) (base : Nat) (t : TypeId) : w.ownsRow base t sz (.slice Option.none 0 0) 0 (rowV f []) := ⟨by simp [rowV], .inl ⟨rfl, rfl⟩⟩
theorem own_empty (w : World) (base : Nat) (hb : base ≤ w.heap.size) (t : TypeId) : (w.alloc (.cells #[] t)).ownsRow base t sz (.slice (some ⟨w.heap.size, 0, Option.none⟩) 0 0) 0 (rowV f []) :=
  ⟨by simp [rowV], .inr ⟨w.heap.size, 0, #[], rfl, hb, _root_.Go.heap_alloc_new w _, Nat.le_refl _, by unfold maxLen; omega, by simp, by simp [rowV]⟩⟩
/-- What such a row is, as it is read. -/
theorem own_rec {w : World} {base n : Nat} {t : TypeId} {v : Value} {l : List α} (hf : ∀ x, (f x).length = sz) (hp : 0 < sz) (h : w.ownsRow base t sz v n (rowV f l)) : ∃ ao c, v = .slice ao n c ∧ n = l.length ∧ n ≤ c ∧ RecR sz f w ao l ∧ ∀ q, ao = some q → base ≤ q.block := by
  have hl := h.1
  rw [rowV_length hf] at hl
  have hn : n = l.length := (Nat.eq_of_mul_eq_mul_right hp hl).symm
  rcases h.2 with ⟨rfl, h2⟩ | ⟨g, cap, cur, rfl, h1, h2, h3, h4⟩
  · subst h2
    obtain rfl : l = [] := List.eq_nil_of_length_eq_zero hn.symm
    exact ⟨Option.none, 0, rfl, rfl, Nat.le_refl _, RecR.none w _, fun q hq => by cases hq⟩
  · refine ⟨some ⟨g, 0, Option.none⟩, cap, rfl, hn, h3, fun _ => ⟨g, 0, rfl, (Array.getElem?_eq_some_iff.1 h2).1, fun i x hx j u hu => ?_⟩, fun q hq => by cases hq; exact h1⟩
    have hj : j < sz := by rw [← hf x]; exact (List.getElem?_eq_some_iff.1 hu).1
    have hc := rowV_at hf l i x hx j hj
    rw [hu] at hc
    have hr := h.cells (g := g) rfl _ u hc
    rw [Go.WideShapes.add_plain] at hr
    rw [Nat.zero_add]
    rwa [Nat.zero_add] at hr
end

section
variable {P : Program} {T E : TypeId} {sz bytes : Nat} {z : List Value} {α : Type} {f : α → List Value}
theorem Kind.parts (K : Kind P T E sz bytes z f) : ∃ i0, P.info? E = some i0 ∧ i0.zero = some (.agg z.toArray) ∧ i0.size = sz ∧ i0.bytes = bytes := by
  have h := K.info
  cases hq : P.info? E with
  | none => rw [hq] at h; cases h
  | some i =>
    rw [hq] at h
    simp only [Option.map_some, Option.some.injEq, Prod.mk.injEq] at h
    exact ⟨i, rfl, h.1, h.2.1, h.2.2⟩
theorem Kind.size (K : Kind P T E sz bytes z f) (w : World) : (Go.sizeOf E).run P w = .ok sz w := by
  obtain ⟨i, hi, _, hs, _⟩ := K.parts
  simp [Go.sizeOf, typeInfo, hi, hs]
theorem Kind.elem (K : Kind P T E sz bytes z f) : P.elem T = E := by simp [Program.elem, K.und]
theorem Kind.und' (K : Kind P T E sz bytes z f) : P.underlying T = some (.slice (P.elem T)) := by rw [K.elem]; exact K.und
theorem Kind.zcells (K : Kind P T E sz bytes z f) (hz : (Value.agg z.toArray).cells = z.toArray) : (Value.agg z.toArray).cells.size = sz := by rw [hz, List.size_toArray, K.zlen]

theorem cut_to (K : Kind P T E sz bytes z f) (a : Option Addr) (n c k : Nat) (h : k ≤ c) (u : World) : (Instr.slice T (.slice a n c) none (some (.int .i64 (k : Int))) none).run P u = .ok (.slice a k c) u := by
  rw [run_slice_h u T a n c K.und' .i64 (k : Int) (by omega) (by omega), K.elem, K.size]
  have e : sliced a 0 k c sz = .slice a k c := by
    unfold sliced
    cases a with
    | none => simp
    | some x =>
      obtain ⟨b, o, sp⟩ := x
      simp [Addr.add]
  simp [Result.andThen, e]
theorem cut_from (K : Kind P T E sz bytes z f) (a : Option Addr) (n c k : Nat) (h : k ≤ n) (y : Int) (hy : y = (k : Int)) (u : World) : (Instr.slice T (.slice a n c) (some (.int .i64 y)) none none).run P u = .ok (.slice (behindA sz a c k) (n - k) (c - k)) u := by
  subst hy
  rw [run_slice_l u T a n c K.und' .i64 (k : Int) (by omega) (by omega), K.elem, K.size]
  have : ((k : Int)).toNat = k := by omega
  simp only [Result.andThen, sliced, this]
  rfl
theorem make_rec (K : Kind P T E sz bytes z f) (hz : (Value.agg z.toArray).cells = z.toArray) (w : World) (k m : Nat) (x y : Int) (hx : x = (k : Int)) (hy : y = (m : Int)) (hk : k ≤ m) (hm : m ≤ 1000000000) :
    (Instr.makeSlice T (.int .i64 x) (.int .i64 y)).run P w = .ok (.slice (some ⟨w.heap.size, 0, none⟩) k m) (w.alloc (.cells (madeCells z.toArray (m * sz)) E)) := by
  subst hx hy
  obtain ⟨i0, hi, hz0, hz1, hz2⟩ := K.parts
  have hb : i0.bytes * m ≤ 1000 * 1000000000 := by rw [hz2]; exact Nat.mul_le_mul K.few hm
  have hb2 : (i0.bytes : Int) * (m : Int) ≤ 281474976710656 := by
    have e : ((i0.bytes : Int) * (m : Int)) = ((i0.bytes * m : Nat) : Int) := by rw [Int.natCast_mul]
    rw [e]
    omega
  have h := run_make (P := P) w T E i0 _ K.und hi hz0 .i64 .i64 (k : Int) (m : Int) (by omega) (by omega) hb2 (by omega)
  rw [hz, hz1] at h
  simpa using h
/-- An append onto a row of one's own, of records that are read wherever they are. -/
theorem run_append_rec (K : Kind P T E sz bytes z f) (hz : (Value.agg z.toArray).cells = z.toArray) {W : World} {base n : Nat} {v : Value} {l news : List α} {ao : Option Addr} {m c : Nat} (ty : TypeId) (hown : W.ownsRow base E sz v n (rowV f l)) (hs : RecR sz f W ao news) (hm : news.length = m) (hn : n + m ≤ 1000000000) (hbase : base ≤ W.heap.size) :
    ∃ v' w', (Builtin.append_ #[T, T] ty #[v, .slice ao m c]).run P W = .ok v' w' ∧ w'.ownsRow base E sz v' (n + m) (rowV f (l ++ news)) ∧ W.grownBy w' v.ownBlock := by
  obtain ⟨i0, hi, hz0, hz1, hz2⟩ := K.parts
  have hbs : (n + m) * bytes ≤ 1000000000 * 1000 := Nat.mul_le_mul hn K.few
  subst hm
  by_cases h0 : news = []
  · subst h0
    obtain ⟨a, c', rfl, -, hle, -, -⟩ := own_rec K.len K.pos hown
    have hsrc : Src P i0.size T (.slice ao 0 c) 0 [] W := by
      cases ao with
      | none => exact Src.ofNil W K.und c
      | some a => exact Src.ofSlice W K.und a 0 c [] (by simp) (fun j u hu => by simp at hu) (fun u hu => by simp at hu)
    refine ⟨_, W, run_append_nothing W T T ty E i0 K.und hi a n c' hle _ hsrc, ?_, ⟨rfl, rfl, rfl, Nat.le_refl _, fun _ _ _ => rfl⟩⟩
    rw [List.append_nil]
    exact hown
  · have hne : news.length ≠ 0 := by intro e; exact h0 (List.eq_nil_of_length_eq_zero e)
    obtain ⟨b, o, rfl, _, hc⟩ := hs.cells K.len K.pos hne
    obtain ⟨v', w', hrun, r1, r2, _⟩ := run_append_own (P := P) W base T ty E i0 (.agg z.toArray) sz bytes K.und hi hz0 hz1 hz2 (K.zcells hz) K.pos v n (rowV f l) hown ⟨b, o, none⟩ news.length c (rowV f news) (rowV_length K.len news) (fun j u hu => by
      rw [Go.WideShapes.add_plain]
      exact hc j u hu) (rowV_ones K.one news) (by unfold maxLen; omega) (by omega) hbase
    rw [← rowV_append] at r1
    exact ⟨v', w', hrun, r1, r2⟩
theorem append_rec (K : Kind P T E sz bytes z f) (hz : (Value.agg z.toArray).cells = z.toArray) {ops : Array Oper} {rest : List Oper} {o : Oper} {a : Act} {W : World} {Q : Exit → Act → World → Prop} (hgd : o.guard = none) (s x : Operand)
    (ho : o.op = .call { callee := .builtin .append, args := #[s, x], argTypes := #[T, T] }) (base n : Nat) (v : Value) (l news : List α) (ao : Option Addr) (m c : Nat) (hs : a.eval s = v) (hx : a.eval x = .slice ao m c)
    (hown : W.ownsRow base E sz v n (rowV f l)) (hr : RecR sz f W ao news) (hm : news.length = m) (hn : n + m ≤ 1000000000) (hbase : base ≤ W.heap.size)
    (h : ∀ v' w', w'.ownsRow base E sz v' (n + m) (rowV f (l ++ news)) → W.grownBy w' v.ownBlock → wpList P ops Q rest (a.put o.dst v') w') : wpList P ops Q (o :: rest) a W := by
  refine wpList_plain hgd fun K' hK' => ?_
  obtain ⟨v', w', hrun, r1, r2⟩ := run_append_rec K hz (c := c) o.type hown hr hm hn hbase
  unfold Oper.wp
  simp [execOp, ho, resolve, invoke, builtin, hs, hx, hrun, Result.andThen]
  exact hK' _ _ (h v' w' r1 r2)
/-- 'copy' of as many records as the row is long. -/
theorem copy_rec (K : Kind P T E sz bytes z f) {ops : Array Oper} {rest : List Oper} {o : Oper} {a : Act} {W : World} {Q : Exit → Act → World → Prop} (hgd : o.guard = none) (d s : Operand)
    (ho : o.op = .call { callee := .builtin .copy, args := #[d, s], argTypes := #[T, T] }) (base g m C sc : Nat) (cur : Array Value) (ao : Option Addr) (l : List α) (hd : a.eval d = .slice (some ⟨g, 0, none⟩) m C) (hs : a.eval s = .slice ao m sc)
    (hg : W.heap[g]? = some (.cells cur E (0, 0))) (hcur : cur.size = C * sz) (hmC : m ≤ C) (hC : C ≤ 1000000001) (hl : l.length = m) (hr : RecR sz f W ao l) (hbase : base ≤ g)
    (h : ∀ w', w'.ownsRow base E sz (.slice (some ⟨g, 0, none⟩) m C) m (rowV f l) → Below base W w' → wpList P ops Q rest (a.put o.dst (goInt m)) w') : wpList P ops Q (o :: rest) a W := by
  have hmz : m * sz ≤ C * sz := Nat.mul_le_mul_right sz hmC
  have hrun : ∃ w', (Builtin.copy_ #[T, T] o.type #[.slice (some ⟨g, 0, none⟩) m C, .slice ao m sc]).run P W = .ok (goInt m) w' ∧ w'.ownsRow base E sz (.slice (some ⟨g, 0, none⟩) m C) m (rowV f l) ∧ Below base W w' := by
    by_cases h0 : m = 0
    · subst h0
      obtain rfl := List.eq_nil_of_length_eq_zero hl
      refine ⟨W, ?_, ⟨by simp [rowV], .inr ⟨g, C, cur, rfl, hbase, hg, hmC, by unfold maxLen; omega, hcur, by simp [rowV]⟩⟩, Below.refl _ _⟩
      cases ao with
      | none => simp [Builtin.copy_, run_underlying K.und, Builtin.lenOf, Builtin.firstCells, K.size, storeCells]
      | some x =>
        have hld : (loadCells x 0).run P W = .ok #[] W := run_loadCells_list (P := P) W x [] (fun j v hv => by simp at hv)
        simp [Builtin.copy_, run_underlying K.und, Builtin.lenOf, Builtin.firstCells, K.size, storeCells, hld]
    · obtain ⟨b, off, rfl, hb, hc⟩ := hr.cells K.len K.pos (by omega)
      have hcl : (rowV f l).length = m * sz := by rw [rowV_length K.len, hl]
      have hld : (loadCells ⟨b, off, none⟩ (m * sz)).run P W = .ok (rowV f l).toArray W := by
        rw [← hcl]
        refine run_loadCells_list (P := P) W ⟨b, off, none⟩ (rowV f l) (fun j v hv => ?_)
        rw [Go.WideShapes.add_plain]
        exact hc j v hv
      have hst := run_storeCells_at (P := P) g 0 E (rowV f l) 0 cur W hg (by rw [hcl]; omega) (rowV_ones K.one l)
      simp only [Nat.zero_add, List.take_zero, List.nil_append] at hst
      refine ⟨_, by simp [Builtin.copy_, run_underlying K.und, Builtin.lenOf, Builtin.firstCells, K.size, hld, hst]; rfl, ⟨hcl, .inr ⟨g, C, _, rfl, hbase, setRow_heap W g _ _ _ _ hg, hmC, by unfold maxLen; omega, ?_, ?_⟩⟩, below_setRow (Below.refl _ _) hbase _⟩
      · rw [List.size_toArray, List.length_append, hcl, List.length_drop, Array.length_toList, hcur]
        omega
      · show ((rowV f l ++ cur.toList.drop (rowV f l).length).toArray.toList).take (m * sz) = _
        rw [List.toList_toArray, ← hcl, List.take_left]
  obtain ⟨w', hrun, h1, h2⟩ := hrun
  refine wpList_plain hgd fun K' hK => ?_
  unfold Oper.wp
  simp [execOp, ho, resolve, invoke, builtin, hd, hs, hrun, Result.andThen]
  exact hK _ _ (h w' h1 h2)
end
end Go.Proofs.YtedgpglldlohfaaDoor.Rec

namespace Go.Proofs.YtedgpglldlohfaaDoor.Hold
open Go Go.RowKit Mur

/-- Of memory that was there all is as it was, but for one block. -/
structure But (n : Nat) (w w' : World) : Prop where
  size : w.heap.size ≤ w'.heap.size
  block : ∀ k, k < w.heap.size → k ≠ n → w'.heap[k]? = w.heap[k]?
theorem But.cell {n : Nat} {w w' : World} (h : But n w w') {p : Addr} (hp : p.block < w.heap.size) (hn : p.block ≠ n) : w'.cell? p = w.cell? p := World.cell?_of_block (h.block _ hp hn)
theorem But.of_below {n : Nat} {w w' : World} (h : Below w.heap.size w w') : But n w w' := ⟨h.size, fun k hk _ => h.block k hk⟩
theorem heap_sets : ∀ (cs : List Value) (w : World) (b o k : Nat), k ≠ b → (w.setCells b o cs).heap[k]? = w.heap[k]?
  | [], _, _, _, _, _ => rfl
  | x :: cs, w, b, o, k, h => by
    rw [World.setCells, heap_sets cs _ b (o + 1) k h]
    unfold World.setCell
    rw [Array.getElem?_modify, if_neg (fun e => h e.symm)]
theorem size_setsK : ∀ (cs : List Value) (w : World) (b o : Nat), (w.setCells b o cs).heap.size = w.heap.size
  | [], _, _, _ => rfl
  | x :: cs, w, b, o => by rw [World.setCells, size_setsK cs _ b (o + 1)]; simp
theorem but_sets (cs : List Value) (w : World) (b o : Nat) : But b w (w.setCells b o cs) := ⟨Nat.le_of_eq (size_setsK cs w b o).symm, fun k _ hn => heap_sets cs w b o k hn⟩

section
variable {P : Program} {ops : Array Oper} {rest : List Oper} {op : Oper} {a : Act} {w w0 : World} {m : List Blk} {Q : Exit → Act → World → Prop}
theorem wpList_want {o : Oper} (hw : Region.wanted o (yielded ops a.tmps) = true) (v : Value) (hr : (execOp a.eval o).run P w = .ok (.value v) w) (hk : wpList P ops Q rest (a.put o.dst v) w) : wpList P ops Q (o :: rest) a w := by
  refine wpList_step fun K hK => ?_
  rw [if_pos hw]
  unfold Oper.wp
  rw [hr]
  exact hK _ _ hk
theorem allocK (h : Hld w0 m w) {t : TypeId} (hg : op.guard = none) (ho : op.op = .alloc t) (z : List Value) (hz : (P.info? t).map (fun i => (i.zero, i.size)) = some (some (.agg z.toArray), z.length))
    (hk : ∀ b w', w.heap.size ≤ b → Below w.heap.size w w' → Hld w0 (m ++ [⟨b, t, z⟩]) w' → wpList P ops Q rest (a.put op.dst (.pointer (some ⟨b, 0, none⟩))) w') : wpList P ops Q (op :: rest) a w :=
  wpList_alloc_z hg t ho z hz (hk _ _ (Nat.le_refl _) ((Below.refl _ _).alloc (Nat.le_refl _) _) (h.add t z))
theorem boxK (h : Hld w0 m w) {t : TypeId} {x : Operand} {cs : List Value} (hg : op.guard = none) (ho : op.op = .box t x) (hx : a.eval x = .agg cs.toArray)
    (hk : ∀ b w', w.heap.size ≤ b → Below w.heap.size w w' → Hld w0 (m ++ [⟨b, t, cs⟩]) w' → wpList P ops Q rest (a.put op.dst (.pointer (some ⟨b, 0, none⟩))) w') : wpList P ops Q (op :: rest) a w := by
  refine wpList_plain hg fun K hK => ?_
  unfold Oper.wp execOp
  simp only [ho, hx, Sem.run_bind, Instr.box, newVar, newRow, run_newObj_alloc, Sem.run_pure, Result.andThen_ok, Value.cells]
  exact hK _ _ (hk _ _ (Nat.le_refl _) ((Below.refl _ _).alloc (Nat.le_refl _) _) (h.add t cs))
theorem storeK (h : Hld w0 m w) (i : Nat) {b o : Nat} {t ty : TypeId} {v cs v' : List Value} {x y : Operand} (hg : op.guard = none) (ho : op.op = .store ty x y) (hx : a.eval x = .pointer (some ⟨b, o, none⟩)) (hy : a.eval y = .agg cs.toArray) (hi : m[i]? = some ⟨b, t, v⟩) (hl : o + cs.length ≤ v.length) (hv : lay v o cs = v') (h1 : Single cs) (hr : TyRow P ty cs.length)
    (hk : ∀ w', But b w w' → Hld w0 (m.set i ⟨b, t, v'⟩) w' → wpList P ops Q rest (a.put op.dst undef) w') : wpList P ops Q (op :: rest) a w := by
  obtain ⟨d, hu, hd, hs⟩ := hr
  subst hv
  exact wpList_store_mid hg ty x y ho b o cs.toArray hx hy (by simpa using h.there i hi o cs.length hl) (by simpa using hs) h1 (hk _ (but_sets _ w b o) (by simpa using h.set i hi o cs))
end
end Go.Proofs.YtedgpglldlohfaaDoor.Hold
