/-
  Slices of whole numbers: as they are read, rows of them that a call has made itself, appends onto them. Uses nothing of a program but the types. Conditions: those that each lemma names.
-/
import Derived.Test.YtedgpglldlohfaaDoorMWk
import Derived.Deep.Upon
namespace Go.Proofs.YtedgpglldlohfaaDoor.Zs
open Go.RowKit Mur
set_option maxRecDepth 100000

/-- A slice of whole numbers, as it is read. -/
def ZsR (w : World) (a : Option Addr) (l : List Int) : Prop := l.length ≠ 0 → ∃ b o, a = some ⟨b, o, none⟩ ∧ b < w.heap.size ∧ ∀ i x, l[i]? = some x → w.cell? ⟨b, o + i, none⟩ = some (.int .i64 x)
theorem ZsR.below {w w' : World} {a : Option Addr} {l : List Int} (h : ZsR w a l) (k : Below w.heap.size w w') : ZsR w' a l := fun hl => by
  obtain ⟨b, o, ha, hb, hc⟩ := h hl
  exact ⟨b, o, ha, Nat.lt_of_lt_of_le hb k.size, fun i x hx => (k.cell (p := ⟨b, o + i, none⟩) hb).trans (hc i x hx)⟩
def zsV (l : List Int) : List Value := l.map fun z => Value.int .i64 z
theorem zsV_length (l : List Int) : (zsV l).length = l.length := by simp [zsV]
theorem zsV_append (l m : List Int) : zsV (l ++ m) = zsV l ++ zsV m := by simp [zsV]
theorem zsV_at {l : List Int} {i : Nat} {x : Int} (h : l[i]? = some x) : (zsV l)[i]? = some (.int .i64 x) := by simp [zsV, h]
theorem zsV_one (l : List Int) : ∀ v ∈ zsV l, v.oneCell' = true := fun v hv => by
  simp only [zsV, List.mem_map] at hv
  obtain ⟨x, _, rfl⟩ := hv
  rfl
/-- A row that a call has made, read. -/
theorem own_ints {w : World} {base n : Nat} {v : Value} {l : List Int} (h : w.ownsRow base 3 1 v n (zsV l)) : ∃ ao c, v = .slice ao n c ∧ n = l.length ∧ ZsR w ao l := by
  have hl := h.1
  rw [zsV_length] at hl
  rcases Strs.own_cases h with ⟨rfl, rfl, h2⟩ | ⟨g, c, rfl, h1, h2, h3, h4⟩
  · exact ⟨none, 0, rfl, by omega, fun h => absurd (by omega) h⟩
  · exact ⟨_, c, rfl, by omega, fun _ => ⟨g, 0, rfl, h2, fun i x hx => by rw [Nat.zero_add]; exact Strs.own_cell h i _ (zsV_at hx)⟩⟩
theorem src_ints {W : World} {ao : Option Addr} {l : List Int} {c : Nat} (h : ZsR W ao l) : Src Tryd.prog 1 22 (.slice ao l.length c) l.length (zsV l) W := by
  by_cases h0 : l = []
  · subst h0
    cases ao with
    | none => exact Src.ofNil W Tryd.underlying22 c
    | some a => exact Src.ofSlice W Tryd.underlying22 a 0 c [] rfl (fun j u hu => by simp at hu) (fun u hu => by simp at hu)
  · obtain ⟨b, o, rfl, _, hc⟩ := h (by intro e; exact h0 (List.eq_nil_of_length_eq_zero e))
    refine Src.ofSlice W Tryd.underlying22 _ _ c _ (by rw [zsV_length]; omega) (fun j u hu => ?_) (zsV_one l)
    have hj : j < l.length := by have := (List.getElem?_eq_some_iff.1 hu).1; rwa [zsV_length] at this
    have e := zsV_at (List.getElem?_eq_getElem hj)
    rw [e] at hu
    have e2 : (⟨b, o, none⟩ : Addr).add j = ⟨b, o + j, none⟩ := Go.WideShapes.add_plain b o j
    rw [e2, ← Option.some.inj hu]
    exact hc j _ (List.getElem?_eq_getElem hj)
/-- An append onto a row of one's own, of numbers that are read wherever they are. -/
theorem run_append_zs {W : World} {base n : Nat} {v : Value} {l news : List Int} {ao : Option Addr} {m c : Nat} (ty : TypeId) (hown : W.ownsRow base 3 1 v n (zsV l)) (hs : ZsR W ao news) (hm : news.length = m) (hn : n + m ≤ 8796093022208) (hbase : base ≤ W.heap.size) :
    ∃ v' w', (Builtin.append_ #[22, 22] ty #[v, .slice ao m c]).run Tryd.prog W = .ok v' w' ∧ w'.ownsRow base 3 1 v' (n + m) (zsV (l ++ news)) ∧ W.grownBy w' v.ownBlock := by
  obtain ⟨i0, hi, hz0, hz1, hz2⟩ := info_parts Ints.info_int
  subst hm
  by_cases h0 : news = []
  · subst h0
    obtain ⟨a, c', rfl, hnl, -⟩ := own_ints hown
    have hle : n ≤ c' := by
      rcases Strs.own_cases hown with ⟨h1, _, _⟩ | ⟨g, c2, h1, h2, h3, h4, h5⟩
      · cases h1; omega
      · cases h1; exact h4
    have hsrc : Src Tryd.prog i0.size 22 (.slice ao 0 c) 0 [] W := by rw [hz1]; exact src_ints (l := []) hs
    refine ⟨_, W, run_append_nothing W 22 22 ty 3 i0 Tryd.underlying22 hi a n c' hle _ hsrc, ?_, ⟨rfl, rfl, rfl, Nat.le_refl _, fun _ _ _ => rfl⟩⟩
    rw [List.append_nil]
    exact hown
  · obtain ⟨b, o, rfl, _, hc⟩ := hs (by intro e; exact h0 (List.eq_nil_of_length_eq_zero e))
    obtain ⟨v', w', hrun, r1, r2, _⟩ := run_append_own (P := Tryd.prog) W base 22 ty 3 i0 (.int .i64 0) 1 8 Tryd.underlying22 hi hz0 hz1 hz2 rfl (by decide) v n (zsV l) hown ⟨b, o, none⟩ news.length c (zsV news) (by rw [zsV_length]; omega) (fun j u hu => by
      have hj : j < news.length := by have := (List.getElem?_eq_some_iff.1 hu).1; rwa [zsV_length] at this
      have e := zsV_at (List.getElem?_eq_getElem hj)
      rw [e] at hu
      have e2 : (⟨b, o, none⟩ : Addr).add j = ⟨b, o + j, none⟩ := Go.WideShapes.add_plain b o j
      rw [e2, ← Option.some.inj hu]
      exact hc j _ (List.getElem?_eq_getElem hj)) (zsV_one news) (by unfold maxLen; omega) (by omega) hbase
    rw [← zsV_append] at r1
    exact ⟨v', w', hrun, r1, r2⟩
theorem append_zs {ops : Array Oper} {rest : List Oper} {o : Oper} {a : Act} {W : World} {Q : Exit → Act → World → Prop} (hgd : o.guard = none) (s x : Operand)
    (ho : o.op = .call { callee := .builtin .append, args := #[s, x], argTypes := #[22, 22] }) (base n : Nat) (v : Value) (l news : List Int) (ao : Option Addr) (m c : Nat) (hs : a.eval s = v) (hx : a.eval x = .slice ao m c)
    (hown : W.ownsRow base 3 1 v n (zsV l)) (hr : ZsR W ao news) (hm : news.length = m) (hn : n + m ≤ 8796093022208) (hbase : base ≤ W.heap.size)
    (h : ∀ v' w', w'.ownsRow base 3 1 v' (n + m) (zsV (l ++ news)) → W.grownBy w' v.ownBlock → wpList Tryd.prog ops Q rest (a.put o.dst v') w') : wpList Tryd.prog ops Q (o :: rest) a W := by
  refine wpList_plain hgd fun K hK' => ?_
  obtain ⟨v', w', hrun, r1, r2⟩ := run_append_zs (c := c) o.type hown hr hm hn hbase
  unfold Oper.wp
  simp [execOp, ho, resolve, invoke, builtin, hs, hx, hrun, Result.andThen]
  exact hK' _ _ (h v' w' r1 r2)
/-- One number in a new block of its own. -/
theorem new_z (W : World) (z : Int) (t : TypeId) : ZsR (W.alloc (.cells #[.int .i64 z] t)) (some ⟨W.heap.size, 0, none⟩) [z] := fun _ => ⟨W.heap.size, 0, rfl, by simp, fun i x hx => by
  match i, hx with
  | 0, hx => cases hx; simp [World.cell?_alloc_new]⟩
theorem own_new (W : World) (B : Nat) (hB : B ≤ W.heap.size) : (W.alloc (.cells #[] 3)).ownsRow B 3 1 (.slice (some ⟨W.heap.size, 0, none⟩) 0 0) 0 (zsV []) :=
  Go.World.ownsRow_lit W #[] 0 hB (by unfold maxLen; omega) (by simp)

end Go.Proofs.YtedgpglldlohfaaDoor.Zs
