/-
  Slices of spots (a number and a text): a row that a call has made itself, an append of one, make, what such a slice is. Conditions: those that each lemma names.
-/
import Derived.Test.YtncafbejgidliaaDoorGrv
import Derived.Test.YtncafbejgidliaaDoorStrA
namespace Go.Proofs.YtncafbejgidliaaDoor.Spots
open Go.RowKit Mur Chn Grv
set_option maxRecDepth 100000

def spotsV (l : Hand) : List Value := l.flatMap fun p => [.int .i64 ((p.1 : Nat) : Int), .string (tx p.2)]
theorem spotsV_length (l : Hand) : (spotsV l).length = l.length * 2 := by
  induction l with
  | nil => rfl
  | cons p l ih =>
    have e : (spotsV (p :: l)).length = (spotsV l).length + 2 := rfl
    rw [e, ih, List.length_cons]
    omega
theorem spotsV_append (l m : Hand) : spotsV (l ++ m) = spotsV l ++ spotsV m := by simp [spotsV]
theorem spotsV_at (l : Hand) (i : Nat) (p : Nat × List UInt8) (h : l[i]? = some p) : (spotsV l)[2 * i]? = some (.int .i64 (p.1 : Int)) ∧ (spotsV l)[2 * i + 1]? = some (.string (tx p.2)) := by
  induction l generalizing i with
  | nil => simp at h
  | cons q l ih =>
    have e : spotsV (q :: l) = .int .i64 ((q.1 : Nat) : Int) :: .string (tx q.2) :: spotsV l := rfl
    rw [e]
    cases i with
    | zero =>
      simp at h
      subst h
      exact ⟨rfl, rfl⟩
    | succ i =>
      rw [show 2 * (i + 1) = 2 * i + 1 + 1 by omega, List.getElem?_cons_succ, List.getElem?_cons_succ, List.getElem?_cons_succ, List.getElem?_cons_succ]
      exact ih i (by simpa using h)
theorem spotsV_one (l : Hand) : ∀ v ∈ spotsV l, v.oneCell' = true := fun v hv => by
  simp only [spotsV, List.mem_flatMap] at hv
  obtain ⟨p, _, hv⟩ := hv
  rcases List.mem_cons.1 hv with rfl | hv
  · rfl
  · rcases List.mem_cons.1 hv with rfl | hv
    · rfl
    · cases hv
theorem info_spot : (Tryd.prog.info? 57).map (fun i => (i.zero, i.size, i.bytes)) = some (some (.agg #[.int .i64 0, .string ⟨#[]⟩]), 2, 24) := by kernel_rfl

/-- What 'make([]spot, 0, n)' makes. -/
theorem make_room (w : World) (n : Nat) (c : Int) (hc : c = (n : Int)) (hn : 24 * n ≤ 281474976710656) : (Instr.makeSlice 68 (.int .i64 0) (.int .i64 c)).run Tryd.prog w =
    .ok (.slice (some ⟨w.heap.size, 0, none⟩) 0 n) (w.alloc (.cells (madeCells #[.int .i64 0, .string ⟨#[]⟩] (n * 2)) 57)) := by
  subst hc
  obtain ⟨i0, hi, hz0, hz1, hz2⟩ := info_parts info_spot
  have h := run_make (P := Tryd.prog) w 68 57 i0 (.agg #[.int .i64 0, .string ⟨#[]⟩]) Tryd.underlying68 hi hz0 .i64 .i64 0 (n : Int) (by omega) (by omega) (by rw [hz2]; omega) (by omega)
  simpa [hz1, Value.cells] using h
theorem spot_one (W : World) (x : Nat) (y : List UInt8) (t : TypeId) : ∀ j u, (spotsV [(x, y)])[j]? = some u → (W.alloc (.cells #[.int .i64 (x : Int), .string (tx y)] t)).cell? ⟨W.heap.size, j, none⟩ = some u := fun j u hu => by
  match j, hu with
  | 0, hu => cases hu; simp [World.cell?_alloc_new]
  | 1, hu => cases hu; simp [World.cell?_alloc_new]

/-- An append of one spot. -/
theorem append_spot {ops : Array Oper} {rest : List Oper} {o : Oper} {a : Act} {W : World} {Q : Exit → Act → World → Prop} (hgd : o.guard = none) (s x : Operand)
    (ho : o.op = .call { callee := .builtin .append, args := #[s, x], argTypes := #[68, 68] }) (base n : Nat) (v : Value) (l : Hand) (hs : a.eval s = v) (hown : W.ownsRow base 57 2 v n (spotsV l))
    (b c : Nat) (p : Nat × List UInt8) (hx : a.eval x = .slice (some ⟨b, 0, none⟩) 1 c) (hnews : ∀ j u, (spotsV [p])[j]? = some u → W.cell? ⟨b, j, none⟩ = some u) (hn : n ≤ 1000000000) (hbase : base ≤ W.heap.size)
    (h : ∀ v' w', w'.ownsRow base 57 2 v' (n + 1) (spotsV (l ++ [p])) → W.grownBy w' v.ownBlock → wpList Tryd.prog ops Q rest (a.put o.dst v') w') : wpList Tryd.prog ops Q (o :: rest) a W := by
  obtain ⟨i0, hi, hz0, hz1, hz2⟩ := info_parts info_spot
  refine wpList_append_own W hgd s x 68 ho base 57 i0 (.agg #[.int .i64 0, .string ⟨#[]⟩]) 2 24 Tryd.underlying68 hi hz0 hz1 hz2 rfl (by decide) v n (spotsV l) hs hown ⟨b, 0, none⟩ 1 c (spotsV [p]) hx rfl (fun j u hu => by rw [Strs.add_zero]; exact hnews j u hu) (spotsV_one [p]) (by unfold maxLen; omega) (by omega) hbase ?_
  intro v' w' h1 h2 _
  rw [← spotsV_append] at h1
  exact h v' w' h1 h2
theorem step_append_spot {ops : Array Oper} {o : Oper} {a : Act} {K : Act → World → Prop} {Q : Exit → Act → World → Prop} {E : Prop} (hgd : o.guard = none) (s x : Operand)
    (ho : o.op = .call { callee := .builtin .append, args := #[s, x], argTypes := #[68, 68] }) (W : World) (k : Nat) (y : List UInt8) (base n : Nat) (v : Value) (l : Hand)
    (hs : a.eval s = v) (hx : a.eval x = .slice (some ⟨W.heap.size, 0, none⟩) 1 1) (hown : W.ownsRow base 57 2 v n (spotsV l)) (hn : n ≤ 1000000000) (hbase : base ≤ W.heap.size)
    (h : ∀ v' w', w'.ownsRow base 57 2 v' (n + 1) (spotsV (l ++ [(k, y)])) → (W.alloc (.cells #[.int .i64 (k : Int), .string (tx y)] 57)).grownBy w' v.ownBlock → K (a.put o.dst v') w') :
    if Region.wanted o (yielded ops a.tmps) = true then Oper.wp Tryd.prog o a (W.alloc (.cells #[.int .i64 (k : Int), .string (tx y)] 57)) K Q else E := by
  have hw : Region.wanted o (yielded ops a.tmps) = true := by simp [Region.wanted, hgd]
  rw [if_pos hw]
  obtain ⟨i0, hi, hz0, hz1, hz2⟩ := info_parts info_spot
  obtain ⟨v', w', hr, h2, h3, h4⟩ := run_append_own (P := Tryd.prog) (w := W.alloc (.cells #[.int .i64 (k : Int), .string (tx y)] 57)) base 68 o.type 57 i0 (.agg #[.int .i64 0, .string ⟨#[]⟩]) 2 24 Tryd.underlying68 hi hz0 hz1 hz2 rfl (by decide) v n (spotsV l) (hown.alloc _) ⟨W.heap.size, 0, none⟩ 1 1 (spotsV [(k, y)]) rfl (fun j u hu => by rw [Strs.add_zero]; exact spot_one W k y _ j u hu) (spotsV_one [(k, y)]) (by unfold maxLen; omega) (by omega) (Nat.le_trans hbase (by simp))
  unfold Oper.wp execOp
  simp only [ho, resolve, invoke, builtin, Sem.run_bind, Sem.run_pure, Result.andThen_ok, List.map_toArray, List.map_cons, List.map_nil, hs, hx, hr]
  rw [← spotsV_append] at h2
  exact h v' w' h2 h3

theorem step_append_text {ops : Array Oper} {o : Oper} {a : Act} {K : Act → World → Prop} {Q : Exit → Act → World → Prop} {E : Prop} (hgd : o.guard = none) (s x : Operand)
    (ho : o.op = .call { callee := .builtin .append, args := #[s, x], argTypes := #[68, 68] }) (W : World) (k : Nat) (Y : ByteArray) (base n : Nat) (v : Value) (l : Hand)
    (hs : a.eval s = v) (hx : a.eval x = .slice (some ⟨W.heap.size, 0, none⟩) 1 1) (hown : W.ownsRow base 57 2 v n (spotsV l)) (hn : n ≤ 1000000000) (hbase : base ≤ W.heap.size)
    (h : ∀ v' w', w'.ownsRow base 57 2 v' (n + 1) (spotsV (l ++ [(k, Y.data.toList)])) → (W.alloc (.cells #[.int .i64 (k : Int), .string Y] 57)).grownBy w' v.ownBlock → K (a.put o.dst v') w') :
    if Region.wanted o (yielded ops a.tmps) = true then Oper.wp Tryd.prog o a (W.alloc (.cells #[.int .i64 (k : Int), .string Y] 57)) K Q else E :=
  step_append_spot hgd s x ho W k Y.data.toList base n v l hs hx hown hn hbase h
/-- A row of spots that a call has made, as a slice: where it is not empty, it has a block. -/
theorem spots_row {w : World} {base n : Nat} {v : Value} {l : Hand} (h : w.ownsRow base 57 2 v n (spotsV l)) (hn : 0 < n) :
    ∃ g c, v = .slice (some ⟨g, 0, none⟩) n c ∧ base ≤ g ∧ n ≤ c ∧ g < w.heap.size ∧ n = l.length ∧ ∀ (i : Nat) p, l[i]? = some p → w.cell? ⟨g, 2 * i, none⟩ = some (.int .i64 (p.1 : Int)) ∧ w.cell? ⟨g, 2 * i + 1, none⟩ = some (.string (tx p.2)) := by
  have hl := h.1
  rw [spotsV_length] at hl
  rcases h.2 with ⟨-, h0⟩ | ⟨g, c, cur, rfl, h1, h2, h3, h4, h5, h6⟩
  · omega
  · refine ⟨g, c, rfl, h1, h3, (Array.getElem?_eq_some_iff.1 h2).1, by omega, fun i p hp => ?_⟩
    obtain ⟨e1, e2⟩ := spotsV_at l i p hp
    have c1 := h.cells (g := g) rfl _ _ e1
    have c2 := h.cells (g := g) rfl _ _ e2
    rw [Strs.add_zero] at c1 c2
    exact ⟨c1, c2⟩
end Go.Proofs.YtncafbejgidliaaDoor.Spots
