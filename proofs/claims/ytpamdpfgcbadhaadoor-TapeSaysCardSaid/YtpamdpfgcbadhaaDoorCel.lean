/-
  Slices of cells (a name and bytes): as they are read, rows that a call has made itself, an append of one; '==' of texts and of cells. Conditions: those that each lemma names.
-/
import Derived.Test.YtpamdpfgcbadhaaDoorTap
import Derived.Test.YtpamdpfgcbadhaaDoorStrA
import Derived.Test.YtpamdpfgcbadhaaDoorHoldB
namespace Go.Proofs.YtpamdpfgcbadhaaDoor.Cel
open Go.RowKit Mur Prt Tap
set_option maxRecDepth 100000

/-- A cell as it lies in memory. -/
abbrev K := ByteArray × ByteArray
def toC (l : List K) : List C := l.map fun c => (c.1.data.toList, c.2.data.toList)
def ofC (l : List C) : List K := l.map fun c => (tx c.1, tx c.2)
theorem tx_data (s : ByteArray) : tx s.data.toList = s := by cases s; rfl
theorem toC_ofC (l : List C) : toC (ofC l) = l := by
  rw [toC, ofC, List.map_map]
  exact List.map_id'' (fun _ => rfl) l
theorem ofC_toC (l : List K) : ofC (toC l) = l := by
  rw [toC, ofC, List.map_map]
  refine List.map_id'' (fun c => ?_) l
  show (tx c.1.data.toList, tx c.2.data.toList) = c
  rw [tx_data, tx_data]
theorem toC_length (l : List K) : (toC l).length = l.length := by simp [toC]
theorem ofC_length (l : List C) : (ofC l).length = l.length := by simp [ofC]
theorem toC_append (l m : List K) : toC (l ++ m) = toC l ++ toC m := by simp [toC]
theorem ofC_append (l m : List C) : ofC (l ++ m) = ofC l ++ ofC m := by simp [ofC]

/-- Texts are alike where their bytes are. -/
theorem eql_iff (x y : ByteArray) : (x.toList == y.toList) = true ↔ x.data.toList = y.data.toList := by rw [beq_iff_eq, ByteArray.toList_eq, ByteArray.toList_eq]
theorem eql_no (x y : ByteArray) (h : x.data.toList ≠ y.data.toList) : (x.toList == y.toList) = false := by
  cases hb : (x.toList == y.toList) with
  | false => rfl
  | true => exact absurd ((eql_iff x y).1 hb) h
theorem eql_yes (x y : ByteArray) (h : x.data.toList = y.data.toList) : (x.toList == y.toList) = true := (eql_iff x y).2 h
theorem same_text (x y : ByteArray) (h : x.data.toList = y.data.toList) : x = y := ByteArray.ext (Array.ext' h)

def cellsV (l : List K) : List Value := l.flatMap fun p => [.string p.1, .string p.2]
theorem cellsV_length (l : List K) : (cellsV l).length = l.length * 2 := by
  induction l with
  | nil => rfl
  | cons p l ih =>
    have e : (cellsV (p :: l)).length = (cellsV l).length + 2 := rfl
    rw [e, ih, List.length_cons]
    omega
theorem cellsV_append (l m : List K) : cellsV (l ++ m) = cellsV l ++ cellsV m := by simp [cellsV]
theorem cellsV_at (l : List K) (i : Nat) (p : K) (h : l[i]? = some p) : (cellsV l)[i * 2]? = some (.string p.1) ∧ (cellsV l)[i * 2 + 1]? = some (.string p.2) := by
  induction l generalizing i with
  | nil => simp at h
  | cons q l ih =>
    have e : cellsV (q :: l) = .string q.1 :: .string q.2 :: cellsV l := rfl
    rw [e]
    cases i with
    | zero =>
      simp at h
      subst h
      exact ⟨rfl, rfl⟩
    | succ i =>
      rw [show (i + 1) * 2 = i * 2 + 1 + 1 by omega, List.getElem?_cons_succ, List.getElem?_cons_succ, List.getElem?_cons_succ, List.getElem?_cons_succ]
      exact ih i (by simpa using h)
theorem cellsV_one (l : List K) : ∀ v ∈ cellsV l, v.oneCell' = true := fun v hv => by
  simp only [cellsV, List.mem_flatMap] at hv
  obtain ⟨p, _, hv⟩ := hv
  rcases List.mem_cons.1 hv with rfl | hv
  · rfl
  · rcases List.mem_cons.1 hv with rfl | hv
    · rfl
    · cases hv

/-- A slice of cells as it is read. -/
def CelR (w : World) (a : Option Addr) (l : List K) : Prop := l.length ≠ 0 → ∃ b o, a = some ⟨b, o, none⟩ ∧ b < w.heap.size ∧ ∀ i x, l[i]? = some x → w.cell? ⟨b, o + i * 2, none⟩ = some (.string x.1) ∧ w.cell? ⟨b, o + i * 2 + 1, none⟩ = some (.string x.2)
theorem CelR.below {w w' : World} {a : Option Addr} {l : List K} (h : CelR w a l) (k : Below w.heap.size w w') : CelR w' a l := fun hl => by
  obtain ⟨b, o, ha, hb, hc⟩ := h hl
  exact ⟨b, o, ha, Nat.lt_of_lt_of_le hb k.size, fun i x hx => ⟨(k.cell (p := ⟨b, o + i * 2, none⟩) hb).trans (hc i x hx).1, (k.cell (p := ⟨b, o + i * 2 + 1, none⟩) hb).trans (hc i x hx).2⟩⟩
theorem CelR.none (w : World) (a : Option Addr) : CelR w a [] := fun h => absurd rfl h

theorem info_cel : (Tryd.prog.info? 50).map (fun i => (i.zero, i.size, i.bytes)) = some (some (.agg #[.string ⟨#[]⟩, .string ⟨#[]⟩]), 2, 32) := by kernel_rfl
theorem own_start (w : World) (t : TypeId) : w.ownsRow w.heap.size t 2 (.slice none 0 0) 0 (cellsV []) := ⟨by simp [cellsV], .inl ⟨rfl, rfl⟩⟩
theorem new_cel (W : World) (x : K) (t : TypeId) : ∀ j u, (cellsV [x])[j]? = some u → (W.alloc (.cells #[.string x.1, .string x.2] t)).cell? ⟨W.heap.size, j, none⟩ = some u := fun j u hu => by
  match j, hu with
  | 0, hu => cases hu; simp [World.cell?_alloc_new]
  | 1, hu => cases hu; simp [World.cell?_alloc_new]
/-- An append of one cell. -/
theorem append_cel {ops : Array Oper} {rest : List Oper} {o : Oper} {a : Act} {W : World} {Q : Exit → Act → World → Prop} (hgd : o.guard = none) (s x : Operand)
    (ho : o.op = .call { callee := .builtin .append, args := #[s, x], argTypes := #[22, 22] }) (base n : Nat) (v : Value) (l : List K) (hs : a.eval s = v) (hown : W.ownsRow base 50 2 v n (cellsV l))
    (b c : Nat) (p : K) (hx : a.eval x = .slice (some ⟨b, 0, none⟩) 1 c) (hnews : ∀ j u, (cellsV [p])[j]? = some u → W.cell? ⟨b, j, none⟩ = some u) (hn : n ≤ 1000000000) (hbase : base ≤ W.heap.size)
    (h : ∀ v' w', w'.ownsRow base 50 2 v' (n + 1) (cellsV (l ++ [p])) → W.grownBy w' v.ownBlock → wpList Tryd.prog ops Q rest (a.put o.dst v') w') : wpList Tryd.prog ops Q (o :: rest) a W := by
  obtain ⟨i0, hi, hz0, hz1, hz2⟩ := info_parts info_cel
  refine wpList_append_own W hgd s x 22 ho base 50 i0 (.agg #[.string ⟨#[]⟩, .string ⟨#[]⟩]) 2 32 Tryd.underlying22 hi hz0 hz1 hz2 rfl (by decide) v n (cellsV l) hs hown ⟨b, 0, none⟩ 1 c (cellsV [p]) hx rfl (fun j u hu => by rw [Strs.add_zero]; exact hnews j u hu) (cellsV_one [p]) (by unfold maxLen; omega) (by omega) hbase ?_
  intro v' w' h1 h2 _
  rw [← cellsV_append] at h1
  exact h v' w' h1 h2
/-- What such a row is, as it is read. -/
theorem own_cel {w : World} {base n : Nat} {v : Value} {l : List K} (h : w.ownsRow base 50 2 v n (cellsV l)) : ∃ ao c, v = .slice ao n c ∧ n = l.length ∧ CelR w ao l ∧ ∀ q, ao = some q → base ≤ q.block := by
  have hl := h.1
  rw [cellsV_length] at hl
  rcases h.2 with ⟨rfl, h2⟩ | ⟨g, cap, cur, rfl, h1, h2, h3, h4⟩
  · subst h2
    have h0 : l = [] := List.eq_nil_of_length_eq_zero (by omega)
    subst h0
    exact ⟨Option.none, 0, rfl, rfl, CelR.none w _, fun q hq => by cases hq⟩
  · have hn : n = l.length := by omega
    refine ⟨some ⟨g, 0, none⟩, cap, rfl, hn, fun _ => ⟨g, 0, rfl, (Array.getElem?_eq_some_iff.1 h2).1, fun i x hx => ?_⟩, fun q hq => by cases hq; exact h1⟩
    have hc := cellsV_at l i x hx
    have hr := h.cells (g := g) rfl
    have e1 := hr _ _ hc.1
    have e2 := hr _ _ hc.2
    rw [Strs.add_zero] at e1 e2
    rw [Nat.zero_add]
    exact ⟨e1, e2⟩

theorem cellStr : Hold.TyCell Tryd.prog 9 := ⟨_, Tryd.underlying9, rfl, by kernel_rfl⟩
theorem celRow : Hold.TyRow Tryd.prog 50 2 := ⟨_, Tryd.underlying50, rfl, by kernel_rfl⟩
end Go.Proofs.YtpamdpfgcbadhaaDoor.Cel
