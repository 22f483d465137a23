/-
  Slices of ints that a call has made itself: append of some, making with room, what such a slice is. Conditions: those that each lemma names.
-/
import Derived.Test.YtlinpbmglcjkkaaStrA
namespace Go.Proofs.Ytlinpbmglcjkkaa.Ints
open Go.RowKit Mur

/-- Numbers as cells. -/
def intsV (l : List Nat) : List Value := l.map fun n : Nat => Value.int .i64 (n : Int)
theorem intsV_length (l : List Nat) : (intsV l).length = l.length := by simp [intsV]
theorem intsV_at {l : List Nat} {i : Nat} {x : Nat} (h : l[i]? = some x) : (intsV l)[i]? = some (.int .i64 (x : Int)) := by simp [intsV, h]
theorem intsV_append (l m : List Nat) : intsV (l ++ m) = intsV l ++ intsV m := by simp [intsV]
theorem intsV_one (l : List Nat) : ∀ v ∈ intsV l, v.oneCell' = true := fun v hv => by
  simp only [intsV, List.mem_map] at hv
  obtain ⟨x, _, rfl⟩ := hv
  rfl
theorem info_int : (Try.prog.info? 3).map (fun i => (i.zero, i.size, i.bytes)) = some (some (.int .i64 0), 1, 8) := by kernel_rfl

theorem append_ints {ops : Array Oper} {rest : List Oper} {o : Oper} {a : Act} {W : World} {Q : Exit → Act → World → Prop} (hgd : o.guard = none) (s x : Operand)
    (ho : o.op = .call { callee := .builtin .append, args := #[s, x], argTypes := #[22, 22] }) (base n : Nat) (v : Value) (l : List Nat) (hs : a.eval s = v) (hown : W.ownsRow base 3 1 v n (intsV l))
    (b m c : Nat) (news : List Nat) (hx : a.eval x = .slice (some ⟨b, 0, none⟩) m c) (hm : news.length = m) (hnews : ∀ j u, (intsV news)[j]? = some u → W.cell? ⟨b, j, none⟩ = some u) (hn : n + m ≤ 8796093022208) (hbase : base ≤ W.heap.size)
    (h : ∀ v' w', w'.ownsRow base 3 1 v' (n + m) (intsV (l ++ news)) → W.grownBy w' v.ownBlock → wpList Try.prog ops Q rest (a.put o.dst v') w') : wpList Try.prog ops Q (o :: rest) a W := by
  obtain ⟨i0, hi, hz0, hz1, hz2⟩ := info_parts info_int
  refine wpList_append_own W hgd s x 22 ho base 3 i0 (.int .i64 0) 1 8 Try.underlying22 hi hz0 hz1 hz2 rfl (by decide) v n (intsV l) hs hown ⟨b, 0, none⟩ m c (intsV news) hx (by rw [intsV_length]; omega) (fun j u hu => by rw [Strs.add_zero]; exact hnews j u hu) (intsV_one news) (by unfold maxLen; omega) (by omega) hbase ?_
  intro v' w' h1 h2 _
  rw [← intsV_append] at h1
  exact h v' w' h1 h2

theorem new_two (W : World) (x y : Nat) (t : TypeId) : ∀ j u, (intsV [x, y])[j]? = some u → (W.alloc (.cells #[.int .i64 (x : Int), .int .i64 (y : Int)] t)).cell? ⟨W.heap.size, j, none⟩ = some u := fun j u hu => by
  match j, hu with
  | 0, hu => cases hu; simp [World.cell?_alloc_new]
  | 1, hu => cases hu; simp [World.cell?_alloc_new]
theorem new_three (W : World) (x y z : Nat) (t : TypeId) : ∀ j u, (intsV [x, y, z])[j]? = some u → (W.alloc (.cells #[.int .i64 (x : Int), .int .i64 (y : Int), .int .i64 (z : Int)] t)).cell? ⟨W.heap.size, j, none⟩ = some u := fun j u hu => by
  match j, hu with
  | 0, hu => cases hu; simp [World.cell?_alloc_new]
  | 1, hu => cases hu; simp [World.cell?_alloc_new]
  | 2, hu => cases hu; simp [World.cell?_alloc_new]

/-- What 'make([]int, 0, n)' makes. -/
theorem make_room (w : World) (n : Nat) (c : Int) (hc : c = (n : Int)) (hn : 8 * n ≤ 281474976710656) : (Instr.makeSlice 22 (.int .i64 0) (.int .i64 c)).run Try.prog w =
    .ok (.slice (some ⟨w.heap.size, 0, none⟩) 0 n) (w.alloc (.cells (madeCells #[.int .i64 0] n) 3)) := by
  subst hc
  obtain ⟨i0, hi, hz0, hz1, hz2⟩ := info_parts info_int
  have h := run_make (P := Try.prog) w 22 3 i0 (.int .i64 0) Try.underlying22 hi hz0 .i64 .i64 0 (n : Int) (by omega) (by omega) (by rw [hz2]; omega) (by omega)
  simpa [hz1, Value.cells] using h
end Go.Proofs.Ytlinpbmglcjkkaa.Ints
