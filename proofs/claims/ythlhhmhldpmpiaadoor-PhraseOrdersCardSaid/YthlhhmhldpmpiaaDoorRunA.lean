/-
  Slices of runes that a call has made itself: append of some, making with room, what such a slice is. Conditions: those that each lemma names.
-/
import Derived.Test.YthlhhmhldpmpiaaDoorStrA
namespace Go.Proofs.YthlhhmhldpmpiaaDoor.Runs
open Go.RowKit Mur

/-- Numbers as cells. -/
def runsV (l : List Nat) : List Value := l.map fun n : Nat => Value.int .i32 (n : Int)
theorem runsV_length (l : List Nat) : (runsV l).length = l.length := by simp [runsV]
theorem runsV_at {l : List Nat} {i : Nat} {x : Nat} (h : l[i]? = some x) : (runsV l)[i]? = some (.int .i32 (x : Int)) := by simp [runsV, h]
theorem runsV_append (l m : List Nat) : runsV (l ++ m) = runsV l ++ runsV m := by simp [runsV]
theorem runsV_one (l : List Nat) : ∀ v ∈ runsV l, v.oneCell' = true := fun v hv => by
  simp only [runsV, List.mem_map] at hv
  obtain ⟨x, _, rfl⟩ := hv
  rfl
theorem info_run : (Tryd.prog.info? 21).map (fun i => (i.zero, i.size, i.bytes)) = some (some (.int .i32 0), 1, 4) := by kernel_rfl

theorem append_runs {ops : Array Oper} {rest : List Oper} {o : Oper} {a : Act} {W : World} {Q : Exit → Act → World → Prop} (hgd : o.guard = none) (s x : Operand)
    (ho : o.op = .call { callee := .builtin .append, args := #[s, x], argTypes := #[37, 37] }) (base n : Nat) (v : Value) (l : List Nat) (hs : a.eval s = v) (hown : W.ownsRow base 21 1 v n (runsV l))
    (b m c : Nat) (news : List Nat) (hx : a.eval x = .slice (some ⟨b, 0, none⟩) m c) (hm : news.length = m) (hnews : ∀ j u, (runsV news)[j]? = some u → W.cell? ⟨b, j, none⟩ = some u) (hn : n + m ≤ 8796093022208) (hbase : base ≤ W.heap.size)
    (h : ∀ v' w', w'.ownsRow base 21 1 v' (n + m) (runsV (l ++ news)) → W.grownBy w' v.ownBlock → wpList Tryd.prog ops Q rest (a.put o.dst v') w') : wpList Tryd.prog ops Q (o :: rest) a W := by
  obtain ⟨i0, hi, hz0, hz1, hz2⟩ := info_parts info_run
  refine wpList_append_own W hgd s x 37 ho base 21 i0 (.int .i32 0) 1 4 Tryd.underlying37 hi hz0 hz1 hz2 rfl (by decide) v n (runsV l) hs hown ⟨b, 0, none⟩ m c (runsV news) hx (by rw [runsV_length]; omega) (fun j u hu => by rw [Strs.add_zero]; exact hnews j u hu) (runsV_one news) (by unfold maxLen; omega) (by omega) hbase ?_
  intro v' w' h1 h2 _
  rw [← runsV_append] at h1
  exact h v' w' h1 h2

theorem new_two (W : World) (x y : Nat) (t : TypeId) : ∀ j u, (runsV [x, y])[j]? = some u → (W.alloc (.cells #[.int .i32 (x : Int), .int .i32 (y : Int)] t)).cell? ⟨W.heap.size, j, none⟩ = some u := fun j u hu => by
  match j, hu with
  | 0, hu => cases hu; simp [World.cell?_alloc_new]
  | 1, hu => cases hu; simp [World.cell?_alloc_new]
theorem new_three (W : World) (x y z : Nat) (t : TypeId) : ∀ j u, (runsV [x, y, z])[j]? = some u → (W.alloc (.cells #[.int .i32 (x : Int), .int .i32 (y : Int), .int .i32 (z : Int)] t)).cell? ⟨W.heap.size, j, none⟩ = some u := fun j u hu => by
  match j, hu with
  | 0, hu => cases hu; simp [World.cell?_alloc_new]
  | 1, hu => cases hu; simp [World.cell?_alloc_new]
  | 2, hu => cases hu; simp [World.cell?_alloc_new]

theorem new_one (W : World) (x : Nat) (t : TypeId) : ∀ j u, (runsV [x])[j]? = some u → (W.alloc (.cells #[.int .i32 (x : Int)] t)).cell? ⟨W.heap.size, j, none⟩ = some u := fun j u hu => by
  match j, hu with
  | 0, hu => cases hu; simp [World.cell?_alloc_new]
end Go.Proofs.YthlhhmhldpmpiaaDoor.Runs
