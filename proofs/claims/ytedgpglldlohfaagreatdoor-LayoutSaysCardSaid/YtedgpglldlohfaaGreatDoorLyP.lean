/-
  'copy' of whole numbers into a block that a call holds. Nothing here speaks of a program but of its types. Condition: the block has room.
-/
import Derived.Test.YtedgpglldlohfaaGreatDoorLyU
namespace Go.Proofs.YtedgpglldlohfaaGreatDoor.Zs
open Go.RowKit Mur Frm Lyo Hold
set_option maxRecDepth 100000
set_option linter.unusedSimpArgs false

theorem run_copyZs {w w0 : World} {m : List Blk} (h : Hld w0 m w) (i : Nat) {b L C n sc k : Nat} {ty t : TypeId} {v : List Value} {ao : Option Addr} {l : List Int} (hi : m[i]? = some ⟨b, t, v⟩) (hr : ZsR w ao l) (hn : l.length = n) (hk : k = min n L) (hl : k ≤ v.length) :
    (Builtin.copy_ #[22, 22] ty #[.slice (some ⟨b, 0, none⟩) L C, .slice ao n sc]).run Tryz.prog w = .ok (goInt k) (w.setCells b 0 (zsV (l.take k))) := by
  have hcl : (zsV (l.take k)).length = k := by rw [zsV_length, List.length_take]; omega
  have hth := h.there i hi 0 k (by rw [Nat.zero_add]; exact hl)
  have hst := run_storeCells_cells (P := Tryz.prog) b 0 (zsV (l.take k)) 0 w (by rw [hcl]; intro j hj; simpa using (hth j hj).1) (by rw [hcl]; intro j hj; simpa using (hth j hj).2) (zsV_one _)
  rw [Nat.zero_add] at hst
  have hz := size_int
  have hmin : Nat.min n L = k := hk.symm
  by_cases h0 : l = []
  · subst h0
    obtain rfl : k = 0 := by simp at hn; omega
    obtain rfl : n = 0 := by simpa using hn.symm
    cases ao with
    | none => simp [Builtin.copy_, run_underlying Tryz.underlying22, Builtin.lenOf, Builtin.firstCells, hz, storeCells, zsV, World.setCells]
    | some a => simp [Builtin.copy_, run_underlying Tryz.underlying22, Builtin.lenOf, Builtin.firstCells, hz, storeCells, zsV, World.setCells, loadCells, loadCellsFrom]
  · obtain ⟨g, o, rfl, _, hc⟩ := hr (fun e => h0 (List.eq_nil_of_length_eq_zero e))
    have hld := run_loadCells_list (P := Tryz.prog) w ⟨g, o, none⟩ (zsV (l.take k)) (fun j u hu => by
      have hj : j < (l.take k).length := by have := (List.getElem?_eq_some_iff.1 hu).1; rwa [zsV_length] at this
      have e := zsV_at (List.getElem?_eq_getElem hj)
      rw [e] at hu
      have e2 : (⟨g, o, none⟩ : Addr).add j = ⟨g, o + j, none⟩ := Go.WideShapes.add_plain g o j
      rw [e2, ← Option.some.inj hu]
      refine hc j _ ?_
      rw [List.getElem_take]
      exact List.getElem?_eq_getElem _)
    rw [hcl] at hld
    simp [Builtin.copy_, run_underlying Tryz.underlying22, Builtin.lenOf, Builtin.firstCells, hz, hmin, hld, hst]
theorem copyZs {ops : Array Oper} {rest : List Oper} {op : Oper} {a : Act} {w w0 : World} {m : List Blk} {Q : Exit → Act → World → Prop} (h : Hld w0 m w) (i : Nat) {b L C n sc k : Nat} {t : TypeId} {v v' : List Value} {ao : Option Addr} {l : List Int} {d x : Operand} (hg : op.guard = none) (ho : op.op = .call { callee := .builtin .copy, args := #[d, x], argTypes := #[22, 22] }) (hd : a.eval d = .slice (some ⟨b, 0, none⟩) L C) (hx : a.eval x = .slice ao n sc)
    (hi : m[i]? = some ⟨b, t, v⟩) (hr : ZsR w ao l) (hn : l.length = n) (hkk : k = min n L) (hl : k ≤ v.length) (hv : lay v 0 (zsV (l.take k)) = v')
    (hk : ∀ w', Hld w0 (m.set i ⟨b, t, v'⟩) w' → wpList Tryz.prog ops Q rest (a.put op.dst (goInt k)) w') : wpList Tryz.prog ops Q (op :: rest) a w := by
  refine wpList_plain hg fun K hK => ?_
  have hrun := run_copyZs (ty := op.type) (C := C) (sc := sc) h i hi hr hn hkk hl
  subst hv
  unfold Oper.wp
  simp [execOp, ho, resolve, invoke, builtin, hd, hx, hrun, Result.andThen]
  exact hK _ _ (hk _ (h.set i hi 0 _))
/-- So many zeros behind a row of numbers. -/
theorem lay_zs (N k : Nat) (l : List Int) (h : (l.take k).length = k) (hk : k ≤ N) : lay (zsV (List.replicate N 0)) 0 (zsV (l.take k)) = zsV (l.take k ++ List.replicate (N - k) 0) := by
  have e : zsV (List.replicate N 0) = zsV (List.replicate k 0) ++ zsV (List.replicate (N - k) 0) := by
    rw [← zsV_append, List.replicate_append_replicate, show k + (N - k) = N by omega]
  rw [e, zsV_append]
  exact lay_left (by rw [zsV_length, zsV_length, h, List.length_replicate])
end Go.Proofs.YtedgpglldlohfaaGreatDoor.Zs
