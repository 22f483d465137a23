/-
  An append of one text to a row of texts that a call has made, as one operation of a statement whose order is open. Nothing here speaks of the project's code: no condition but those that the lemma names.
-/
import Derived.Test.YthlhhmhldpmpiaaDoorStrA
namespace Go.Proofs.YthlhhmhldpmpiaaDoor.Strs
open Go.RowKit Mur

theorem step_append_str {ops : Array Oper} {o : Oper} {a : Act} {K : Act → World → Prop} {Q : Exit → Act → World → Prop} {E : Prop} (hgd : o.guard = none) (s x : Operand)
    (ho : o.op = .call { callee := .builtin .append, args := #[s, x], argTypes := #[28, 28] }) (W : World) (y : ByteArray) (base n : Nat) (v : Value) (l : List ByteArray)
    (hs : a.eval s = v) (hx : a.eval x = .slice (some ⟨W.heap.size, 0, none⟩) 1 1) (hown : W.ownsRow base 9 1 v n (strsV l)) (hn : n ≤ 1000) (hbase : base ≤ W.heap.size)
    (h : ∀ v' w', w'.ownsRow base 9 1 v' (n + 1) (strsV (l ++ [y])) → (W.alloc (.cells #[.string y] 9)).grownBy w' v.ownBlock → K (a.put o.dst v') w') :
    if Region.wanted o (yielded ops a.tmps) = true then Oper.wp Tryd.prog o a (W.alloc (.cells #[.string y] 9)) K Q else E := by
  have hw : Region.wanted o (yielded ops a.tmps) = true := by simp [Region.wanted, hgd]
  rw [if_pos hw]
  obtain ⟨i0, hi, hz0, hz1, hz2⟩ := info_parts info_str
  obtain ⟨v', w', hr, h2, h3, h4⟩ := run_append_own (P := Tryd.prog) (w := W.alloc (.cells #[.string y] 9)) base 28 o.type 9 i0 (.string ⟨#[]⟩) 1 16 Tryd.underlying28 hi hz0 hz1 hz2 rfl (by decide) v n (strsV l) (hown.alloc _) ⟨W.heap.size, 0, none⟩ 1 1 (strsV [y]) rfl (fun j u hu => by rw [add_zero]; exact new_one W y _ j u hu) (strsV_one [y]) (by unfold maxLen; omega) (by omega) (Nat.le_trans hbase (by simp))
  unfold Oper.wp execOp
  simp only [ho, resolve, invoke, builtin, Sem.run_bind, Sem.run_pure, Result.andThen_ok, List.map_toArray, List.map_cons, List.map_nil, hs, hx, hr]
  rw [← strsV_append] at h2
  exact h v' w' h2 h3
end Go.Proofs.YthlhhmhldpmpiaaDoor.Strs
