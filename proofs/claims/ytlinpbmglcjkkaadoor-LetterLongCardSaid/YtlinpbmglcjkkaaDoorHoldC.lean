/-
  More of the calculus of blocks: a store that tells the world behind it; lists that lie elsewhere stay. Conditions: those that each lemma names.
-/
import Derived.Test.YtlinpbmglcjkkaaDoorHoldB
import Derived.Test.YtlinpbmglcjkkaaDoorPrtC
namespace Go.Proofs.YtlinpbmglcjkkaaDoor.Hold
open Go.RowKit Mur Prt
set_option maxRecDepth 100000

section
variable {P : Program} {ops : Array Oper} {rest : List Oper} {op : Oper} {a : Act} {w w0 : World} {m : List Blk} {Q : Exit → Act → World → Prop}
theorem store_k (h : Hld w0 m w) (i : Nat) {b o : Nat} {t ty : TypeId} {v cs v' : List Value} {x y : Operand} (hg : op.guard = none) (ho : op.op = .store ty x y) (hx : a.eval x = .pointer (some ⟨b, o, none⟩)) (hy : a.eval y = .agg cs.toArray) (hi : m[i]? = some ⟨b, t, v⟩) (hl : o + cs.length ≤ v.length) (hv : lay v o cs = v') (h1 : Single cs) (hr : TyRow P ty cs.length)
    (hk : ∀ w', w' = w.setCells b o cs → Hld w0 (m.set i ⟨b, t, v'⟩) w' → wpList P ops Q rest (a.put op.dst undef) w') : wpList P ops Q (op :: rest) a w := by
  obtain ⟨d, hu, hd, hs⟩ := hr
  subst hv
  exact wpList_store_mid hg ty x y ho b o cs.toArray hx hy (by simpa using h.there i hi o cs.length hl) (by simpa using hs) h1 (hk _ (by simp) (by simpa using h.set i hi o cs))
end
theorem cell_sets : ∀ (cs : List Value) {w : World} {p : Addr} (b o : Nat), p.block ≠ b → (w.setCells b o cs).cell? p = w.cell? p
  | [], w, p, b, o, h => rfl
  | x :: cs, w, p, b, o, h => by
    rw [World.setCells, cell_sets cs b (o + 1) h]
    exact World.cell?_setCell_other w ⟨b, o, none⟩ p x (fun e => h (by rw [← e]))
theorem size_sets : ∀ (cs : List Value) {w : World} (b o : Nat), (w.setCells b o cs).heap.size = w.heap.size
  | [], w, b, o => rfl
  | x :: cs, w, b, o => by rw [World.setCells, size_sets cs b (o + 1)]; simp
theorem ints_sets {w : World} {a : Option Addr} {l : List Int} (h : IntsR w a l) (cs : List Value) (b o : Nat) (hp : ∀ q, a = some q → q.block ≠ b) : IntsR (w.setCells b o cs) a l := fun hl => by
  obtain ⟨g, k, ha, hb, hc⟩ := h hl
  exact ⟨g, k, ha, by rw [size_sets]; exact hb, fun i x hx => (cell_sets cs (p := ⟨g, k + i, none⟩) b o (show g ≠ b from hp ⟨g, k, none⟩ ha)).trans (hc i x hx)⟩
theorem strs_sets {w : World} {a : Option Addr} {l : List ByteArray} (h : StrsR w a l) (cs : List Value) (b o : Nat) (hp : ∀ q, a = some q → q.block ≠ b) : StrsR (w.setCells b o cs) a l := fun hl => by
  obtain ⟨g, k, ha, hb, hc⟩ := h hl
  exact ⟨g, k, ha, by rw [size_sets]; exact hb, fun i x hx => (cell_sets cs (p := ⟨g, k + i, none⟩) b o (show g ≠ b from hp ⟨g, k, none⟩ ha)).trans (hc i x hx)⟩
end Go.Proofs.YtlinpbmglcjkkaaDoor.Hold
