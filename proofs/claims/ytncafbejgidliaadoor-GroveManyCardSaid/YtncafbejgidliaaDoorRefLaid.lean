/-
  What the document's own Block of layer 2 keeps of memory from round to round, and an append of one word that tells that the old cells stay. No condition but those that each lemma names.
-/
import Derived.Test.YtncafbejgidliaaDoorRefRound
import Derived.Test.YtncafbejgidliaaDoorRefWords
import Derived.Test.YtncafbejgidliaaDoorDigFinish
import Derived.Deep.RegionHeld3
import Derived.Deep.AppendLies
namespace Go.Proofs.YtncafbejgidliaaDoor.RefSha
open Go.RowKit Mur Sha
set_option maxRecDepth 100000

theorem ext_keeps (l : List Nat) (m j i : Nat) (h : i < (ext l m).length) : (ext l (m + j)).getD i 0 = (ext l m).getD i 0 := by
  induction j with
  | zero => rfl
  | succ j ih =>
    have hl : i < (ext l (m + j)).length := by rw [ext_length] at h ⊢; omega
    rw [← ih]
    show (ext l (m + j) ++ [next (ext l (m + j))]).getD i 0 = _
    simp only [List.getD_eq_getElem?_getD, List.getElem?_append_left hl]

theorem own_kept {w w' : World} {base n size : Nat} {e : TypeId} {v : Value} {xs : List Value} (h : w.ownsRow base e size v n xs) (hb : ∀ g, v.ownBlock = some g → w'.heap[g]? = w.heap[g]?) : w'.ownsRow base e size v n xs := by
  refine ⟨h.1, ?_⟩
  rcases h.2 with hn | ⟨g, cap, cur, rfl, h1, h2, h3⟩
  · exact .inl hn
  · exact .inr ⟨g, cap, cur, rfl, h1, by rw [hb g rfl]; exact h2, h3⟩

/-- What stands in memory between two rounds. -/
structure Laid (w0 : World) (h : S8) (g cap n : Nat) (ws : List Nat) (nF : Nat) (V : S8) (w : World) : Prop where
  hB : Whole w w0.heap.size 85 h.cells.toList
  hZ : Whole w (w0.heap.size + 1) 85 zeros8
  hF : Whole w nF 92 (Lanes.wordsV ks)
  hV : Whole w (nF + 1) 85 V.cells.toList
  own : w.ownsRow (w0.heap.size + 2) 84 1 (.slice (some ⟨g, 0, none⟩) n cap) n (Lanes.wordsV ws)
  gF : g ≠ nF
  gV : g ≠ nF + 1
  bF : w0.heap.size + 2 ≤ nF
  below : Below w0.heap.size w0 w

theorem Laid.lt {w0 w : World} {h V : S8} {g cap n nF : Nat} {ws : List Nat} (k : Laid w0 h g cap n ws nF V w) : w0.heap.size + 2 ≤ g ∧ g < w.heap.size := k.own.lt g rfl
theorem Laid.drewN {w0 w : World} {h V : S8} {g cap n nF : Nat} {ws : List Nat} (k : Laid w0 h g cap n ws nF V w) (m : Nat) : Laid w0 h g cap n ws nF V (w.drewN m) :=
  ⟨k.hB, k.hZ, k.hF, k.hV, k.own, k.gF, k.gV, k.bF, belowN k.below m⟩
theorem Laid.drew {w0 w : World} {h V : S8} {g cap n nF : Nat} {ws : List Nat} (k : Laid w0 h g cap n ws nF V w) : Laid w0 h g cap n ws nF V w.drew :=
  ⟨k.hB, k.hZ, k.hF, k.hV, k.own, k.gF, k.gV, k.bF, k.below.drew⟩
theorem Laid.next {w0 w w' : World} {h V : S8} {g cap n nF : Nat} {ws : List Nat} (k : Laid w0 h g cap n ws nF V w) (b : Below w.heap.size w w') : Laid w0 h g cap n ws nF V w' :=
  ⟨k.hB.below k.hB.lt b, k.hZ.below k.hZ.lt b, k.hF.below k.hF.lt b, k.hV.below k.hV.lt b,
    own_kept k.own (fun g' hg => b.block g' (by cases hg; exact k.lt.2)), k.gF, k.gV, k.bF, k.below.trans (b.mono k.below.size)⟩
theorem Laid.alloc {w0 w : World} {h V : S8} {g cap n nF : Nat} {ws : List Nat} (k : Laid w0 h g cap n ws nF V w) (o : Obj) : Laid w0 h g cap n ws nF V (w.alloc o) :=
  k.next ((Below.refl _ _).alloc (Nat.le_refl _) o)
theorem Whole.grown {w w' : World} {b : Nat} {t : TypeId} {vs : List Value} {row : Option Nat} (h : Whole w b t vs) (hg : w.grownBy w' row) (hn : some b ≠ row) : Whole w' b t vs := by
  show w'.heap[b]? = _
  rw [hg.block b h.lt hn]
  exact h
theorem Laid.grown {w0 w w' : World} {h V : S8} {g cap n nF g' cap' n' : Nat} {ws ws' : List Nat} (k : Laid w0 h g cap n ws nF V w) (hg : w.grownBy w' (some g))
    (hown : w'.ownsRow (w0.heap.size + 2) 84 1 (.slice (some ⟨g', 0, none⟩) n' cap') n' (Lanes.wordsV ws')) (hat : g' = g ∨ g' = w.heap.size) : Laid w0 h g' cap' n' ws' nF V w' := by
  have h1 := k.lt
  have h2 := k.gF
  have h3 := k.gV
  have h4 := k.hF.lt
  have h5 := k.hV.lt
  have h6 := k.bF
  refine ⟨Whole.grown k.hB hg (by simp; omega), Whole.grown k.hZ hg (by simp; omega), Whole.grown k.hF hg (by simp; omega), Whole.grown k.hV hg (by simp; omega), hown, by omega, by omega, h6, k.below.grown hg k.below.size (fun j hj => by cases hj; omega)⟩
theorem Whole.otherRow {w : World} {b c : Nat} {t : TypeId} {vs : List Value} (h : Whole w b t vs) (cs : Array Value) (hc : c ≠ b) : Whole (w.setRow c cs) b t vs := by
  show (w.setRow c cs).heap[b]? = _
  rw [setRow_other w c b cs (fun e => hc e.symm)]
  exact h
theorem Laid.setV {w0 w : World} {h V : S8} {g cap n nF : Nat} {ws : List Nat} (k : Laid w0 h g cap n ws nF V w) (T : S8) : Laid w0 h g cap n ws nF T (w.setRow (nF + 1) T.cells) := by
  have h6 := k.bF
  have h3 := k.gV
  refine ⟨Whole.otherRow k.hB _ (by omega), Whole.otherRow k.hZ _ (by omega), Whole.otherRow k.hF _ (by omega), ?_, own_kept k.own (fun g' hg => setRow_other w _ _ _ (by cases hg; exact h3)), k.gF, h3, h6, below_setRow k.below (by omega) _⟩
  have := Whole.setRow k.hV T.cells.toList
  simpa using this
theorem Laid.cell {w0 w : World} {h V : S8} {g cap n nF : Nat} {ws : List Nat} (k : Laid w0 h g cap n ws nF V w) (i : Nat) (hi : i < ws.length) : w.cell? ⟨g, i, none⟩ = some (.int .u32 (ws.getD i 0 : Nat)) := by
  have h1 := k.own.cells (g := g) rfl i _ (Lanes.wordsV_at hi)
  have e : (⟨g, 0, none⟩ : Addr).add i = ⟨g, i, none⟩ := by unfold Addr.add; split <;> simp_all
  rw [e] at h1
  rw [h1]
  simp [List.getD, hi]

theorem laid_cell {w0 w : World} {h V : S8} {g cap n nF : Nat} {ws : List Nat} (k : Laid w0 h g cap n ws nF V w) (hall : ∀ x ∈ ws, x < 4294967296) (i : Nat) (hi : i < ws.length) :
    ∃ x : Nat, ws.getD i 0 = x ∧ x < 4294967296 ∧ w.cell? ⟨g, i, none⟩ = some (.int .u32 (x : Int)) :=
  ⟨_, rfl, by simp only [List.getD, List.getElem?_eq_getElem hi, Option.getD_some]; exact hall _ (List.getElem_mem hi), k.cell i hi⟩

/-- An append of one word to a row of one's own: the old row's cells stay as they are. -/
theorem run_append_keeps (w : World) (t ty : TypeId) (ht : Tryd.prog.underlying t = some (.slice 84)) (base g n cap : Nat) (ws : List Nat) (y : Int)
    (hown : w.ownsRow base 84 1 (.slice (some ⟨g, 0, none⟩) n cap) n (Lanes.wordsV ws)) (a : Addr) (hnews : ∀ j u, [Value.int .u32 y][j]? = some u → w.cell? (a.add j) = some u) (hn : n ≤ 1000) (hbase : base ≤ w.heap.size) :
    ∃ g' cap' w', (Builtin.append_ #[t, t] ty #[.slice (some ⟨g, 0, none⟩) n cap, .slice (some a) 1 1]).run Tryd.prog w = .ok (.slice (some ⟨g', 0, none⟩) (n + 1) cap') w' ∧
      w'.ownsRow base 84 1 (.slice (some ⟨g', 0, none⟩) (n + 1) cap') (n + 1) (Lanes.wordsV ws ++ [.int .u32 y]) ∧ w.grownBy w' (some g) ∧ (g' = g ∨ g' = w.heap.size) ∧
      (∀ j u, (Lanes.wordsV ws)[j]? = some u → w'.cell? ⟨g, j, none⟩ = some u) := by
  obtain ⟨i0, hi, hz0, hz1, hz2⟩ := info_parts Lanes.info_u32
  have hadd : ∀ j, (⟨g, 0, none⟩ : Addr).add j = ⟨g, j, none⟩ := fun j => by unfold Addr.add; split <;> simp_all
  obtain ⟨g', cap', w', hr, h2, h3, h4, h5⟩ := run_append_lies (P := Tryd.prog) w t ty base 84 i0 (.int .u32 0) 1 4 ht hi hz0 hz1 hz2 rfl (by decide) (.slice (some ⟨g, 0, none⟩) n cap) n (Lanes.wordsV ws) hown a 1 1 [.int .u32 y] rfl hnews (RefTwo.one_cells _) (by decide)
    (by unfold maxLen; omega) (by omega) hbase w.heap.size rfl
  refine ⟨g', cap', w', hr, h2, h3, ?_, ?_⟩
  · rcases h4 with h4 | h4
    · left; cases h4; rfl
    · exact .inr h4
  · intro j u hu
    have hold := hown.cells (g := g) rfl j u hu
    rw [hadd] at hold
    rcases hown.2 with ⟨h, _⟩ | ⟨g0, c0, cur, he, hb0, hg0, hnc, hcm, hcs, htake⟩
    · cases h
    · cases he
      by_cases hroom : n + 1 ≤ cap
      · have hr2 := run_append_room (P := Tryd.prog) w t ty 84 i0 ht hi g n cap cur hg0 a 1 1 [.int .u32 y] (by rw [hz1]; rfl) hnews (RefTwo.one_cells _) hroom (by rw [hz1, hcs]; simp; omega)
        rw [hr2] at hr
        injection hr with e1 e2
        injection e1 with e3
        injection e3 with e4
        injection e4 with e5
        subst e5
        have h6 := h2.cells (g := g) rfl j u (by rw [List.getElem?_append_left (by have := (List.getElem?_eq_some_iff.1 hu).1; exact this)]; exact hu)
        rw [hadd] at h6
        exact h6
      · have hr2 := run_append_grow (P := Tryd.prog) w t ty 84 i0 (.int .u32 0) ht hi hz0 ⟨g, 0, none⟩ n cap (Lanes.wordsV ws) (by rw [hz1]; exact hown.1) (fun j v hj => hown.cells (g := g) rfl j v hj) a 1 1 [.int .u32 y] (by rw [hz1]; rfl) hnews (by omega) (by omega) (growslice_fits (by omega) (by rw [hz2]; omega))
        rw [hr2] at hr
        injection hr with e1 e2
        rw [← e2, World.cell?_of_block (w := w) (a := ⟨g, j, none⟩) (heap_alloc_old w.drew _ (hown.lt g rfl).2)]
        exact hold

theorem step_append_one {ops : Array Oper} {o : Oper} {a : Act} {K : Act → World → Prop} {Q : Exit → Act → World → Prop} {E : Prop} (hgd : o.guard = none) (s x : Operand)
    (ho : o.op = .call { callee := .builtin .append, args := #[s, x], argTypes := #[89, 89] }) (W : World) (y : Int) (base g n cap : Nat) (ws : List Nat)
    (hs : a.eval s = .slice (some ⟨g, 0, none⟩) n cap) (hx : a.eval x = .slice (some ⟨W.heap.size, 0, none⟩) 1 1) (hown : W.ownsRow base 84 1 (.slice (some ⟨g, 0, none⟩) n cap) n (Lanes.wordsV ws)) (hn : n ≤ 1000) (hbase : base ≤ W.heap.size)
    (h : ∀ g' cap' w', w'.ownsRow base 84 1 (.slice (some ⟨g', 0, none⟩) (n + 1) cap') (n + 1) (Lanes.wordsV ws ++ [.int .u32 y]) → (W.alloc (.cells #[.int .u32 y] 84)).grownBy w' (some g) → (g' = g ∨ g' = W.heap.size + 1) →
      (∀ j u, (Lanes.wordsV ws)[j]? = some u → w'.cell? ⟨g, j, none⟩ = some u) → K (a.put o.dst (.slice (some ⟨g', 0, none⟩) (n + 1) cap')) w') :
    if Region.wanted o (yielded ops a.tmps) = true then Oper.wp Tryd.prog o a (W.alloc (.cells #[.int .u32 y] 84)) K Q else E := by
  have hw : Region.wanted o (yielded ops a.tmps) = true := by simp [Region.wanted, hgd]
  rw [if_pos hw]
  obtain ⟨g', cap', w', hr, h2, h3, h4, h5⟩ := run_append_keeps (W.alloc (.cells #[.int .u32 y] 84)) 89 o.type Tryd.underlying89 base g n cap ws y (hown.alloc _) ⟨W.heap.size, 0, none⟩ (RefTwo.one_new _ _ _) hn (by simp; omega)
  unfold Oper.wp execOp
  simp only [ho, resolve, invoke, builtin, Sem.run_bind, Sem.run_pure, Result.andThen_ok, List.map_toArray, List.map_cons, List.map_nil, hs, hx, hr]
  exact h g' cap' w' h2 h3 (by simpa using h4) h5

theorem round_call (v T : S8) (y x : Nat) (u : World) (hv : v.Ok) (hT : T = roundOf v ((x + y) % 4294967296)) :
    Calls Tryd.prog 67 #[.agg #[.int .u32 (v.a : Int), .int .u32 (v.b : Int), .int .u32 (v.c : Int), .int .u32 (v.d : Int), .int .u32 (v.e : Int), .int .u32 (v.f : Int), .int .u32 (v.g : Int), .int .u32 (v.h : Int)], .int .u32 (((y : Int) + (x : Int)) % 4294967296)] u
      fun e w' => e = .returned (.agg #[.int .u32 (T.a : Int), .int .u32 (T.b : Int), .int .u32 (T.c : Int), .int .u32 (T.d : Int), .int .u32 (T.e : Int), .int .u32 (T.f : Int), .int .u32 (T.g : Int), .int .u32 (T.h : Int)]) ∧ Below u.heap.size u w' := by
  subst hT
  have := round_any v ((x + y) % 4294967296) u hv
  rw [Nat.add_comm x y, Int.natCast_emod, Int.natCast_add] at this
  rw [Nat.add_comm x y]
  exact this

/-- The eight sums, the first k of them laid. -/
def sums (h V : S8) (k : Nat) : List Nat := (List.range 8).map fun j => if j < k then (h.list.getD j 0 + V.list.getD j 0) % 4294967296 else h.list.getD j 0
theorem sums_zero (h V : S8) : sums h V 0 = h.list := rfl
theorem sums_end (h V : S8) : sums h V 8 = (add8 h V).list := rfl
theorem sums_length (h V : S8) (k : Nat) : (sums h V k).length = 8 := by simp [sums]
theorem sums_at (h V : S8) (k : Nat) (hk : k < 8) : (sums h V k)[k]? = some (h.list.getD k 0) := by simp [sums, hk]
theorem sums_set (h V : S8) (k : Nat) : (sums h V k).set k ((h.list.getD k 0 + V.list.getD k 0) % 4294967296) = sums h V (k + 1) := by
  apply List.ext_getElem (by simp [sums])
  intro i h1 h2
  rw [List.getElem_set]
  by_cases e : k = i
  · subst e
    simp [sums]
  · have e1 : (i < k + 1) = (i < k) := by simp only [eq_iff_iff]; omega
    simp only [sums, List.getElem_map, List.getElem_range, e1, e, if_false]
theorem cells_list (h : S8) : h.cells.toList = Lanes.wordsV h.list := rfl
end Go.Proofs.YtncafbejgidliaaDoor.RefSha
