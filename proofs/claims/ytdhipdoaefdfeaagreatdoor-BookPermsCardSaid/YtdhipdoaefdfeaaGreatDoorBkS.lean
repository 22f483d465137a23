/-
  More of the calculus of blocks (steps of a region that draws; a store of one cell that tells what else is as it was), and books of which one list is another. Conditions: those that each lemma names.
-/
import Derived.Test.YtdhipdoaefdfeaaGreatDoorBkJ
namespace Go.Proofs.YtdhipdoaefdfeaaGreatDoor.Hold
open Go Go.RowKit Mur
section
variable {P : Program} {ops : Array Oper} {rest : List Oper} {op : Oper} {a : Act} {w w0 : World} {m : List Blk} {Q : Exit → Act → World → Prop} {K : Act → World → Prop} {E : Prop}
theorem step_run (hg : op.guard = none) (v : Value) (hr : (execOp a.eval op).run P w = .ok (.value v) w) (h : K (a.put op.dst v) w) : if Region.wanted op (yielded ops a.tmps) = true then Oper.wp P op a w K Q else E := by
  have hw : Region.wanted op (yielded ops a.tmps) = true := by simp [Region.wanted, hg]
  rw [if_pos hw]
  unfold Oper.wp
  rw [hr]
  exact h
theorem step_storeK (h : Hld w0 m w) (i : Nat) {b o : Nat} {t ty : TypeId} {v cs v' : List Value} {x y : Operand} (hg : op.guard = none) (ho : op.op = .store ty x y) (hx : a.eval x = .pointer (some ⟨b, o, none⟩)) (hy : a.eval y = .agg cs.toArray) (hi : m[i]? = some ⟨b, t, v⟩) (hl : o + cs.length ≤ v.length) (hv : lay v o cs = v') (h1 : Single cs) (hr : TyRow P ty cs.length)
    (hk : ∀ w', But b w w' → Hld w0 (m.set i ⟨b, t, v'⟩) w' → K (a.put op.dst undef) w') : if Region.wanted op (yielded ops a.tmps) = true then Oper.wp P op a w K Q else E := by
  obtain ⟨d, hu, hd, hs⟩ := hr
  subst hv
  have hw : Region.wanted op (yielded ops a.tmps) = true := by simp [Region.wanted, hg]
  rw [if_pos hw]
  exact wp_store_mid ty x y ho b o cs.toArray hx hy (by simpa using h.there i hi o cs.length hl) (by simpa using hs) h1 (hk _ (but_sets _ w b o) (by simpa using h.set i hi o cs))
theorem store1K (h : Hld w0 m w) (i : Nat) {b o : Nat} {t ty : TypeId} {v v' : List Value} {c : Value} {x y : Operand} (hg : op.guard = none) (ho : op.op = .store ty x y) (hx : a.eval x = .pointer (some ⟨b, o, none⟩)) (hy : a.eval y = c) (hi : m[i]? = some ⟨b, t, v⟩) (hl : o < v.length) (hv : v.set o c = v') (h1 : c.cells = #[c] ∧ c.oneCell' = true) (hr : TyCell P ty)
    (hk : ∀ w', But b w w' → Hld w0 (m.set i ⟨b, t, v'⟩) w' → wpList P ops Q rest (a.put op.dst undef) w') : wpList P ops Q (op :: rest) a w := by
  obtain ⟨d, hu, hd, hs⟩ := hr
  subst hv
  have hth := h.there i hi o 1 (by show o + 1 ≤ v.length; omega)
  have hst := run_storeCells_cells (P := P) b o [c] 0 w (by intro j hj; simpa using (hth j (by simpa using hj)).1) (by intro j hj; simpa using (hth j (by simpa using hj)).2) (by
    intro z hz
    obtain rfl := List.mem_singleton.1 hz
    exact h1.2)
  rw [Nat.add_zero] at hst
  have hrun : (storeVar ty ⟨b, o, none⟩ c).run P w = .ok () (w.setCells b o [c]) := by
    cases hq : P.info? ty with
    | none => simp [hq] at hs
    | some i =>
      have hs1 : i.size = 1 := by simpa [hq] using hs
      simp [storeVar, sizeOf, typeInfo, hq, h1.1, hs1, hst]
  refine wpList_plain hg fun K hK => ?_
  unfold Oper.wp execOp
  simp only [ho, hx, hy, Instr.storeAt, Instr.sureAddr, Sem.run_bind, Sem.run_pure, Result.andThen_ok, hrun]
  exact hK _ _ (hk _ (but_sets [c] w b o) (h.set i hi o [c]))
theorem keptI {f : FuncId} {args : Array Value} {v : Value} (R : ∀ u, Below w0.heap.size w0 u → Calls P f args u fun e w' => e = .returned v ∧ Below u.heap.size u w') : ∀ u, Hld w0 m u → Calls P f args u fun e w' => e = .returned v ∧ Hld w0 m w' := fun u h =>
  (R u h.below).mono fun _ _ ⟨he, hb⟩ => ⟨he, h.next hb⟩
/-- A call that comes up in a region that draws: its answer hangs on the world. -/
theorem cell_sl (a : Option Addr) (n c : Nat) : (Value.slice a n c).cells = #[Value.slice a n c] ∧ (Value.slice a n c).oneCell' = true := ⟨rfl, rfl⟩
theorem single_set {v : List Value} {i : Nat} {x : Value} (h : Single v) (hx : x.oneCell' = true) : Single (v.set i x) := by
  unfold Single at *
  rw [Array.all_eq_true_iff_forall_mem] at *
  intro u hu
  have hu' : u ∈ v.set i x := by simpa using hu
  rcases List.mem_or_eq_of_mem_set hu' with h1 | rfl
  · exact h u (by simpa using h1)
  · exact hx
end
end Go.Proofs.YtdhipdoaefdfeaaGreatDoor.Hold
namespace Go.Proofs.YtdhipdoaefdfeaaGreatDoor.Bkr
open Go.RowKit Mur Prt Lanes Tap Bkl Bkm Rec Cel
set_option maxRecDepth 100000
set_option linter.unusedSimpArgs false

theorem Lies.one {α : Type} {R : World → Option Addr → List α → Prop} {A : Nat → Prop} {w : World} {u : Value} {l : List α} (h : Lies R A w (some u) l) : u.oneCell' = true := by
  obtain ⟨a, n, c, h1, -⟩ := h
  cases h1
  rfl
theorem at_eq {v : List Value} (h : v.length = 11) (i : Nat) (hi : i < 11) (x : Value) : (v.set i x)[i]? = some x := by
  rw [List.getElem?_set, if_pos rfl, if_pos (by omega)]
theorem at_ne (v : List Value) (i j : Nat) (h : i ≠ j) (x : Value) : (v.set i x)[j]? = v[j]? := by
  rw [List.getElem?_set, if_neg h]
section
variable {w : World} {b : Bk} {v : List Value} {A : Nat → Prop} {u : Value}
theorem BkR.set4 (h : BkR w b v A) {L : List C} (hl : Lies CelRb A w (some u) L) : BkR w { b with cells := L } (v.set 4 u) A :=
  ⟨by rw [List.length_set]; exact h.len, Hold.single_set h.one hl.one, by rw [at_ne _ _ _ (by decide)]; exact h.at0, by rw [at_ne _ _ _ (by decide)]; exact h.at1, by rw [at_ne _ _ _ (by decide)]; exact h.at2, by rw [at_ne _ _ _ (by decide)]; exact h.at3, by rw [at_eq h.len _ (by decide)]; exact hl, by rw [at_ne _ _ _ (by decide)]; exact h.at5, by rw [at_ne _ _ _ (by decide)]; exact h.at6, by rw [at_ne _ _ _ (by decide)]; exact h.at7, by rw [at_ne _ _ _ (by decide)]; exact h.at8, by rw [at_ne _ _ _ (by decide)]; exact h.at9, by rw [at_ne _ _ _ (by decide)]; exact h.at10, h.names⟩
theorem BkR.set5 (h : BkR w b v A) {L : List C} (hl : Lies CelRb A w (some u) L) (hnm : ∀ c ∈ L, c.1.length ≤ 1000000) : BkR w { b with used := L } (v.set 5 u) A :=
  ⟨by rw [List.length_set]; exact h.len, Hold.single_set h.one hl.one, by rw [at_ne _ _ _ (by decide)]; exact h.at0, by rw [at_ne _ _ _ (by decide)]; exact h.at1, by rw [at_ne _ _ _ (by decide)]; exact h.at2, by rw [at_ne _ _ _ (by decide)]; exact h.at3, by rw [at_ne _ _ _ (by decide)]; exact h.at4, by rw [at_eq h.len _ (by decide)]; exact hl, by rw [at_ne _ _ _ (by decide)]; exact h.at6, by rw [at_ne _ _ _ (by decide)]; exact h.at7, by rw [at_ne _ _ _ (by decide)]; exact h.at8, by rw [at_ne _ _ _ (by decide)]; exact h.at9, by rw [at_ne _ _ _ (by decide)]; exact h.at10, hnm⟩
theorem BkR.set6 (h : BkR w b v A) {L : List (List UInt8 × Nat)} (hl : Lies CntR A w (some u) L) : BkR w { b with counts := L } (v.set 6 u) A :=
  ⟨by rw [List.length_set]; exact h.len, Hold.single_set h.one hl.one, by rw [at_ne _ _ _ (by decide)]; exact h.at0, by rw [at_ne _ _ _ (by decide)]; exact h.at1, by rw [at_ne _ _ _ (by decide)]; exact h.at2, by rw [at_ne _ _ _ (by decide)]; exact h.at3, by rw [at_ne _ _ _ (by decide)]; exact h.at4, by rw [at_ne _ _ _ (by decide)]; exact h.at5, by rw [at_eq h.len _ (by decide)]; exact hl, by rw [at_ne _ _ _ (by decide)]; exact h.at7, by rw [at_ne _ _ _ (by decide)]; exact h.at8, by rw [at_ne _ _ _ (by decide)]; exact h.at9, by rw [at_ne _ _ _ (by decide)]; exact h.at10, h.names⟩
theorem BkR.set7 (h : BkR w b v A) {L : List Iss} (hl : Lies IssR A w (some u) L) : BkR w { b with issued := L } (v.set 7 u) A :=
  ⟨by rw [List.length_set]; exact h.len, Hold.single_set h.one hl.one, by rw [at_ne _ _ _ (by decide)]; exact h.at0, by rw [at_ne _ _ _ (by decide)]; exact h.at1, by rw [at_ne _ _ _ (by decide)]; exact h.at2, by rw [at_ne _ _ _ (by decide)]; exact h.at3, by rw [at_ne _ _ _ (by decide)]; exact h.at4, by rw [at_ne _ _ _ (by decide)]; exact h.at5, by rw [at_ne _ _ _ (by decide)]; exact h.at6, by rw [at_eq h.len _ (by decide)]; exact hl, by rw [at_ne _ _ _ (by decide)]; exact h.at8, by rw [at_ne _ _ _ (by decide)]; exact h.at9, by rw [at_ne _ _ _ (by decide)]; exact h.at10, h.names⟩
theorem BkR.set8 (h : BkR w b v A) {L : List Iss} (hl : Lies IssR A w (some u) L) : BkR w { b with taken := L } (v.set 8 u) A :=
  ⟨by rw [List.length_set]; exact h.len, Hold.single_set h.one hl.one, by rw [at_ne _ _ _ (by decide)]; exact h.at0, by rw [at_ne _ _ _ (by decide)]; exact h.at1, by rw [at_ne _ _ _ (by decide)]; exact h.at2, by rw [at_ne _ _ _ (by decide)]; exact h.at3, by rw [at_ne _ _ _ (by decide)]; exact h.at4, by rw [at_ne _ _ _ (by decide)]; exact h.at5, by rw [at_ne _ _ _ (by decide)]; exact h.at6, by rw [at_ne _ _ _ (by decide)]; exact h.at7, by rw [at_eq h.len _ (by decide)]; exact hl, by rw [at_ne _ _ _ (by decide)]; exact h.at9, by rw [at_ne _ _ _ (by decide)]; exact h.at10, h.names⟩
theorem BkR.set9 (h : BkR w b v A) {L : List Iss} (hl : Lies IssR A w (some u) L) : BkR w { b with forged := L } (v.set 9 u) A :=
  ⟨by rw [List.length_set]; exact h.len, Hold.single_set h.one hl.one, by rw [at_ne _ _ _ (by decide)]; exact h.at0, by rw [at_ne _ _ _ (by decide)]; exact h.at1, by rw [at_ne _ _ _ (by decide)]; exact h.at2, by rw [at_ne _ _ _ (by decide)]; exact h.at3, by rw [at_ne _ _ _ (by decide)]; exact h.at4, by rw [at_ne _ _ _ (by decide)]; exact h.at5, by rw [at_ne _ _ _ (by decide)]; exact h.at6, by rw [at_ne _ _ _ (by decide)]; exact h.at7, by rw [at_ne _ _ _ (by decide)]; exact h.at8, by rw [at_eq h.len _ (by decide)]; exact hl, by rw [at_ne _ _ _ (by decide)]; exact h.at10, h.names⟩
theorem BkR.set10 (h : BkR w b v A) {L : List Iss} (hl : Lies IssR A w (some u) L) : BkR w { b with missed := L } (v.set 10 u) A :=
  ⟨by rw [List.length_set]; exact h.len, Hold.single_set h.one hl.one, by rw [at_ne _ _ _ (by decide)]; exact h.at0, by rw [at_ne _ _ _ (by decide)]; exact h.at1, by rw [at_ne _ _ _ (by decide)]; exact h.at2, by rw [at_ne _ _ _ (by decide)]; exact h.at3, by rw [at_ne _ _ _ (by decide)]; exact h.at4, by rw [at_ne _ _ _ (by decide)]; exact h.at5, by rw [at_ne _ _ _ (by decide)]; exact h.at6, by rw [at_ne _ _ _ (by decide)]; exact h.at7, by rw [at_ne _ _ _ (by decide)]; exact h.at8, by rw [at_ne _ _ _ (by decide)]; exact h.at9, by rw [at_eq h.len _ (by decide)]; exact hl, h.names⟩
theorem BkR.shape (h : BkR w b v A) : Hold.Part v 2 [.int .i64 2, .int .i64 1] := fun j u hu => by
  match j, hu with
  | 0, hu => rw [← hu]; exact h.at2
  | 1, hu => rw [← hu]; exact h.at3
end
/-- What a call answers that made it itself lies in none of the blocks that are held. -/
theorem lies_new {α : Type} {R : World → Option Addr → List α → Prop} {w0 w w' : World} {m : List Hold.Blk} {a : Option Addr} {n c : Nat} {l : List α} (hm : Hold.Hld w0 m w) (hR : R w' a l) (hn : l.length = n) (hc : n ≤ c) (hq : ∀ q, a = some q → w.heap.size ≤ q.block) : Lies R (Off m) w' (some (.slice a n c)) l :=
  ⟨a, n, c, rfl, hn, hc, hR, fun _ q h x hx e => by
    have := (hm.whole x hx).lt
    have := hq q h
    omega⟩
theorem shape_off (m : List Hold.Blk) (k : Nat) (h : ∀ x ∈ m, x.n ≠ k) : Off m k := h
theorem shapeRow : Hold.TyRow Tryz.prog 26 2 := ⟨_, Tryz.underlying26, rfl, by kernel_rfl⟩
theorem cellInt : Hold.TyCell Tryz.prog 3 := ⟨_, Tryz.underlying3, rfl, by kernel_rfl⟩
theorem cellStr : Hold.TyCell Tryz.prog 9 := ⟨_, Tryz.underlying9, rfl, by kernel_rfl⟩
theorem cellBool : Hold.TyCell Tryz.prog 4 := ⟨_, Tryz.underlying4, rfl, by kernel_rfl⟩
theorem cellN : Hold.TyCell Tryz.prog 27 := ⟨_, Tryz.underlying27, rfl, by kernel_rfl⟩
theorem right21 : Chn.Right 2 1 := by unfold Chn.Right; omega
/-- Where a call's lists may lie, and in none of the blocks that it holds. -/
def In (A : Nat → Prop) (m : List Hold.Blk) (k : Nat) : Prop := A k ∧ Off m k
theorem off_nil (k : Nat) : Off [] k := fun x hx => by cases hx
section
variable {w w' w0 : World} {b : Bk} {v : List Value} {A : Nat → Prop} {m : List Hold.Blk}
theorem BkR.start (h : BkR w b v A) : BkR w b v (In (fun k => A k ∨ w.heap.size ≤ k) []) := h.mono fun k _ hk => ⟨Or.inl hk, off_nil k⟩
theorem BkR.allocA {n : Nat} {t : TypeId} {z : List Value} (h : BkR w b v (In A m)) (hn : w.heap.size ≤ n) (k : Below w.heap.size w w') : BkR w' b v (In A (m ++ [⟨n, t, z⟩])) :=
  (h.mono (A' := In A (m ++ [⟨n, t, z⟩])) fun j hj ho => ⟨ho.1, off_snoc ho.2 (by show n ≠ j; omega)⟩).below k
theorem BkR.storedA {n i : Nat} {t : TypeId} {z z' : List Value} (h : BkR w b v (In A m)) (hi : m[i]? = some ⟨n, t, z⟩) (k : Hold.But n w w') : BkR w' b v (In A (m.set i ⟨n, t, z'⟩)) := by
  have h2 := h.but k fun j hj => fun e => hj.2 _ (List.mem_of_getElem? hi) e.symm
  refine h2.mono fun j _ hj => ⟨hj.1, fun x hx => ?_⟩
  rcases List.mem_or_eq_of_mem_set hx with hx | rfl
  · exact hj.2 x hx
  · exact hj.2 ⟨n, t, z⟩ (List.mem_of_getElem? hi)
theorem BkR.answeredA (h : BkR w' b v (fun k => In A m k ∨ w.heap.size ≤ k)) (hm : Hold.Hld w0 m w) (hA : ∀ k, w.heap.size ≤ k → A k) : BkR w' b v (In A m) :=
  h.mono fun k _ hk => hk.elim id fun h1 => ⟨hA k h1, fun x hx e => by
    have := (hm.whole x hx).lt
    omega⟩
theorem BkR.doneA (h : BkR w b v (In A m)) : BkR w b v A := h.mono fun _ _ hk => hk.1
theorem lies_newA {α : Type} {R : World → Option Addr → List α → Prop} {a : Option Addr} {n c : Nat} {l : List α} (hm : Hold.Hld w0 m w) (hA : ∀ k, w.heap.size ≤ k → A k) (hR : R w' a l) (hn : l.length = n) (hc : n ≤ c) (hq : ∀ q, a = some q → w.heap.size ≤ q.block) : Lies R (In A m) w' (some (.slice a n c)) l :=
  ⟨a, n, c, rfl, hn, hc, hR, fun _ q h => ⟨hA _ (hq q h), fun x hx e => by
    have := (hm.whole x hx).lt
    have := hq q h
    omega⟩⟩
theorem lies_moreA {α : Type} {R R' : World → Option Addr → List α → Prop} {a a' : Option Addr} {n n' c c' : Nat} {l l' : List α} (hm : Hold.Hld w0 m w) (hA : ∀ k, w.heap.size ≤ k → A k) (h : Lies R' (In A m) w (some (.slice a n c)) l) (hR : R w' a' l') (hn : l'.length = n') (hc : n' ≤ c') (hq : ∀ q, a' = some q → w.heap.size ≤ q.block ∨ (a = some q ∧ l.length ≠ 0)) : Lies R (In A m) w' (some (.slice a' n' c')) l' :=
  ⟨a', n', c', rfl, hn, hc, hR, fun _ q h' => by
    rcases hq q h' with h1 | ⟨h1, h2⟩
    · exact ⟨hA _ h1, fun x hx e => by
        have := (hm.whole x hx).lt
        omega⟩
    · obtain ⟨a0, n0, c0, e, -, -, -, h5⟩ := h
      cases e
      exact h5 h2 q h1⟩
/-- A field that is a slice. -/
theorem Lies.lit {α : Type} {R : World → Option Addr → List α → Prop} {u : Option Value} {l : List α} (h : Lies R A w u l) : ∃ a n c, u = some (.slice a n c) ∧ l.length = n ∧ n ≤ c ∧ R w a l ∧ Lies R A w (some (.slice a n c)) l := by
  obtain ⟨a, n, c, h1, h2, h3, h4, h5⟩ := h
  exact ⟨a, n, c, h1, h2, h3, h4, ⟨a, n, c, rfl, h2, h3, h4, h5⟩⟩
end
end Go.Proofs.YtdhipdoaefdfeaaGreatDoor.Bkr
