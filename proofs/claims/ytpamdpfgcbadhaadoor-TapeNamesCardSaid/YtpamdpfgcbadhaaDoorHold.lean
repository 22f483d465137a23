/-
  The blocks that a call has made, as a list, each known whole: what is loaded, stored and made of them, whatever their content. Nothing here speaks of a program: no condition but those that each lemma names.
-/
import Derived.Test.YtpamdpfgcbadhaaDoorWhole
import Derived.Test.YtpamdpfgcbadhaaDoorSteadyN
namespace Go.Proofs.YtpamdpfgcbadhaaDoor.Hold
open Go Go.RowKit Mur

/-- A block: where it lies, its type, what it holds. -/
structure Blk where
  n : Nat
  t : TypeId
  v : List Value

/-- v, with cs laid into it from o on. -/
def lay : List Value → Nat → List Value → List Value
  | v, _, [] => v
  | v, o, c :: cs => lay (v.set o c) (o + 1) cs
theorem lay_length : ∀ (cs v : List Value) (o : Nat), (lay v o cs).length = v.length
  | [], _, _ => rfl
  | c :: cs, v, o => by rw [lay, lay_length cs, List.length_set]
theorem lay_head : ∀ (Y X Z : List Value) (P : List Value), X.length = Y.length → lay (P ++ (X ++ Z)) P.length Y = P ++ (Y ++ Z)
  | [], X, Z, P, h => by
    obtain rfl := List.eq_nil_of_length_eq_zero h
    rfl
  | y :: Y, [], Z, P, h => by cases h
  | y :: Y, x :: X, Z, P, h => by
    have e : (P ++ (x :: X ++ Z)).set P.length y = (P ++ [y]) ++ (X ++ Z) := by
      rw [List.set_append_right _ _ (Nat.le_refl _), Nat.sub_self]
      simp
    rw [lay, e, show P.length + 1 = (P ++ [y]).length by simp, lay_head Y X Z (P ++ [y]) (by simpa using h)]
    simp
theorem lay_at {X Y Z P : List Value} {o : Nat} (ho : P.length = o) (h : X.length = Y.length) : lay (P ++ (X ++ Z)) o Y = P ++ (Y ++ Z) := by
  rw [← ho]
  exact lay_head Y X Z P h
theorem lay_all {v cs : List Value} (h : v.length = cs.length) : lay v 0 cs = cs := by
  have := lay_head cs v [] [] h
  simpa using this
theorem lay_left {X Y Z : List Value} (h : X.length = Y.length) : lay (X ++ Z) 0 Y = Y ++ Z := lay_head Y X Z [] h
theorem lay_right {X Y Z : List Value} {o : Nat} (ho : X.length = o) (h : Z.length = Y.length) : lay (X ++ Z) o Y = X ++ Y := by
  have := lay_at (P := X) (X := Z) (Z := []) ho h
  simpa using this

/-- The cells cs lie in v from o on. -/
def Part (v : List Value) (o : Nat) (cs : List Value) : Prop := ∀ j u, cs[j]? = some u → v[o + j]? = some u
theorem Part.all (v : List Value) : Part v 0 v := fun j u h => by rw [Nat.zero_add]; exact h
theorem Part.left (X Z : List Value) : Part (X ++ Z) 0 X := fun j u h => by
  rw [Nat.zero_add, List.getElem?_append_left (List.getElem?_eq_some_iff.1 h).1]
  exact h
theorem Part.mid {X Y Z : List Value} {o : Nat} (ho : X.length = o) : Part (X ++ (Y ++ Z)) o Y := fun j u h => by
  rw [List.getElem?_append_right (by omega), ho, Nat.add_sub_cancel_left, List.getElem?_append_left (List.getElem?_eq_some_iff.1 h).1]
  exact h
theorem Part.right {X Z : List Value} {o : Nat} (ho : X.length = o) : Part (X ++ Z) o Z := fun j u h => by
  rw [List.getElem?_append_right (by omega), ho, Nat.add_sub_cancel_left]
  exact h
theorem Part.len {v cs : List Value} {o : Nat} (h : Part v o cs) (hc : cs ≠ []) : o + cs.length ≤ v.length := by
  have hl : 0 < cs.length := List.length_pos_iff.2 hc
  have := h (cs.length - 1) _ (List.getElem?_eq_getElem (by omega))
  have := (List.getElem?_eq_some_iff.1 this).1
  omega

theorem whole_setCells : ∀ (cs : List Value) {w : World} {b : Nat} {t : TypeId} {v : List Value} (o : Nat), Whole w b t v → Whole (w.setCells b o cs) b t (lay v o cs)
  | [], _, _, _, _, _, h => h
  | c :: cs, w, b, t, v, o, h => by
    rw [World.setCells, lay]
    exact whole_setCells cs (o + 1) (h.set o c)
theorem other_setCells : ∀ (cs : List Value) {w : World} {b : Nat} {t : TypeId} {v : List Value} (c o : Nat), c ≠ b → Whole w b t v → Whole (w.setCells c o cs) b t v
  | [], _, _, _, _, _, _, _, h => h
  | x :: cs, w, b, t, v, c, o, hc, h => by
    rw [World.setCells]
    exact other_setCells cs c (o + 1) hc (h.other c o x hc)
theorem below_setCells : ∀ (cs : List Value) {k : Nat} {w w' : World} (c o : Nat), k ≤ c → Below k w w' → Below k w (w'.setCells c o cs)
  | [], _, _, _, _, _, _, h => h
  | x :: cs, k, w, w', c, o, hc, h => by
    rw [World.setCells]
    exact below_setCells cs c (o + 1) hc (h.setCell (p := ⟨c, o, none⟩) hc _)

/-- What a call that began in w0 has made: each block whole, none older than the call, all apart; all else is left. -/
structure Hld (w0 : World) (m : List Blk) (w : World) : Prop where
  whole : ∀ x ∈ m, Whole w x.n x.t x.v
  old : ∀ x ∈ m, w0.heap.size ≤ x.n
  own : (m.map Blk.n).Nodup
  below : Below w0.heap.size w0 w

section
variable {w0 w u : World} {m : List Blk}
theorem Hld.start (w : World) : Hld w [] w := ⟨fun _ h => (by cases h), fun _ h => (by cases h), List.nodup_nil, Below.refl _ _⟩
theorem Hld.next (h : Hld w0 m w) (q : Below w.heap.size w u) : Hld w0 m u :=
  ⟨fun x hx => (h.whole x hx).below (h.whole x hx).lt q, h.old, h.own, h.below.trans (q.mono h.below.size)⟩
theorem Hld.drew (h : Hld w0 m w) : Hld w0 m w.drew := ⟨fun x hx => (h.whole x hx).drew, h.old, h.own, h.below.drew⟩
theorem Hld.at (h : Hld w0 m w) (i : Nat) {x : Blk} (hi : m[i]? = some x) : Whole w x.n x.t x.v := h.whole x (List.mem_of_getElem? hi)
theorem Hld.join {n : Nat} {t : TypeId} {v : List Value} (h : Hld w0 m w) (q : Below w.heap.size w u) (hn : w.heap.size ≤ n) (hv : Whole u n t v) : Hld w0 (m ++ [⟨n, t, v⟩]) u := by
  refine ⟨fun x hx => ?_, fun x hx => ?_, ?_, (h.next q).below⟩
  · rcases List.mem_append.1 hx with hx | hx
    · exact (h.next q).whole x hx
    · obtain rfl := List.mem_singleton.1 hx
      exact hv
  · rcases List.mem_append.1 hx with hx | hx
    · exact h.old x hx
    · obtain rfl := List.mem_singleton.1 hx
      exact Nat.le_trans h.below.size hn
  · rw [List.map_append, List.nodup_append]
    refine ⟨h.own, by simp, fun a ha b hb => ?_⟩
    obtain ⟨x, hx, rfl⟩ := List.mem_map.1 ha
    obtain rfl : b = n := by simpa using hb
    have := (h.whole x hx).lt
    omega
theorem Hld.add (h : Hld w0 m w) (t : TypeId) (v : List Value) : Hld w0 (m ++ [⟨w.heap.size, t, v⟩]) (w.alloc (.cells v.toArray t)) :=
  h.join ((Below.refl _ _).alloc (Nat.le_refl _) _) (Nat.le_refl _) (Whole.made w t v)
theorem Hld.set (h : Hld w0 m w) (i : Nat) {x : Blk} (hi : m[i]? = some x) (o : Nat) (cs : List Value) : Hld w0 (m.set i ⟨x.n, x.t, lay x.v o cs⟩) (w.setCells x.n o cs) := by
  have hil := (List.getElem?_eq_some_iff.1 hi).1
  have hix : m[i] = x := (List.getElem?_eq_some_iff.1 hi).2
  have hmap : (m.set i ⟨x.n, x.t, lay x.v o cs⟩).map Blk.n = m.map Blk.n := by
    rw [List.map_set]
    refine List.ext_getElem (by simp) fun j h1 h2 => ?_
    rw [List.getElem_set]
    split
    · rename_i e
      subst e
      simp [hix]
    · rfl
  refine ⟨fun y hy => ?_, fun y hy => ?_, by rw [hmap]; exact h.own, below_setCells cs _ _ (h.old x (List.mem_of_getElem? hi)) h.below⟩
  · obtain ⟨j, hj, rfl⟩ := List.mem_iff_getElem.1 hy
    rw [List.getElem_set]
    split
    · exact whole_setCells cs o (h.at i hi)
    · rename_i e
      have hj' : j < m.length := by simpa using hj
      refine other_setCells cs _ _ (fun e2 => e ?_) (h.whole _ (List.getElem_mem hj'))
      have hnd := List.pairwise_iff_getElem.1 h.own
      rcases Nat.lt_trichotomy i j with g | g | g
      · exact absurd (show (m.map Blk.n)[i]'(by simpa using hil) = (m.map Blk.n)[j]'(by simpa using hj') by rw [List.getElem_map, List.getElem_map, hix, e2]) (hnd i j (by simpa using hil) (by simpa using hj') g)
      · exact g
      · exact absurd (show (m.map Blk.n)[j]'(by simpa using hj') = (m.map Blk.n)[i]'(by simpa using hil) by rw [List.getElem_map, List.getElem_map, hix, e2]) (hnd j i (by simpa using hj') (by simpa using hil) g)
  · rcases List.mem_or_eq_of_mem_set hy with hy | rfl
    · exact h.old y hy
    · exact h.old x (List.mem_of_getElem? hi)
theorem Hld.there (h : Hld w0 m w) (i : Nat) {x : Blk} (hi : m[i]? = some x) (o n : Nat) (hl : o + n ≤ x.v.length) : w.there x.n o n := fun j hj => by
  have hw := (h.at i hi).row
  have hl : o + j < x.v.length := by omega
  exact ⟨by rw [hw.cell (List.getElem?_eq_getElem hl)]; rfl, hw.free hl⟩
theorem Hld.range (h : Hld w0 m w) (i : Nat) {x : Blk} (hi : m[i]? = some x) {o : Nat} {cs : List Value} (hp : Part x.v o cs) : w.rangeAt x.n o cs := fun j v hv => (h.at i hi).row.cell (hp j v hv)
end

/-- A type of so many cells. -/
def TyRow (P : Program) (ty : TypeId) (n : Nat) : Prop := ∃ d, P.underlying ty = some d ∧ d.isRow = true ∧ (P.info? ty).map (·.size) = some n
/-- Each is one cell. -/
def Single (cs : List Value) : Prop := cs.toArray.all (·.oneCell') = true
theorem Single.append {X Y : List Value} (h : Single X) (h' : Single Y) : Single (X ++ Y) := by
  unfold Single at *
  simp only [List.all_toArray, List.all_eq_true] at *
  intro x hx
  rcases List.mem_append.1 hx with hx | hx
  · exact h x hx
  · exact h' x hx

section
variable {P : Program} {ops : Array Oper} {rest : List Oper} {op : Oper} {a : Act} {w w0 : World} {m : List Blk} {Q : Exit → Act → World → Prop}
theorem load_run (h : Hld w0 m w) (i : Nat) {b o : Nat} {t ty : TypeId} {v cs : List Value} {x : Operand} (ho : op.op = .load ty x) (hx : a.eval x = .pointer (some ⟨b, o, none⟩)) (hi : m[i]? = some ⟨b, t, v⟩) (hp : Part v o cs) (hr : TyRow P ty cs.length) :
    (execOp a.eval op).run P w = .ok (.value (.agg cs.toArray)) w := by
  obtain ⟨d, hu, hd, hs⟩ := hr
  unfold execOp
  simp only [ho, hx, Instr.loadAt, Instr.sureAddr, Sem.run_bind, Sem.run_pure, Result.andThen_ok, run_loadVar_mid w b o ty cs d (h.range i hi hp) hu hd hs]
theorem load (h : Hld w0 m w) (i : Nat) {b o : Nat} {t ty : TypeId} {v cs : List Value} {x : Operand} (hg : op.guard = none) (ho : op.op = .load ty x) (hx : a.eval x = .pointer (some ⟨b, o, none⟩)) (hi : m[i]? = some ⟨b, t, v⟩) (hp : Part v o cs) (hr : TyRow P ty cs.length)
    (hk : wpList P ops Q rest (a.put op.dst (.agg cs.toArray)) w) : wpList P ops Q (op :: rest) a w := by
  refine wpList_plain hg fun K hK => ?_
  unfold Oper.wp
  rw [load_run h i ho hx hi hp hr]
  exact hK _ _ hk
theorem store (h : Hld w0 m w) (i : Nat) {b o : Nat} {t ty : TypeId} {v cs v' : List Value} {x y : Operand} (hg : op.guard = none) (ho : op.op = .store ty x y) (hx : a.eval x = .pointer (some ⟨b, o, none⟩)) (hy : a.eval y = .agg cs.toArray) (hi : m[i]? = some ⟨b, t, v⟩) (hl : o + cs.length ≤ v.length) (hv : lay v o cs = v') (h1 : Single cs) (hr : TyRow P ty cs.length)
    (hk : ∀ w', Hld w0 (m.set i ⟨b, t, v'⟩) w' → wpList P ops Q rest (a.put op.dst undef) w') : wpList P ops Q (op :: rest) a w := by
  obtain ⟨d, hu, hd, hs⟩ := hr
  subst hv
  exact wpList_store_mid hg ty x y ho b o cs.toArray hx hy (by simpa using h.there i hi o cs.length hl) (by simpa using hs) h1 (hk _ (by simpa using h.set i hi o cs))
theorem alloc (h : Hld w0 m w) {t : TypeId} (hg : op.guard = none) (ho : op.op = .alloc t) (z : List Value) (hz : (P.info? t).map (fun i => (i.zero, i.size)) = some (some (.agg z.toArray), z.length))
    (hk : ∀ b w', Hld w0 (m ++ [⟨b, t, z⟩]) w' → wpList P ops Q rest (a.put op.dst (.pointer (some ⟨b, 0, none⟩))) w') : wpList P ops Q (op :: rest) a w :=
  wpList_alloc_z hg t ho z hz (hk _ _ (h.add t z))
theorem box (h : Hld w0 m w) {t : TypeId} {x : Operand} {cs : List Value} (hg : op.guard = none) (ho : op.op = .box t x) (hx : a.eval x = .agg cs.toArray)
    (hk : ∀ b w', Hld w0 (m ++ [⟨b, t, cs⟩]) w' → wpList P ops Q rest (a.put op.dst (.pointer (some ⟨b, 0, none⟩))) w') : wpList P ops Q (op :: rest) a w := by
  refine wpList_plain hg fun K hK => ?_
  unfold Oper.wp execOp
  simp only [ho, hx, Sem.run_bind, Instr.box, newVar, newRow, run_newObj_alloc, Sem.run_pure, Result.andThen_ok, Value.cells]
  exact hK _ _ (hk _ _ (h.add t cs))
theorem build {t : TypeId} {parts : Array (Nat × Operand)} {cs : List Value} (hg : op.guard = none) (ho : op.op = .build t parts) (hb : P.built t (parts.map fun (i, x) => (i, a.eval x)).toList = some cs.toArray)
    (hk : wpList P ops Q rest (a.put op.dst (.agg cs.toArray)) w) : wpList P ops Q (op :: rest) a w :=
  wpList_build hg t parts ho (by rw [hb]; rfl) (by rw [hb]; exact hk)
theorem build_run {t : TypeId} {parts : Array (Nat × Operand)} {cs : List Value} (ho : op.op = .build t parts) (hb : P.built t (parts.map fun (i, x) => (i, a.eval x)).toList = some cs.toArray) : (execOp a.eval op).run P w = .ok (.value (.agg cs.toArray)) w := by
  unfold execOp
  simp only [ho, Sem.run_bind, run_build w t _ _ hb, Result.andThen_ok]
  rfl
/-- A contract that leaves all memory keeps what is held. -/
theorem kept {f : FuncId} {args : Array Value} {v : Value} (R : ∀ u, Calls P f args u fun e w' => e = .returned v ∧ Below u.heap.size u w') : ∀ u, Hld w0 m u → Calls P f args u fun e w' => e = .returned v ∧ Hld w0 m w' := fun u h =>
  (R u).mono fun _ _ ⟨he, hb⟩ => ⟨he, h.next hb⟩
theorem keptN {W : World} {t : TypeId} {z : List Value} {f : FuncId} {args : Array Value} {v : Value} (R : ∀ u, Calls P f args u fun e w' => e = .returned v ∧ Below u.heap.size u w') :
    ∀ s u, SteadyN.Made W t z s u → Calls P f args u fun e w' => e = .returned v ∧ SteadyN.Made W t z s w' := SteadyN.kept R
theorem load_made {W : World} (h : Hld w0 m W) {t' : TypeId} {z : List Value} {s : Nat → Option Value} (hS : SteadyN.Made W t' z s w) (i : Nat) {b o : Nat} {t ty : TypeId} {v cs : List Value} {x : Operand} (ho : op.op = .load ty x) (hx : a.eval x = .pointer (some ⟨b, o, none⟩)) (hi : m[i]? = some ⟨b, t, v⟩) (hp : Part v o cs) (hr : TyRow P ty cs.length) :
    (execOp a.eval op).run P w = .ok (.value (.agg cs.toArray)) w := load_run (h.next hS.below) i ho hx hi hp hr
theorem made1 {W : World} (h : Hld w0 m W) {t : TypeId} {z : List Value} {s : Nat → Option Value} (hS : SteadyN.Made W t z s w) {i : Nat} {p : Value} (hi : s i = some p) : ∃ b, p = .pointer (some ⟨b, 0, none⟩) ∧ Hld w0 (m ++ [⟨b, t, z⟩]) w := by
  obtain ⟨b, h1, h2, h3⟩ := hS.at_ i p hi
  exact ⟨b, h1, h.join hS.below h2 h3⟩
theorem made2 {W : World} (h : Hld w0 m W) {t : TypeId} {z : List Value} {s : Nat → Option Value} (hS : SteadyN.Made W t z s w) {i j : Nat} {p q : Value} (hi : s i = some p) (hj : s j = some q) (hij : i ≠ j) : ∃ b c, p = .pointer (some ⟨b, 0, none⟩) ∧ q = .pointer (some ⟨c, 0, none⟩) ∧ Hld w0 (m ++ [⟨b, t, z⟩, ⟨c, t, z⟩]) w := by
  obtain ⟨b, h1, h2, h3⟩ := hS.at_ i p hi
  obtain ⟨c, g1, g2, g3⟩ := hS.at_ j q hj
  have hbc : b ≠ c := fun e => hij (hS.own i j p hi (by rw [hj, g1, h1, e]))
  have H := h.join hS.below h2 h3
  refine ⟨b, c, h1, g1, ?_⟩
  refine ⟨fun x hx => ?_, fun x hx => ?_, ?_, H.below⟩
  · rw [show m ++ [⟨b, t, z⟩, ⟨c, t, z⟩] = (m ++ [⟨b, t, z⟩]) ++ [⟨c, t, z⟩] by simp] at hx
    rcases List.mem_append.1 hx with hx | hx
    · exact H.whole x hx
    · obtain rfl := List.mem_singleton.1 hx
      exact g3
  · rw [show m ++ [⟨b, t, z⟩, ⟨c, t, z⟩] = (m ++ [⟨b, t, z⟩]) ++ [⟨c, t, z⟩] by simp] at hx
    rcases List.mem_append.1 hx with hx | hx
    · exact H.old x hx
    · obtain rfl := List.mem_singleton.1 hx
      exact Nat.le_trans h.below.size g2
  · rw [show m ++ [⟨b, t, z⟩, ⟨c, t, z⟩] = (m ++ [⟨b, t, z⟩]) ++ [⟨c, t, z⟩] by simp, List.map_append, List.nodup_append]
    refine ⟨H.own, by simp, fun x hx y hy => ?_⟩
    obtain rfl : y = c := by simpa using hy
    rw [List.map_append] at hx
    rcases List.mem_append.1 hx with hx | hx
    · obtain ⟨k, hk, rfl⟩ := List.mem_map.1 hx
      have := (h.whole k hk).lt
      omega
    · obtain rfl : x = b := by simpa using hx
      exact hbc

/-- The end of a function whose answers lie in blocks. -/
theorem results1 {fn : Func} {p b : Nat} {ty t : TypeId} {v : List Value} (h : Hld w0 m w) (i : Nat) (hf : fn.results = #[.cell p ty]) (tmps : Array Value) (hp : tmps.getD p undef = .pointer (some ⟨b, 0, none⟩)) (hi : m[i]? = some ⟨b, t, v⟩) (hr : TyRow P ty v.length) :
    (results fn tmps).run P w = .ok (.agg v.toArray) w := by
  obtain ⟨d, hu, hd, hs⟩ := hr
  have hp' : tmps[p]?.getD undef = .pointer (some ⟨b, 0, none⟩) := by simpa using hp
  simp [results, hf, hp', asAddr, run_loadVar_mid w b 0 ty v d (h.range i hi (Part.all v)) hu hd hs]
theorem results2 {fn : Func} {p q b c : Nat} {ty ty' t t' : TypeId} {v v' : List Value} (h : Hld w0 m w) (i j : Nat) (hf : fn.results = #[.cell p ty, .cell q ty']) (tmps : Array Value) (hp : tmps.getD p undef = .pointer (some ⟨b, 0, none⟩)) (hq : tmps.getD q undef = .pointer (some ⟨c, 0, none⟩)) (hi : m[i]? = some ⟨b, t, v⟩) (hj : m[j]? = some ⟨c, t', v'⟩) (hr : TyRow P ty v.length) (hr' : TyRow P ty' v'.length) :
    (results fn tmps).run P w = .ok (.tuple #[.agg v.toArray, .agg v'.toArray]) w := by
  obtain ⟨d, hu, hd, hs⟩ := hr
  obtain ⟨d', hu', hd', hs'⟩ := hr'
  have hp' : tmps[p]?.getD undef = .pointer (some ⟨b, 0, none⟩) := by simpa using hp
  have hq' : tmps[q]?.getD undef = .pointer (some ⟨c, 0, none⟩) := by simpa using hq
  simp [results, hf, hp', hq', asAddr, Sem.run_bind, run_loadVar_mid w b 0 ty v d (h.range i hi (Part.all v)) hu hd hs, run_loadVar_mid w c 0 ty' v' d' (h.range j hj (Part.all v')) hu' hd' hs']

/-- One operation of a region whose order is open. -/
theorem op_load {i : Nat} {K : Act → World → Prop} {x : Operand} {ty t : TypeId} {b o k : Nat} {v cs : List Value} (h : Hld w0 m w) (hi : ops[i]? = some op) (hg : op.guard = none) (ho : op.op = .load ty x) (hx : a.eval x = .pointer (some ⟨b, o, none⟩)) (hk : m[k]? = some ⟨b, t, v⟩) (hp : Part v o cs) (hr : TyRow P ty cs.length)
    (hK : K (a.put op.dst (.agg cs.toArray)) w) : wpOp P ops Q i K a w := by
  unfold wpOp
  simp only [hi]
  rw [if_pos (by simp [Region.wanted, hg])]
  refine .inl ?_
  unfold Oper.wp
  rw [load_run h k ho hx hk hp hr]
  exact hK
theorem op_store {i : Nat} {K : Act → World → Prop} {x y : Operand} {ty t : TypeId} {b o k : Nat} {v cs v' : List Value} (h : Hld w0 m w) (hi : ops[i]? = some op) (hg : op.guard = none) (ho : op.op = .store ty x y) (hx : a.eval x = .pointer (some ⟨b, o, none⟩)) (hy : a.eval y = .agg cs.toArray) (hk : m[k]? = some ⟨b, t, v⟩) (hl : o + cs.length ≤ v.length) (hv : lay v o cs = v') (h1 : Single cs) (hr : TyRow P ty cs.length)
    (hK : ∀ w', Hld w0 (m.set k ⟨b, t, v'⟩) w' → K (a.put op.dst undef) w') : wpOp P ops Q i K a w := by
  obtain ⟨d, hu, hd, hs⟩ := hr
  subst hv
  unfold wpOp
  simp only [hi]
  rw [if_pos (by simp [Region.wanted, hg])]
  refine .inl (wp_store_mid ty x y ho b o cs.toArray hx hy (by simpa using h.there k hk o cs.length hl) (by simpa using hs) h1 ?_)
  exact hK _ (by simpa using h.set k hk o cs)

/-- Two variables are loaded, and laid into two others: the second load may come up behind the first store. -/
theorem pair_end {id k0 k1 k2 k3 d0 d1 b0 b1 b2 b3 : Nat} {x0 x1 x2 x3 : Nat} {o0 o1 o2 o3 : Oper} {ty0 ty1 ty2 ty3 t0 t1 t2 t3 : TypeId} {v0 v1 v2 v3 : List Value} (h : Hld w0 m w) (hm : P.follows .mixedOrders = true)
    (r1 : Region.ready .any #[o0, o1, o2, o3] #[false, false, false, false] = [0, 1]) (r2 : Region.ready .any #[o0, o1, o2, o3] #[true, false, false, false] = [1, 2]) (r3 : Region.ready .any #[o0, o1, o2, o3] #[false, true, false, false] = [0])
    (r4 : Region.ready .any #[o0, o1, o2, o3] #[true, true, false, false] = [2]) (r5 : Region.ready .any #[o0, o1, o2, o3] #[true, false, true, false] = [1]) (r6 : Region.ready .any #[o0, o1, o2, o3] #[true, true, true, false] = [3]) (r7 : Region.ready .any #[o0, o1, o2, o3] #[true, true, true, true] = [])
    (g0 : o0.guard = none) (g1 : o1.guard = none) (g2 : o2.guard = none) (g3 : o3.guard = none) (e0 : o0.op = .load ty0 (.tmp x0)) (e1 : o1.op = .load ty1 (.tmp x1)) (e2 : o2.op = .store ty2 (.tmp x2) (.tmp d0)) (e3 : o3.op = .store ty3 (.tmp x3) (.tmp d1)) (s0 : o0.dst = some d0) (s1 : o1.dst = some d1) (s2 : o2.dst = none) (s3 : o3.dst = none)
    (y0 : a.eval (.tmp x0) = .pointer (some ⟨b0, 0, none⟩)) (y1 : a.eval (.tmp x1) = .pointer (some ⟨b1, 0, none⟩)) (y2 : a.eval (.tmp x2) = .pointer (some ⟨b2, 0, none⟩)) (y3 : a.eval (.tmp x3) = .pointer (some ⟨b3, 0, none⟩))
    (hd : d0 ≠ d1 ∧ d0 ≠ x1 ∧ d0 ≠ x2 ∧ d0 ≠ x3 ∧ d1 ≠ x0 ∧ d1 ≠ x2 ∧ d1 ≠ x3) (hl0 : d0 < a.tmps.size) (hl1 : d1 < a.tmps.size)
    (m0 : m[k0]? = some ⟨b0, t0, v0⟩) (m1 : m[k1]? = some ⟨b1, t1, v1⟩) (m2 : m[k2]? = some ⟨b2, t2, v2⟩) (m3 : m[k3]? = some ⟨b3, t3, v3⟩) (hk : k2 ≠ k1 ∧ k2 ≠ k3)
    (q0 : TyRow P ty0 v0.length) (q1 : TyRow P ty1 v1.length) (q2 : TyRow P ty2 v0.length) (q3 : TyRow P ty3 v1.length) (l2 : v2.length = v0.length) (l3 : v3.length = v1.length) (z0 : Single v0) (z1 : Single v1)
    (hQ : ∀ w', Hld w0 ((m.set k2 ⟨b2, t2, v0⟩).set k3 ⟨b3, t3, v1⟩) w' → Q .normal ((a.put (some d0) (.agg v0.toArray)).put (some d1) (.agg v1.toArray)) w') : (Code.region id [o0, o1, o2, o3].toArray true).wp P Q a w := by
  obtain ⟨n1, n2, n3, n4, n5, n6, n7⟩ := hd
  have getP : ∀ (a : Act) (d : Nat) (v : Value) (x : Nat), d ≠ x → (a.put (some d) v).eval (.tmp x) = a.eval (.tmp x) := fun a d v x hn => by
    simp [Act.put, Act.eval, hn]
  have getS : ∀ (a : Act) (d : Nat) (v : Value), d < a.tmps.size → (a.put (some d) v).eval (.tmp d) = v := fun a d v hn => by
    simp [Act.put, Act.eval, hn]
  have szP : ∀ (a : Act) (d : Nat) (v : Value), (a.put (some d) v).tmps.size = a.tmps.size := fun a d v => by simp [Act.put]
  have comm : (a.put (some d1) (.agg v1.toArray)).put (some d0) (.agg v0.toArray) = (a.put (some d0) (.agg v0.toArray)).put (some d1) (.agg v1.toArray) := Act.put_comm a _ _ (fun d e e2 => n1 (by cases e; cases e2; rfl))
  have mk1 : (m.set k2 ⟨b2, t2, v0⟩)[k1]? = some ⟨b1, t1, v1⟩ := by rw [List.getElem?_set_ne hk.1]; exact m1
  have mk3 : (m.set k2 ⟨b2, t2, v0⟩)[k3]? = some ⟨b3, t3, v3⟩ := by rw [List.getElem?_set_ne hk.2]; exact m3
  -- the last store
  have last : ∀ w', Hld w0 (m.set k2 ⟨b2, t2, v0⟩) w' → wpAny P .any #[o0, o1, o2, o3] Q 1 #[true, true, true, false] ((a.put (some d0) (.agg v0.toArray)).put (some d1) (.agg v1.toArray)) w' := fun w' hw => by
    refine wpAny_all r6 (by simp) (fun i hi => ?_)
    obtain rfl : i = 3 := by simpa using hi
    refine op_store hw (k := k3) (op := o3) rfl g3 e3 (by rw [getP _ _ _ _ n7, getP _ _ _ _ n4]; exact y3) (getS _ _ _ (by rw [szP]; exact hl1)) mk3 (by rw [l3]; omega) (lay_all l3) z1 q3 (fun w'' hw'' => ?_)
    rw [s3]
    exact wpAny_done r7 (hQ w'' hw'') _
  have both : ∀ w', Hld w0 m w' → wpAny P .any #[o0, o1, o2, o3] Q 2 #[true, true, false, false] ((a.put (some d0) (.agg v0.toArray)).put (some d1) (.agg v1.toArray)) w' := fun w' hw => by
    refine wpAny_all r4 (by simp) (fun i hi => ?_)
    obtain rfl : i = 2 := by simpa using hi
    refine op_store hw (k := k2) (op := o2) rfl g2 e2 (by rw [getP _ _ _ _ n6, getP _ _ _ _ n3]; exact y2) (by rw [getP _ _ _ _ (Ne.symm n1)]; exact getS _ _ _ hl0) m2 (by rw [l2]; omega) (lay_all l2) z0 q2 (fun w'' hw'' => ?_)
    rw [s2]
    exact last w'' hw''
  refine wp_region_any hm ?_
  show wpAny P .any #[o0, o1, o2, o3] Q 4 #[false, false, false, false] a w.drew
  refine wpAny_all r1 (by simp) (fun i hi => ?_)
  have hi' : i = 0 ∨ i = 1 := by simpa using hi
  rcases hi' with rfl | rfl
  · refine op_load h.drew (k := k0) (op := o0) rfl g0 e0 y0 m0 (Part.all v0) q0 ?_
    rw [s0]
    refine wpAny_all r2 (by simp) (fun i hi => ?_)
    have hi' : i = 1 ∨ i = 2 := by simpa using hi
    rcases hi' with rfl | rfl
    · refine op_load h.drew (k := k1) (op := o1) rfl g1 e1 (by rw [getP _ _ _ _ n2]; exact y1) m1 (Part.all v1) q1 ?_
      rw [s1]
      exact both _ h.drew
    · refine op_store h.drew (k := k2) (op := o2) rfl g2 e2 (by rw [getP _ _ _ _ n3]; exact y2) (getS _ _ _ hl0) m2 (by rw [l2]; omega) (lay_all l2) z0 q2 (fun w'' hw'' => ?_)
      rw [s2]
      refine wpAny_all r5 (by simp) (fun i hi => ?_)
      obtain rfl : i = 1 := by simpa using hi
      refine op_load hw'' (k := k1) (op := o1) rfl g1 e1 (by rw [show (a.put (some d0) (.agg v0.toArray)).put none undef = a.put (some d0) (.agg v0.toArray) from rfl, getP _ _ _ _ n2]; exact y1) mk1 (Part.all v1) q1 ?_
      rw [s1]
      exact last w'' hw''
  · refine op_load h.drew (k := k1) (op := o1) rfl g1 e1 y1 m1 (Part.all v1) q1 ?_
    rw [s1]
    refine wpAny_all r3 (by simp) (fun i hi => ?_)
    obtain rfl : i = 0 := by simpa using hi
    refine op_load h.drew (k := k0) (op := o0) rfl g0 e0 (by rw [getP _ _ _ _ n5]; exact y0) m0 (Part.all v0) q0 ?_
    rw [s0, comm]
    exact both _ h.drew

theorem Hld.front {m' : List Blk} (h : Hld w0 (m ++ m') w) : Hld w0 m w :=
  ⟨fun x hx => h.whole x (List.mem_append_left _ hx), fun x hx => h.old x (List.mem_append_left _ hx), by have := h.own; rw [List.map_append, List.nodup_append] at this; exact this.1, h.below⟩
theorem Hld.turn {x y : Blk} (h : Hld w0 (m ++ [x, y]) w) : Hld w0 (m ++ [y, x]) w := by
  have hp : (m ++ [x, y]).Perm (m ++ [y, x]) := (List.Perm.swap y x []).append_left m
  refine ⟨fun z hz => h.whole z (hp.mem_iff.2 hz), fun z hz => h.old z (hp.mem_iff.2 hz), ?_, h.below⟩
  exact (hp.map Blk.n).nodup_iff.1 h.own
theorem op_alloc {i : Nat} {K : Act → World → Prop} {t : TypeId} (h : Hld w0 m w) (hi : ops[i]? = some op) (hg : op.guard = none) (ho : op.op = .alloc t) (z : List Value) (hz : (P.info? t).map (fun i => (i.zero, i.size)) = some (some (.agg z.toArray), z.length))
    (hK : ∀ b w', Hld w0 (m ++ [⟨b, t, z⟩]) w' → K (a.put op.dst (.pointer (some ⟨b, 0, none⟩))) w') : wpOp P ops Q i K a w := by
  unfold wpOp
  simp only [hi]
  rw [if_pos (by simp [Region.wanted, hg])]
  refine .inl ?_
  cases hq : P.info? t with
  | none => simp [hq] at hz
  | some i =>
    simp only [hq, Option.map_some, Option.some.injEq, Prod.mk.injEq] at hz
    unfold Oper.wp execOp
    simp [ho, Instr.alloc, zeroValue, typeInfo, hq, hz.1, Sem.run_bind, newVar, newRow, newObj, Value.cells]
    exact hK _ _ (h.add t z)

/-- Two variables are made, in either order, and hold what is laid into them, the first one's ahead of the other's. -/
theorem new_end {md : Region.Mode} {i j k l di dj x y : Nat} {L : Array Bool} {oi oj ok ol : Oper} {t t' ty ty' : TypeId} {z z' v v' : List Value} (h : Hld w0 m w)
    (gi : ops[i]? = some oi) (gj : ops[j]? = some oj) (gk : ops[k]? = some ok) (gl : ops[l]? = some ol) (hij : i ≠ j)
    (r1 : Region.ready md ops L = [i, j]) (r2 : Region.ready md ops (L.setIfInBounds i true) = [j]) (r3 : Region.ready md ops (L.setIfInBounds j true) = [i]) (r4 : Region.ready md ops ((L.setIfInBounds i true).setIfInBounds j true) = [k])
    (r5 : Region.ready md ops (((L.setIfInBounds i true).setIfInBounds j true).setIfInBounds k true) = [l]) (r6 : Region.ready md ops ((((L.setIfInBounds i true).setIfInBounds j true).setIfInBounds k true).setIfInBounds l true) = [])
    (ni : oi.guard = none) (nj : oj.guard = none) (nk : ok.guard = none) (nl : ol.guard = none) (ei : oi.op = .alloc t) (ej : oj.op = .alloc t') (ek : ok.op = .store ty (.tmp di) (.tmp x)) (el : ol.op = .store ty' (.tmp dj) (.tmp y))
    (si : oi.dst = some di) (sj : oj.dst = some dj) (sk : ok.dst = none) (sl : ol.dst = none) (hx : a.eval (.tmp x) = .agg v.toArray) (hy : a.eval (.tmp y) = .agg v'.toArray)
    (hd : di ≠ dj ∧ di ≠ x ∧ di ≠ y ∧ dj ≠ x ∧ dj ≠ y) (hli : di < a.tmps.size) (hlj : dj < a.tmps.size)
    (hz : (P.info? t).map (fun i => (i.zero, i.size)) = some (some (.agg z.toArray), z.length)) (hz' : (P.info? t').map (fun i => (i.zero, i.size)) = some (some (.agg z'.toArray), z'.length))
    (q : TyRow P ty v.length) (q' : TyRow P ty' v'.length) (hl : z.length = v.length) (hl' : z'.length = v'.length) (h1 : Single v) (h1' : Single v')
    (hQ : ∀ b b' w', Hld w0 (m ++ [⟨b, t, v⟩, ⟨b', t', v'⟩]) w' → Q .normal ((a.put (some di) (.pointer (some ⟨b, 0, none⟩))).put (some dj) (.pointer (some ⟨b', 0, none⟩))) w') : wpAnyH P md ops Q (fun u => Hld w0 m u) 4 L a w := by
  obtain ⟨n1, n2, n3, n4, n5⟩ := hd
  have getP : ∀ (a : Act) (d : Nat) (v : Value) (x : Nat), d ≠ x → (a.put (some d) v).eval (.tmp x) = a.eval (.tmp x) := fun a d v x hn => by
    simp [Act.put, Act.eval, hn]
  have getS : ∀ (a : Act) (d : Nat) (v : Value), d < a.tmps.size → (a.put (some d) v).eval (.tmp d) = v := fun a d v hn => by
    simp [Act.put, Act.eval, hn]
  have szP : ∀ (a : Act) (d : Nat) (v : Value), (a.put (some d) v).tmps.size = a.tmps.size := fun a d v => by simp [Act.put]
  have e2 : ∀ A B : Blk, m ++ [A, B] = (m ++ [A]) ++ [B] := fun A B => by simp
  -- both are made
  have both : ∀ b b' w', Hld w0 (m ++ [⟨b, t, z⟩, ⟨b', t', z'⟩]) w' → wpAnyH P md ops Q (fun u => Hld w0 m u) 2 ((L.setIfInBounds i true).setIfInBounds j true) ((a.put (some di) (.pointer (some ⟨b, 0, none⟩))).put (some dj) (.pointer (some ⟨b', 0, none⟩))) w' := fun b b' w' hw => by
    refine wpAnyH_all r4 (by simp) (fun o ho => ?_)
    obtain rfl : o = k := by simpa using ho
    refine op_store hw (k := m.length) (op := ok) gk nk ek (b := b) (o := 0) (t := t) (v := z) (cs := v) (by rw [getP _ _ _ _ (Ne.symm n1)]; exact getS _ _ _ hli) (by rw [getP _ _ _ _ n4, getP _ _ _ _ n2]; exact hx) (by simp) (by omega) (lay_all hl) h1 q (fun w2 hw2 => ?_)
    rw [sk]
    have hw2 : Hld w0 (m ++ [⟨b, t, v⟩, ⟨b', t', z'⟩]) w2 := by simpa [List.set_append] using hw2
    refine ⟨hw2.front, wpAnyH_all r5 (by simp) (fun o ho => ?_)⟩
    obtain rfl : o = l := by simpa using ho
    refine op_store hw2 (k := m.length + 1) (op := ol) gl nl el (b := b') (o := 0) (t := t') (v := z') (cs := v') (getS _ _ _ (by rw [szP]; exact hlj)) (by rw [show ∀ a : Act, a.put none undef = a from fun _ => rfl, getP _ _ _ _ n5, getP _ _ _ _ n3]; exact hy) (by simp) (by omega) (lay_all hl') h1' q' (fun w3 hw3 => ?_)
    rw [sl]
    have hw3 : Hld w0 (m ++ [⟨b, t, v⟩, ⟨b', t', v'⟩]) w3 := by simpa [List.set_append] using hw3
    exact ⟨hw3.front, ⟨r6, hQ b b' w3 hw3⟩⟩
  refine wpAnyH_all r1 (by simp) (fun o ho => ?_)
  have ho' : o = i ∨ o = j := by simpa using ho
  rcases ho' with rfl | rfl
  · refine op_alloc h gi ni ei z hz (fun b w1 hw1 => ⟨hw1.front, ?_⟩)
    rw [si]
    refine wpAnyH_all r2 (by simp) (fun o' ho' => ?_)
    obtain rfl : o' = j := by simpa using ho'
    refine op_alloc hw1 gj nj ej z' hz' (fun b' w2 hw2 => ?_)
    rw [sj]
    rw [← e2] at hw2
    exact ⟨hw2.front, both b b' w2 hw2⟩
  · refine op_alloc h gj nj ej z' hz' (fun b' w1 hw1 => ⟨hw1.front, ?_⟩)
    rw [sj]
    refine wpAnyH_all r3 (by simp) (fun o' ho' => ?_)
    obtain rfl : o' = i := by simpa using ho'
    refine op_alloc hw1 gi ni ei z hz (fun b w2 hw2 => ?_)
    rw [si]
    rw [← e2] at hw2
    have hw2 := hw2.turn
    refine ⟨hw2.front, ?_⟩
    rw [Act.put_comm a _ _ (fun d e e' => n1 (by cases e; cases e'; rfl)), Array.setIfInBounds_comm _ _ (Ne.symm hij)]
    exact both b b' w2 hw2

/-- 'copy' of a text into a block of bytes, from its head on. -/
theorem run_copyText (h : Hld w0 m w) (i : Nat) {b L C : Nat} {dT sT ty elem t : TypeId} {v : List Value} {s : ByteArray} (hi : m[i]? = some ⟨b, t, v⟩) (hu : P.underlying dT = some (.slice elem)) (hz : ∀ w, (Go.sizeOf elem).run P w = .ok 1 w) (hl : min s.size L ≤ v.length) :
    (Builtin.copy_ #[dT, sT] ty #[.slice (some ⟨b, 0, none⟩) L C, .string s]).run P w = .ok (goInt (min s.size L : Nat)) (w.setCells b 0 ((bytesV s.data.toList).take (min s.size L))) := by
  have hth := h.there i hi 0 (min s.size L) (by rw [Nat.zero_add]; exact hl)
  have hsz : (bytesV s.data.toList).length = s.size := by rw [bytesV_length]; rfl
  have hcl : ((bytesV s.data.toList).take (min s.size L)).length = min s.size L := by rw [List.length_take, hsz]; omega
  have hst := run_storeCells_cells (P := P) b 0 ((bytesV s.data.toList).take (min s.size L)) 0 w (by rw [hcl]; intro j hj; simpa using (hth j hj).1) (by rw [hcl]; intro j hj; simpa using (hth j hj).2) (by
    intro x hx
    obtain ⟨y, -, rfl⟩ := List.mem_map.1 (List.mem_of_mem_take hx)
    rfl)
  rw [Nat.zero_add] at hst
  have hst' : (storeCells ⟨b, 0, none⟩ (List.take (s.size.min L) (List.map (fun b => Value.int .u8 (b.toNat : Int)) s.data.toList))).run P w = .ok () (w.setCells b 0 ((bytesV s.data.toList).take (min s.size L))) := hst
  simp [Builtin.copy_, run_underlying hu, Builtin.lenOf, Builtin.firstCells, hz, hst']
theorem copyText (h : Hld w0 m w) (i : Nat) {b L C : Nat} {dT sT elem t : TypeId} {v : List Value} {s : ByteArray} {d x : Operand} (hg : op.guard = none) (ho : op.op = .call { callee := .builtin .copy, args := #[d, x], argTypes := #[dT, sT] }) (hd : a.eval d = .slice (some ⟨b, 0, none⟩) L C) (hx : a.eval x = .string s)
    (hi : m[i]? = some ⟨b, t, v⟩) (hu : P.underlying dT = some (.slice elem)) (hz : ∀ w, (Go.sizeOf elem).run P w = .ok 1 w) (hl : min s.size L ≤ v.length)
    (hk : ∀ w', Hld w0 (m.set i ⟨b, t, lay v 0 ((bytesV s.data.toList).take (min s.size L))⟩) w' → wpList P ops Q rest (a.put op.dst (goInt (min s.size L : Nat))) w') : wpList P ops Q (op :: rest) a w := by
  refine wpList_plain hg fun K hK => ?_
  have hrun := run_copyText (P := P) (dT := dT) (sT := sT) (ty := op.type) (C := C) h i hi hu hz hl
  unfold Oper.wp
  simp [execOp, ho, resolve, invoke, builtin, hd, hx, hrun, Result.andThen]
  exact hK _ _ (hk _ (h.set i hi 0 _))

/-- A number is one cell. -/
theorem cell_int (k : IntKind) (n : Int) : (Value.int k n).cells = #[Value.int k n] ∧ (Value.int k n).oneCell' = true := ⟨rfl, rfl⟩
/-- A type of one cell. -/
def TyCell (P : Program) (ty : TypeId) : Prop := ∃ d, P.underlying ty = some d ∧ d.isRow = false ∧ (P.info? ty).map (·.size) = some 1
theorem load1_run (h : Hld w0 m w) (i : Nat) {b o : Nat} {t ty : TypeId} {v : List Value} {c : Value} {x : Operand} (ho : op.op = .load ty x) (hx : a.eval x = .pointer (some ⟨b, o, none⟩)) (hi : m[i]? = some ⟨b, t, v⟩) (hc : v[o]? = some c) (hr : TyCell P ty) :
    (execOp a.eval op).run P w = .ok (.value c) w := by
  obtain ⟨d, hu, hd, hs⟩ := hr
  have hcell : w.cell? ⟨b, o, none⟩ = some c := (h.at i hi).row.cell hc
  have hagg : (isAgg ty).run P w = .ok false w := by
    unfold isAgg
    rw [Sem.run_bind, run_underlying hu w]
    cases d <;> simp_all
  unfold execOp
  simp [ho, hx, Instr.loadAt, Instr.sureAddr, Sem.run_bind, loadVar, hagg, hcell]
theorem load1 (h : Hld w0 m w) (i : Nat) {b o : Nat} {t ty : TypeId} {v : List Value} {c : Value} {x : Operand} (hg : op.guard = none) (ho : op.op = .load ty x) (hx : a.eval x = .pointer (some ⟨b, o, none⟩)) (hi : m[i]? = some ⟨b, t, v⟩) (hc : v[o]? = some c) (hr : TyCell P ty)
    (hk : wpList P ops Q rest (a.put op.dst c) w) : wpList P ops Q (op :: rest) a w := by
  refine wpList_plain hg fun K hK => ?_
  unfold Oper.wp
  rw [load1_run h i ho hx hi hc hr]
  exact hK _ _ hk
theorem store1 (h : Hld w0 m w) (i : Nat) {b o : Nat} {t ty : TypeId} {v v' : List Value} {c : Value} {x y : Operand} (hg : op.guard = none) (ho : op.op = .store ty x y) (hx : a.eval x = .pointer (some ⟨b, o, none⟩)) (hy : a.eval y = c) (hi : m[i]? = some ⟨b, t, v⟩) (hl : o < v.length) (hv : v.set o c = v') (h1 : c.cells = #[c] ∧ c.oneCell' = true) (hr : TyCell P ty)
    (hk : ∀ w', Hld w0 (m.set i ⟨b, t, v'⟩) w' → wpList P ops Q rest (a.put op.dst undef) w') : wpList P ops Q (op :: rest) a w := by
  obtain ⟨d, hu, hd, hs⟩ := hr
  subst hv
  have hth := h.there i hi o 1 (by show o + 1 ≤ v.length; omega)
  have hst := run_storeCells_cells (P := P) b o [c] 0 w (by intro j hj; simpa using (hth j (by simpa using hj)).1) (by intro j hj; simpa using (hth j (by simpa using hj)).2) (by
    intro z hz
    obtain rfl := List.mem_singleton.1 hz
    exact h1.2)
  rw [Nat.add_zero] at hst
  have hrun : (storeVar ty ⟨b, o, none⟩ c).run P w = .ok () (w.setCells b o [c]) := by
    cases hq : P.info? ty with
    | none => simp [hq] at hs
    | some i =>
      have hs1 : i.size = 1 := by simpa [hq] using hs
      simp [storeVar, sizeOf, typeInfo, hq, h1.1, hs1, hst]
  refine wpList_plain hg fun K hK => ?_
  unfold Oper.wp execOp
  simp only [ho, hx, hy, Instr.storeAt, Instr.sureAddr, Sem.run_bind, Sem.run_pure, Result.andThen_ok, hrun]
  exact hK _ _ (hk _ (h.set i hi o [c]))
end
end Go.Proofs.YtpamdpfgcbadhaaDoor.Hold
