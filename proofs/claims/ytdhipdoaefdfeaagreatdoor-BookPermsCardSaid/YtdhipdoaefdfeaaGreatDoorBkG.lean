/-
  A store at the end of a region that draws, told with what else of memory is as it was; bytes that fit, of a longer key; lengths of names. Conditions: those that each lemma names.
-/
import Derived.Test.YtdhipdoaefdfeaaGreatDoorBkN
namespace Go.Proofs.YtdhipdoaefdfeaaGreatDoor.Hold
open Go Go.RowKit Mur
section
variable {P : Program} {ops : Array Oper} {op : Oper} {a : Act} {w w0 : World} {m : List Blk} {Q : Exit → Act → World → Prop}
theorem op_storeK {i : Nat} {K : Act → World → Prop} {x y : Operand} {ty t : TypeId} {b o : Nat} {v cs v' : List Value} (h : Hld w0 m w) (k : Nat) (hi : ops[i]? = some op) (hg : op.guard = none) (ho : op.op = .store ty x y) (hx : a.eval x = .pointer (some ⟨b, o, none⟩)) (hy : a.eval y = .agg cs.toArray) (hk : m[k]? = some ⟨b, t, v⟩) (hl : o + cs.length ≤ v.length) (hv : lay v o cs = v') (h1 : Single cs) (hr : TyRow P ty cs.length)
    (hK : ∀ w', But b w w' → Hld w0 (m.set k ⟨b, t, v'⟩) w' → K (a.put op.dst undef) w') : wpOp P ops Q i K a w := by
  obtain ⟨d, hu, hd, hs⟩ := hr
  subst hv
  unfold wpOp
  simp only [hi]
  rw [if_pos (by simp [Region.wanted, hg])]
  refine .inl ?_
  refine wp_store_mid ty x y ho b o cs.toArray hx hy (by simpa using h.there k hk o cs.length hl) (by simpa using hs) h1 ?_
  exact hK _ (but_sets _ w b o) (by simpa using h.set k hk o cs)
/-- A contract that is asked where all memory is left. -/
theorem keptNI {W : World} {t : TypeId} {z : List Value} {f : FuncId} {args : Array Value} {v : Value} (R : ∀ u, Below W.heap.size W u → Calls P f args u fun e w' => e = .returned v ∧ Below u.heap.size u w') :
    ∀ s u, SteadyN.Made W t z s u → Calls P f args u fun e w' => e = .returned v ∧ SteadyN.Made W t z s w' := fun _ u h =>
  (R u h.below).mono fun _ _ ⟨he, hb⟩ => ⟨he, h.next hb⟩
end
end Go.Proofs.YtdhipdoaefdfeaaGreatDoor.Hold
namespace Go.Proofs.YtdhipdoaefdfeaaGreatDoor.Bkb
open Go.RowKit Mur Prt Lanes Tap Bkl Bkm Rec Cel Bkr
set_option maxRecDepth 100000

theorem fit_less (s t : List UInt8) (n : Int) (h : s.take (many n) = t.take (many n)) (h1 : many n ≤ s.length) (h2 : many n ≤ t.length) : fit s n = fit t n := by
  show (s ++ List.replicate (many n) 0).take (many n) = (t ++ List.replicate (many n) 0).take (many n)
  rw [List.take_append_of_le_length h1, List.take_append_of_le_length h2, h]
/-- What source answers. -/
def srcS (b : Bk) (name : List UInt8) (n : Int) : List UInt8 := if b.ideal = true then (get b.cells name).getD [] else Ked.derive b.seed (Ked.many n) [cellT, name]
theorem fit_src (b : Bk) (name : List UInt8) (n : Int) : fit (srcS b name n) n = freshS b name n := by
  unfold srcS freshS
  split
  · rfl
  · have h1 : many n ≤ Ked.many n := by unfold many Ked.many; omega
    have h2 : Ked.many n ≤ 8160 := Ked.many_le n
    refine fit_less _ _ _ ?_ ?_ ?_
    · show ((Ked.all _ _ 255).take (Ked.many n)).take (many n) = ((Ked.all _ _ 255).take (many n)).take (many n)
      rw [List.take_take, List.take_take, Nat.min_eq_left h1, Nat.min_self]
    · show many n ≤ (Ked.expand _ _ _).length
      rw [Ked.expand_length _ _ _ h2]
      exact h1
    · show many n ≤ (Ked.expand _ _ _).length
      rw [Ked.expand_length _ _ _ (by omega)]
      exact Nat.le_refl _
theorem joined_one (wd : List UInt8) (n : Int) (h : n ≤ 9223372036854775807) : (joined wd [n]).length ≤ wd.length + 20 := by
  have e : joined wd [n] = wd ++ 32 :: dec n := by
    rw [joined]
    simp [tail]
  have hd : (dec n).length ≤ 19 := by
    unfold dec
    split
    · simp
    · refine digits_long _ 18 ?_
      omega
  rw [e, List.length_append, List.length_cons]
  omega
theorem put_names {l : List C} {n s : List UInt8} (h : ∀ c ∈ l, c.1.length ≤ 1000000) (hn : n.length ≤ 1000000) : ∀ c ∈ put l n s, c.1.length ≤ 1000000 := by
  have hf : ∀ (l : List C) (d : Bool), (∀ c ∈ l, c.1.length ≤ 1000000) → ∀ c ∈ putF n s d l, c.1.length ≤ 1000000 := by
    intro l
    induction l with
    | nil =>
      intro d _ c hc
      cases d
      · simp [putF] at hc
        rw [hc]
        exact hn
      · simp [putF] at hc
    | cons x l ih =>
      intro d hl c hc
      have hl' : ∀ c ∈ l, c.1.length ≤ 1000000 := fun c hc => hl c (List.mem_cons_of_mem _ hc)
      rw [RTap.putF_cons] at hc
      split at hc
      · split at hc
        · exact ih _ hl' c hc
        · rcases List.mem_cons.1 hc with rfl | hc
          · exact hn
          · exact ih _ hl' c hc
      · rcases List.mem_cons.1 hc with rfl | hc
        · exact hl _ List.mem_cons_self
        · exact ih _ hl' c hc
  exact hf l false h
end Go.Proofs.YtdhipdoaefdfeaaGreatDoor.Bkb
