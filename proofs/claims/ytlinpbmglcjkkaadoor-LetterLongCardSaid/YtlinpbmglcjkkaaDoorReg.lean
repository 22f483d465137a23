/-
  Two laws on a statement whose order is open: where one operation alone may come up it is carried out; where several reads come up together, each apart from the others, they may be taken in the text's order. Nothing here speaks of a program: no condition but those that each lemma names.
-/
import Derived.WalkKit
import Derived.Orders
namespace Go.Proofs.YtlinpbmglcjkkaaDoor.Reg
open Go.RowKit

section
variable {P : Program} {ops : Array Oper} {Q : Exit → Act → World → Prop} {md : Region.Mode}

theorem wanted_free {o : Oper} (hg : o.guard = none) (y : Nat → Option Bool) : Region.wanted o y = true := by simp [Region.wanted, hg]

theorem only {i fuel : Nat} {o : Oper} {listed : Array Bool} {a : Act} {w : World} (ho : ops[i]? = some o) (hg : o.guard = none) (hr : Region.ready md ops listed = [i])
    (h : ∀ K : Act → World → Prop, (∀ a w, wpAny P md ops Q fuel (listed.setIfInBounds i true) a w → K a w) → Oper.wp P o a w K Q) : wpAny P md ops Q (fuel + 1) listed a w := by
  refine wpAny_all hr (by simp) (fun j hj => ?_)
  obtain rfl : j = i := by simpa using hj
  unfold wpOp
  simp only [ho]
  rw [if_pos (by simp [Region.wanted, hg])]
  exact .inl (h _ fun _ _ h => h)

/-- The operations 'is' come up together, whichever of them has been taken. -/
def together (md : Region.Mode) (ops : Array Oper) : Nat → Array Bool → List Nat → Bool
  | 0, _, is => is.isEmpty
  | f + 1, listed, is => is.isEmpty || ((Region.ready md ops listed == is) && is.all fun i => together md ops f (listed.setIfInBounds i true) (is.erase i))

/-- They look at nothing that another of them makes. -/
def apartB (ops : Array Oper) (is : List Nat) : Bool := is.all fun i => is.all fun j => i == j || (match ops[i]?, ops[j]? with | some x, some y => x.apart ops y | _, _ => false)
/-- None is guarded, none is a select. -/
def plainB (ops : Array Oper) (is : List Nat) : Bool := is.all fun i => match ops[i]? with | some x => x.guard.isNone && (match x.op with | .select _ _ => false | _ => true) | none => false

theorem reads (val : Nat → Option Tmp × Value) {fuel : Nat} {w : World} : ∀ (n : Nat) (is : List Nat) (listed : Array Bool) (a : Act), is.length = n → is.Nodup → together md ops n listed is = true → plainB ops is = true → apartB ops is = true →
    (∀ i ∈ is, ∃ o, ops[i]? = some o ∧ o.dst = (val i).1 ∧ (execOp a.eval o).run P w = .ok (.value (val i).2) w) →
    wpAny P md ops Q fuel (is.foldl (fun l i => l.setIfInBounds i true) listed) (is.foldl (fun b i => b.put (val i).1 (val i).2) a) w →
    wpAny P md ops Q (fuel + n) listed a w := by
  intro n
  induction n with
  | zero =>
    intro is listed a hn _ _ _ _ _ h
    obtain rfl := List.eq_nil_of_length_eq_zero hn
    exact h
  | succ n ih =>
    intro is listed a hn hnd ht hpl hap hy h
    have hne : is ≠ [] := by rintro rfl; cases hn
    have ht' : Region.ready md ops listed = is ∧ ∀ i ∈ is, together md ops n (listed.setIfInBounds i true) (is.erase i) = true := by
      simp only [together, Bool.or_eq_true, Bool.and_eq_true, beq_iff_eq, List.all_eq_true, List.isEmpty_iff] at ht
      exact ht.resolve_left hne
    have ap : ∀ i ∈ is, ∀ j ∈ is, i ≠ j → ∀ x y, ops[i]? = some x → ops[j]? = some y → x.apart ops y = true := fun i hi j hj hij x y hx hy' => by
      have := List.all_eq_true.1 (List.all_eq_true.1 hap i hi) j hj
      simpa [hx, hy', hij] using this
    have pl : ∀ i ∈ is, ∀ x, ops[i]? = some x → x.guard = none ∧ ∀ cs b, x.op ≠ .select cs b := fun i hi x hx => by
      have := List.all_eq_true.1 hpl i hi
      simp only [hx, Bool.and_eq_true, Option.isNone_iff_eq_none] at this
      refine ⟨this.1, fun cs b e => ?_⟩
      have h2 := this.2
      rw [e] at h2
      cases h2
    show wpAny P md ops Q ((fuel + n) + 1) listed a w
    refine wpAny_all ht'.1 hne (fun i hi => ?_)
    obtain ⟨o, h1, hd, h4⟩ := hy i hi
    unfold wpOp
    simp only [h1]
    rw [if_pos (by simp [Region.wanted, (pl i hi o h1).1])]
    refine .inl ?_
    unfold Oper.wp
    rw [h4]
    simp only [Oper.upon]
    refine ih (is.erase i) _ _ (by rw [List.length_erase_of_mem hi, hn]; rfl) (hnd.erase i) (ht'.2 i hi) ?_ ?_ (fun j hj => ?_) ?_
    · exact List.all_eq_true.2 fun j hj => List.all_eq_true.1 hpl j (List.mem_of_mem_erase hj)
    · exact List.all_eq_true.2 fun j hj => List.all_eq_true.2 fun k hk => List.all_eq_true.1 (List.all_eq_true.1 hap j (List.mem_of_mem_erase hj)) k (List.mem_of_mem_erase hk)
    · have hji : j ≠ i := fun e => by
        subst e
        exact (hnd.not_mem_erase) hj
      obtain ⟨x, g1, gd, g4⟩ := hy j (List.mem_of_mem_erase hj)
      refine ⟨x, g1, gd, ?_⟩
      rw [execOp_put (ops := ops) x (pl j (List.mem_of_mem_erase hj) x g1).2 a o.dst (val i).2 (Oper.apart_spec (ap i hi j (List.mem_of_mem_erase hj) hji.symm o x h1 g1)).1]
      exact g4
    · have hp : is.Perm (i :: is.erase i) := List.perm_cons_erase hi
      have e1 : is.foldl (fun l i => l.setIfInBounds i true) listed = (is.erase i).foldl (fun l i => l.setIfInBounds i true) (listed.setIfInBounds i true) := by
        refine (hp.foldl_eq' (fun x _ y _ z => ?_) listed).trans rfl
        by_cases e : x = y
        · rw [e]
        · rw [Array.setIfInBounds_comm _ _ e]
      have e2 : is.foldl (fun b i => b.put (val i).1 (val i).2) a = (is.erase i).foldl (fun b i => b.put (val i).1 (val i).2) (a.put (val i).1 (val i).2) := by
        refine (hp.foldl_eq' (fun x hx y hy' z => ?_) a).trans rfl
        by_cases e : x = y
        · rw [e]
        · obtain ⟨ox, gx, dx, -⟩ := hy x hx
          obtain ⟨oy, gy, dy, -⟩ := hy y hy'
          rw [← dx, ← dy]
          exact Act.put_comm z _ _ (Oper.apart_spec (ap x hx y hy' e ox oy gx gy)).2.1
      rw [e1, e2, ← hd] at h
      exact h
end
end Go.Proofs.YtlinpbmglcjkkaaDoor.Reg
