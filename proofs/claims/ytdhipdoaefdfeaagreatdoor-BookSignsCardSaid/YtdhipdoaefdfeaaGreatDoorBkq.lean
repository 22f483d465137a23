/-
  Drawing an order by counting (chapter 16): how many bytes are less, and how many the same ones came so far: these are the places. Plain mathematics, no condition but those that each lemma names.
-/
import Derived.Test.YtdhipdoaefdfeaaGreatDoorBkp
namespace Go.Proofs.YtdhipdoaefdfeaaGreatDoor.Bkp
/-- How many bytes are v; how many are less. -/
def eqs (l : List UInt8) (v : Nat) : Nat := l.countP fun x => decide (x.toNat = v)
def less (l : List UInt8) (v : Nat) : Nat := l.countP fun x => decide (x.toNat < v)
theorem less_zero (l : List UInt8) : less l 0 = 0 := by
  unfold less
  rw [List.countP_eq_zero]
  intro x _
  simp
theorem less_succ (l : List UInt8) (v : Nat) : less l (v + 1) = less l v + eqs l v := by
  induction l with
  | nil => rfl
  | cons x l ih =>
    unfold less eqs at ih ⊢
    rw [List.countP_cons, List.countP_cons, List.countP_cons, ih]
    have h : (if decide (x.toNat < v + 1) = true then 1 else 0) = (if decide (x.toNat < v) = true then 1 else 0) + (if decide (x.toNat = v) = true then 1 else 0) := by
      simp only [decide_eq_true_eq]
      split <;> split <;> split <;> omega
    omega
theorem eqs_take (l : List UInt8) (j : Nat) (x : UInt8) (h : l[j]? = some x) (v : Nat) : eqs (l.take (j + 1)) v = eqs (l.take j) v + (if v = x.toNat then 1 else 0) := by
  unfold eqs
  rw [List.take_add_one, h, List.countP_append]
  have e : (some x).toList = [x] := rfl
  rw [e, List.countP_cons, List.countP_nil]
  simp only [decide_eq_true_eq, Nat.zero_add]
  congr 1
  by_cases hv : x.toNat = v
  · rw [if_pos hv, if_pos hv.symm]
  · rw [if_neg hv, if_neg (fun e => hv e.symm)]
theorem eqs_le (l : List UInt8) (v : Nat) : eqs l v ≤ l.length := List.countP_le_length
theorem less_le (l : List UInt8) (v : Nat) : less l v ≤ l.length := List.countP_le_length
theorem range_front (l : List UInt8) (p : UInt8 → Bool) (n : Nat) (hn : n ≤ l.length) : (List.range n).countP (fun j => p (l.getD j 0)) = (l.take n).countP p := by
  induction n with
  | zero => rfl
  | succ n ih =>
    have hx : l[n]? = some (l.getD n 0) := by
      rw [List.getD_eq_getElem?_getD, List.getElem?_eq_getElem (by omega)]
      rfl
    rw [List.range_succ, List.countP_append, ih (by omega), List.take_add_one, hx, List.countP_append]
    rfl
theorem range_ahead (l : List UInt8) (p : UInt8 → Bool) (i n : Nat) (hn : n ≤ l.length) : (List.range n).countP (fun j => p (l.getD j 0) && decide (j < i)) = (l.take (min n i)).countP p := by
  induction n with
  | zero => simp
  | succ n ih =>
    have hx : l[n]? = some (l.getD n 0) := by
      rw [List.getD_eq_getElem?_getD, List.getElem?_eq_getElem (by omega)]
      rfl
    rw [List.range_succ, List.countP_append, ih (by omega)]
    by_cases h : n < i
    · have e1 : min n i = n := by omega
      have e2 : min (n + 1) i = n + 1 := by omega
      rw [e1, e2, List.take_add_one, hx, List.countP_append]
      simp [List.countP_cons, h]
    · have e1 : min n i = i := by omega
      have e2 : min (n + 1) i = i := by omega
      rw [e1, e2]
      simp [h]
theorem countP_or {p q : Nat → Bool} (l : List Nat) (h : ∀ x ∈ l, p x = true → q x = false) : l.countP (fun x => p x || q x) = l.countP p + l.countP q := by
  induction l with
  | nil => rfl
  | cons x l ih =>
    rw [List.countP_cons, List.countP_cons, List.countP_cons, ih fun y hy => h y (List.mem_cons_of_mem _ hy)]
    have := h x List.mem_cons_self
    cases hp : p x <;> cases hq : q x <;> simp_all <;> omega
theorem rank_counts (l : List UInt8) (i : Nat) (hi : i < l.length) : rank l i = less l (l.getD i 0).toNat + eqs (l.take i) (l.getD i 0).toNat := by
  have h1 := countP_or (p := fun j => decide ((l.getD j 0).toNat < (l.getD i 0).toNat)) (q := fun j => decide ((l.getD j 0).toNat = (l.getD i 0).toNat) && decide (j < i)) (List.range l.length) (fun j _ h => by
    have h' : (l.getD j 0).toNat < (l.getD i 0).toNat := of_decide_eq_true h
    have : decide ((l.getD j 0).toNat = (l.getD i 0).toNat) = false := decide_eq_false (by omega)
    show (decide ((l.getD j 0).toNat = (l.getD i 0).toNat) && decide (j < i)) = false
    rw [this]
    rfl)
  have h2 := range_front l (fun x => decide (x.toNat < (l.getD i 0).toNat)) l.length (Nat.le_refl _)
  have h3 := range_ahead l (fun x => decide (x.toNat = (l.getD i 0).toNat)) i l.length (Nat.le_refl _)
  rw [List.take_length] at h2
  rw [Nat.min_eq_right (Nat.le_of_lt hi)] at h3
  rw [h2, h3] at h1
  exact h1
/-- The counts as they stand: while bytes are counted, while the lesser ones are summed, while places are given. -/
def cnt1 (l : List UInt8) (j v : Nat) : Nat := eqs (l.take j) v
def cnt2 (l : List UInt8) (k v : Nat) : Nat := if v < k then less l v else eqs l v
def cnt3 (l : List UInt8) (i v : Nat) : Nat := less l v + eqs (l.take i) v
def bump (f : Nat → Nat) (x : Nat) : Nat → Nat := fun v => if v = x then f v + 1 else f v
def put2 (f : Nat → Nat) (x y : Nat) : Nat → Nat := fun v => if v = x then y else f v
theorem cnt1_zero (l : List UInt8) : cnt1 l 0 = fun _ => 0 := by
  funext v
  rfl
theorem cnt1_next (l : List UInt8) (j : Nat) (x : UInt8) (h : l[j]? = some x) : cnt1 l (j + 1) = bump (cnt1 l j) x.toNat := by
  funext v
  show eqs (l.take (j + 1)) v = (if v = x.toNat then eqs (l.take j) v + 1 else eqs (l.take j) v)
  rw [eqs_take l j x h]
  split <;> rfl
theorem cnt2_zero (l : List UInt8) : cnt2 l 0 = cnt1 l l.length := by
  funext v
  unfold cnt2 cnt1
  rw [if_neg (by omega), List.take_length]
theorem cnt2_next (l : List UInt8) (k : Nat) : cnt2 l (k + 1) = put2 (cnt2 l k) k (less l k) := by
  funext v
  show (if v < k + 1 then less l v else eqs l v) = (if v = k then less l k else (if v < k then less l v else eqs l v))
  by_cases h : v = k
  · subst h
    rw [if_pos (by omega), if_pos rfl]
  · rw [if_neg h]
    by_cases h2 : v < k
    · rw [if_pos (by omega), if_pos h2]
    · rw [if_neg (by omega), if_neg h2]
theorem cnt3_zero (l : List UInt8) (v : Nat) (h : v < 256) : cnt2 l 256 v = cnt3 l 0 v := by
  unfold cnt2 cnt3
  rw [if_pos h]
  rfl
theorem cnt3_next (l : List UInt8) (j : Nat) (x : UInt8) (h : l[j]? = some x) : cnt3 l (j + 1) = bump (cnt3 l j) x.toNat := by
  funext v
  show less l v + eqs (l.take (j + 1)) v = (if v = x.toNat then less l v + eqs (l.take j) v + 1 else less l v + eqs (l.take j) v)
  rw [eqs_take l j x h]
  split <;> omega
theorem cnt3_rank (l : List UInt8) (j : Nat) (x : UInt8) (h : l[j]? = some x) : cnt3 l j x.toNat = rank l j := by
  obtain ⟨hj, rfl⟩ := List.getElem?_eq_some_iff.1 h
  rw [rank_counts l j hj, List.getD_eq_getElem?_getD, List.getElem?_eq_getElem hj]
  rfl
/-- A row of counts in memory. -/
def arrV (f : Nat → Nat) : List Value := (List.range 256).map fun v => .int .i64 (f v : Int)
theorem arrV_length (f : Nat → Nat) : (arrV f).length = 256 := by simp [arrV]
theorem arrV_at (f : Nat → Nat) (v : Nat) (h : v < 256) : (arrV f)[v]? = some (.int .i64 (f v : Int)) := by simp [arrV, h]
theorem arrV_ext (f g : Nat → Nat) (h : ∀ v, v < 256 → f v = g v) : arrV f = arrV g := by
  unfold arrV
  apply List.map_congr_left
  intro v hv
  rw [h v (List.mem_range.1 hv)]
theorem arrV_put (f : Nat → Nat) (x y : Nat) : (arrV f).set x (.int .i64 (y : Int)) = arrV (put2 f x y) := by
  apply List.ext_getElem?
  intro i
  rw [List.getElem?_set]
  by_cases hi : i < 256
  · rw [arrV_at _ i hi, arrV_at _ i hi, arrV_length]
    unfold put2
    by_cases h : x = i
    · subst h
      rw [if_pos rfl, if_pos hi, if_pos rfl]
    · rw [if_neg h, if_neg (fun e => h e.symm)]
  · rw [List.getElem?_eq_none (by rw [arrV_length]; omega), List.getElem?_eq_none (by rw [arrV_length]; omega), arrV_length]
    split
    · rw [if_neg (by omega)]
    · rfl
theorem arrV_bump (f : Nat → Nat) (x : Nat) : (arrV f).set x (.int .i64 (f x + 1 : Nat)) = arrV (bump f x) := by
  rw [arrV_put]
  congr 1
  funext v
  unfold put2 bump
  split
  · rename_i h; rw [h]
  · rfl
theorem arrV_one (f : Nat → Nat) : ∀ u ∈ arrV f, u.oneCell' = true := by
  intro u hu
  simp only [arrV, List.mem_map] at hu
  obtain ⟨v, _, rfl⟩ := hu
  rfl
end Go.Proofs.YtdhipdoaefdfeaaGreatDoor.Bkp
