/-
  The rows of the law GroveProves: which leaves there are, their nodes, and that many leaves with their proof come to the root. No condition but those that each lemma names.
-/
import Derived.Test.YtncafbejgidliaaDoorGrvJ
import Derived.Test.YtncafbejgidliaaDoorGrvH
import Derived.Test.YtncafbejgidliaaDoorGrvAwake
namespace Go.Proofs.YtncafbejgidliaaDoor.LawProves
open Go.RowKit Mur Sha Chn Grv
set_option maxRecDepth 100000

/-- The leaves among the first k. -/
def sel (B : Nat → Bool) (P : Nat) : Nat → List Nat
  | 0 => []
  | k + 1 => if B k = true ∧ k < P then sel B P k ++ [k] else sel B P k
theorem sel_lt (B : Nat → Bool) (P k : Nat) : ∀ x ∈ sel B P k, x < k ∧ x < P := by
  induction k with
  | zero => intro x hx; cases hx
  | succ k ih =>
    intro x hx
    unfold sel at hx
    split at hx
    · rcases List.mem_append.1 hx with hx | hx
      · have := ih x hx; omega
      · simp at hx; omega
    · have := ih x hx; omega
theorem sel_up (B : Nat → Bool) (P k : Nat) : Up (sel B P k) := by
  induction k with
  | zero => exact List.Pairwise.nil
  | succ k ih =>
    unfold sel
    split
    · refine List.pairwise_append.2 ⟨ih, by simp, fun x hx y hy => ?_⟩
      have := (sel_lt B P k x hx).1
      simp at hy
      omega
    · exact ih
theorem sel_length (B : Nat → Bool) (P k : Nat) : (sel B P k).length ≤ min k P := by
  induction k with
  | zero => simp [sel]
  | succ k ih =>
    unfold sel
    split
    · rw [List.length_append, List.length_singleton]; omega
    · omega
/-- Their nodes. -/
def texts (s r : List UInt8) (l : List Nat) : List ByteArray := l.map fun i : Nat => tx (leafOf 2 s r (i : Int))
theorem texts_length (s r : List UInt8) (l : List Nat) : (texts s r l).length = l.length := by simp [texts]
theorem texts_next (s r : List UInt8) (l : List Nat) (i : Nat) : texts s r (l ++ [i]) = texts s r l ++ [tx (leafOf 2 s r (i : Int))] := by simp [texts]
theorem texts_size (s r : List UInt8) (l : List Nat) : ∀ x ∈ texts s r l, x.size ≤ 1000000 := fun x hx => by
  obtain ⟨i, _, rfl⟩ := List.mem_map.1 hx
  have := leafOf_length 2 s r (i : Int) (by omega)
  show (leafOf 2 s r (i : Int)).length ≤ _
  omega
theorem texts_hand (s r : List UInt8) (l : List Nat) : handUp l (texts s r l) = handOf 2 s r 0 l := by
  unfold handUp texts handOf
  rw [List.map_map]
  induction l with
  | nil => rfl
  | cons a l ih =>
    rw [List.map_cons, List.zip_cons_cons, List.map_cons, ih]
    rfl
/-- Two rows of unlike types lie apart. -/
theorem own_apart {w : World} {b1 b2 n1 n2 : Nat} {v1 v2 : Value} {x1 x2 : List Value} (h1 : w.ownsRow b1 3 1 v1 n1 x1) (h2 : w.ownsRow b2 9 1 v2 n2 x2) : (v2.ownBlock = none ∨ v2.ownBlock ≠ v1.ownBlock) ∧ (v1.ownBlock = none ∨ v1.ownBlock ≠ v2.ownBlock) := by
  rcases h1.2 with ⟨rfl, -⟩ | ⟨g1, c1, u1, rfl, -, e1, -⟩
  · rcases h2.2 with ⟨rfl, -⟩ | ⟨g2, c2, u2, rfl, -, e2, -⟩
    · exact ⟨.inl rfl, .inl rfl⟩
    · exact ⟨.inr (by simp [Value.ownBlock]), .inl rfl⟩
  · rcases h2.2 with ⟨rfl, -⟩ | ⟨g2, c2, u2, rfl, -, e2, -⟩
    · exact ⟨.inl rfl, .inr (by simp [Value.ownBlock])⟩
    · have hne : g2 ≠ g1 := fun e => by
        rw [e, e1] at e2
        cases e2
      exact ⟨.inr (by simp only [Value.ownBlock, ne_eq, Option.some.injEq]; exact hne), .inr (by simp only [Value.ownBlock, ne_eq, Option.some.injEq]; exact fun e => hne e.symm)⟩
/-- A row of one's own, as it is read. -/
theorem own_ints {w : World} {base n : Nat} {v : Value} {l : List Nat} (h : w.ownsRow base 3 1 v n (Ints.intsV l)) : ∃ a c, v = .slice a n c ∧ n = l.length ∧ IntsR w a (zl l) := by
  obtain ⟨a, c, rfl, -, hl, hc⟩ := Strs.own_slice h
  rw [Ints.intsV_length] at hl
  refine ⟨a, c, rfl, hl, fun h0 => ?_⟩
  rw [zl_length] at h0
  obtain ⟨g, rfl, -, hg, -⟩ := hc 0 (.int .i64 ((l[0]'(by omega) : Nat) : Int)) (Ints.intsV_at (List.getElem?_eq_getElem (by omega)))
  refine ⟨g, 0, rfl, hg, fun i x hx => ?_⟩
  have hi : i < l.length := by have := (List.getElem?_eq_some_iff.1 hx).1; rwa [zl_length] at this
  obtain ⟨g', hg', -, -, hcell⟩ := hc i (.int .i64 ((l[i] : Nat) : Int)) (Ints.intsV_at (List.getElem?_eq_getElem hi))
  cases hg'
  have e : (zl l)[i]? = some ((l[i] : Nat) : Int) := zl_at (List.getElem?_eq_getElem hi)
  rw [e] at hx
  rw [Nat.zero_add, hcell, Option.some.inj hx]
theorem own_texts {w : World} {base n : Nat} {v : Value} {l : List ByteArray} (h : w.ownsRow base 9 1 v n (Strs.strsV l)) : ∃ a c, v = .slice a n c ∧ n = l.length ∧ StrsR w a l := by
  obtain ⟨a, c, rfl, -, hl, hc⟩ := Strs.own_slice h
  rw [Strs.strsV_length] at hl
  refine ⟨a, c, rfl, hl, fun h0 => ?_⟩
  obtain ⟨g, rfl, -, hg, -⟩ := hc 0 (.string (l[0]'(by omega))) (Strs.strsV_at (List.getElem?_eq_getElem (by omega)))
  refine ⟨g, 0, rfl, hg, fun i x hx => ?_⟩
  obtain ⟨g', hg', -, -, hcell⟩ := hc i (.string x) (Strs.strsV_at hx)
  cases hg'
  rw [Nat.zero_add, hcell]
end Go.Proofs.YtncafbejgidliaaDoor.LawProves
