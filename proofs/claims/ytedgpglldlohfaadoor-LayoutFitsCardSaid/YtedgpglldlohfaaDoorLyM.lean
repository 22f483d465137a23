/-
  More plain mathematics of package layout: which slots are open, slot by slot; a budget's row, slot by slot; how large a share may be. No condition but those that each lemma names.
-/
import Derived.Test.YtedgpglldlohfaaDoorLyU
namespace Go.Proofs.YtedgpglldlohfaaDoor.Lyo
open Go.RowKit Mur Lanes Prt Tap Cel Frm Zs
set_option maxRecDepth 100000

theorem open_next (l : List Int) (s : Int) (q : Nat) (h : q < 6) : openL l s (min (q + 1) 6) = openL l s (min q 6) ++ (if isOpen l s q = true then [(q : Int)] else []) := by
  have e1 : min (q + 1) 6 = q + 1 := by omega
  have e2 : min q 6 = q := by omega
  rw [e1, e2]
  unfold openL
  rw [List.range_succ, List.filter_append, List.map_append]
  congr 1
  by_cases hq : isOpen l s q = true
  · rw [if_pos hq, List.filter_cons, if_pos hq]
    rfl
  · rw [if_neg hq, List.filter_cons, if_neg hq]
    rfl
theorem open_short (l : List Int) (s : Int) (q : Nat) : (openL l s (min q 6)).length ≤ 100 := by
  unfold openL
  rw [List.length_map]
  have := List.length_filter_le (isOpen l s) (List.range (min q 6))
  rw [List.length_range] at this
  omega
theorem budG_drop (s m y : Int) (l : List Int) (q : Nat) (x : Int) (h : l[q]? = some x) : budG s m y (l.drop q) = if fits s m y x then x :: budG s m (y + Frm.long x s) (l.drop (q + 1)) else 0 :: budG s m y (l.drop (q + 1)) := by
  obtain ⟨hq, hx⟩ := List.getElem?_eq_some_iff.1 h
  rw [List.drop_eq_getElem_cons hq, hx]
  rfl
theorem zeros_next (D : List Int) (N q : Nat) (h : q < N) : D ++ List.replicate (N - q) 0 = (D ++ [0]) ++ List.replicate (N - (q + 1)) 0 := by
  have e : N - q = (N - (q + 1)) + 1 := by omega
  rw [e, List.replicate_succ, List.append_cons]
theorem row_next (D : List Int) (N q : Nat) (x : Int) (hD : D.length = q) (h : q < N) : (zsV (D ++ List.replicate (N - q) 0)).set q (.int .i64 x) = zsV ((D ++ [x]) ++ List.replicate (N - (q + 1)) 0) := by
  rw [zsV_set]
  congr 1
  have e : N - q = (N - (q + 1)) + 1 := by omega
  rw [e, List.replicate_succ, List.set_append_right _ _ (by omega), hD, Nat.sub_self, List.set_cons_zero, List.append_cons]
theorem share_small (A B T Q : Int) (h : (1000 * (B - A + 1)).tdiv T = Q) (h1 : 0 ≤ B - A + 1) (h2 : B - A + 1 ≤ 100000) (h3 : 0 < T) : 0 ≤ Q ∧ Q ≤ 100000000 := by
  rw [Int.tdiv_eq_ediv_of_nonneg (by omega)] at h
  rw [← h]
  refine ⟨Int.ediv_nonneg (by omega) (by omega), ?_⟩
  have := Int.ediv_le_self T (show 0 ≤ 1000 * (B - A + 1) by omega)
  omega
theorem shares_small (l : List Int) (s : Int) : ∀ k : Nat, 0 ≤ shares l s k ∧ shares l s k ≤ 12151000 * (k : Int)
  | 0 => by simp [shares]
  | k + 1 => by
    have h := shares_small l s k
    have hb := share_bounds l s (k : Int)
    have e : shares l s (k + 1) = shares l s k + share l s (k : Int) := rfl
    rw [e]
    omega
end Go.Proofs.YtedgpglldlohfaaDoor.Lyo
