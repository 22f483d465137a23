/-
  How many lines there may be of a text's words. Nothing here speaks of the project's code: no condition but those that each lemma names.
-/
import Derived.Test.YthlhhmhldpmpiaaDoorPhrK
namespace Go.Proofs.YthlhhmhldpmpiaaDoor.Cnt
open Go.RowKit Mur Phr

theorem solid_count (ls : List (List Nat)) (h : ∀ v ∈ ls, v ≠ []) : ls.length ≤ ls.flatten.length := by
  induction ls with
  | nil => exact Nat.le_refl _
  | cons v ls ih =>
    have h1 := ih fun u hu => h u (List.mem_cons_of_mem _ hu)
    have h2 : v.length ≠ 0 := fun e => h v List.mem_cons_self (List.eq_nil_of_length_eq_zero e)
    rw [List.length_cons, List.flatten_cons, List.length_append]
    omega
theorem begun_count (line : List Nat) : (Phr.begun line).length ≤ 1 := by unfold Phr.begun; split <;> simp
theorem begun_some (line : List Nat) (h : line ≠ []) : (Phr.begun line).length = 1 := by rw [Phr.begun, if_neg h]; rfl
theorem wrapGo_count (m : Nat) (hm : 0 < m) (ws : List (List Nat)) : ∀ line, (∀ w ∈ ws, w ≠ []) → (wrapGo m line ws).length ≤ (Phr.begun line).length + ws.flatten.length := by
  induction ws with
  | nil => intro line _; rw [wrapGo]; omega
  | cons w ws ih =>
    intro line hw
    have hw0 := hw w List.mem_cons_self
    have hws : ∀ w ∈ ws, w ≠ [] := fun u hu => hw u (List.mem_cons_of_mem _ hu)
    rw [wrapGo, List.flatten_cons, List.length_append]
    split
    · rename_i h
      have h1 := ih (line ++ 32 :: w) hws
      rw [begun_some _ (by simp)] at h1
      rw [begun_some _ h.1]
      omega
    · obtain ⟨h1, h2, h3, h4⟩ := chop_facts m hm w.length w (Nat.le_refl _) hw0
      have h5 := ih (chop m w).2 hws
      rw [begun_some _ h3] at h5
      have h6 := solid_count (chop m w).1 fun v hv => (h2 v hv).1
      have h7 := congrArg List.length h1
      have h8 : (chop m w).2.length ≠ 0 := fun e => h3 (List.eq_nil_of_length_eq_zero e)
      rw [List.length_append] at h7
      rw [List.length_append, List.length_append]
      omega
theorem lines_count (s : List UInt8) (wd : Int) (h : 1 ≤ wd) : (wrap wd (rs s)).length ≤ (rs s).length + 1 := by
  have hw := split_words (fun c => may c = true) (rs s) (rs_may s)
  rw [wrap, if_neg (by omega)]
  have h1 := wrapGo_count wd.toNat (by omega) (split (rs s)) [] fun w hw' => (hw w hw').1
  have h2 := begun_count []
  have h3 : (noBlank (rs s)).length ≤ (rs s).length := List.length_filter_le _ _
  rw [split_flatten] at h1
  omega
theorem lines_most (s : List UInt8) (wd : Int) : (wrap wd (rs s)).length ≤ (rs s).length + 1 := by
  by_cases h : 1 ≤ wd
  · exact lines_count s wd h
  · rw [wrap, if_pos (by omega)]
    exact Nat.zero_le _
end Go.Proofs.YthlhhmhldpmpiaaDoor.Cnt
