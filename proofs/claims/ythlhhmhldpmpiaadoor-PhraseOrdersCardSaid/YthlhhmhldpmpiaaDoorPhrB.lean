/-
  What the functions of package phrase answer, as plain mathematics on bytes, after the document's words, and what follows of them (P11.14, P11.15, P11.17). Nothing here speaks of a program: no condition but those that each lemma names.
-/
import Derived.Test.YthlhhmhldpmpiaaDoorPhr
namespace Go.Proofs.YthlhhmhldpmpiaaDoor.Phr
open Go.RowKit Mur

def right (s : List UInt8) : Bool := (runes s).isSome && decide (1 ≤ s.length) && decide (s.length ≤ 16)
def count (s : List UInt8) : Nat := (rs s).length
def cutB (s : List UInt8) (n : Int) : List UInt8 := text ((rs s).take (clamp n (rs s).length))
def foldB (s : List UInt8) : List UInt8 := text (fold s)
def backB (s : List UInt8) : List UInt8 := text (rs s).reverse
def splitB (s : List UInt8) : List (List UInt8) := (split (rs s)).map text
def widthB (s : List UInt8) : Nat := (text (rs s)).length
def wrapB (s : List UInt8) (wd : Int) : List (List UInt8) := (wrap wd (rs s)).map text
/-- The first place at which the runes of y stand among those of x. -/
def findGo (y : List Nat) : List Nat → Nat → Option Nat
  | [], i => if y = [] then some i else none
  | c :: x, i => if y.isPrefixOf (c :: x) then some i else findGo y x (i + 1)
def find (x y : List Nat) : Int := match findGo y x 0 with
  | some i => i
  | none => -1
def findB (s t : List UInt8) : Int := find (fold s) (fold t)
def blanks (n : Nat) : List Nat := List.replicate n 32
def fillB (s : List UInt8) (n : Int) (left : Bool) : List UInt8 :=
  let l := (rs s).take (clamp n (rs s).length)
  let k := clamp (min n 200) 200 - l.length
  if left then text (blanks k ++ l) else text (l ++ blanks k)
def joinL : List (List Nat) → List Nat
  | [] => []
  | [w] => w
  | w :: ws => w ++ 32 :: joinL ws
def bareB (s : List UInt8) : List UInt8 := text (joinL (split (rs s)))
def initialsB (s : List UInt8) : List UInt8 := text ((split (rs s)).flatMap fun w => w.take 1)

theorem rs_some {s : List UInt8} {l : List Nat} (h : runes s = some l) : rs s = l := by rw [rs, h]; rfl
theorem rs_none {s : List UInt8} (h : runes s = none) : rs s = [] := by rw [rs, h]; rfl
theorem take_may {l : List Nat} (h : ∀ c ∈ l, may c = true) (k : Nat) : ∀ c ∈ l.take k, may c = true := fun c hc => h c (List.mem_of_mem_take hc)
theorem rev_may {l : List Nat} (h : ∀ c ∈ l, may c = true) : ∀ c ∈ l.reverse, may c = true := fun c hc => h c (List.mem_reverse.1 hc)
theorem count_le (s : List UInt8) : count s ≤ s.length := rs_length s
theorem runes_some {s : List UInt8} (h : 0 < count s) : ∃ l, runes s = some l ∧ rs s = l ∧ text l = s := by
  cases hr : runes s with
  | none => rw [count, rs_none hr] at h; simp at h
  | some l => exact ⟨l, rfl, rs_some hr, (text_of_runes hr).1⟩
/-- P11.14: what is cut and the rest are the text. -/
theorem cut_facts {s : List UInt8} {l : List Nat} (n : Int) (h : runes s = some l) : (cutB s n).length ≤ s.length ∧ s.take (cutB s n).length = cutB s n ∧ count (cutB s n) = clamp n l.length ∧ ((l.length : Int) ≤ n → cutB s n = s) := by
  obtain ⟨h1, h2⟩ := text_of_runes h
  have e : cutB s n = text (l.take (clamp n l.length)) := by rw [cutB, rs_some h]
  have hs : s = text (l.take (clamp n l.length)) ++ text (l.drop (clamp n l.length)) := by rw [← text_append, List.take_append_drop, h1]
  rw [e]
  refine ⟨?_, ?_, ?_, fun hn => ?_⟩
  · have := congrArg List.length hs
    rw [List.length_append] at this
    omega
  · have k : (text (l.take (clamp n l.length)) ++ text (l.drop (clamp n l.length))).take (text (l.take (clamp n l.length))).length = text (l.take (clamp n l.length)) := List.take_left
    rw [← hs] at k
    exact k
  · rw [count, rs_text _ (take_may h2 _), List.length_take]
    have := clamp_le n l.length
    omega
  · have hc : clamp n l.length = l.length := by unfold clamp; omega
    rw [hc, List.take_length, h1]
/-- Bytes that are no blank. -/
def solid (s : List UInt8) : List UInt8 := s.filter fun b => decide (b ≠ 32)
theorem solid_append (a b : List UInt8) : solid (a ++ b) = solid a ++ solid b := List.filter_append ..
theorem solid_enc (c : Nat) (h : may c = true) : solid (enc c) = if c = 32 then [] else enc c := by
  have hm := may_lt h
  by_cases h32 : c = 32
  · subst h32
    rfl
  · rw [if_neg h32]
    unfold enc
    split
    · have e : UInt8.ofNat c ≠ 32 := fun e => by
        have := congrArg UInt8.toNat e
        simp only [UInt8.toNat_ofNat'] at this
        have e2 : (32 : UInt8).toNat = 32 := rfl
        omega
      simp [solid, e]
    · have e1 : UInt8.ofNat (192 + c / 64) ≠ 32 := fun e => by
        have := congrArg UInt8.toNat e
        simp only [UInt8.toNat_ofNat'] at this
        have e2 : (32 : UInt8).toNat = 32 := rfl
        omega
      have e2 : UInt8.ofNat (128 + c % 64) ≠ 32 := fun e => by
        have := congrArg UInt8.toNat e
        simp only [UInt8.toNat_ofNat'] at this
        have e2 : (32 : UInt8).toNat = 32 := rfl
        omega
      generalize UInt8.ofNat (192 + c / 64) = x at e1 ⊢
      generalize UInt8.ofNat (128 + c % 64) = y at e2 ⊢
      simp [solid, e1, e2]
theorem solid_text (l : List Nat) (h : ∀ c ∈ l, may c = true) : solid (text l) = text (noBlank l) := by
  induction l with
  | nil => rfl
  | cons c l ih =>
    rw [text_cons, solid_append, ih fun d hd => h d (List.mem_cons_of_mem _ hd), solid_enc c (h c List.mem_cons_self)]
    by_cases h32 : c = 32
    · rw [if_pos h32]
      have e : noBlank (c :: l) = noBlank l := by simp [noBlank, h32]
      rw [e]
      rfl
    · rw [if_neg h32]
      have e : noBlank (c :: l) = c :: noBlank l := by simp [noBlank, h32]
      rw [e, text_cons]
theorem text_flatten (ls : List (List Nat)) : (ls.map text).flatten = text ls.flatten := by
  induction ls with
  | nil => rfl
  | cons l ls ih => rw [List.map_cons, List.flatten_cons, List.flatten_cons, text_append, ih]
/-- P11.14: words that were split are the text without blanks. -/
theorem split_solid {s : List UInt8} {l : List Nat} (h : runes s = some l) : (splitB s).flatten = solid s := by
  obtain ⟨h1, h2⟩ := text_of_runes h
  rw [splitB, rs_some h, text_flatten, split_flatten, ← solid_text l h2, h1]
theorem splitB_none {s : List UInt8} (h : runes s = none) : splitB s = [] := by rw [splitB, rs_none h]; rfl
/-- P11.14, P11.15: of a text that may be said. -/
theorem back_facts {s : List UInt8} {l : List Nat} (h : runes s = some l) (h0 : 0 < s.length) : backB (backB s) = s ∧ foldB (foldB s) = foldB s ∧ widthB s = s.length ∧ 1 ≤ count s ∧ count s ≤ s.length ∧ (foldB s).length = s.length ∧ backB (foldB s) = foldB (backB s) := by
  obtain ⟨h1, h2⟩ := text_of_runes h
  have e := rs_some h
  have hm := may_map l h2
  refine ⟨?_, ?_, ?_, ?_, count_le s, ?_, ?_⟩
  · rw [backB, backB, e, rs_text _ (rev_may h2), List.reverse_reverse, h1]
  · have e1 : foldB s = text (l.map small) := by rw [foldB, fold, e]
    rw [e1, foldB, fold, rs_text _ hm, map_map_small]
  · rw [widthB, e, h1]
  · rw [count, e]
    have := (text_length l).2
    rw [h1] at this
    omega
  · rw [foldB, fold, e, width_small, h1]
  · have e1 : foldB s = text (l.map small) := by rw [foldB, fold, e]
    have e2 : backB s = text l.reverse := by rw [backB, e]
    rw [e1, e2, backB, rs_text _ hm, foldB, fold, rs_text _ (rev_may h2), List.map_reverse]
/-- P11.17: no line is too long, none is empty; all together have the words' runes. -/
theorem wrap_lines (s : List UInt8) (wd : Int) : ∀ v ∈ wrapB s wd, 1 ≤ count v ∧ (count v : Int) ≤ wd := fun v hv => by
  obtain ⟨l, hl, rfl⟩ := List.mem_map.1 hv
  unfold wrap at hl
  split at hl
  · cases hl
  · have hw := split_words (fun c => may c = true) (rs s) (rs_may s)
    have h1 := wrapGo_lines wd.toNat (by omega) (split (rs s)) [] (Nat.zero_le _) (fun w hw' => (hw w hw').1) l hl
    have h2 := wrapGo_may (fun c => may c = true) (by decide) wd.toNat (by omega) (split (rs s)) [] (fun c hc => by cases hc) (fun w hw' => ⟨(hw w hw').1, fun c hc => ((hw w hw').2 c hc).2⟩) l hl
    rw [count, rs_text l h2]
    have h3 : l.length ≠ 0 := fun e => h1.1 (List.eq_nil_of_length_eq_zero e)
    omega
theorem flatMap_split (ls : List (List Nat)) (h : ∀ l ∈ ls, ∀ c ∈ l, may c = true) : ((ls.map text).map fun v => (splitB v).flatten).flatten = text (noBlank ls.flatten) := by
  induction ls with
  | nil => rfl
  | cons l ls ih =>
    have hl := h l List.mem_cons_self
    rw [List.map_cons, List.map_cons, List.flatten_cons, ih fun m hm => h m (List.mem_cons_of_mem _ hm), List.flatten_cons, noBlank_append, text_append]
    congr 1
    rw [split_solid (runes_text l hl), solid_text l hl]
theorem wrap_words (s : List UInt8) (wd : Int) (hwd : 1 ≤ wd) : ((wrapB s wd).map fun v => (splitB v).flatten).flatten = (splitB s).flatten := by
  have hw := split_words (fun c => may c = true) (rs s) (rs_may s)
  have h2 := wrapGo_may (fun c => may c = true) (by decide) wd.toNat (by omega) (split (rs s)) [] (fun c hc => by cases hc) (fun w hw' => ⟨(hw w hw').1, fun c hc => ((hw w hw').2 c hc).2⟩)
  have e : wrap wd (rs s) = wrapGo wd.toNat [] (split (rs s)) := by rw [wrap, if_neg (by omega)]
  rw [wrapB, e, flatMap_split _ h2, wrapGo_runes wd.toNat (by omega) (split (rs s)) [] (fun w hw' => ⟨(hw w hw').1, fun c hc => ((hw w hw').2 c hc).1⟩), splitB, text_flatten]
  rfl
theorem wrap_one (s : List UInt8) (h : s.length ≤ 300) : (wrapB s 1000).length ≤ 1 := by
  have hw := split_words (fun c => may c = true) (rs s) (rs_may s)
  have e : wrap 1000 (rs s) = wrapGo 1000 [] (split (rs s)) := by rw [wrap, if_neg (by omega)]; rfl
  have h1 := split_long (rs s)
  have h2 := rs_length s
  rw [wrapB, List.length_map, e]
  exact wrapGo_one 1000 (split (rs s)) [] (by simp only [List.length_nil]; omega) (fun w hw' => (hw w hw').1)
end Go.Proofs.YthlhhmhldpmpiaaDoor.Phr
