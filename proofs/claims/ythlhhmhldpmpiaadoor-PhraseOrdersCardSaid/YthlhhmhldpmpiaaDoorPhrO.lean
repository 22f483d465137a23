/-
  More of the plain mathematics of package phrase: lines that are made piece by piece are those that are made word by word; what stands between line ends. Nothing here speaks of the project's code: no condition but those that each lemma names.
-/
import Derived.Test.YthlhhmhldpmpiaaDoorPhrJ
import Derived.Lib.IndexBytes
import Derived.Lib.SplitLaws
namespace Go.Proofs.YthlhhmhldpmpiaaDoor.Phr
open Go.RowKit Mur
set_option maxRecDepth 100000

/-- Lines, piece by piece. -/
def wrapP (m : Nat) : List Nat → List (List Nat) → List (List Nat)
  | line, [] => begun line
  | line, p :: ps => if line ≠ [] ∧ line.length + 1 + p.length ≤ m then wrapP m (line ++ 32 :: p) ps else begun line ++ wrapP m p ps
theorem wrapP_nil (m : Nat) (line : List Nat) : wrapP m line [] = begun line := by rw [wrapP]
theorem wrapP_on (m : Nat) (line p : List Nat) (ps : List (List Nat)) (h : line ≠ [] ∧ line.length + 1 + p.length ≤ m) : wrapP m line (p :: ps) = wrapP m (line ++ 32 :: p) ps := by rw [wrapP, if_pos h]
theorem wrapP_new (m : Nat) (line p : List Nat) (ps : List (List Nat)) (h : ¬ (line ≠ [] ∧ line.length + 1 + p.length ≤ m)) : wrapP m line (p :: ps) = begun line ++ wrapP m p ps := by rw [wrapP, if_neg h]
theorem wrapP_chop (m : Nat) (hm : 0 < m) (R : List (List Nat)) (n : Nat) : ∀ (w line : List Nat), w.length ≤ n → w ≠ [] → ¬ (line ≠ [] ∧ line.length + 1 + w.length ≤ m) → wrapP m line (pieces m w ++ R) = begun line ++ ((chop m w).1 ++ wrapP m (chop m w).2 R) := by
  induction n with
  | zero => intro w line h hw; exact absurd (List.eq_nil_of_length_eq_zero (by omega)) hw
  | succ n ih =>
    intro w line h hw hc
    rw [pieces_more m w hm hw, List.cons_append]
    by_cases hl : m < w.length
    · have htl : (w.take m).length = m := by rw [List.length_take]; omega
      have hne : w.drop m ≠ [] := fun e => by have := congrArg List.length e; rw [List.length_drop] at this; simp at this; omega
      have htn : w.take m ≠ [] := fun e => by rw [e] at htl; simp at htl; omega
      rw [wrapP_new m line _ _ (by rw [htl]; rintro ⟨_, h2⟩; omega), ih (w.drop m) (w.take m) (by rw [List.length_drop]; omega) hne (by rw [htl]; rintro ⟨_, h2⟩; omega), chop_more m w hm hl]
      show begun line ++ (begun (w.take m) ++ _) = begun line ++ ((w.take m :: (chop m (w.drop m)).1) ++ _)
      rw [show begun (w.take m) = [w.take m] by rw [begun, if_neg htn]]
      rfl
    · rw [List.take_of_length_le (by omega), List.drop_eq_nil_of_le (by omega), pieces_nil, wrapP_new m line w _ hc, chop_end m w hl]
      rfl
theorem wrapGo_pieces (m : Nat) (hm : 0 < m) (ws : List (List Nat)) : ∀ line, (∀ w ∈ ws, w ≠ []) → wrapGo m line ws = wrapP m line (ws.flatMap (pieces m)) := by
  induction ws with
  | nil => intro line _; rw [wrapGo]; exact (wrapP_nil m line).symm
  | cons w ws ih =>
    intro line hw
    have hw0 := hw w List.mem_cons_self
    have hws : ∀ w ∈ ws, w ≠ [] := fun u hu => hw u (List.mem_cons_of_mem _ hu)
    rw [wrapGo, List.flatMap_cons]
    by_cases hc : line ≠ [] ∧ line.length + 1 + w.length ≤ m
    · have hp : pieces m w = [w] := by rw [pieces_more m w hm hw0, List.take_of_length_le (by omega), List.drop_eq_nil_of_le (by omega), pieces_nil]
      rw [if_pos hc, hp, ih _ hws]
      exact (wrapP_on m line w _ hc).symm
    · rw [if_neg hc, wrapP_chop m hm _ w.length w line (Nat.le_refl _) hw0 hc, ih _ hws]
theorem pieces_facts (m : Nat) (hm : 0 < m) (n : Nat) : ∀ w : List Nat, w.length ≤ n → ∀ p ∈ pieces m w, p ≠ [] ∧ p.length ≤ m ∧ p.length ≤ w.length ∧ ∀ c ∈ p, c ∈ w := by
  induction n with
  | zero =>
    intro w h p hp
    rw [List.eq_nil_of_length_eq_zero (show w.length = 0 by omega), pieces_nil] at hp
    cases hp
  | succ n ih =>
    intro w h p hp
    by_cases hw : w = []
    · rw [hw, pieces_nil] at hp
      cases hp
    · rw [pieces_more m w hm hw] at hp
      rcases List.mem_cons.1 hp with rfl | hp
      · refine ⟨fun e => ?_, by rw [List.length_take]; omega, by rw [List.length_take]; omega, fun c hc => List.mem_of_mem_take hc⟩
        have h3 : w.length ≠ 0 := fun e => hw (List.eq_nil_of_length_eq_zero e)
        have h2 : (w.take m).length ≠ 0 := by rw [List.length_take]; omega
        exact h2 (by rw [e]; rfl)
      · obtain ⟨h1, h2, h4, h3⟩ := ih (w.drop m) (by rw [List.length_drop]; omega) p hp
        rw [List.length_drop] at h4
        exact ⟨h1, h2, by omega, fun c hc => List.mem_of_mem_drop (h3 c hc)⟩

/-- Lines, each behind a line's end. -/
def ended (ls : List (List UInt8)) : List UInt8 := ls.flatMap fun l => 10 :: l
theorem ended_cons (l : List UInt8) (ls : List (List UInt8)) : ended (l :: ls) = (10 :: l) ++ ended ls := rfl
theorem ended_append (a b : List (List UInt8)) : ended (a ++ b) = ended a ++ ended b := by simp [ended, List.flatMap_append]
theorem indexByte_at (t r : List UInt8) (c : UInt8) (h : ∀ b ∈ t, b ≠ c) : Lib.indexByte (t ++ c :: r) c = (t.length : Int) := by
  induction t with
  | nil => simp [Lib.indexByte]
  | cons b t ih =>
    have h1 := h b List.mem_cons_self
    have ih2 := ih fun d hd => h d (List.mem_cons_of_mem _ hd)
    show (if b == c then (0 : Int) else if Lib.indexByte (t ++ c :: r) c == -1 then -1 else Lib.indexByte (t ++ c :: r) c + 1) = _
    rw [ih2, if_neg (by simpa using h1), if_neg (by rw [beq_iff_eq]; omega)]
    simp
theorem indexByte_none (t : List UInt8) (c : UInt8) (h : ∀ b ∈ t, b ≠ c) : Lib.indexByte t c = -1 := by
  induction t with
  | nil => rfl
  | cons b t ih =>
    have h1 := h b List.mem_cons_self
    have ih2 := ih fun d hd => h d (List.mem_cons_of_mem _ hd)
    show (if b == c then (0 : Int) else if Lib.indexByte t c == -1 then -1 else Lib.indexByte t c + 1) = _
    rw [ih2, if_neg (by simpa using h1)]
    rfl
theorem parts_ended (ls : List (List UInt8)) : ∀ t, (∀ b ∈ t, b ≠ 10) → (∀ l ∈ ls, ∀ b ∈ l, b ≠ (10 : UInt8)) → Lib.count (t ++ ended ls) [10] = ls.length ∧ Lib.splitK [10] 0 ls.length (t ++ ended ls) = t :: ls := by
  induction ls with
  | nil =>
    intro t ht _
    have h : Lib.index (t ++ ended []) [10] = -1 := by rw [Lib.index_one, show t ++ ended [] = t from List.append_nil t, indexByte_none t 10 ht]
    exact ⟨Lib.count_miss h, by show [t ++ ended []] = _; rw [show t ++ ended [] = t from List.append_nil t]⟩
  | cons l ls ih =>
    intro t ht hl
    have h : Lib.index (t ++ ended (l :: ls)) [10] = (t.length : Int) := by
      rw [Lib.index_one, ended_cons]
      exact indexByte_at t _ 10 ht
    obtain ⟨i1, i2⟩ := ih l (hl l List.mem_cons_self) fun m hm => hl m (List.mem_cons_of_mem _ hm)
    have hd : (t ++ ended (l :: ls)).drop (t.length + [(10 : UInt8)].length) = l ++ ended ls := by
      rw [ended_cons, List.drop_append, List.drop_eq_nil_of_le (by simp), List.nil_append]
      simp
    constructor
    · rw [Lib.count_hit (by simp) h, hd, i1, List.length_cons]
      omega
    · rw [List.length_cons, Lib.splitK, if_neg (by rw [h, beq_iff_eq]; omega), h, Int.toNat_natCast, hd, i2, Nat.add_zero, List.take_left]
theorem text_no10 (l : List Nat) (h : ∀ c ∈ l, may c = true) : ∀ b ∈ text l, b ≠ 10 := fun b hb => by
  obtain ⟨c, hc, hb2⟩ := List.mem_flatMap.1 hb
  have hm := may_lt (h c hc)
  unfold enc at hb2
  split at hb2
  · rw [List.mem_singleton] at hb2
    intro e
    rw [e] at hb2
    have := congrArg UInt8.toNat hb2
    simp only [UInt8.toNat_ofNat'] at this
    have e2 : (10 : UInt8).toNat = 10 := rfl
    omega
  · rcases List.mem_cons.1 hb2 with rfl | hb2
    · intro e
      have := congrArg UInt8.toNat e
      simp only [UInt8.toNat_ofNat'] at this
      have e2 : (10 : UInt8).toNat = 10 := rfl
      omega
    · rw [List.mem_singleton] at hb2
      intro e
      rw [e] at hb2
      have := congrArg UInt8.toNat hb2
      simp only [UInt8.toNat_ofNat'] at this
      have e2 : (10 : UInt8).toNat = 10 := rfl
      omega
/-- What is written of lines, and how much room the last one has. -/
def written (ls : List (List Nat)) : List UInt8 := ended (ls.map text)
def room (m : Int) (line : List Nat) : Int := if line = [] then 0 else m - line.length
theorem written_on (acc : List (List Nat)) (line p : List Nat) (h : line ≠ []) : written (acc ++ begun (line ++ 32 :: p)) = (written (acc ++ begun line) ++ [32]) ++ text p := by
  have e1 : begun line = [line] := by rw [begun, if_neg h]
  have e2 : begun (line ++ 32 :: p) = [line ++ 32 :: p] := by rw [begun, if_neg (by simp)]
  rw [e1, e2, written, written, List.map_append, List.map_append, ended_append, ended_append]
  show ended (acc.map text) ++ ((10 :: text (line ++ 32 :: p)) ++ []) = ((ended (acc.map text) ++ ((10 :: text line) ++ [])) ++ [32]) ++ text p
  rw [text_append, text_cons]
  simp [show enc 32 = [32] from rfl]
theorem written_new (acc : List (List Nat)) (line p : List Nat) (h : p ≠ []) : written ((acc ++ begun line) ++ begun p) = (written (acc ++ begun line) ++ [10]) ++ text p := by
  have e1 : begun p = [p] := by rw [begun, if_neg h]
  rw [e1, written, List.map_append, ended_append]
  show ended ((acc ++ begun line).map text) ++ ((10 :: text p) ++ []) = (written (acc ++ begun line) ++ [10]) ++ text p
  rw [written]
  simp
/-- What the library parts of what is written. -/
theorem parts_written (ls : List (List Nat)) (h : ∀ l ∈ ls, ∀ c ∈ l, may c = true) : Lib.countB (tx (written ls)) ⟨#[10]⟩ = ls.length ∧ Lib.splitB ⟨#[10]⟩ 0 ls.length (tx (written ls)) = ⟨#[]⟩ :: wordsT ls := by
  obtain ⟨h1, h2⟩ := parts_ended (ls.map text) [] (fun b hb => by cases hb) (fun l hl => by
    obtain ⟨m, hm, rfl⟩ := List.mem_map.1 hl
    exact text_no10 m (h m hm))
  rw [List.nil_append, List.length_map] at h1 h2
  refine ⟨h1, ?_⟩
  have h3 := Lib.splitB_data ⟨#[10]⟩ 0 ls.length (tx (written ls))
  have h4 : (Lib.splitB ⟨#[10]⟩ 0 ls.length (tx (written ls))).map (·.data.toList) = ([] : List UInt8) :: ls.map text := h3.trans h2
  have h5 : ∀ a : List ByteArray, (a.map (·.data.toList)).map tx = a := fun a => by
    rw [List.map_map]
    conv => rhs; rw [← List.map_id a]
    rfl
  rw [← h5 (Lib.splitB _ _ _ _), h4, List.map_cons, List.map_map]
  rfl
end Go.Proofs.YthlhhmhldpmpiaaDoor.Phr
