/-
  The plain mathematics of package phrase: which runes may be said, texts as runes and runes as texts, folding, words, lines, order: as functions on lists of numbers, after the document's words. Nothing here speaks of a program: no condition but those that each lemma names.
-/
import Derived.Test.YthlhhmhldpmpiaaDoorMur
import GoSem.Core.Utf8
namespace Go.Proofs.YthlhhmhldpmpiaaDoor.Phr
open Go.RowKit Mur

/-- A rune that may be said. -/
def may (c : Nat) : Bool := (decide (32 ≤ c) && decide (c ≤ 126)) || (decide (0xa1 ≤ c) && decide (c ≤ 0x24f) && decide (c ≠ 0xad)) || (decide (0x391 ≤ c) && decide (c ≤ 0x3c9) && decide (c ≠ 0x3a2)) || (decide (0x410 ≤ c) && decide (c ≤ 0x44f))
theorem may_iff (c : Nat) : may c = true ↔ (32 ≤ c ∧ c ≤ 126) ∨ (0xa1 ≤ c ∧ c ≤ 0x24f ∧ c ≠ 0xad) ∨ (0x391 ≤ c ∧ c ≤ 0x3c9 ∧ c ≠ 0x3a2) ∨ (0x410 ≤ c ∧ c ≤ 0x44f) := by
  simp only [may, Bool.or_eq_true, Bool.and_eq_true, decide_eq_true_eq]
  omega
theorem may_lt {c : Nat} (h : may c = true) : 32 ≤ c ∧ c < 0x800 ∧ ¬ (127 ≤ c ∧ c ≤ 0xa0) := by
  have := (may_iff c).1 h
  omega
/-- A rune's bytes. -/
def enc (c : Nat) : List UInt8 := if c < 128 then [UInt8.ofNat c] else [UInt8.ofNat (192 + c / 64), UInt8.ofNat (128 + c % 64)]
def text (l : List Nat) : List UInt8 := l.flatMap enc
theorem text_nil : text [] = [] := rfl
theorem text_cons (c : Nat) (l : List Nat) : text (c :: l) = enc c ++ text l := rfl
theorem text_append (a b : List Nat) : text (a ++ b) = text a ++ text b := by simp [text, List.flatMap_append]
theorem text_one (c : Nat) : text [c] = enc c := by simp [text]

/-- The runes of a text that may be said. -/
def runes : List UInt8 → Option (List Nat)
  | [] => some []
  | a :: l =>
    if a.toNat < 128 then (if may a.toNat then (runes l).map (a.toNat :: ·) else none)
    else match l with
      | [] => none
      | b :: m => if 194 ≤ a.toNat ∧ a.toNat ≤ 223 ∧ b.toNat / 64 = 2 ∧ may (a.toNat % 32 * 64 + b.toNat % 64) = true then (runes m).map ((a.toNat % 32 * 64 + b.toNat % 64) :: ·) else none
/-- .. of any text: none, if it may not be said. -/
def rs (s : List UInt8) : List Nat := (runes s).getD []

theorem runes_nil : runes [] = some [] := by rw [runes]
theorem runes_one (a : UInt8) (l : List UInt8) (h : a.toNat < 128) : runes (a :: l) = if may a.toNat then (runes l).map (a.toNat :: ·) else none := by
  rw [runes.eq_def]
  dsimp only
  rw [if_pos h]
theorem runes_two (a b : UInt8) (m : List UInt8) (h : ¬ a.toNat < 128) : runes (a :: b :: m) = if 194 ≤ a.toNat ∧ a.toNat ≤ 223 ∧ b.toNat / 64 = 2 ∧ may (a.toNat % 32 * 64 + b.toNat % 64) = true then (runes m).map ((a.toNat % 32 * 64 + b.toNat % 64) :: ·) else none := by
  rw [runes.eq_def]
  dsimp only
  rw [if_neg h]
theorem runes_end (a : UInt8) (h : ¬ a.toNat < 128) : runes [a] = none := by
  rw [runes.eq_def]
  dsimp only
  rw [if_neg h]

theorem runes_enc (c : Nat) (l : List UInt8) (h : may c = true) : runes (enc c ++ l) = (runes l).map (c :: ·) := by
  have hm := may_lt h
  unfold enc
  by_cases hc : c < 128
  · rw [if_pos hc]
    have e : (UInt8.ofNat c).toNat = c := by simp only [UInt8.toNat_ofNat']; omega
    show runes (UInt8.ofNat c :: l) = _
    rw [runes_one _ _ (by omega), e, if_pos h]
  · rw [if_neg hc]
    have e1 : (UInt8.ofNat (192 + c / 64)).toNat = 192 + c / 64 := by simp only [UInt8.toNat_ofNat']; omega
    have e2 : (UInt8.ofNat (128 + c % 64)).toNat = 128 + c % 64 := by simp only [UInt8.toNat_ofNat']; omega
    show runes (UInt8.ofNat (192 + c / 64) :: UInt8.ofNat (128 + c % 64) :: l) = _
    rw [runes_two _ _ _ (by omega), e1, e2]
    have e3 : (192 + c / 64) % 32 * 64 + (128 + c % 64) % 64 = c := by omega
    rw [e3, if_pos ⟨by omega, by omega, by omega, h⟩]
theorem runes_text (l : List Nat) (h : ∀ c ∈ l, may c = true) : runes (text l) = some l := by
  induction l with
  | nil => exact runes_nil
  | cons c l ih =>
    rw [text_cons, runes_enc c _ (h c List.mem_cons_self), ih fun d hd => h d (List.mem_cons_of_mem _ hd)]
    rfl
theorem enc_one (a : UInt8) (h : a.toNat < 128) : enc a.toNat = [a] := by
  unfold enc
  rw [if_pos h, UInt8.ofNat_toNat]
theorem enc_two (a b : UInt8) (h1 : 194 ≤ a.toNat) (h2 : a.toNat ≤ 223) (h3 : b.toNat / 64 = 2) : enc (a.toNat % 32 * 64 + b.toNat % 64) = [a, b] := by
  have hb := b.toNat_lt
  unfold enc
  rw [if_neg (by omega)]
  have e1 : 192 + (a.toNat % 32 * 64 + b.toNat % 64) / 64 = a.toNat := by omega
  have e2 : 128 + (a.toNat % 32 * 64 + b.toNat % 64) % 64 = b.toNat := by omega
  rw [e1, e2, UInt8.ofNat_toNat, UInt8.ofNat_toNat]
theorem text_runes (n : Nat) : ∀ (s : List UInt8) (l : List Nat), s.length ≤ n → runes s = some l → text l = s ∧ ∀ c ∈ l, may c = true := by
  induction n with
  | zero =>
    intro s l hs h
    obtain rfl := List.eq_nil_of_length_eq_zero (show s.length = 0 by omega)
    rw [runes_nil] at h
    cases h
    exact ⟨rfl, fun c hc => by cases hc⟩
  | succ n ih =>
    intro s l hs h
    cases s with
    | nil =>
      rw [runes_nil] at h
      cases h
      exact ⟨rfl, fun c hc => by cases hc⟩
    | cons a s =>
      by_cases ha : a.toNat < 128
      · rw [runes_one _ _ ha] at h
        split at h
        · rename_i hm
          cases hr : runes s with
          | none => rw [hr] at h; cases h
          | some m =>
            rw [hr] at h
            cases h
            obtain ⟨g1, g2⟩ := ih s m (by simp at hs; omega) hr
            refine ⟨by rw [text_cons, enc_one a ha, g1]; rfl, fun c hc => ?_⟩
            rcases List.mem_cons.1 hc with rfl | hc
            · exact hm
            · exact g2 c hc
        · cases h
      · cases s with
        | nil => rw [runes_end a ha] at h; cases h
        | cons b s =>
          rw [runes_two _ _ _ ha] at h
          split at h
          · rename_i hm
            cases hr : runes s with
            | none => rw [hr] at h; cases h
            | some m =>
              rw [hr] at h
              cases h
              obtain ⟨g1, g2⟩ := ih s m (by simp at hs; omega) hr
              refine ⟨by rw [text_cons, enc_two a b hm.1 hm.2.1 hm.2.2.1, g1]; rfl, fun c hc => ?_⟩
              rcases List.mem_cons.1 hc with rfl | hc
              · exact hm.2.2.2
              · exact g2 c hc
          · cases h
theorem text_of_runes {s : List UInt8} {l : List Nat} (h : runes s = some l) : text l = s ∧ ∀ c ∈ l, may c = true := text_runes s.length s l (Nat.le_refl _) h
theorem rs_may (s : List UInt8) : ∀ c ∈ rs s, may c = true := by
  unfold rs
  cases h : runes s with
  | none => intro c hc; cases hc
  | some l => exact (text_of_runes h).2
theorem rs_text (l : List Nat) (h : ∀ c ∈ l, may c = true) : rs (text l) = l := by rw [rs, runes_text l h]; rfl
theorem enc_length (c : Nat) : (enc c).length = if c < 128 then 1 else 2 := by unfold enc; split <;> rfl
theorem enc_pos (c : Nat) : 1 ≤ (enc c).length ∧ (enc c).length ≤ 2 := by rw [enc_length]; split <;> omega
theorem text_length (l : List Nat) : l.length ≤ (text l).length ∧ (text l).length ≤ 2 * l.length := by
  induction l with
  | nil => exact ⟨Nat.le_refl _, Nat.le_refl _⟩
  | cons c l ih =>
    have := enc_pos c
    rw [text_cons, List.length_append, List.length_cons]
    omega
theorem rs_length (s : List UInt8) : (rs s).length ≤ s.length := by
  unfold rs
  cases h : runes s with
  | none => exact Nat.zero_le _
  | some l =>
    have h1 := (text_of_runes h).1
    have h2 := (text_length l).1
    rw [h1] at h2
    exact h2
/-- Width. -/
def width (l : List Nat) : Nat := (text l).length

/-- A range over a text goes so. -/
theorem runes_decode (s : ByteArray) (i : Nat) (h : i < s.size) :
    runes (s.data.toList.drop i) = if may (Utf8.decode s i).1 then (runes (s.data.toList.drop (i + (Utf8.decode s i).2))).map ((Utf8.decode s i).1 :: ·) else none := by
  have hsl : s.data.toList.length = s.size := rfl
  have at0 : ∀ k, i + k < s.size → s.get! (i + k) = s.data.toList[i + k]! := fun k hk => by
    show s.data[i + k]! = _
    have hk' : i + k < s.data.size := hk
    rw [getElem!_pos s.data (i + k) hk', getElem!_pos s.data.toList (i + k) (by rw [hsl]; exact hk)]
    rfl
  obtain ⟨a, l, hl⟩ : ∃ a l, s.data.toList.drop i = a :: l := by
    cases hd : s.data.toList.drop i with
    | nil => have := congrArg List.length hd; rw [List.length_drop, hsl] at this; simp at this; omega
    | cons a l => exact ⟨a, l, rfl⟩
  have ha : s.get! (i + 0) = a := by
    rw [at0 0 h]
    have := congrArg (fun x => x[0]!) hl
    simpa using this
  have hl1 : s.data.toList.drop (i + 1) = l := by
    have := congrArg (List.drop 1) hl
    rw [List.drop_drop] at this
    simpa using this
  have hll : l.length = s.size - (i + 1) := by rw [← hl1, List.length_drop, hsl]
  have ha256 := a.toNat_lt
  rw [hl]
  by_cases h0 : a.toNat < 128
  · have hd : Utf8.decode s i = (a.toNat, 1) := by simp only [Utf8.decode, ha]; rw [if_pos h0]
    rw [hd, runes_one _ _ h0, hl1]
  · cases l with
    | nil =>
      have hend : ¬ i + 1 < s.size := by simp at hll; omega
      have hd : Utf8.decode s i = (Utf8.runeError, 1) := by
        simp only [Utf8.decode, ha]
        rw [if_neg h0]
        simp [hend]
      rw [hd, runes_end _ h0]
      rfl
    | cons b m =>
      have hin : i + 1 < s.size := by simp at hll; omega
      have hb : s.get! (i + 1) = b := by
        rw [at0 1 hin]
        have := congrArg (fun x => x[0]!) hl1
        simpa using this
      have hm : s.data.toList.drop (i + 2) = m := by
        have := congrArg (List.drop 1) hl1
        rw [List.drop_drop] at this
        simpa using this
      have hb256 := b.toNat_lt
      rw [runes_two _ _ _ h0]
      by_cases h2 : a.toNat / 32 = 6 ∧ b.toNat / 64 = 2
      · by_cases h3 : 194 ≤ a.toNat
        · have hd : Utf8.decode s i = (a.toNat % 32 * 64 + b.toNat % 64, 2) := by
            simp only [Utf8.decode, ha, hb]
            rw [if_neg h0, if_pos (by simp [h2.1, h2.2, hin]), if_pos (show a.toNat % 32 * 64 + b.toNat % 64 ≥ 128 by omega)]
          rw [hd]
          by_cases h4 : may (a.toNat % 32 * 64 + b.toNat % 64) = true
          · rw [if_pos ⟨h3, by omega, h2.2, h4⟩, if_pos h4, hm]
          · rw [if_neg (fun h => h4 h.2.2.2), if_neg h4]
        · have hd : Utf8.decode s i = (Utf8.runeError, 1) := by
            simp only [Utf8.decode, ha, hb]
            rw [if_neg h0, if_pos (by simp [h2.1, h2.2, hin]), if_neg (show ¬ a.toNat % 32 * 64 + b.toNat % 64 ≥ 128 by omega)]
          rw [hd, if_neg (fun h => h3 h.1)]
          rfl
      · rw [if_neg (fun h => h2 ⟨by omega, h.2.2.1⟩)]
        have hbig : may (Utf8.decode s i).1 = false := by
          have nm : ∀ c, 0x800 ≤ c → may c = false := fun c hc => by
            rw [← Bool.not_eq_true, may_iff]
            omega
          have e : may Utf8.runeError = false := by decide
          simp only [Utf8.decode, ha, hb]
          rw [if_neg h0, if_neg (by simp only [Bool.and_eq_true, decide_eq_true_eq, beq_iff_eq]; exact fun h => h2 ⟨h.1, h.2.2⟩)]
          split
          · split
            · rename_i h5
              simp only [Bool.and_eq_true, decide_eq_true_eq] at h5
              exact nm _ (by omega)
            · exact e
          · split
            · split
              · rename_i h5
                simp only [Bool.and_eq_true, decide_eq_true_eq] at h5
                exact nm _ (by omega)
              · exact e
            · exact e
        rw [hbig]
        rfl

/-- Small letters. -/
def small (c : Nat) : Nat := if (0x41 ≤ c ∧ c ≤ 0x5a) ∨ (0xc0 ≤ c ∧ c ≤ 0xde ∧ c ≠ 0xd7) ∨ (0x391 ≤ c ∧ c ≤ 0x3a9) ∨ (0x410 ≤ c ∧ c ≤ 0x42f) then c + 32 else c
theorem small_small (c : Nat) : small (small c) = small c := by
  unfold small
  split
  · rw [if_neg (by omega)]
  · rfl
theorem may_small (c : Nat) (h : may c = true) : may (small c) = true := by
  rw [may_iff] at h ⊢
  unfold small
  split <;> omega
theorem small_class (c : Nat) : (small c < 128) = (c < 128) := by
  unfold small
  split
  · apply propext; omega
  · rfl
theorem enc_small (c : Nat) : (enc (small c)).length = (enc c).length := by simp only [enc_length, small_class]
theorem width_small (l : List Nat) : (text (l.map small)).length = (text l).length := by
  induction l with
  | nil => rfl
  | cons c l ih => rw [List.map_cons, text_cons, text_cons, List.length_append, List.length_append, ih, enc_small]
theorem may_map (l : List Nat) (h : ∀ c ∈ l, may c = true) : ∀ c ∈ l.map small, may c = true := fun c hc => by
  obtain ⟨d, hd, rfl⟩ := List.mem_map.1 hc
  exact may_small d (h d hd)
theorem map_map_small (l : List Nat) : (l.map small).map small = l.map small := by
  rw [List.map_map]
  exact List.map_congr_left fun c _ => small_small c

/-- Cut's number. -/
def clamp (n : Int) (k : Nat) : Nat := (max 0 (min n (k : Int))).toNat
theorem clamp_le (n : Int) (k : Nat) : clamp n k ≤ k := by unfold clamp; omega

/-- Words. -/
def splitGo : List Nat → List Nat → List (List Nat)
  | w, [] => if w = [] then [] else [w]
  | w, c :: l => if c = 32 then (if w = [] then splitGo [] l else w :: splitGo [] l) else splitGo (w ++ [c]) l
def split (l : List Nat) : List (List Nat) := splitGo [] l
def noBlank (l : List Nat) : List Nat := l.filter fun c => decide (c ≠ 32)
theorem noBlank_append (a b : List Nat) : noBlank (a ++ b) = noBlank a ++ noBlank b := List.filter_append ..
theorem splitGo_flatten (l : List Nat) : ∀ w, (splitGo w l).flatten = w ++ noBlank l := by
  induction l with
  | nil => intro w; unfold splitGo; split <;> simp_all [noBlank]
  | cons c l ih =>
    intro w
    unfold splitGo
    by_cases hc : c = 32
    · rw [if_pos hc]
      have e : noBlank (c :: l) = noBlank l := by simp [noBlank, hc]
      rw [e]
      split
      · rename_i hw
        rw [ih, hw]
      · rw [List.flatten_cons, ih]
        rfl
    · rw [if_neg hc, ih]
      have e : noBlank (c :: l) = c :: noBlank l := by simp [noBlank, hc]
      rw [e, List.append_assoc]
      rfl
theorem split_flatten (l : List Nat) : (split l).flatten = noBlank l := splitGo_flatten l []
theorem splitGo_words (Q : Nat → Prop) (l : List Nat) : ∀ w, (∀ c ∈ w, c ≠ 32 ∧ Q c) → (∀ c ∈ l, Q c) → ∀ v ∈ splitGo w l, v ≠ [] ∧ ∀ c ∈ v, c ≠ 32 ∧ Q c := by
  induction l with
  | nil =>
    intro w hw _ v hv
    unfold splitGo at hv
    split at hv
    · cases hv
    · rename_i hne
      rw [List.mem_singleton] at hv
      subst hv
      exact ⟨hne, hw⟩
  | cons c l ih =>
    intro w hw hl v hv
    have hl2 : ∀ c ∈ l, Q c := fun d hd => hl d (List.mem_cons_of_mem _ hd)
    unfold splitGo at hv
    by_cases hc : c = 32
    · rw [if_pos hc] at hv
      split at hv
      · exact ih [] (fun c hc => by cases hc) hl2 v hv
      · rename_i hne
        rcases List.mem_cons.1 hv with rfl | hv
        · exact ⟨hne, hw⟩
        · exact ih [] (fun c hc => by cases hc) hl2 v hv
    · rw [if_neg hc] at hv
      refine ih (w ++ [c]) (fun d hd => ?_) hl2 v hv
      rcases List.mem_append.1 hd with hd | hd
      · exact hw d hd
      · rw [List.mem_singleton] at hd
        subst hd
        exact ⟨hc, hl _ List.mem_cons_self⟩
theorem split_words (Q : Nat → Prop) (l : List Nat) (h : ∀ c ∈ l, Q c) : ∀ v ∈ split l, v ≠ [] ∧ ∀ c ∈ v, c ≠ 32 ∧ Q c := splitGo_words Q l [] (fun c hc => by cases hc) h
/-- How long words are, with a blank each. -/
def long (ws : List (List Nat)) : Nat := (ws.map fun w => w.length + 1).sum
theorem splitGo_long (l : List Nat) : ∀ w, long (splitGo w l) ≤ w.length + l.length + 1 := by
  induction l with
  | nil => intro w; unfold splitGo; split <;> simp [long]
  | cons c l ih =>
    intro w
    unfold splitGo
    by_cases hc : c = 32
    · rw [if_pos hc]
      split
      · have := ih []
        rw [List.length_cons]
        simp only [List.length_nil] at this
        omega
      · have := ih []
        have e : long (w :: splitGo [] l) = (w.length + 1) + long (splitGo [] l) := by simp [long]
        rw [e, List.length_cons]
        simp only [List.length_nil] at this
        omega
    · rw [if_neg hc]
      have := ih (w ++ [c])
      rw [List.length_append] at this
      simp only [List.length_cons, List.length_nil] at this ⊢
      omega
theorem split_long (l : List Nat) : long (split l) ≤ l.length + 1 := by
  have := splitGo_long l []
  simp only [List.length_nil] at this
  show long (splitGo [] l) ≤ _
  omega

/-- Lines. -/
def chop (wd : Nat) (w : List Nat) : List (List Nat) × List Nat :=
  if _h : 0 < wd ∧ wd < w.length then ((w.take wd) :: (chop wd (w.drop wd)).1, (chop wd (w.drop wd)).2) else ([], w)
termination_by w.length
decreasing_by all_goals (rw [List.length_drop]; omega)
theorem chop_more (wd : Nat) (w : List Nat) (h1 : 0 < wd) (h2 : wd < w.length) : chop wd w = ((w.take wd) :: (chop wd (w.drop wd)).1, (chop wd (w.drop wd)).2) := by
  rw [chop, dif_pos ⟨h1, h2⟩]
theorem chop_end (wd : Nat) (w : List Nat) (h : ¬ wd < w.length) : chop wd w = ([], w) := by rw [chop, dif_neg (fun k => h k.2)]
theorem chop_facts (wd : Nat) (hwd : 0 < wd) (n : Nat) : ∀ w : List Nat, w.length ≤ n → w ≠ [] → (chop wd w).1.flatten ++ (chop wd w).2 = w ∧ (∀ v ∈ (chop wd w).1, v ≠ [] ∧ v.length ≤ wd) ∧ (chop wd w).2 ≠ [] ∧ (chop wd w).2.length ≤ wd := by
  induction n with
  | zero => intro w hn hw; exact absurd (List.eq_nil_of_length_eq_zero (by omega)) hw
  | succ n ih =>
    intro w hn hw
    by_cases h : wd < w.length
    · rw [chop_more wd w hwd h]
      have hne : w.drop wd ≠ [] := fun e => by have := congrArg List.length e; rw [List.length_drop] at this; simp at this; omega
      obtain ⟨h1, h2, h3, h4⟩ := ih (w.drop wd) (by rw [List.length_drop]; omega) hne
      refine ⟨?_, fun v hv => ?_, h3, h4⟩
      · rw [List.flatten_cons, List.append_assoc, h1, List.take_append_drop]
      · rcases List.mem_cons.1 hv with rfl | hv
        · refine ⟨fun e => ?_, by rw [List.length_take]; omega⟩
          have := congrArg List.length e
          rw [List.length_take, List.length_nil] at this
          omega
        · exact h2 v hv
    · rw [chop_end wd w h]
      exact ⟨rfl, fun v hv => (by cases hv), hw, by show w.length ≤ wd; omega⟩
def begun (line : List Nat) : List (List Nat) := if line = [] then [] else [line]
def wrapGo (wd : Nat) : List Nat → List (List Nat) → List (List Nat)
  | line, [] => begun line
  | line, w :: ws => if line ≠ [] ∧ line.length + 1 + w.length ≤ wd then wrapGo wd (line ++ 32 :: w) ws else begun line ++ ((chop wd w).1 ++ wrapGo wd (chop wd w).2 ws)
def wrap (wd : Int) (l : List Nat) : List (List Nat) := if wd < 1 then [] else wrapGo wd.toNat [] (split l)

theorem begun_facts (wd : Nat) (line : List Nat) (h : line.length ≤ wd) : ∀ v ∈ begun line, v ≠ [] ∧ v.length ≤ wd := fun v hv => by
  unfold begun at hv
  split at hv
  · cases hv
  · rename_i hne
    rw [List.mem_singleton] at hv
    subst hv
    exact ⟨hne, h⟩
theorem wrapGo_lines (wd : Nat) (hwd : 0 < wd) (ws : List (List Nat)) : ∀ line : List Nat, line.length ≤ wd → (∀ w ∈ ws, w ≠ []) → ∀ v ∈ wrapGo wd line ws, v ≠ [] ∧ v.length ≤ wd := by
  induction ws with
  | nil => intro line hl _ v hv; exact begun_facts wd line hl v hv
  | cons w ws ih =>
    intro line hl hw v hv
    have hws : ∀ w ∈ ws, w ≠ [] := fun u hu => hw u (List.mem_cons_of_mem _ hu)
    unfold wrapGo at hv
    split at hv
    · rename_i h
      exact ih _ (by rw [List.length_append, List.length_cons]; omega) hws v hv
    · obtain ⟨h1, h2, h3, h4⟩ := chop_facts wd hwd w.length w (Nat.le_refl _) (hw w List.mem_cons_self)
      rcases List.mem_append.1 hv with hv | hv
      · exact begun_facts wd line hl v hv
      · rcases List.mem_append.1 hv with hv | hv
        · exact h2 v hv
        · exact ih _ h4 hws v hv
theorem begun_flatten (line : List Nat) : (begun line).flatten = line := by unfold begun; split <;> simp_all
theorem noBlank_flatten (ls : List (List Nat)) : noBlank ls.flatten = (ls.map noBlank).flatten := by
  induction ls with
  | nil => rfl
  | cons l ls ih => rw [List.flatten_cons, noBlank_append, ih, List.map_cons, List.flatten_cons]
theorem noBlank_id (l : List Nat) (h : ∀ c ∈ l, c ≠ 32) : noBlank l = l := List.filter_eq_self.2 fun c hc => by simp [h c hc]
theorem wrapGo_runes (wd : Nat) (hwd : 0 < wd) (ws : List (List Nat)) : ∀ line : List Nat, (∀ w ∈ ws, w ≠ [] ∧ ∀ c ∈ w, c ≠ 32) → noBlank (wrapGo wd line ws).flatten = noBlank line ++ ws.flatten := by
  induction ws with
  | nil => intro line _; rw [wrapGo, begun_flatten]; simp
  | cons w ws ih =>
    intro line hw
    have hws : ∀ w ∈ ws, w ≠ [] ∧ ∀ c ∈ w, c ≠ 32 := fun u hu => hw u (List.mem_cons_of_mem _ hu)
    have hw0 := hw w List.mem_cons_self
    have hid := noBlank_id w hw0.2
    unfold wrapGo
    split
    · rw [ih _ hws, noBlank_append]
      have e : noBlank (32 :: w) = w := by rw [show noBlank (32 :: w) = noBlank w from rfl, hid]
      rw [e, List.append_assoc, List.flatten_cons]
    · obtain ⟨h1, h2, h3, h4⟩ := chop_facts wd hwd w.length w (Nat.le_refl _) hw0.1
      rw [List.flatten_append, List.flatten_append, begun_flatten, noBlank_append, noBlank_append, ih _ hws, List.flatten_cons]
      congr 1
      rw [← List.append_assoc, ← noBlank_append, h1, hid]
theorem wrapGo_one (wd : Nat) (ws : List (List Nat)) : ∀ line : List Nat, line.length + long ws ≤ wd → (∀ w ∈ ws, w ≠ []) → (wrapGo wd line ws).length ≤ 1 := by
  induction ws with
  | nil => intro line _ _; rw [wrapGo, begun]; split <;> simp
  | cons w ws ih =>
    intro line hl hw
    have hws : ∀ w ∈ ws, w ≠ [] := fun u hu => hw u (List.mem_cons_of_mem _ hu)
    have e : long (w :: ws) = (w.length + 1) + long ws := by simp [long]
    rw [e] at hl
    unfold wrapGo
    split
    · exact ih _ (by rw [List.length_append, List.length_cons]; omega) hws
    · rename_i h
      have hline : line = [] := by
        by_cases hl0 : line = []
        · exact hl0
        · exact absurd ⟨hl0, by omega⟩ h
      subst hline
      rw [chop_end wd w (by simp at hl; omega)]
      show (wrapGo wd w ws).length ≤ 1
      exact ih w (by simp at hl; omega) hws
theorem wrapGo_may (Q : Nat → Prop) (h32 : Q 32) (wd : Nat) (hwd : 0 < wd) (ws : List (List Nat)) : ∀ line : List Nat, (∀ c ∈ line, Q c) → (∀ w ∈ ws, w ≠ [] ∧ ∀ c ∈ w, Q c) → ∀ v ∈ wrapGo wd line ws, ∀ c ∈ v, Q c := by
  induction ws with
  | nil =>
    intro line hl _ v hv c hc
    unfold wrapGo begun at hv
    split at hv
    · cases hv
    · rw [List.mem_singleton] at hv
      subst hv
      exact hl c hc
  | cons w ws ih =>
    intro line hl hw v hv c hc
    have hws : ∀ w ∈ ws, w ≠ [] ∧ ∀ c ∈ w, Q c := fun u hu => hw u (List.mem_cons_of_mem _ hu)
    have hw0 := hw w List.mem_cons_self
    unfold wrapGo at hv
    split at hv
    · refine ih _ (fun d hd => ?_) hws v hv c hc
      rcases List.mem_append.1 hd with hd | hd
      · exact hl d hd
      · rcases List.mem_cons.1 hd with rfl | hd
        · exact h32
        · exact hw0.2 d hd
    · obtain ⟨h1, h2, h3, h4⟩ := chop_facts wd hwd w.length w (Nat.le_refl _) hw0.1
      rcases List.mem_append.1 hv with hv | hv
      · unfold begun at hv
        split at hv
        · cases hv
        · rw [List.mem_singleton] at hv
          subst hv
          exact hl c hc
      · rcases List.mem_append.1 hv with hv | hv
        · refine hw0.2 c ?_
          rw [← h1]
          exact List.mem_append_left _ (List.mem_flatten.2 ⟨v, hv, hc⟩)
        · refine ih _ (fun d hd => hw0.2 d ?_) hws v hv c hc
          rw [← h1]
          exact List.mem_append_right _ hd

/-- Which list is less: -1, 0 or 1. -/
def cmpL : List Nat → List Nat → Int
  | [], [] => 0
  | [], _ :: _ => -1
  | _ :: _, [] => 1
  | x :: a, y :: b => if x < y then -1 else if y < x then 1 else cmpL a b
theorem cmpL_range (a : List Nat) : ∀ b, cmpL a b = -1 ∨ cmpL a b = 0 ∨ cmpL a b = 1 := by
  induction a with
  | nil => intro b; cases b <;> simp [cmpL]
  | cons x a ih =>
    intro b
    cases b with
    | nil => simp [cmpL]
    | cons y b =>
      unfold cmpL
      split
      · exact .inl rfl
      · split
        · exact .inr (.inr rfl)
        · exact ih b
theorem cmpL_neg (a : List Nat) : ∀ b, cmpL b a = - cmpL a b := by
  induction a with
  | nil => intro b; cases b <;> simp [cmpL]
  | cons x a ih =>
    intro b
    cases b with
    | nil => simp [cmpL]
    | cons y b =>
      unfold cmpL
      rcases Nat.lt_trichotomy x y with h | h | h
      · rw [if_neg (by omega), if_pos h, if_pos h]; rfl
      · rw [if_neg (by omega), if_neg (by omega), if_neg (by omega), if_neg (by omega), ih]
      · rw [if_pos h, if_neg (by omega), if_pos h]
theorem cmpL_zero (a : List Nat) : ∀ b, cmpL a b = 0 ↔ a = b := by
  induction a with
  | nil => intro b; cases b <;> simp [cmpL]
  | cons x a ih =>
    intro b
    cases b with
    | nil => simp [cmpL]
    | cons y b =>
      unfold cmpL
      rcases Nat.lt_trichotomy x y with h | h | h
      · rw [if_pos h]
        simp
        omega
      · rw [if_neg (by omega), if_neg (by omega), ih, h]
        simp
      · rw [if_neg (by omega), if_pos h]
        simp
        omega
theorem cmpL_trans (a : List Nat) : ∀ b c, cmpL a b = -1 → cmpL b c = -1 → cmpL a c = -1 := by
  induction a with
  | nil =>
    intro b c h1 h2
    cases c with
    | nil => cases b <;> simp [cmpL] at h1 h2
    | cons z c => rfl
  | cons x a ih =>
    intro b c h1 h2
    cases b with
    | nil => simp [cmpL] at h1
    | cons y b =>
      cases c with
      | nil => simp [cmpL] at h2
      | cons z c =>
        unfold cmpL at h1 h2 ⊢
        rcases Nat.lt_trichotomy x y with h | h | h
        · rcases Nat.lt_trichotomy y z with k | k | k
          · rw [if_pos (by omega)]
          · rw [if_pos (by omega)]
          · rw [if_neg (by omega), if_pos k] at h2
            omega
        · rw [if_neg (by omega), if_neg (by omega)] at h1
          rcases Nat.lt_trichotomy y z with k | k | k
          · rw [if_pos (by omega)]
          · rw [if_neg (by omega), if_neg (by omega)] at h2
            rw [if_neg (by omega), if_neg (by omega)]
            exact ih b c h1 h2
          · rw [if_neg (by omega), if_pos k] at h2
            omega
        · rw [if_neg (by omega), if_pos h] at h1
          omega
/-- Compare: by the small letters, then by bytes. -/
def fold (s : List UInt8) : List Nat := (rs s).map small
def bytesN (s : List UInt8) : List Nat := s.map fun b => b.toNat
theorem bytesN_inj : ∀ a b : List UInt8, bytesN a = bytesN b → a = b
  | [], [], _ => rfl
  | [], _ :: _, h => by cases h
  | _ :: _, [], h => by cases h
  | x :: a, y :: b, h => by
    have h1 : x.toNat :: bytesN a = y.toNat :: bytesN b := h
    injection h1 with h2 h3
    rw [UInt8.toNat_inj.mp h2, bytesN_inj a b h3]
def compare (a b : List UInt8) : Int := if cmpL (fold a) (fold b) = 0 then cmpL (bytesN a) (bytesN b) else cmpL (fold a) (fold b)
theorem compare_range (a b : List UInt8) : compare a b = -1 ∨ compare a b = 0 ∨ compare a b = 1 := by
  unfold compare
  split
  · exact cmpL_range _ _
  · exact cmpL_range _ _
theorem compare_neg (a b : List UInt8) : compare b a = - compare a b := by
  unfold compare
  rw [cmpL_neg (fold a) (fold b), cmpL_neg (bytesN a) (bytesN b)]
  by_cases h : cmpL (fold a) (fold b) = 0
  · rw [if_pos h, if_pos (by omega)]
  · rw [if_neg h, if_neg (by omega)]
theorem compare_zero (a b : List UInt8) : compare a b = 0 ↔ a = b := by
  unfold compare
  constructor
  · intro h
    split at h
    · exact bytesN_inj a b ((cmpL_zero _ _).1 h)
    · rename_i h2; exact absurd h h2
  · rintro rfl
    rw [if_pos ((cmpL_zero _ _).2 rfl)]
    exact (cmpL_zero _ _).2 rfl
theorem compare_trans (a b c : List UInt8) (h1 : compare a b = -1) (h2 : compare b c = -1) : compare a c = -1 := by
  unfold compare at h1 h2 ⊢
  split at h1
  · rename_i ha
    have ea := (cmpL_zero _ _).1 ha
    split at h2
    · rename_i hb
      have eb := (cmpL_zero _ _).1 hb
      rw [ea, eb, if_pos ((cmpL_zero _ _).2 rfl)]
      exact cmpL_trans _ _ _ h1 h2
    · rename_i hb
      rw [ea, if_neg hb]
      exact h2
  · rename_i ha
    split at h2
    · rename_i hb
      have eb := (cmpL_zero _ _).1 hb
      rw [← eb, if_neg ha]
      exact h1
    · have := cmpL_trans _ _ _ h1 h2
      rw [this, if_neg (by omega)]
/-- What the statement asks of three texts. -/
theorem compare_order (a b c : List UInt8) : (compare a b ≠ compare b c ∨ compare a b = compare a c) ∧ (compare a b ≠ 0 ∨ compare a c = compare b c) := by
  constructor
  · by_cases h : compare a b = compare b c
    · right
      rcases compare_range a b with h1 | h1 | h1
      · rw [h1, compare_trans a b c h1 (by omega)]
      · have e1 := (compare_zero a b).1 h1
        have e2 := (compare_zero b c).1 (by omega)
        rw [h1, e1, e2, (compare_zero c c).2 rfl]
      · have k := compare_trans c b a (by rw [compare_neg]; omega) (by rw [compare_neg]; omega)
        rw [compare_neg] at k
        omega
    · exact .inl h
  · by_cases h : compare a b = 0
    · exact .inr (by rw [(compare_zero a b).1 h])
    · exact .inl h
end Go.Proofs.YthlhhmhldpmpiaaDoor.Phr
