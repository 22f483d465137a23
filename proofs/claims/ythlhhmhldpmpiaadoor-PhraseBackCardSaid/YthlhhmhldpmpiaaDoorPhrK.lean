/-
  More of the plain mathematics of package phrase: bytes of UTF-8 stand in the order of the runes that they are; where a text's runes stand among those of another one; words joined. Nothing here speaks of the project's code: no condition but those that each lemma names.
-/
import Derived.Test.YthlhhmhldpmpiaaDoorPhrI
import Derived.Lib.IndexMore
import Derived.Lib.Join
namespace Go.Proofs.YthlhhmhldpmpiaaDoor.Phr
open Go.RowKit Mur
set_option maxRecDepth 100000

theorem cmpB_eq : ∀ a b : List UInt8, Lib.compareBytes a b = cmpL (bytesN a) (bytesN b)
  | [], [] => rfl
  | [], _ :: _ => rfl
  | _ :: _, [] => rfl
  | x :: a, y :: b => by
    have ih := cmpB_eq a b
    have hlt : ∀ x y : UInt8, (x < y) ↔ x.toNat < y.toNat := fun x y => UInt8.lt_iff_toNat_lt
    show (if x < y then (-1 : Int) else if y < x then 1 else Lib.compareBytes a b) = (if x.toNat < y.toNat then (-1 : Int) else if y.toNat < x.toNat then 1 else cmpL (bytesN a) (bytesN b))
    rw [ih]
    simp only [hlt]
theorem cmpL_same (p : List Nat) (a b : List Nat) : cmpL (p ++ a) (p ++ b) = cmpL a b := by
  induction p with
  | nil => rfl
  | cons x p ih =>
    show (if x < x then (-1 : Int) else if x < x then 1 else cmpL (p ++ a) (p ++ b)) = _
    rw [if_neg (Nat.lt_irrefl _), if_neg (Nat.lt_irrefl _), ih]
theorem bytesN_append (a b : List UInt8) : bytesN (a ++ b) = bytesN a ++ bytesN b := by simp [bytesN]
theorem enc_less (c d : Nat) (a b : List Nat) (hc : may c = true) (hd : may d = true) (h : c < d) : cmpL (bytesN (enc c) ++ a) (bytesN (enc d) ++ b) = -1 := by
  have h1 := may_lt hc
  have h2 := may_lt hd
  unfold enc bytesN
  by_cases c1 : c < 128
  · by_cases d1 : d < 128
    · rw [if_pos c1, if_pos d1]
      show (if (UInt8.ofNat c).toNat < (UInt8.ofNat d).toNat then (-1 : Int) else _) = -1
      rw [if_pos (by simp only [UInt8.toNat_ofNat']; omega)]
    · rw [if_pos c1, if_neg d1]
      show (if (UInt8.ofNat c).toNat < (UInt8.ofNat (192 + d / 64)).toNat then (-1 : Int) else _) = -1
      rw [if_pos (by simp only [UInt8.toNat_ofNat']; omega)]
  · rw [if_neg c1, if_neg (by omega)]
    have e1 : (UInt8.ofNat (192 + c / 64)).toNat = 192 + c / 64 := by simp only [UInt8.toNat_ofNat']; omega
    have e2 : (UInt8.ofNat (128 + c % 64)).toNat = 128 + c % 64 := by simp only [UInt8.toNat_ofNat']; omega
    have e3 : (UInt8.ofNat (192 + d / 64)).toNat = 192 + d / 64 := by simp only [UInt8.toNat_ofNat']; omega
    have e4 : (UInt8.ofNat (128 + d % 64)).toNat = 128 + d % 64 := by simp only [UInt8.toNat_ofNat']; omega
    show (if (UInt8.ofNat (192 + c / 64)).toNat < (UInt8.ofNat (192 + d / 64)).toNat then (-1 : Int) else if (UInt8.ofNat (192 + d / 64)).toNat < (UInt8.ofNat (192 + c / 64)).toNat then 1 else (if (UInt8.ofNat (128 + c % 64)).toNat < (UInt8.ofNat (128 + d % 64)).toNat then (-1 : Int) else _)) = -1
    rw [e1, e2, e3, e4]
    by_cases q : c / 64 < d / 64
    · rw [if_pos (by omega)]
    · rw [if_neg (by omega), if_neg (by omega), if_pos (by omega)]
theorem cmp_text (x : List Nat) : ∀ y : List Nat, (∀ c ∈ x, may c = true) → (∀ c ∈ y, may c = true) → Lib.compareBytes (text x) (text y) = cmpL x y := by
  induction x with
  | nil =>
    intro y _ _
    cases y with
    | nil => rfl
    | cons d y =>
      rw [cmpB_eq, text_nil, text_cons]
      have := (enc_pos d).1
      cases h : enc d with
      | nil => rw [h] at this; simp at this
      | cons b t => rfl
  | cons c x ih =>
    intro y hx hy
    cases y with
    | nil =>
      rw [cmpB_eq, text_nil, text_cons]
      have := (enc_pos c).1
      cases h : enc c with
      | nil => rw [h] at this; simp at this
      | cons b t => rfl
    | cons d y =>
      have hc := hx c List.mem_cons_self
      have hd := hy d List.mem_cons_self
      have ih2 := ih y (fun e he => hx e (List.mem_cons_of_mem _ he)) (fun e he => hy e (List.mem_cons_of_mem _ he))
      rw [cmpB_eq] at ih2
      rw [cmpB_eq, text_cons, text_cons, bytesN_append, bytesN_append]
      rw [show cmpL (c :: x) (d :: y) = if c < d then (-1 : Int) else if d < c then 1 else cmpL x y from rfl]
      rcases Nat.lt_trichotomy c d with h | h | h
      · rw [if_pos h]
        exact enc_less c d _ _ hc hd h
      · subst h
        rw [if_neg (Nat.lt_irrefl _), if_neg (Nat.lt_irrefl _), cmpL_same, ih2]
      · rw [if_neg (by omega), if_pos h, cmpL_neg (bytesN (enc d) ++ _), enc_less d c _ _ hd hc h]
        rfl

theorem runes_front (y : List Nat) (t : List UInt8) (h : ∀ c ∈ y, may c = true) : runes (text y ++ t) = (runes t).map (y ++ ·) := by
  induction y with
  | nil =>
    show runes t = (runes t).map id
    simp
  | cons c y ih =>
    rw [text_cons, List.append_assoc, runes_enc c _ (h c List.mem_cons_self), ih fun d hd => h d (List.mem_cons_of_mem _ hd), Option.map_map]
    rfl
theorem prefix_text (y z : List Nat) (hy : ∀ c ∈ y, may c = true) (hz : ∀ c ∈ z, may c = true) : (text y).isPrefixOf (text z) = y.isPrefixOf z := by
  rw [Bool.eq_iff_iff, List.isPrefixOf_iff_prefix, List.isPrefixOf_iff_prefix]
  constructor
  · rintro ⟨t, ht⟩
    have h1 := runes_text z hz
    rw [← ht, runes_front y t hy] at h1
    cases hr : runes t with
    | none => rw [hr] at h1; cases h1
    | some r =>
      rw [hr] at h1
      exact ⟨r, Option.some.inj h1⟩
  · rintro ⟨r, rfl⟩
    exact ⟨text r, (text_append _ _).symm⟩
/-- No rune's bytes begin within those of others. -/
theorem place_rune (y : List Nat) (d : Nat) (hd : may d = true) (x : List Nat) : ∀ p, (∀ c ∈ x, may c = true) → (text (d :: y)).isPrefixOf ((text x).drop p) = true → ∃ i, i < x.length ∧ p = (text (x.take i)).length := by
  have hd2 := may_lt hd
  obtain ⟨b, t, hb, hbn⟩ : ∃ b t, text (d :: y) = b :: t ∧ (b.toNat < 128 ∨ 192 ≤ b.toNat) := by
    rw [text_cons]
    unfold enc
    split
    · refine ⟨_, _, rfl, .inl ?_⟩
      simp only [UInt8.toNat_ofNat']
      omega
    · refine ⟨_, _, rfl, .inr ?_⟩
      simp only [UInt8.toNat_ofNat']
      omega
  rw [hb]
  induction x with
  | nil =>
    intro p _ h
    rw [text_nil, List.drop_nil] at h
    cases h
  | cons c x ih =>
    intro p hx h
    have hc := may_lt (hx c List.mem_cons_self)
    by_cases h0 : p = 0
    · exact ⟨0, by simp, by rw [h0]; rfl⟩
    · by_cases hp : (enc c).length ≤ p
      · rw [text_cons, List.drop_append, List.drop_eq_nil_of_le hp, List.nil_append] at h
        obtain ⟨i, hi, he⟩ := ih (p - (enc c).length) (fun e he => hx e (List.mem_cons_of_mem _ he)) h
        refine ⟨i + 1, by rw [List.length_cons]; omega, ?_⟩
        rw [List.take_succ_cons, text_cons, List.length_append]
        omega
      · exfalso
        have hl := enc_pos c
        have hp1 : p = 1 := by omega
        subst hp1
        have hl2 := enc_length c
        by_cases c1 : c < 128
        · rw [if_pos c1] at hl2
          omega
        · rw [text_cons, enc, if_neg c1] at h
          have h2 : ((b == UInt8.ofNat (128 + c % 64)) && t.isPrefixOf (text x)) = true := h
          simp only [Bool.and_eq_true, beq_iff_eq] at h2
          have := congrArg UInt8.toNat h2.1
          simp only [UInt8.toNat_ofNat'] at this
          omega
theorem take_longer (x : List Nat) {i j : Nat} (h : i < j) (hj : j ≤ x.length) : (text (x.take i)).length < (text (x.take j)).length := by
  have e : x.take j = x.take i ++ (x.take j).drop i := by
    have := List.take_append_drop i (x.take j)
    rw [List.take_take, show min i j = i by omega] at this
    exact this.symm
  have h2 := (text_length ((x.take j).drop i)).1
  rw [List.length_drop, List.length_take] at h2
  rw [e, text_append, List.length_append]
  omega
theorem findGo_none (y : List Nat) (x : List Nat) : ∀ k, (∀ i, i ≤ x.length → y.isPrefixOf (x.drop i) = false) → findGo y x k = none := by
  induction x with
  | nil =>
    intro k h
    have := h 0 (Nat.le_refl _)
    rw [findGo, if_neg]
    rintro rfl
    simp at this
  | cons c x ih =>
    intro k h
    have h0 := h 0 (Nat.zero_le _)
    rw [List.drop_zero] at h0
    rw [findGo, h0, if_neg (by simp)]
    exact ih (k + 1) fun i hi => by
      have := h (i + 1) (by rw [List.length_cons]; omega)
      rw [List.drop_succ_cons] at this
      exact this
theorem findGo_some (y : List Nat) (x : List Nat) : ∀ k i, i ≤ x.length → y.isPrefixOf (x.drop i) = true → (∀ j, j < i → y.isPrefixOf (x.drop j) = false) → findGo y x k = some (k + i) := by
  induction x with
  | nil =>
    intro k i hi h _
    obtain rfl : i = 0 := by simpa using hi
    have : y = [] := by
      rw [List.drop_nil, List.isPrefixOf_iff_prefix, List.prefix_nil] at h
      exact h
    rw [findGo, if_pos this]
    rfl
  | cons c x ih =>
    intro k i hi h hj
    cases i with
    | zero =>
      rw [List.drop_zero] at h
      rw [findGo, if_pos h]
      rfl
    | succ i =>
      have h0 := hj 0 (by omega)
      rw [List.drop_zero] at h0
      rw [findGo, h0, if_neg (by simp), ih (k + 1) i (by rw [List.length_cons] at hi; omega) (by rw [List.drop_succ_cons] at h; exact h) (fun j hj2 => by
        have := hj (j + 1) (by omega)
        rw [List.drop_succ_cons] at this
        exact this)]
      congr 1
      omega
/-- Where the bytes are found, and where the runes are. -/
theorem index_text (x y : List Nat) (hx : ∀ c ∈ x, may c = true) (hy : ∀ c ∈ y, may c = true) :
    (Lib.index (text x) (text y) = -1 ∧ find x y = -1) ∨ ∃ i : Nat, i ≤ x.length ∧ Lib.index (text x) (text y) = ((text (x.take i)).length : Int) ∧ find x y = (i : Int) := by
  have hoc : ∀ i, i ≤ x.length → Lib.occAt (text x) (text y) (text (x.take i)).length = y.isPrefixOf (x.drop i) := fun i hi => by
    rw [← prefix_text y (x.drop i) hy (fun c hc => hx c (List.mem_of_mem_drop hc)), ← text_drop]
    rfl
  have hle : ∀ i, (text (x.take i)).length ≤ (text x).length := fun i => by
    have := congrArg List.length (text_drop x i)
    rw [List.length_drop] at this
    have h2 : text x = text (x.take i) ++ text (x.drop i) := by rw [← text_append, List.take_append_drop]
    rw [h2, List.length_append]
    omega
  rcases Lib.index_spec (text x) (text y) with ⟨h1, h2⟩ | ⟨p, h1, h2, h3, h4⟩
  · left
    refine ⟨h1, ?_⟩
    rw [find, findGo_none y x 0 fun i hi => by rw [← hoc i hi]; exact h2 _ (hle i)]
  · right
    obtain ⟨i, hi, hp⟩ : ∃ i, i ≤ x.length ∧ p = (text (x.take i)).length := by
      cases y with
      | nil =>
        have := h4
        rw [show Lib.index (text x) (text []) = 0 from by rw [text_nil]; exact Lib.index_empty _] at h1
        refine ⟨0, Nat.zero_le _, ?_⟩
        show p = 0
        omega
      | cons d y =>
        obtain ⟨i, hi, he⟩ := place_rune y d (hy d List.mem_cons_self) x p hx h3
        exact ⟨i, by omega, he⟩
    subst hp
    refine ⟨i, hi, h1, ?_⟩
    rw [hoc i hi] at h3
    rw [find, findGo_some y x 0 i hi h3 fun j hj => by
      rw [← hoc j (by omega)]
      exact h4 _ (take_longer x hj hi)]
    simp
theorem join_text (ls : List (List Nat)) : Lib.join (ls.map text) [32] = text (joinL ls) := by
  unfold Lib.join
  induction ls with
  | nil => rfl
  | cons w ws ih =>
    cases ws with
    | nil =>
      show [32].intercalate [text w] = text w
      simp [List.intercalate]
    | cons v ws =>
      have e : joinL (w :: v :: ws) = w ++ 32 :: joinL (v :: ws) := rfl
      rw [e, text_append, text_cons, ← ih]
      show [32].intercalate (text w :: text v :: ws.map text) = text w ++ ([32] ++ [32].intercalate (text v :: ws.map text))
      simp [List.intercalate]
end Go.Proofs.YthlhhmhldpmpiaaDoor.Phr
