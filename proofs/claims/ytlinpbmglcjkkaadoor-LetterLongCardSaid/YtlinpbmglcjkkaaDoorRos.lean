/-
  The plain mathematics of package roster: who belongs to a group, who lives, who are friends, who is closed, expelled and brought back: as functions on lists of numbers, after the document's words, and what follows of them (P12.11, P12.12, the second half of P12.13). Nothing here speaks of a program: no condition but those that each lemma names.
-/
import Derived.Test.YtlinpbmglcjkkaaDoorMur
namespace Go.Proofs.YtlinpbmglcjkkaaDoor.Ros
open Go.RowKit Mur

structure R where
  group : List UInt8
  servers : Int
  clients : Int
  buddies : List Int
  gone : List Int

/-- The number of a member. -/
def member (r : R) (m : Int) : Bool := (decide (0 ≤ m) && decide (m < r.servers)) || (decide (100 ≤ m) && decide (m - 100 < r.clients))
theorem member_iff (r : R) (m : Int) : member r m = true ↔ (0 ≤ m ∧ m < r.servers) ∨ (100 ≤ m ∧ m - 100 < r.clients) := by
  simp only [member, Bool.or_eq_true, Bool.and_eq_true, decide_eq_true_eq]
def live (r : R) (m : Int) : Bool := member r m && !decide (m ∈ r.gone)
theorem live_iff (r : R) (m : Int) : live r m = true ↔ member r m = true ∧ m ∉ r.gone := by
  simp [live]
def most (n : Int) (k : Nat) : Nat := (max 0 (min n (k : Int))).toNat
theorem most_le (n : Int) (k : Nat) : most n k ≤ k := by unfold most; omega
def serversL (r : R) : List Int := ((List.range (most r.servers 4)).map fun i : Nat => (i : Int)).filter (live r)
def clientsL (r : R) : List Int := ((List.range (most r.clients 6)).map fun i : Nat => 100 + (i : Int)).filter (live r)
theorem clients_iff (r : R) (c : Int) : c ∈ clientsL r ↔ (100 ≤ c ∧ c < 100 + (most r.clients 6 : Int)) ∧ live r c = true := by
  unfold clientsL
  rw [List.mem_filter, List.mem_map]
  constructor
  · rintro ⟨⟨i, hi, rfl⟩, h⟩
    rw [List.mem_range] at hi
    exact ⟨by omega, h⟩
  · rintro ⟨⟨h1, h2⟩, h⟩
    exact ⟨⟨(c - 100).toNat, List.mem_range.2 (by omega), by omega⟩, h⟩
def upstream (r : R) (c : Int) : Int := if serversL r = [] ∨ c < 100 then -1 else (serversL r).getD ((c - 100).toNat % (serversL r).length) (-1)
/-- A client's buddies' number. -/
def bud (r : R) (c : Int) : Option Int := if 100 ≤ c then r.buddies[(c - 100).toNat]? else none
def friends (r : R) (c : Int) : List Int := match bud r c with
  | none => []
  | some b => (clientsL r).filter fun m => decide (bud r m = some b)
theorem friends_iff (r : R) (c f : Int) : f ∈ friends r c ↔ f ∈ clientsL r ∧ ∃ b, bud r c = some b ∧ bud r f = some b := by
  unfold friends
  cases h : bud r c with
  | none => simp
  | some b => simp [List.mem_filter]
theorem friends_same (r : R) (c f : Int) (h : f ∈ friends r c) : friends r f = friends r c := by
  obtain ⟨_, b, h1, h2⟩ := (friends_iff r c f).1 h
  unfold friends
  rw [h1, h2]
def closed (r : R) (l : List Int) : List Int := (clientsL r).filter fun c => decide (c ∈ l) && (friends r c).all fun f => decide (f ∈ l)
theorem closed_iff (r : R) (l : List Int) (c : Int) : c ∈ closed r l ↔ c ∈ clientsL r ∧ c ∈ l ∧ ∀ f ∈ friends r c, f ∈ l := by
  unfold closed
  rw [List.mem_filter]
  simp only [Bool.and_eq_true, decide_eq_true_eq, List.all_eq_true]
theorem closed_live (r : R) (l : List Int) (c : Int) (h : c ∈ closed r l) : c ∈ l ∧ live r c = true :=
  ⟨((closed_iff r l c).1 h).2.1, ((clients_iff r c).1 ((closed_iff r l c).1 h).1).2⟩
/-- P12.11: of each client that is closed all friends are. -/
theorem closed_friends (r : R) (l : List Int) (c f : Int) (h : c ∈ closed r l) (hf : f ∈ friends r c) : f ∈ closed r l := by
  obtain ⟨h1, h2, h3⟩ := (closed_iff r l c).1 h
  refine (closed_iff r l f).2 ⟨((friends_iff r c f).1 hf).1, h3 f hf, fun g hg => ?_⟩
  rw [friends_same r c f hf] at hg
  exact h3 g hg
/-- .. of more no fewer are closed. -/
theorem closed_more (r : R) (l more : List Int) (c : Int) (h : c ∈ closed r l) : c ∈ closed r (l ++ more) := by
  obtain ⟨h1, h2, h3⟩ := (closed_iff r l c).1 h
  exact (closed_iff r _ c).2 ⟨h1, List.mem_append_left _ h2, fun f hf => List.mem_append_left _ (h3 f hf)⟩
/-- .. closing twice is closing once. -/
theorem closed_twice (r : R) (l : List Int) : closed r (closed r l) = closed r l := by
  unfold closed
  refine List.filter_congr fun c hc => ?_
  rw [Bool.eq_iff_iff]
  simp only [Bool.and_eq_true, decide_eq_true_eq, List.all_eq_true]
  constructor
  · rintro ⟨h1, _⟩
    exact ((closed_iff r l c).1 h1).2
  · rintro ⟨h1, h2⟩
    have hcl : c ∈ closed r l := (closed_iff r l c).2 ⟨hc, h1, h2⟩
    exact ⟨hcl, fun f hf => closed_friends r l c f hcl hf⟩
theorem clients_length (r : R) : (clientsL r).length ≤ 6 := by
  unfold clientsL
  refine Nat.le_trans (List.length_filter_le _ _) ?_
  rw [List.length_map, List.length_range]
  exact most_le _ 6
theorem servers_length (r : R) : (serversL r).length ≤ 4 := by
  unfold serversL
  refine Nat.le_trans (List.length_filter_le _ _) ?_
  rw [List.length_map, List.length_range]
  exact most_le _ 4

/-- Rising numbers. -/
def rising : List Int → Bool
  | [] => true
  | [_] => true
  | a :: b :: l => decide (a < b) && rising (b :: l)
theorem rising_cons (a : Int) (l : List Int) : rising (a :: l) = true ↔ (∀ b ∈ l, a < b) ∧ rising l = true := by
  induction l generalizing a with
  | nil => simp [rising]
  | cons b l ih =>
    rw [show rising (a :: b :: l) = (decide (a < b) && rising (b :: l)) from rfl, Bool.and_eq_true, decide_eq_true_eq]
    constructor
    · rintro ⟨h1, h2⟩
      refine ⟨fun c hc => ?_, h2⟩
      rcases List.mem_cons.1 hc with rfl | hc
      · exact h1
      · exact Int.lt_trans h1 (((ih b).1 h2).1 c hc)
    · rintro ⟨h1, h2⟩
      exact ⟨h1 b List.mem_cons_self, h2⟩
theorem rising_append (a b : List Int) : rising (a ++ b) = true ↔ rising a = true ∧ rising b = true ∧ ∀ x ∈ a, ∀ y ∈ b, x < y := by
  induction a with
  | nil => simp [rising]
  | cons x a ih =>
    rw [List.cons_append, rising_cons, ih, rising_cons]
    constructor
    · rintro ⟨h1, h2, h3, h4⟩
      refine ⟨⟨fun y hy => h1 y (List.mem_append_left _ hy), h2⟩, h3, fun z hz y hy => ?_⟩
      rcases List.mem_cons.1 hz with rfl | hz
      · exact h1 y (List.mem_append_right _ hy)
      · exact h4 z hz y hy
    · rintro ⟨⟨h1, h2⟩, h3, h4⟩
      refine ⟨fun y hy => ?_, h2, h3, fun z hz y hy => h4 z (List.mem_cons_of_mem _ hz) y hy⟩
      rcases List.mem_append.1 hy with hy | hy
      · exact h1 y hy
      · exact h4 x List.mem_cons_self y hy
theorem rising_filter (p : Int → Bool) (l : List Int) (h : rising l = true) : rising (l.filter p) = true := by
  induction l with
  | nil => rfl
  | cons a l ih =>
    obtain ⟨h1, h2⟩ := (rising_cons a l).1 h
    rw [List.filter_cons]
    split
    · exact (rising_cons _ _).2 ⟨fun b hb => h1 b ((List.mem_filter.1 hb).1), ih h2⟩
    · exact ih h2
theorem rising_count (l : List Int) (a b : Int) (h : rising l = true) (h1 : ∀ x ∈ l, a ≤ x) (h2 : ∀ x ∈ l, x < b) : (l.length : Int) ≤ max 0 (b - a) := by
  induction l generalizing a with
  | nil => simp; omega
  | cons x l ih =>
    obtain ⟨g1, g2⟩ := (rising_cons x l).1 h
    have g3 := h1 x List.mem_cons_self
    have g4 := h2 x List.mem_cons_self
    have g5 := ih (x + 1) g2 (fun y hy => by have := g1 y hy; omega) fun y hy => h2 y (List.mem_cons_of_mem _ hy)
    rw [List.length_cons]
    omega
theorem rising_parts (l : List Int) (m : Int) (h : rising l = true) (hm : m ∉ l) : l.filter (fun x => decide (x < m)) ++ l.filter (fun x => decide (m < x)) = l := by
  induction l with
  | nil => rfl
  | cons a l ih =>
    obtain ⟨h1, h2⟩ := (rising_cons a l).1 h
    have ha : a ≠ m := fun e => hm (by rw [e]; exact List.mem_cons_self)
    have ih2 := ih h2 fun h3 => hm (List.mem_cons_of_mem _ h3)
    rcases Int.lt_or_gt_of_ne ha with hl | hl
    · rw [List.filter_cons, if_pos (by simpa using hl), List.filter_cons, if_neg (by simp; omega), List.cons_append, ih2]
    · have e1 : l.filter (fun x => decide (x < m)) = [] := List.filter_eq_nil_iff.2 fun x hx => by have := h1 x hx; simp; omega
      rw [List.filter_cons, if_neg (by simp; omega), List.filter_cons, if_pos (by simpa using hl), e1, List.nil_append]
      rw [e1, List.nil_append] at ih2
      rw [ih2]

def right (r : R) : Bool := decide (1 ≤ r.group.length) && decide (r.group.length ≤ 8) && decide (1 ≤ r.servers) && decide (r.servers ≤ 4) && decide (1 ≤ r.clients) && decide (r.clients ≤ 6) && decide ((r.buddies.length : Int) = r.clients) && decide (r.gone.length ≤ 10) && r.gone.all (member r) && rising r.gone
theorem right_iff (r : R) : right r = true ↔ (1 ≤ r.group.length ∧ r.group.length ≤ 8) ∧ (1 ≤ r.servers ∧ r.servers ≤ 4) ∧ (1 ≤ r.clients ∧ r.clients ≤ 6) ∧ (r.buddies.length : Int) = r.clients ∧ r.gone.length ≤ 10 ∧ (∀ m ∈ r.gone, member r m = true) ∧ rising r.gone = true := by
  simp only [right, Bool.and_eq_true, decide_eq_true_eq, List.all_eq_true]
  constructor
  · rintro ⟨⟨⟨⟨⟨⟨⟨⟨⟨h1, h2⟩, h3⟩, h4⟩, h5⟩, h6⟩, h7⟩, h8⟩, h9⟩, h10⟩
    exact ⟨⟨h1, h2⟩, ⟨h3, h4⟩, ⟨h5, h6⟩, h7, h8, h9, h10⟩
  · rintro ⟨⟨h1, h2⟩, ⟨h3, h4⟩, ⟨h5, h6⟩, h7, h8, h9, h10⟩
    exact ⟨⟨⟨⟨⟨⟨⟨⟨⟨h1, h2⟩, h3⟩, h4⟩, h5⟩, h6⟩, h7⟩, h8⟩, h9⟩, h10⟩

/-- Who is gone when m goes, and when m comes back. -/
def without (l : List Int) (m : Int) : List Int := l.filter (fun x => decide (x < m)) ++ m :: l.filter (fun x => decide (m < x))
def again (l : List Int) (m : Int) : List Int := l.filter fun x => decide (x ≠ m)
def expel (r : R) (m : Int) : R := { r with gone := without r.gone m }
def back (r : R) (m : Int) : R := { r with gone := again r.gone m }
theorem without_mem (l : List Int) (m x : Int) : x ∈ without l m ↔ x = m ∨ x ∈ l := by
  unfold without
  rw [List.mem_append, List.mem_cons, List.mem_filter, List.mem_filter]
  simp only [decide_eq_true_eq]
  constructor
  · rintro (⟨h, _⟩ | h | ⟨h, _⟩)
    · exact .inr h
    · exact .inl h
    · exact .inr h
  · rintro (h | h)
    · exact .inr (.inl h)
    · rcases Int.lt_trichotomy x m with hl | hl | hl
      · exact .inl ⟨h, hl⟩
      · exact .inr (.inl hl)
      · exact .inr (.inr ⟨h, hl⟩)
theorem again_mem (l : List Int) (m x : Int) : x ∈ again l m ↔ x ∈ l ∧ x ≠ m := by
  unfold again
  rw [List.mem_filter]
  simp
theorem member_gone (r : R) (g : List Int) (m : Int) : member { r with gone := g } m = member r m := rfl
/-- P12.12: who is expelled does not live, all others do as before. -/
theorem expel_gone (r : R) (m : Int) : live (expel r m) m = false := by
  rw [← Bool.not_eq_true, live_iff]
  rintro ⟨_, h⟩
  exact h ((without_mem r.gone m m).2 (.inl rfl))
theorem expel_others (r : R) (m n : Int) (h : n ≠ m) : live (expel r m) n = live r n := by
  rw [Bool.eq_iff_iff, live_iff, live_iff]
  show (member r n = true ∧ n ∉ without r.gone m) ↔ _
  rw [without_mem]
  constructor
  · rintro ⟨h1, h2⟩
    exact ⟨h1, fun h3 => h2 (.inr h3)⟩
  · rintro ⟨h1, h2⟩
    exact ⟨h1, fun h3 => h3.elim h h2⟩
/-- A member's place among all. -/
theorem right_expel (r : R) (m : Int) (h : right r = true) (hm : live r m = true) : right (expel r m) = true := by
  obtain ⟨h1, h2, h3, h4, h5, h6, h7⟩ := (right_iff r).1 h
  obtain ⟨g1, g2⟩ := (live_iff r m).1 hm
  have hmem : ∀ x ∈ without r.gone m, member r x = true := fun x hx => by
    rcases (without_mem r.gone m x).1 hx with rfl | hx
    · exact g1
    · exact h6 x hx
  have hris : rising (without r.gone m) = true := by
    unfold without
    refine (rising_append _ _).2 ⟨rising_filter _ _ h7, (rising_cons _ _).2 ⟨fun x hx => ?_, rising_filter _ _ h7⟩, fun x hx y hy => ?_⟩
    · have := (List.mem_filter.1 hx).2
      simpa using this
    · have k1 := (List.mem_filter.1 hx).2
      simp only [decide_eq_true_eq] at k1
      rcases List.mem_cons.1 hy with rfl | hy
      · exact k1
      · have k2 := (List.mem_filter.1 hy).2
        simp only [decide_eq_true_eq] at k2
        omega
  refine (right_iff _).2 ⟨h1, h2, h3, h4, ?_, hmem, hris⟩
  show (without r.gone m).length ≤ 10
  have hs := rising_filter (fun x => decide (x < 100)) _ hris
  have hc := rising_filter (fun x => !decide (x < 100)) _ hris
  have c1 := rising_count _ 0 r.servers hs (fun x hx => by
    have k := (member_iff r x).1 (hmem x ((List.mem_filter.1 hx).1))
    have k2 := (List.mem_filter.1 hx).2
    simp only [decide_eq_true_eq] at k2
    omega) (fun x hx => by
    have k := (member_iff r x).1 (hmem x ((List.mem_filter.1 hx).1))
    have k2 := (List.mem_filter.1 hx).2
    simp only [decide_eq_true_eq] at k2
    omega)
  have c2 := rising_count _ 100 (100 + r.clients) hc (fun x hx => by
    have k2 := (List.mem_filter.1 hx).2
    simp at k2
    omega) (fun x hx => by
    have k := (member_iff r x).1 (hmem x ((List.mem_filter.1 hx).1))
    have k2 := (List.mem_filter.1 hx).2
    simp at k2
    omega)
  have c3 : ∀ l : List Int, (l.filter fun x => decide (x < 100)).length + (l.filter fun x => !decide (x < 100)).length = l.length := fun l => by
    induction l with
    | nil => rfl
    | cons a l ih =>
      rw [List.filter_cons, List.filter_cons]
      by_cases ha : a < 100
      · rw [if_pos (by simpa using ha), if_neg (by simp [ha]), List.length_cons, List.length_cons]
        omega
      · rw [if_neg (by simpa using ha), if_pos (by simp [ha]), List.length_cons, List.length_cons]
        omega
  have c4 := c3 (without r.gone m)
  omega
/-- Who is expelled, and brought back, lives as before. -/
theorem back_live (r : R) (m : Int) (hm : live r m = true) : live (back (expel r m) m) m = true := by
  obtain ⟨g1, g2⟩ := (live_iff r m).1 hm
  refine (live_iff _ m).2 ⟨g1, ?_⟩
  show m ∉ again (without r.gone m) m
  rw [again_mem]
  exact fun h => h.2 rfl
theorem back_gone (r : R) (m : Int) (h : right r = true) (hm : live r m = true) : again (without r.gone m) m = r.gone := by
  obtain ⟨_, _, _, _, _, _, h7⟩ := (right_iff r).1 h
  obtain ⟨_, g2⟩ := (live_iff r m).1 hm
  unfold again without
  rw [List.filter_append, List.filter_cons, if_neg (by simp)]
  have e1 : (r.gone.filter fun x => decide (x < m)).filter (fun x => decide (x ≠ m)) = r.gone.filter fun x => decide (x < m) := List.filter_eq_self.2 fun x hx => by
    have := (List.mem_filter.1 hx).2
    simp at this ⊢
    omega
  have e2 : (r.gone.filter fun x => decide (m < x)).filter (fun x => decide (x ≠ m)) = r.gone.filter fun x => decide (m < x) := List.filter_eq_self.2 fun x hx => by
    have := (List.mem_filter.1 hx).2
    simp at this ⊢
    omega
  rw [e1, e2]
  exact rising_parts r.gone m h7 g2
end Go.Proofs.YtlinpbmglcjkkaaDoor.Ros
