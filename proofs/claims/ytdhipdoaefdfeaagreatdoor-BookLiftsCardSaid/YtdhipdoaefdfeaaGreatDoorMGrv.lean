/-
  Several texts as one (Grv, GrvA, GrvB, GrvC, GrvD, GrvE). The plain mathematics of package grove: nodes, paths and climbs, proofs and climbing from many, as functions on lists of bytes and of numbers. Nothing here speaks of a program: no condition but those that each lemma names. among of package grove answers whether a number is one of 2 to the power of another, and leaves all memory as it was. Condition: the power is at most 62. paired of package grove answers what the plain mathematics of the text Grv says, in a row of its own, and leaves all memory that was there as it was. Conditions: those that it names; the constant table of package digest lies as the program's text lays it. Node of package grove answers what the plain mathematics of the text Grv says, and leaves all memory that was there as it was. Conditions: seed and room have together no more than 2^35 bytes; the constant table of package digest lies as the program's text lays it. Path of package grove answers what the plain mathematics of the text Grv says, and leaves all memory that was there as it was. Conditions: seed and room have together no more than 2^35 bytes; the constant table of package digest lies as the program's text lays it. Climb of package grove answers what the plain mathematics of the text Grv says, and leaves all memory that was there as it was. Conditions: room and node have together no more than 2^35 bytes; the constant table of package digest lies as the program's text lays it.
-/
import Derived.Test.YtdhipdoaefdfeaaGreatDoorMChn
import Derived.Test.YtdhipdoaefdfeaaGreatDoorMWk
import Derived.Test.YtdhipdoaefdfeaaGreatDoorMDig
import Derived.IntWalk
namespace Go.Proofs.YtdhipdoaefdfeaaGreatDoor.Grv
open Go.RowKit Mur Sha Chn

def nodeT : List UInt8 := [110, 111, 100, 101]
/-- Two nodes, one behind the other, as one of height z at place a. -/
def pairT (N : Nat) (room : List UInt8) (z a : Nat) (both : List UInt8) : List UInt8 := value N [nodeT, room, num (z : Int) 1, num (a : Int) 4, both]
theorem pairT_length (N : Nat) (room : List UInt8) (z a : Nat) (both : List UInt8) (h : N ≤ 32) : (pairT N room z a both).length = N := value_length N _ h

/-- The node at number n of height z, and the one beside it, as one. -/
def asOneT (N : Nat) (room : List UInt8) (z n : Nat) (x y : List UInt8) : List UInt8 := pairT N room (z + 1) (n / 2) (if n % 2 = 1 then y ++ x else x ++ y)
theorem asOneT_length (N : Nat) (room : List UInt8) (z n : Nat) (x y : List UInt8) (h : N ≤ 32) : (asOneT N room z n x y).length = N := pairT_length N _ _ _ _ h
/-- The number beside. -/
def sib (n : Nat) : Nat := if n % 2 = 1 then n - 1 else n + 1
theorem sib_half (n : Nat) : sib n / 2 = n / 2 := by unfold sib; split <;> omega
theorem sib_sib (n : Nat) : sib (sib n) = n := by unfold sib; split <;> split <;> omega
theorem sib_ne (n : Nat) : sib n ≠ n := by unfold sib; split <;> omega
theorem sib_le (n : Nat) : sib n ≤ n + 1 := by unfold sib; split <;> omega
theorem sib_xor (n : Nat) : n ^^^ 1 = sib n := by
  have h1 : (n ^^^ 1) / 2 = n / 2 := by rw [Nat.xor_div_two]; simp
  have h2 : (n ^^^ 1) % 2 = 1 ↔ ¬(n % 2 = 1 ↔ 1 % 2 = 1) := Nat.xor_mod_two_eq_one
  unfold sib
  split <;> omega

def node (N : Nat) (seed room : List UInt8) : Nat → Nat → List UInt8
  | 0, a => leafOf N seed room (a : Int)
  | z + 1, a => pairT N room (z + 1) a (node N seed room z (2 * a) ++ node N seed room z (2 * a + 1))
theorem node_length (N : Nat) (seed room : List UInt8) (z a : Nat) (h : N ≤ 32) : (node N seed room z a).length = N := by
  cases z with
  | zero => exact leafOf_length N seed room _ h
  | succ z => exact pairT_length N _ _ _ _ h
/-- A node and the one beside it make the one above. -/
theorem asOne_node (N : Nat) (seed room : List UInt8) (z n : Nat) : asOneT N room z n (node N seed room z n) (node N seed room z (sib n)) = node N seed room (z + 1) (n / 2) := by
  unfold asOneT sib
  rw [node]
  by_cases h : n % 2 = 1
  · rw [if_pos h, if_pos h, show 2 * (n / 2) = n - 1 by omega, show n - 1 + 1 = n by omega]
  · rw [if_neg h, if_neg h, show 2 * (n / 2) = n by omega]

def pathP (N : Nat) (seed room : List UInt8) (leaf : Nat) (z : Nat) : List UInt8 := node N seed room z (sib (leaf / 2 ^ z))
def path (N H : Nat) (seed room : List UInt8) (leaf : Nat) : List UInt8 := upto (pathP N seed room leaf) H
theorem pathP_length (N : Nat) (seed room : List UInt8) (leaf : Nat) (h : N ≤ 32) (z : Nat) : (pathP N seed room leaf z).length = N := node_length N _ _ _ _ h
theorem path_length (N H : Nat) (seed room : List UInt8) (leaf : Nat) (h : N ≤ 32) : (path N H seed room leaf).length = N * H := upto_length _ N (pathP_length N seed room leaf h) H
/-- The climb's node at height z. -/
def climb (N : Nat) (room : List UInt8) (leaf : Nat) (x p : List UInt8) : Nat → List UInt8
  | 0 => x
  | z + 1 => asOneT N room z (leaf / 2 ^ z) (climb N room leaf x p z) ((p.drop (N * z)).take N)
theorem climb_length (N : Nat) (room : List UInt8) (leaf : Nat) (x p : List UInt8) (z : Nat) (h : N ≤ 32) : (climb N room leaf x p z).length ≤ x.length + 32 := by
  cases z with
  | zero => exact Nat.le_add_right _ _
  | succ z =>
    have := asOneT_length N room z (leaf / 2 ^ z) (climb N room leaf x p z) ((p.drop (N * z)).take N) h
    show (asOneT N room z (leaf / 2 ^ z) _ _).length ≤ _
    omega
theorem climb_path (N H : Nat) (seed room : List UInt8) (leaf : Nat) (h : N ≤ 32) (z : Nat) (hz : z ≤ H) : climb N room leaf (leafOf N seed room (leaf : Int)) (path N H seed room leaf) z = node N seed room z (leaf / 2 ^ z) := by
  induction z with
  | zero => rw [climb, Nat.pow_zero, Nat.div_one, node]
  | succ z ih =>
    rw [climb, ih (by omega)]
    unfold path
    rw [upto_at _ N (pathP_length N seed room leaf h) H z (by omega)]
    unfold pathP
    rw [asOne_node, Nat.pow_succ, ← Nat.div_div_eq_div_mul]

/-- Each one's half, once. -/
def halves : List Nat → List Nat
  | [] => []
  | [n] => [n / 2]
  | n :: m :: l => if m = sib n then (n / 2) :: halves l else (n / 2) :: halves (m :: l)
/-- The numbers that the proof has of a height. -/
def need : List Nat → List Nat
  | [] => []
  | [n] => [sib n]
  | n :: m :: l => if m = sib n then need l else sib n :: need (m :: l)
theorem halves_length (l : List Nat) : (halves l).length ≤ l.length := by
  fun_induction halves l <;> simp_all <;> omega
theorem need_length (l : List Nat) : (need l).length ≤ l.length := by
  fun_induction need l <;> simp_all <;> omega
theorem halves_nil (l : List Nat) (h : halves l = []) : l = [] := by
  fun_induction halves l <;> simp_all

/-- Rising numbers. -/
abbrev Up (l : List Nat) : Prop := l.Pairwise (· < ·)
theorem sib_up {n m : Nat} (h : n < m) : m = sib n ↔ m / 2 = n / 2 := by unfold sib; split <;> omega
theorem sib_odd {n : Nat} (h : n < sib n) : sib n % 2 = 1 := by
  by_cases e : n % 2 = 1
  · rw [sib, if_pos e] at h
    omega
  · rw [sib, if_neg e]
    omega
theorem halves_of (l : List Nat) : ∀ x, x ∈ halves l → ∃ n, n ∈ l ∧ x = n / 2 := by
  fun_induction halves l with
  | case1 => intro x hx; cases hx
  | case2 n => intro x hx; exact ⟨n, by simp, by simpa using hx⟩
  | case3 n l ih =>
    intro x hx
    rcases List.mem_cons.1 hx with rfl | hx
    · exact ⟨n, by simp, rfl⟩
    · obtain ⟨k, hk, e⟩ := ih x hx
      exact ⟨k, by simp [hk], e⟩
  | case4 n m l hne ih =>
    intro x hx
    rcases List.mem_cons.1 hx with rfl | hx
    · exact ⟨n, by simp, rfl⟩
    · obtain ⟨k, hk, e⟩ := ih x hx
      exact ⟨k, List.mem_cons_of_mem _ hk, e⟩
theorem halves_lt (l : List Nat) (b : Nat) (h : ∀ n ∈ l, n < 2 * b) : ∀ x ∈ halves l, x < b := fun x hx => by
  obtain ⟨n, hn, rfl⟩ := halves_of l x hx
  have := h n hn
  omega
theorem halves_up (l : List Nat) (h : Up l) : Up (halves l) := by
  fun_induction halves l with
  | case1 => exact List.Pairwise.nil
  | case2 n => simp
  | case3 n l ih =>
    have h := List.pairwise_cons.1 h
    have h2 := (List.pairwise_cons.1 h.2)
    refine List.pairwise_cons.2 ⟨fun x hx => ?_, ih h2.2⟩
    obtain ⟨k, hk, rfl⟩ := halves_of l x hx
    have h1 := h.1 (sib n) (by simp)
    have h3 := h2.1 k hk
    have h4 := (sib_up h1).1 rfl
    have h5 : sib n % 2 = 1 := sib_odd h1
    omega
  | case4 n m l hne ih =>
    have h := List.pairwise_cons.1 h
    refine List.pairwise_cons.2 ⟨fun x hx => ?_, ih h.2⟩
    obtain ⟨k, hk, rfl⟩ := halves_of _ x hx
    have h1 := h.1 m (by simp)
    have hne2 : ¬ m / 2 = n / 2 := fun e => hne ((sib_up h1).2 e)
    rcases List.mem_cons.1 hk with rfl | hk
    · omega
    · have := (List.pairwise_cons.1 h.2).1 k hk
      omega
/-- Of one more number the half comes, unless it is there. -/
theorem halves_snoc (l : List Nat) (n : Nat) (h : Up (l ++ [n])) : halves (l ++ [n]) = if n / 2 ∈ halves l then halves l else halves l ++ [n / 2] := by
  fun_induction halves l with
  | case1 => simp [halves]
  | case2 m =>
    have h1 : m < n := by simpa using h
    show halves [m, n] = _
    rw [halves]
    by_cases e : n = sib m
    · rw [if_pos e, if_pos (by rw [(sib_up h1).1 e]; simp), halves]
    · rw [if_neg e, if_neg (by simpa using fun x => e ((sib_up h1).2 x)), halves]
      rfl
  | case3 a l ih =>
    simp only [List.cons_append] at h ⊢
    have h0 := List.pairwise_cons.1 h
    have h1 := List.pairwise_cons.1 h0.2
    have hb := h0.1 (sib a) (by simp)
    have hn := h1.1 n (by simp)
    have hne : ¬ n / 2 = a / 2 := by
      have := (sib_up hb).1 rfl
      have h2 : sib a % 2 = 1 := sib_odd hb
      omega
    rw [halves, if_pos rfl, ih h1.2]
    by_cases e : n / 2 ∈ halves l
    · rw [if_pos e, if_pos (List.mem_cons_of_mem _ e)]
    · rw [if_neg e, if_neg (by simp [e, hne])]
  | case4 a m l hne ih =>
    simp only [List.cons_append] at h ih ⊢
    have h0 := List.pairwise_cons.1 h
    have h1 := List.pairwise_cons.1 h0.2
    have hb := h0.1 m (by simp)
    have hn := h1.1 n (by simp)
    have hne1 : ¬ m / 2 = a / 2 := fun e => hne ((sib_up hb).2 e)
    have hne2 : ¬ n / 2 = a / 2 := by omega
    rw [halves, if_neg hne, ih h0.2]
    by_cases e : n / 2 ∈ halves (m :: l)
    · rw [if_pos e, if_pos (List.mem_cons_of_mem _ e)]
    · rw [if_neg e, if_neg (by simp [e, hne2])]
theorem flat_congr {α β : Type} {l : List α} {f g : α → List β} (h : ∀ k ∈ l, f k = g k) : l.flatMap f = l.flatMap g := by
  induction l with
  | nil => rfl
  | cons a l ih => rw [List.flatMap_cons, List.flatMap_cons, h a (by simp), ih fun k hk => h k (List.mem_cons_of_mem _ hk)]
/-- What the proof needs: the numbers beside those that are alone. -/
theorem need_of (l : List Nat) (h : Up l) : l.flatMap (fun n => if sib n ∈ l then [] else [sib n]) = need l := by
  fun_induction need l with
  | case1 => rfl
  | case2 n => simp [sib_ne]
  | case3 n l ih =>
    have h0 := List.pairwise_cons.1 h
    have h1 := List.pairwise_cons.1 h0.2
    have hb := h0.1 (sib n) (by simp)
    rw [List.flatMap_cons, List.flatMap_cons, if_pos (by simp), if_pos (by rw [sib_sib]; simp), List.nil_append, List.nil_append, ← ih h1.2]
    refine flat_congr fun k hk => ?_
    have h3 := h1.1 k hk
    have e1 : ¬ sib k = n := fun e => by
      have : k = sib n := by rw [← e, sib_sib]
      omega
    have e2 : ¬ sib k = sib n := fun e => by
      have : k = n := by rw [← sib_sib k, e, sib_sib]
      omega
    simp [e1, e2]
  | case4 n m l hne ih =>
    have h0 := List.pairwise_cons.1 h
    have hb := h0.1 m (by simp)
    have hno : ∀ k ∈ m :: l, ¬ k = sib n := fun k hk e => by
      rcases List.mem_cons.1 hk with rfl | hk
      · exact hne e
      · have := (List.pairwise_cons.1 h0.2).1 k hk
        have hs := sib_le n
        omega
    rw [List.flatMap_cons, if_neg (fun hm => by
      rcases List.mem_cons.1 hm with e | hm
      · exact sib_ne n e
      · exact hno _ hm rfl), ← ih h0.2]
    rw [List.singleton_append]
    congr 1
    refine flat_congr fun k hk => ?_
    have e1 : ¬ sib k = n := fun e => hno k hk (by rw [← e, sib_sib])
    simp [e1]

/-- The numbers at hand at a height. -/
def nums (l : List Nat) : Nat → List Nat
  | 0 => l
  | z + 1 => halves (nums l z)
theorem nums_up (l : List Nat) (h : Up l) : ∀ z, Up (nums l z)
  | 0 => h
  | z + 1 => halves_up _ (nums_up l h z)
theorem nums_lt (l : List Nat) (H : Nat) (h : ∀ n ∈ l, n < 2 ^ H) (z : Nat) (hz : z ≤ H) : ∀ n ∈ nums l z, n < 2 ^ (H - z) := by
  induction z with
  | zero => exact h
  | succ z ih =>
    refine halves_lt _ _ fun n hn => ?_
    have := ih (by omega) n hn
    rw [show H - z = (H - (z + 1)) + 1 by omega, Nat.pow_succ] at this
    omega
theorem nums_length (l : List Nat) : ∀ z, (nums l z).length ≤ l.length
  | 0 => Nat.le_refl _
  | z + 1 => Nat.le_trans (halves_length _) (nums_length l z)
theorem nums_ne (l : List Nat) (h : l ≠ []) : ∀ z, nums l z ≠ []
  | 0 => h
  | z + 1 => fun e => nums_ne l h z (halves_nil _ e)
theorem nums_shift (l : List Nat) (z : Nat) : nums (halves l) z = nums l (z + 1) := by
  induction z with
  | zero => rfl
  | succ z ih =>
    show halves (nums (halves l) z) = halves (nums l (z + 1))
    rw [ih]

/-- The proof's nodes of a height, one behind the other. -/
def proofP (N : Nat) (seed room : List UInt8) (z : Nat) (l : List Nat) : List UInt8 := (need l).flatMap (node N seed room z)
def proof (N H : Nat) (seed room : List UInt8) (l : List Nat) : List UInt8 := upto (fun z => proofP N seed room z (nums l z)) H
/-- What a number at hand brings to the proof. -/
def bring (N : Nat) (seed room : List UInt8) (z : Nat) (l : List Nat) (n : Nat) : List UInt8 := if sib n ∈ l then [] else node N seed room z (sib n)
theorem bring_length (N : Nat) (seed room : List UInt8) (z : Nat) (l : List Nat) (n : Nat) (h : N ≤ 32) : (bring N seed room z l n).length ≤ 32 := by
  unfold bring
  split
  · exact Nat.zero_le _
  · rw [node_length N _ _ _ _ h]; exact h
theorem proofP_bring (N : Nat) (seed room : List UInt8) (z : Nat) (l : List Nat) (h : Up l) : l.flatMap (bring N seed room z l) = proofP N seed room z l := by
  unfold proofP
  rw [← need_of l h, List.flatMap_assoc]
  refine flat_congr fun k _ => ?_
  unfold bring
  split <;> simp
theorem flat_len (f : Nat → List UInt8) (l : List Nat) (m : Nat) (h : ∀ n, (f n).length ≤ m) : (l.flatMap f).length ≤ l.length * m := by
  induction l with
  | nil => simp
  | cons a l ih =>
    rw [List.flatMap_cons, List.length_append, List.length_cons, Nat.succ_mul]
    have := h a
    omega
theorem proofP_length (N : Nat) (seed room : List UInt8) (z : Nat) (l : List Nat) (h : N ≤ 32) : (proofP N seed room z l).length ≤ l.length * N :=
  Nat.le_trans (flat_len _ _ N fun _ => Nat.le_of_eq (node_length N _ _ _ _ h)) (Nat.mul_le_mul_right _ (need_length l))
theorem proof_length (N H : Nat) (seed room : List UInt8) (l : List Nat) (h : N ≤ 32) : (proof N H seed room l).length ≤ l.length * N * H := by
  unfold proof
  induction H with
  | zero => exact Nat.zero_le _
  | succ H ih =>
    rw [upto, List.length_append, Nat.mul_succ]
    have h1 := proofP_length N seed room H (nums l H) h
    have h2 := Nat.mul_le_mul_right N (nums_length l H)
    omega

/-- What is at hand: numbers, and their nodes. -/
abbrev Hand := List (Nat × List UInt8)
/-- One height up: what is at hand there, and the rest of the proof. -/
def climbed (N : Nat) (room : List UInt8) (z : Nat) : Hand → List UInt8 → Option (Hand × List UInt8)
  | [], p => some ([], p)
  | [(n, x)], p => if p.length < N then none else some ([(n / 2, asOneT N room z n x (p.take N))], p.drop N)
  | (n, x) :: (m, y) :: l, p =>
    if m = sib n then (climbed N room z l p).map fun r => ((n / 2, asOneT N room z n x y) :: r.1, r.2)
    else if p.length < N then none else (climbed N room z ((m, y) :: l) (p.drop N)).map fun r => ((n / 2, asOneT N room z n x (p.take N)) :: r.1, r.2)
def many (N : Nat) (room : List UInt8) : Nat → Nat → Hand → List UInt8 → List UInt8
  | 0, _, h, p => if p = [] then (h.map Prod.snd).headD [] else []
  | k + 1, z, h, p => match climbed N room z h p with
    | none => []
    | some r => many N room k (z + 1) r.1 r.2
def handOf (N : Nat) (seed room : List UInt8) (z : Nat) (l : List Nat) : Hand := l.map fun n => (n, node N seed room z n)
theorem take_node (N : Nat) (seed room : List UInt8) (z n : Nat) (q : List UInt8) (h : N ≤ 32) : (node N seed room z n ++ q).take N = node N seed room z n := by
  have := node_length N seed room z n h
  rw [List.take_append_of_le_length (by omega), List.take_of_length_le (by omega)]
theorem drop_node (N : Nat) (seed room : List UInt8) (z n : Nat) (q : List UInt8) (h : N ≤ 32) : (node N seed room z n ++ q).drop N = q := by
  have := node_length N seed room z n h
  rw [List.drop_append_of_le_length (by omega), List.drop_of_length_le (by omega), List.nil_append]
theorem climbed_hand (N : Nat) (seed room : List UInt8) (z : Nat) (h : N ≤ 32) (l : List Nat) (q : List UInt8) :
    climbed N room z (handOf N seed room z l) (proofP N seed room z l ++ q) = some (handOf N seed room (z + 1) (halves l), q) := by
  unfold proofP
  fun_induction halves l with
  | case1 => rfl
  | case2 n =>
    have hl := node_length N seed room z (sib n) h
    show climbed N room z [(n, _)] ((need [n]).flatMap _ ++ q) = _
    rw [climbed, need, List.flatMap_cons, List.flatMap_nil, List.append_nil, if_neg (by rw [List.length_append]; omega), take_node _ _ _ _ _ _ h, drop_node _ _ _ _ _ _ h, asOne_node]
    rfl
  | case3 n l ih =>
    show climbed N room z ((n, _) :: (sib n, _) :: handOf N seed room z l) _ = _
    rw [climbed, if_pos rfl, need, if_pos rfl, ih, asOne_node]
    rfl
  | case4 n m l hne ih =>
    have hl := node_length N seed room z (sib n) h
    show climbed N room z ((n, _) :: (m, _) :: handOf N seed room z l) _ = _
    rw [climbed, if_neg hne, need, if_neg hne, List.flatMap_cons, if_neg (by rw [List.length_append, List.length_append]; omega), List.append_assoc, take_node _ _ _ _ _ _ h, drop_node _ _ _ _ _ _ h, asOne_node]
    have e : (m, node N seed room z m) :: handOf N seed room z l = handOf N seed room z (m :: l) := rfl
    rw [e, ih]
    rfl
theorem upto_front (F : Nat → List UInt8) (k : Nat) : upto F (k + 1) = F 0 ++ upto (fun z => F (z + 1)) k := by
  induction k with
  | zero => simp [upto]
  | succ k ih => rw [upto, ih, upto, List.append_assoc]
theorem many_upto (N : Nat) (seed room : List UInt8) (h : N ≤ 32) (k : Nat) : ∀ (z : Nat) (l : List Nat), many N room k z (handOf N seed room z l) (upto (fun j => proofP N seed room (z + j) (nums l j)) k) = ((handOf N seed room (z + k) (nums l k)).map Prod.snd).headD [] := by
  induction k with
  | zero => intro z l; rfl
  | succ k ih =>
    intro z l
    rw [upto_front]
    show many N room (k + 1) z _ (proofP N seed room z l ++ _) = _
    rw [many, climbed_hand N seed room z h l]
    show many N room k (z + 1) (handOf N seed room (z + 1) (halves l)) _ = _
    have := ih (z + 1) (halves l)
    rw [nums_shift, show z + 1 + k = z + (k + 1) by omega] at this
    rw [← this]
    congr 1
    refine upto_congr _ _ k fun c _ => ?_
    rw [nums_shift, show z + (c + 1) = z + 1 + c by omega]
/-- Many leaves, with their proof, come to the root. -/
theorem many_proof (N H : Nat) (seed room : List UInt8) (l : List Nat) (hN : N ≤ 32) (hl : ∀ n ∈ l, n < 2 ^ H) (h0 : l ≠ []) :
    many N room H 0 (handOf N seed room 0 l) (proof N H seed room l) = node N seed room H 0 := by
  have h1 := many_upto N seed room hN H 0 l
  have e : (fun z => proofP N seed room z (nums l z)) = fun j => proofP N seed room (0 + j) (nums l j) := funext fun z => by rw [Nat.zero_add]
  unfold proof
  rw [e, h1, Nat.zero_add]
  have h2 := nums_lt l H hl H (Nat.le_refl _)
  rw [Nat.sub_self, Nat.pow_zero] at h2
  have h3 := nums_ne l h0 H
  match hn : nums l H, h3 with
  | n :: l', _ =>
    have := h2 n (by rw [hn]; simp)
    obtain rfl : n = 0 := by omega
    rfl
end Go.Proofs.YtdhipdoaefdfeaaGreatDoor.Grv

namespace Go.Proofs.YtdhipdoaefdfeaaGreatDoor.Grv
open Go.RowKit Mur Sha Chn
set_option maxRecDepth 100000

theorem pow_small (k : Nat) (h : k ≤ 62) : (2 : Int) ^ k ≤ 4611686018427387904 := by
  have h2 : 2 ^ k ≤ 2 ^ 62 := Nat.pow_le_pow_right (by omega) h
  have h3 : ((2 ^ k : Nat) : Int) ≤ ((2 ^ 62 : Nat) : Int) := Int.ofNat_le.2 h2
  rw [Int.natCast_pow] at h3
  exact h3
theorem pow_pos' (k : Nat) : (0 : Int) < 2 ^ k := Int.pow_pos (by omega)

theorem among_any (n : Int) (k : Nat) (hk : k ≤ 62) (w : World) :
    Calls Tryz.prog 79 #[.int .i64 n, .int .i64 (k : Int)] w fun e w' => e = .returned (.bool (decide (0 ≤ n ∧ n < 2 ^ k))) ∧ Below w.heap.size w w' := by
  have h1 := pow_small k hk
  have h2 := pow_pos' k
  have e : decide (0 ≤ n ∧ n < 2 ^ k) = (decide (0 ≤ n) && decide (n < 2 ^ k)) := by
    rw [Bool.eq_iff_iff]
    simp
  rw [e]
  clear e
  go_enter Tryz.func79, Tryz.ntmps79
  by_cases hn : 0 ≤ n
  · rw [decide_eq_true hn]
    go_wp2
    go_ret
    exact ⟨rfl, Below.refl _ _⟩
  · rw [decide_eq_false hn]
    go_wp2
    go_ret
    exact ⟨rfl, Below.refl _ _⟩

/-- lanes.High of a small number. -/
theorem num_small (n wd : Nat) (M : ByteArray) (w : World) (hn : n < 9223372036854775808) (hwd : wd ≤ 64) (hM : M = tx (num (n : Int) wd)) :
    Calls Tryz.prog 61 #[.int .u64 (n : Int), .int .i64 (wd : Int)] w fun e w' => e = .returned (.string M) ∧ Below w.heap.size w w' := by
  have hl : low64 (n : Int) = n := by unfold low64; omega
  have R1 := Lanes.high_any n (wd : Int) w (by omega) (by omega) (by omega)
  have ew : Lanes.widthOf (wd : Int) = wd := by unfold Lanes.widthOf; omega
  rw [ew] at R1
  rw [hM, num, hl]
  exact R1

theorem parts_five (a0 a1 a2 a3 a4 : ByteArray) (b : Nat) (D : ByteArray) (w : World) (hs : a0.size + a1.size + a2.size + a3.size + a4.size ≤ 1099511627776) (hD : D = tx (sha (parts [a0.data.toList, a1.data.toList, a2.data.toList, a3.data.toList, a4.data.toList]))) (hb : b < w.heap.size)
    (c0 : w.cell? ⟨b, 0, none⟩ = some (.string a0)) (c1 : w.cell? ⟨b, 1, none⟩ = some (.string a1)) (c2 : w.cell? ⟨b, 2, none⟩ = some (.string a2)) (c3 : w.cell? ⟨b, 3, none⟩ = some (.string a3)) (c4 : w.cell? ⟨b, 4, none⟩ = some (.string a4)) (hk : Consts w) :
    Calls Tryz.prog 78 #[.slice (some ⟨b, 0, none⟩) 5 5] w fun e w' => e = .returned (.string D) ∧ Below w.heap.size w w' := by
  rw [hD]
  exact parts_any [a0, a1, a2, a3, a4] b 0 5 w hb (by show 5 ≤ _; omega) (fun i hi => match i, hi with
    | 0, _ => c0
    | 1, _ => c1
    | 2, _ => c2
    | 3, _ => c3
    | 4, _ => c4)
    (by show 0 + (4 + a0.size) + (4 + a1.size) + (4 + a2.size) + (4 + a3.size) + (4 + a4.size) ≤ _; omega) hk

set_option maxHeartbeats 3200000 in
theorem asOne_any (N z n : Nat) (h : Int) (room x y V : ByteArray) (w : World) (hN : N ≤ 32) (hz : z ≤ 100) (hn : n ≤ 1000000) (hs : room.size + x.size + y.size ≤ 549755813888) (hV : V = tx (asOneT N room.data.toList z n x.data.toList y.data.toList)) (hk : Consts w) :
    Calls Tryz.prog 84 #[.agg #[.int .i64 (N : Int), .int .i64 h], .string room, .int .i64 (z : Int), .agg #[.int .i64 (n : Int), .string x], .string y] w fun e w' => e = .returned (.string V) ∧ Below w.heap.size w w' := by
  obtain ⟨M0, hM0⟩ : ∃ M, M = tx (num ((z + 1 : Nat) : Int) 1) := ⟨_, rfl⟩
  have hs0 : M0.size = 1 := by rw [hM0]; exact num_length _ _
  have R0 := Lib.hid (show ∀ u, Calls Tryz.prog 61 #[.int .u64 ((z : Int) + 1), .int .i64 1] u fun e w' => e = .returned (.string M0) ∧ Below u.heap.size u w' from fun u => num_small (z + 1) 1 M0 u (by omega) (by omega) hM0)
  obtain ⟨M1, hM1⟩ : ∃ M, M = tx (num ((n / 2 : Nat) : Int) 4) := ⟨_, rfl⟩
  have hs1 : M1.size = 4 := by rw [hM1]; exact num_length _ _
  have R1 := Lib.hid (show ∀ u, Calls Tryz.prog 61 #[.int .u64 ((n / 2 : Nat) : Int), .int .i64 4] u fun e w' => e = .returned (.string M1) ∧ Below u.heap.size u w' from fun u => num_small (n / 2) 4 M1 u (by omega) (by omega) hM1)
  obtain ⟨B, hB⟩ : ∃ B, B = if n % 2 = 1 then y ++ x else x ++ y := ⟨_, rfl⟩
  have hBs : B.size ≤ x.size + y.size := by rw [hB]; split <;> rw [ByteArray.size_append] <;> omega
  have hBl : B.data.toList = if n % 2 = 1 then y.data.toList ++ x.data.toList else x.data.toList ++ y.data.toList := by rw [hB]; split <;> simp
  obtain ⟨D, hD⟩ : ∃ D, D = tx (sha (parts [(⟨#[110, 111, 100, 101]⟩ : ByteArray).data.toList, room.data.toList, M0.data.toList, M1.data.toList, B.data.toList])) := ⟨_, rfl⟩
  have hDs : D.size = 32 := by rw [hD]; exact sha_length _
  have hcut : D.extract 0 N = V := cut_take D V N _ hD (by rw [hV, hM0, hM1, hBl]; rfl)
  have hN1 : (N : Int) ≤ 32 := by omega
  have hN2 : (N : Int) ≤ D.size := by omega
  have hN3 : (N : Int).toNat = N := by omega
  have RV := Lib.hid (show ∀ (b0 : Nat) (u : World), b0 < u.heap.size → u.cell? ⟨b0, 0, none⟩ = some (.string ⟨#[110, 111, 100, 101]⟩) → u.cell? ⟨b0, 1, none⟩ = some (.string room) → u.cell? ⟨b0, 2, none⟩ = some (.string M0) → u.cell? ⟨b0, 3, none⟩ = some (.string M1) → u.cell? ⟨b0, 4, none⟩ = some (.string B) → Consts u → Calls Tryz.prog 78 #[.slice (some ⟨b0, 0, none⟩) 5 5] u fun e w' => e = .returned (.string D) ∧ Below u.heap.size u w' from
    fun b0 u h0 d0 d1 d2 d3 d4 hu => parts_five ⟨#[110, 111, 100, 101]⟩ room M0 M1 B b0 D u (by show 4 + room.size + M0.size + M1.size + B.size ≤ _; omega) hD h0 d0 d1 d2 d3 d4 hu)
  have hxy : x.size + y.size ≤ 549755813888 := by omega
  clear hV hN hD hDs hM0 hs0 hM1 hs1 hBs hBl hs
  have hK : Keep w 1 ((w.alloc (.cells #[.int .i64 (N : Int), .int .i64 h] 26)).alloc (.cells #[.int .i64 (n : Int), .string x] 142)) := ⟨by simp, hk.below hk.1 ((((Below.refl w.heap.size w).alloc (Nat.le_refl _) _).alloc (by simp) _)), (((Below.refl w.heap.size w).alloc (Nat.le_refl _) _).alloc (by simp) _)⟩
  have hc0 : ((w.alloc (.cells #[.int .i64 (N : Int), .int .i64 h] 26)).alloc (.cells #[.int .i64 (n : Int), .string x] 142)).cell? ⟨w.heap.size, 0, none⟩ = some (.int .i64 (N : Int)) := by first | (simp; done) | (rw [World.cell?_alloc_lt _ _ _ (by simp)]; simp)
  have hc2 : ((w.alloc (.cells #[.int .i64 (N : Int), .int .i64 h] 26)).alloc (.cells #[.int .i64 (n : Int), .string x] 142)).cell? ⟨w.heap.size + 1, 0, none⟩ = some (.int .i64 (n : Int)) := by first | (simp; done) | (rw [World.cell?_alloc_lt _ _ _ (by simp)]; simp)
  have hc3 : ((w.alloc (.cells #[.int .i64 (N : Int), .int .i64 h] 26)).alloc (.cells #[.int .i64 (n : Int), .string x] 142)).cell? ⟨w.heap.size + 1, 1, none⟩ = some (.string x) := by first | (simp; done) | (rw [World.cell?_alloc_lt _ _ _ (by simp)]; simp)
  clear hk
  have hand : bits .and .i64 (n : Int) 1 = ((n % 2 : Nat) : Int) := and_one n (by omega)
  go_enter Tryz.func84, Tryz.ntmps84
  go_upto_region 1 with (fail)
  generalize ((w.alloc (.cells #[.int .i64 (N : Int), .int .i64 h] 26)).alloc (.cells #[.int .i64 (n : Int), .string x] 142)) = wz at *
  have HC := Lib.hid (fun (u : World) (q : Below wz.heap.size wz u) => (⟨(q.cell (p := ⟨w.heap.size, 0, none⟩) (show w.heap.size < wz.heap.size from Nat.lt_of_le_of_lt (Nat.le_add_right _ _) hK.room)).trans hc0, (q.cell (p := ⟨w.heap.size + 1, 0, none⟩) hK.room).trans hc2, hK.next q⟩ : u.cell? ⟨w.heap.size, 0, none⟩ = some (.int .i64 (N : Int)) ∧ u.cell? ⟨w.heap.size + 1, 0, none⟩ = some (.int .i64 (n : Int)) ∧ Keep w 1 u))
  clear hK hc0
  have HX := Lib.hid hxy
  by_cases ho : n % 2 = 1
  rw [if_pos ho] at hB
  have he : (((n % 2 : Nat) : Int) == 1) = true := by rw [ho]; rfl
  go_upto_region 4 with (fail)
  rotate_left
  rw [if_neg ho] at hB
  have he : (((n % 2 : Nat) : Int) == 1) = false := by rw [show n % 2 = 0 by omega]; rfl
  go_upto_region 4 with (fail)
  all_goals
    rw [← hB]
    have HB := Lib.hid hB
    clear hB hand hc2 hc3 he hxy ho
    have hw0 : IntKind.i64.wrap ((z : Int) + 1) = (z : Int) + 1 := by rw [IntKind.wrap_i64]; omega
    have hw1 : IntKind.u64.wrap ((z : Int) + 1) = (z : Int) + 1 := by rw [IntKind.wrap_u64]; omega
    have hw2 : IntKind.u64.wrap ((n : Int) / 2) = (n : Int) / 2 := by rw [IntKind.wrap_u64]; omega
    refine Steady.region 10 (by kernel_rfl) (by kernel_rfl) (fun u => Below wz.heap.size wz u) ((Below.refl _ _).drew) ?_
    simp only [List.take_succ_cons, List.take_zero, List.drop_succ_cons, List.drop_zero]
    refine Steady.take ?_ rfl (by intro u hu; go_simp; with_reducible rfl) ?_
    simp only [Act.put, List.setIfInBounds_toArray, List.set_cons_zero, List.set_cons_succ]
    refine Steady.take ?_ rfl (by intro u hu; go_simp; with_reducible rfl) ?_
    simp only [Act.put, List.setIfInBounds_toArray, List.set_cons_zero, List.set_cons_succ]
    refine Steady.take ?_ rfl (by intro u hu; go_simp; with_reducible rfl) ?_
    simp only [Act.put, List.setIfInBounds_toArray, List.set_cons_zero, List.set_cons_succ]
    refine Steady.call _ _ _ rfl ?_ (Steady.kept R0.out) ?_
    · intro u
      go_simp
    simp only [Act.put, List.setIfInBounds_toArray, List.set_cons_zero, List.set_cons_succ]
    refine Steady.take ?_ rfl (by intro u hu; go_simp; with_reducible rfl) ?_
    simp only [Act.put, List.setIfInBounds_toArray, List.set_cons_zero, List.set_cons_succ]
    refine Steady.take ?_ rfl (by intro u hu; obtain ⟨c0, c2, -⟩ := HC.out u hu; go_simp; with_reducible rfl) ?_
    simp only [Act.put, List.setIfInBounds_toArray, List.set_cons_zero, List.set_cons_succ]
    refine Steady.take ?_ rfl (by intro u hu; go_simp; with_reducible rfl) ?_
    simp only [Act.put, List.setIfInBounds_toArray, List.set_cons_zero, List.set_cons_succ]
    refine Steady.take ?_ rfl (by intro u hu; go_simp; with_reducible rfl) ?_
    simp only [Act.put, List.setIfInBounds_toArray, List.set_cons_zero, List.set_cons_succ]
    refine Steady.call _ _ _ rfl ?_ (Steady.kept R1.out) ?_
    · intro u
      go_simp
    simp only [Act.put, List.setIfInBounds_toArray, List.set_cons_zero, List.set_cons_succ]
    refine Steady.take ?_ rfl (by intro u hu; go_simp; with_reducible rfl) ?_
    simp only [Act.put, List.setIfInBounds_toArray, List.set_cons_zero, List.set_cons_succ]
    refine Steady.nil ?_
    intro w5 hb5
    obtain ⟨c0, c2, hk5⟩ := HC.out _ hb5
    clear c2 hw0 hw1 hw2
    go_upto_region 5 with (fail)
    have held_next : ∀ {u u' : World}, (u.cell? ⟨w.heap.size, 0, none⟩ = some (.int .i64 (N : Int)) ∧ Keep w 1 u) → Below u.heap.size u u' → (u'.cell? ⟨w.heap.size, 0, none⟩ = some (.int .i64 (N : Int)) ∧ Keep w 1 u') := by
      rintro u u' ⟨e0, kk⟩ q
      have hr := kk.room
      have hr0 : w.heap.size < u.heap.size := by omega
      exact ⟨(q.cell (p := ⟨w.heap.size, 0, none⟩) (by assumption)).trans e0, kk.next q⟩
    have held_consts : ∀ {u : World}, (u.cell? ⟨w.heap.size, 0, none⟩ = some (.int .i64 (N : Int)) ∧ Keep w 1 u) → Consts u := by
      rintro u ⟨-, kk⟩
      exact kk.consts
    have held_below : ∀ {u : World}, (u.cell? ⟨w.heap.size, 0, none⟩ = some (.int .i64 (N : Int)) ∧ Keep w 1 u) → Below w.heap.size w u := by
      rintro u ⟨-, kk⟩
      exact kk.below
    have HS := Lib.hid (show w5.drew.cell? ⟨w.heap.size, 0, none⟩ = some (.int .i64 (N : Int)) ∧ Keep w 1 w5.drew from ⟨c0, hk5.drew⟩)
    clear hk5 c0 hb5
    go_region_held3 (fun w' => w'.cell? ⟨w.heap.size, 0, none⟩ = some (.int .i64 (N : Int)) ∧ Keep w 1 w')
      (first | exact HS.out | assumption | exact held_next (by assumption) (by assumption) | exact held_next (by assumption) ((Below.refl _ _).alloc (Nat.le_refl _) _))
      (first
        | (go_at_call 78; refine Calls.mono (RV.out _ _ (by first | (simp; done) | (simp; omega)) (by first | (simp; done) | (rw [World.cell?_alloc_lt _ _ _ (by simp)]; simp; done)) (by first | (simp; done) | (rw [World.cell?_alloc_lt _ _ _ (by simp)]; simp; done)) (by first | (simp; done) | (rw [World.cell?_alloc_lt _ _ _ (by simp)]; simp; done)) (by first | (simp; done) | (rw [World.cell?_alloc_lt _ _ _ (by simp)]; simp; done)) (by first | (simp; done) | (rw [World.cell?_alloc_lt _ _ _ (by simp)]; simp; done)) (held_consts (by assumption))) ?_; rintro e w' ⟨rfl, hb⟩))
    all_goals
      go_wp2
      go_ret
      exact ⟨rfl, held_below (by assumption)⟩
end Go.Proofs.YtdhipdoaefdfeaaGreatDoor.Grv

namespace Go.Proofs.YtdhipdoaefdfeaaGreatDoor.Grv
open Go.RowKit Mur Sha Chn
set_option maxRecDepth 100000

/-- A row of m texts of which the first k are there. -/
def rowK (F : Nat → List UInt8) (m k : Nat) : List ByteArray := (List.range m).map fun i => if i < k then tx (F i) else ⟨#[]⟩
theorem rowK_length (F : Nat → List UInt8) (m k : Nat) : (rowK F m k).length = m := by simp [rowK]
theorem rowK_at (F : Nat → List UInt8) (m k i : Nat) (h : i < m) (hk : i < k) : (rowK F m k)[i]? = some (tx (F i)) := by simp [rowK, h, hk]
theorem rowK_zero (F : Nat → List UInt8) (m : Nat) : Strs.strsV (rowK F m 0) = List.replicate m (.string ⟨#[]⟩) := by
  apply List.ext_getElem (by simp [rowK, Strs.strsV])
  intro i h1 h2
  simp [rowK, Strs.strsV]
theorem rowK_set (F : Nat → List UInt8) (m k : Nat) : (Strs.strsV (rowK F m k)).set k (.string (tx (F k))) = Strs.strsV (rowK F m (k + 1)) := by
  apply List.ext_getElem (by simp [rowK, Strs.strsV])
  intro i h1 h2
  rw [List.getElem_set]
  by_cases e : k = i
  · subst e
    simp [rowK, Strs.strsV]
  · simp only [e, if_false, rowK, Strs.strsV, List.getElem_map, List.getElem_range]
    by_cases h : i < k
    · rw [if_pos h, if_pos (by omega)]
    · rw [if_neg h, if_neg (by omega)]
theorem made_strs (w : World) (n : Nat) : Row (w.alloc (.cells (madeCells #[.string ⟨#[]⟩] n) 9)) w.heap.size (List.replicate n (.string ⟨#[]⟩)) := by
  refine ⟨by simp, fun i v hv => ⟨?_, by simp⟩⟩
  rw [World.cell?_alloc_new]
  rw [← toList_madeCells_one] at hv
  simpa using hv
theorem row_cell {w : World} {g : Nat} {l : List ByteArray} (h : Row w g (Strs.strsV l)) {i : Nat} {x : ByteArray} (hi : l[i]? = some x) : w.cell? ⟨g, i, none⟩ = some (.string x) := h.cell (Strs.strsV_at hi)

set_option maxHeartbeats 3200000 in
theorem paired_any (N z f m : Nat) (h : Int) (room : ByteArray) (b cap : Nat) (G : Nat → List UInt8) (w : World) (hN : N ≤ 32) (hz : z ≤ 100) (hf : f + 2 * m ≤ 1000000) (hs : room.size ≤ 68719476736) (hG : ∀ i, i < 2 * m → (G i).length ≤ 1000000) (hb : b < w.heap.size)
    (hc : ∀ i, i < 2 * m → w.cell? ⟨b, i, none⟩ = some (.string (tx (G i)))) (F : Nat → List UInt8) (hF : ∀ i, i < m → F i = asOneT N room.data.toList z (f + 2 * i) (G (2 * i)) (G (2 * i + 1))) (hk : Consts w) :
    Calls Tryz.prog 86 #[.agg #[.int .i64 (N : Int), .int .i64 h], .string room, .int .i64 (z : Int), .int .i64 (f : Int), .slice (some ⟨b, 0, none⟩) (2 * m) cap] w fun e w' => ∃ g, e = .returned (.slice (some ⟨g, 0, none⟩) m m) ∧ w.heap.size ≤ g ∧ Row w' g (Strs.strsV (rowK F m m)) ∧ Below w.heap.size w w' := by
  have RA := Lib.hid (fun (i : Nat) (hi : i < m) (x y V : ByteArray) (hx : x = tx (G (2 * i))) (hy : y = tx (G (2 * i + 1))) (hV : V = tx (F i)) (u : World) (hu : Consts u) =>
    asOne_any N z (f + 2 * i) h room x y V u hN hz (by omega) (by
      have h1 := hG (2 * i) (by omega)
      have h2 := hG (2 * i + 1) (by omega)
      have e1 : x.size = (G (2 * i)).length := by rw [hx]; rfl
      have e2 : y.size = (G (2 * i + 1)).length := by rw [hy]; rfl
      omega) (by rw [hV, hF i hi, hx, hy]) hu)
  have HCE := Lib.hid hc
  have hm0 : m ≤ 500000 := by omega
  have HFB := Lib.hid hf
  obtain ⟨M, hM⟩ : ∃ M, M = 2 * m := ⟨_, rfl⟩
  have HM := Lib.hid hM
  have hq : (M : Int) / 2 = (m : Int) := by omega
  rw [← hM]
  clear hc hG hF hf hM hs
  have hmk : ∀ u : World, (Instr.makeSlice 35 (.int .i64 (m : Int)) (.int .i64 (m : Int))).run Tryz.prog u = .ok (.slice (some ⟨u.heap.size, 0, none⟩) m m) (u.alloc (.cells (madeCells #[.string ⟨#[]⟩] m) 9)) := fun u => Strs.make_str u m (by omega)
  go_enter Tryz.func86, Tryz.ntmps86
  go_upto_region 2 with (fail)
  clear hmk hq
  have hB0 := ((Below.refl w.heap.size w).alloc (Nat.le_refl _) (.cells #[.int .i64 (N : Int), .int .i64 h] 26)).alloc (by simp) (.cells (madeCells #[.string ⟨#[]⟩] m) 9)
  have hc0 : ((w.alloc (.cells #[.int .i64 (N : Int), .int .i64 h] 26)).alloc (.cells (madeCells #[.string ⟨#[]⟩] m) 9)).cell? ⟨w.heap.size, 0, none⟩ = some (.int .i64 (N : Int)) := by rw [World.cell?_alloc_lt _ _ _ (by simp)]; simp
  have hc1 : ((w.alloc (.cells #[.int .i64 (N : Int), .int .i64 h] 26)).alloc (.cells (madeCells #[.string ⟨#[]⟩] m) 9)).cell? ⟨w.heap.size, 1, none⟩ = some (.int .i64 h) := by rw [World.cell?_alloc_lt _ _ _ (by simp)]; simp
  have hrow0 := made_strs (w.alloc (.cells #[.int .i64 (N : Int), .int .i64 h] 26)) m
  rw [← rowK_zero F m] at hrow0
  have hlt : w.heap.size + 1 < ((w.alloc (.cells #[.int .i64 (N : Int), .int .i64 h] 26)).alloc (.cells (madeCells #[.string ⟨#[]⟩] m) 9)).heap.size := by simp
  have hge : (w.alloc (.cells #[.int .i64 (N : Int), .int .i64 h] 26)).heap.size = w.heap.size + 1 := by simp
  simp only [hge] at hrow0 ⊢
  clear hge
  generalize (w.alloc (.cells #[.int .i64 (N : Int), .int .i64 h] 26)).alloc (.cells (madeCells #[.string ⟨#[]⟩] m) 9) = wz at *
  have hl0 : w.heap.size < wz.heap.size := by omega
  have HC := Lib.hid (fun (u : World) (q : Below (w.heap.size + 1) wz u) => (⟨(q.cell (p := ⟨w.heap.size, 0, none⟩) (Nat.lt_succ_self _)).trans hc0, (q.cell (p := ⟨w.heap.size, 1, none⟩) (Nat.lt_succ_self _)).trans hc1, hk.below hk.1 (hB0.trans (q.mono (Nat.le_succ _))), fun i hi => ((hB0.trans (q.mono (Nat.le_succ _))).cell (p := ⟨b, i, none⟩) hb).trans (HCE.out i hi)⟩ :
    u.cell? ⟨w.heap.size, 0, none⟩ = some (.int .i64 (N : Int)) ∧ u.cell? ⟨w.heap.size, 1, none⟩ = some (.int .i64 h) ∧ Consts u ∧ ∀ i, i < 2 * m → u.cell? ⟨b, i, none⟩ = some (.string (tx (G i)))))
  have HB0 := Lib.hid hB0
  have HROW0 := Lib.hid hrow0
  have HLT := Lib.hid hlt
  clear hB0 hc0 hc1 hk hb HCE hrow0 hl0 hlt
  go_wp2_with fail
  go_loopw [12, 19] (fun _ i wr => ∃ k : Nat, k ≤ m ∧ i = .int .i64 k ∧ Row wr (w.heap.size + 1) (Strs.strsV (rowK F m k)) ∧ Below (w.heap.size + 1) wz wr) (fun _ i _ => m - (intOf i).toNat)
  case atStart => exact ⟨0, by omega, rfl, HROW0.out, Below.refl _ _⟩
  case round =>
    clear HROW0
    obtain ⟨k, hk, rfl, hrow, hbel⟩ := hrel
    have HROW := Lib.hid hrow
    have HW := Lib.hid hbel
    clear hrow hbel
    by_cases hlt : k < m
    · obtain ⟨j, hj⟩ : ∃ j, j = 2 * k := ⟨_, rfl⟩
      obtain ⟨j1, hj1⟩ : ∃ j1, j1 = j + 1 := ⟨_, rfl⟩
      obtain ⟨n, hn⟩ : ∃ n, n = f + j := ⟨_, rfl⟩
      obtain ⟨x, hx⟩ : ∃ x, x = tx (G j) := ⟨_, rfl⟩
      obtain ⟨y, hy⟩ : ∃ y, y = tx (G j1) := ⟨_, rfl⟩
      obtain ⟨V, hV⟩ : ∃ V, V = tx (F k) := ⟨_, rfl⟩
      have RA1 := RA.out k hlt x y V (by rw [hx, hj]) (by rw [hy, hj1, hj]) hV
      rw [← hj, ← hn] at RA1
      have hst : (Strs.strsV (rowK F m k)).set k (.string V) = Strs.strsV (rowK F m (k + 1)) := by rw [hV]; exact rowK_set F m k
      have hM := HM.out
      have hFB := HFB.out
      have hw1 : IntKind.i64.wrap (2 * (k : Int)) = (j : Int) := by rw [IntKind.wrap_i64]; omega
      have hw2 : IntKind.i64.wrap ((f : Int) + (j : Int)) = (n : Int) := by rw [IntKind.wrap_i64]; omega
      have hw3 : IntKind.i64.wrap ((j : Int) + 1) = (j1 : Int) := by rw [IntKind.wrap_i64]; omega
      have hl1 : (j : Int) < (M : Int) := by omega
      have hl2 : (j1 : Int) < (M : Int) := by omega
      have hg1 : (0 : Int) ≤ (j : Int) := by omega
      have hg2 : (0 : Int) ≤ (j1 : Int) := by omega
      have hli : (k : Int) < (m : Int) := by omega
      have hCE := fun (u : World) (q : Below wr.heap.size wr u) => HC.out u (HW.out.trans (q.mono (by have := HW.out.size; have := HROW.out.lt; omega)))
      have HC1 := Lib.hid (fun (u : World) (q : Below wr.heap.size wr u) => (⟨(hCE u q).1, (hCE u q).2.1⟩ : u.cell? ⟨w.heap.size, 0, none⟩ = some (.int .i64 (N : Int)) ∧ u.cell? ⟨w.heap.size, 1, none⟩ = some (.int .i64 h)))
      have HCX := Lib.hid (fun (u : World) (q : Below wr.heap.size wr u) => show u.cell? ⟨b, j, none⟩ = some (.string x) from by rw [hx]; exact (hCE u q).2.2.2 j (by omega))
      have HCY := Lib.hid (fun (u : World) (q : Below wr.heap.size wr u) => show u.cell? ⟨b, j1, none⟩ = some (.string y) from by rw [hy]; exact (hCE u q).2.2.2 j1 (by omega))
      have RA2 := Lib.hid (fun (u : World) (q : Below wr.heap.size wr u) => RA1 u (hCE u q).2.2.1)
      have HST := Lib.hid hst
      have HRL := Lib.hid HROW.out.lt
      clear hj hj1 hn hx hy hV RA1 hst hM hFB hCE
      go_upto_region 5 with (fail)
      refine Steady.region 23 (by kernel_rfl) (by kernel_rfl) (fun u => Below wr.heap.size wr u) ((Below.refl _ _).drew) ?_
      simp only [List.take_succ_cons, List.take_zero, List.drop_succ_cons, List.drop_zero]
      refine Steady.take ?_ rfl (by intro u hu; go_simp; with_reducible rfl) ?_
      simp only [Act.put, List.setIfInBounds_toArray, List.set_cons_zero, List.set_cons_succ]
      refine Steady.take ?_ rfl (by intro u hu; go_simp; with_reducible rfl) ?_
      simp only [Act.put, List.setIfInBounds_toArray, List.set_cons_zero, List.set_cons_succ]
      refine Steady.take ?_ rfl (by intro u hu; obtain ⟨c0, c1⟩ := HC1.out u hu; go_simp; with_reducible rfl) ?_
      simp only [Act.put, List.setIfInBounds_toArray, List.set_cons_zero, List.set_cons_succ]
      refine Steady.take ?_ rfl (by intro u hu; go_simp; with_reducible rfl) ?_
      simp only [Act.put, List.setIfInBounds_toArray, List.set_cons_zero, List.set_cons_succ]
      refine Steady.take ?_ rfl (by intro u hu; go_simp; with_reducible rfl) ?_
      simp only [Act.put, List.setIfInBounds_toArray, List.set_cons_zero, List.set_cons_succ]
      refine Steady.take ?_ rfl (by intro u hu; go_simp; with_reducible rfl) ?_
      simp only [Act.put, List.setIfInBounds_toArray, List.set_cons_zero, List.set_cons_succ]
      refine Steady.take ?_ rfl (by intro u hu; go_simp; with_reducible rfl) ?_
      simp only [Act.put, List.setIfInBounds_toArray, List.set_cons_zero, List.set_cons_succ]
      refine Steady.take ?_ rfl (by intro u hu; go_simp; with_reducible rfl) ?_
      simp only [Act.put, List.setIfInBounds_toArray, List.set_cons_zero, List.set_cons_succ]
      refine Steady.take ?_ rfl (by intro u hu; go_simp; with_reducible rfl) ?_
      simp only [Act.put, List.setIfInBounds_toArray, List.set_cons_zero, List.set_cons_succ]
      refine Steady.take ?_ rfl (by intro u hu; go_simp; with_reducible rfl) ?_
      simp only [Act.put, List.setIfInBounds_toArray, List.set_cons_zero, List.set_cons_succ]
      refine Steady.take ?_ rfl (by intro u hu; go_simp; with_reducible rfl) ?_
      simp only [Act.put, List.setIfInBounds_toArray, List.set_cons_zero, List.set_cons_succ]
      refine Steady.take ?_ rfl (by intro u hu; go_simp; with_reducible rfl) ?_
      simp only [Act.put, List.setIfInBounds_toArray, List.set_cons_zero, List.set_cons_succ]
      refine Steady.take ?_ rfl (by intro u hu; go_simp; with_reducible rfl) ?_
      simp only [Act.put, List.setIfInBounds_toArray, List.set_cons_zero, List.set_cons_succ]
      refine Steady.take ?_ rfl (by intro u hu; have cx := HCX.out u hu; go_simp; with_reducible rfl) ?_
      simp only [Act.put, List.setIfInBounds_toArray, List.set_cons_zero, List.set_cons_succ]
      refine Steady.take ?_ rfl (by intro u hu; go_simp; with_reducible rfl) ?_
      simp only [Act.put, List.setIfInBounds_toArray, List.set_cons_zero, List.set_cons_succ]
      refine Steady.take ?_ rfl (by intro u hu; go_simp; with_reducible rfl) ?_
      simp only [Act.put, List.setIfInBounds_toArray, List.set_cons_zero, List.set_cons_succ]
      refine Steady.take ?_ rfl (by intro u hu; go_simp; with_reducible rfl) ?_
      simp only [Act.put, List.setIfInBounds_toArray, List.set_cons_zero, List.set_cons_succ]
      refine Steady.take ?_ rfl (by intro u hu; go_simp; with_reducible rfl) ?_
      simp only [Act.put, List.setIfInBounds_toArray, List.set_cons_zero, List.set_cons_succ]
      refine Steady.take ?_ rfl (by intro u hu; go_simp; with_reducible rfl) ?_
      simp only [Act.put, List.setIfInBounds_toArray, List.set_cons_zero, List.set_cons_succ]
      refine Steady.take ?_ rfl (by intro u hu; go_simp; with_reducible rfl) ?_
      simp only [Act.put, List.setIfInBounds_toArray, List.set_cons_zero, List.set_cons_succ]
      refine Steady.take ?_ rfl (by intro u hu; have cy := HCY.out u hu; go_simp; with_reducible rfl) ?_
      simp only [Act.put, List.setIfInBounds_toArray, List.set_cons_zero, List.set_cons_succ]
      refine Steady.call _ _ _ rfl ?_ (keptIf RA2.out) ?_
      · intro u
        go_simp
      simp only [Act.put, List.setIfInBounds_toArray, List.set_cons_zero, List.set_cons_succ]
      refine Steady.take ?_ rfl (by intro u hu; go_simp; with_reducible rfl) ?_
      simp only [Act.put, List.setIfInBounds_toArray, List.set_cons_zero, List.set_cons_succ]
      refine Steady.nil ?_
      intro w5 hb5
      have hrow5 := HROW.out.below HRL.out hb5
      have hcs := hrow5.cell (i := k) (v := .string (if k < k then tx (F k) else ⟨#[]⟩)) (by simp [rowK, Strs.strsV, hlt])
      have hfs := hrow5.free (i := k) (by rw [Strs.strsV_length, rowK_length]; exact hlt)
      have hset := hrow5.set k (.string V)
      rw [HST.out] at hset
      have HS := Lib.hid hset
      have HW5 := Lib.hid ((HW.out.trans (hb5.mono (Nat.le_of_lt HRL.out))).setCell (p := ⟨w.heap.size + 1, k, none⟩) (Nat.le_refl _) (.string V))
      clear hrow5 hset hb5
      go_wp2
      go_roundw
      case rel => exact ⟨k + 1, by omega, by go_num, HS.out, HW5.out⟩
      case measure => simp [intOf]; omega
    · obtain rfl : k = m := by omega
      go_wp2
      go_ret
      exact ⟨w.heap.size + 1, rfl, by omega, HROW.out, HB0.out.trans (HW.out.mono (Nat.le_succ _))⟩
end Go.Proofs.YtdhipdoaefdfeaaGreatDoor.Grv

namespace Go.Proofs.YtdhipdoaefdfeaaGreatDoor.Grv
open Go.RowKit Mur Sha Chn
set_option maxRecDepth 100000

theorem pow_256 (k : Nat) (h : k ≤ 8) : 2 ^ k ≤ 256 := Nat.pow_le_pow_right (by omega) h
theorem place_lt (a z H : Nat) (hz : z ≤ H) (hH : H ≤ 8) (ha : a < 2 ^ (H - z)) : a * 2 ^ z + 2 ^ z ≤ 256 := by
  have h1 : (a + 1) * 2 ^ z ≤ 2 ^ (H - z) * 2 ^ z := Nat.mul_le_mul_right _ ha
  rw [← Nat.pow_add, show H - z + z = H by omega, Nat.succ_mul] at h1
  exact Nat.le_trans h1 (pow_256 H hH)
theorem shift_place (a z i : Nat) (hi : i ≤ z) : a * 2 ^ z / 2 ^ i = a * 2 ^ (z - i) := by
  rw [show z = (z - i) + i by omega, Nat.pow_add, ← Nat.mul_assoc, Nat.mul_div_cancel _ (Nat.two_pow_pos i), show z - i + i - i = z - i by omega]
theorem node_up (N : Nat) (seed room : List UInt8) (i c j : Nat) : node N seed room (i + 1) (c + j) = asOneT N room i (2 * c + 2 * j) (node N seed room i (2 * c + 2 * j)) (node N seed room i (2 * c + (2 * j + 1))) := by
  have h := asOne_node N seed room i (2 * c + 2 * j)
  have e : sib (2 * c + 2 * j) = 2 * c + (2 * j + 1) := by unfold sib; rw [if_neg (by omega)]; omega
  rw [e, show (2 * c + 2 * j) / 2 = c + j by omega] at h
  exact h.symm

set_option maxHeartbeats 3200000 in
theorem node_any (N H z a : Nat) (seed room V : ByteArray) (w : World) (hr : Right (N : Int) (H : Int)) (hz : z ≤ H) (ha : a < 2 ^ (H - z)) (hs : seed.size + room.size ≤ 34359738368) (hV : V = tx (node N seed.data.toList room.data.toList z a)) (hk : Consts w) :
    Calls Tryz.prog 68 #[.agg #[.int .i64 (N : Int), .int .i64 (H : Int)], .string seed, .string room, .agg #[.int .i64 (z : Int), .int .i64 (a : Int)]] w fun e w' => e = .returned (.string V) ∧ Below w.heap.size w w' := by
  have hN : N ≤ 32 := by have := hr.2.1; omega
  have hH : H ≤ 8 := by have := hr.2.2.2; omega
  have R1 := Lib.hid (fun u => right_yes N H hr u)
  have R2 := Lib.hid (show ∀ u, Calls Tryz.prog 79 #[.int .i64 (a : Int), .int .i64 ((H : Int) - (z : Int))] u fun e w' => e = .returned (.bool true) ∧ Below u.heap.size u w' from fun u => by
    have h := among_any (a : Int) (H - z) (by omega) u
    have e1 : ((H - z : Nat) : Int) = (H : Int) - (z : Int) := by omega
    have e2 : decide (0 ≤ (a : Int) ∧ (a : Int) < 2 ^ (H - z)) = true := by
      have h2 : ((a : Nat) : Int) < ((2 ^ (H - z) : Nat) : Int) := Int.ofNat_lt.2 ha
      rw [Int.natCast_pow] at h2
      simp only [decide_eq_true_eq]
      exact ⟨by omega, h2⟩
    rw [e1, e2] at h
    exact h)
  have RL := Lib.hid (fun (i : Nat) (V : ByteArray) (u : World) (hV : V = tx (leafOf N seed.data.toList room.data.toList (i : Int))) (hu : Consts u) => leaf_any N H seed room (i : Int) V u hr (by omega) hV hu)
  have RP := Lib.hid (fun (i f m : Nat) (b cap : Nat) (G F : Nat → List UInt8) (u : World) (hi : i ≤ 100) (hf : f + 2 * m ≤ 1000000) (hG : ∀ j, j < 2 * m → (G j).length ≤ 1000000) (hb : b < u.heap.size) (hc : ∀ j, j < 2 * m → u.cell? ⟨b, j, none⟩ = some (.string (tx (G j)))) (hF : ∀ j, j < m → F j = asOneT N room.data.toList i (f + 2 * j) (G (2 * j)) (G (2 * j + 1))) (hu : Consts u) =>
    paired_any N i f m H room b cap G u hN hi hf (by omega) hG hb hc F hF hu)
  have hpl := place_lt a z H hz hH ha
  obtain ⟨p, hp⟩ : ∃ p, p = 2 ^ z := ⟨_, rfl⟩
  obtain ⟨f, hf⟩ : ∃ f, f = a * p := ⟨_, rfl⟩
  rw [← hp, ← hf] at hpl
  have hpz : (2 : Int) ^ z = (p : Int) := by rw [hp, Int.natCast_pow]; rfl
  have hfw : IntKind.i64.wrap ((a : Int) * (p : Int)) = (f : Int) := by rw [hf, IntKind.wrap_i64, ← Int.natCast_mul]; omega
  have hsub : IntKind.i64.wrap ((H : Int) - (z : Int)) = (H : Int) - (z : Int) := by rw [IntKind.wrap_i64]; omega
  have hd1 : decide ((z : Int) < 0) = false := by simp
  have hd2 : decide (H < z) = false := by simp; omega
  have hl := fun i j => Nat.le_of_eq (node_length N seed.data.toList room.data.toList i j hN)
  have HP := Lib.hid hp
  have HF := Lib.hid hf
  have HV := Lib.hid hV
  have HZ := Lib.hid hz
  have HHL := Lib.hid hl
  have hz8 : z ≤ 8 := by omega
  clear hr hs hV hp hf ha hl
  have hmk : ∀ u : World, (Instr.makeSlice 35 (.int .i64 (p : Int)) (.int .i64 (p : Int))).run Tryz.prog u = .ok (.slice (some ⟨u.heap.size, 0, none⟩) p p) (u.alloc (.cells (madeCells #[.string ⟨#[]⟩] p) 9)) := fun u => Strs.make_str u p (by omega)
  have hB0 := ((Below.refl w.heap.size w).alloc (Nat.le_refl _) (.cells #[.int .i64 (N : Int), .int .i64 (H : Int)] 26)).alloc (by simp) (.cells #[.int .i64 (z : Int), .int .i64 (a : Int)] 120)
  have hc0 : ((w.alloc (.cells #[.int .i64 (N : Int), .int .i64 (H : Int)] 26)).alloc (.cells #[.int .i64 (z : Int), .int .i64 (a : Int)] 120)).cell? ⟨w.heap.size, 0, none⟩ = some (.int .i64 (N : Int)) := by rw [World.cell?_alloc_lt _ _ _ (by simp)]; simp
  have hc1 : ((w.alloc (.cells #[.int .i64 (N : Int), .int .i64 (H : Int)] 26)).alloc (.cells #[.int .i64 (z : Int), .int .i64 (a : Int)] 120)).cell? ⟨w.heap.size, 1, none⟩ = some (.int .i64 (H : Int)) := by rw [World.cell?_alloc_lt _ _ _ (by simp)]; simp
  have hc2 : ((w.alloc (.cells #[.int .i64 (N : Int), .int .i64 (H : Int)] 26)).alloc (.cells #[.int .i64 (z : Int), .int .i64 (a : Int)] 120)).cell? ⟨w.heap.size + 1, 0, none⟩ = some (.int .i64 (z : Int)) := by first | (simp; done) | (rw [World.cell?_alloc_lt _ _ _ (by simp)]; simp)
  have hc3 : ((w.alloc (.cells #[.int .i64 (N : Int), .int .i64 (H : Int)] 26)).alloc (.cells #[.int .i64 (z : Int), .int .i64 (a : Int)] 120)).cell? ⟨w.heap.size + 1, 1, none⟩ = some (.int .i64 (a : Int)) := by first | (simp; done) | (rw [World.cell?_alloc_lt _ _ _ (by simp)]; simp)
  have hlt : w.heap.size + 1 < ((w.alloc (.cells #[.int .i64 (N : Int), .int .i64 (H : Int)] 26)).alloc (.cells #[.int .i64 (z : Int), .int .i64 (a : Int)] 120)).heap.size := by simp
  have HMK := Lib.hid hmk
  clear hmk
  go_enter Tryz.func68, Tryz.ntmps68
  go_upto_region 1 with (fail)
  generalize ((w.alloc (.cells #[.int .i64 (N : Int), .int .i64 (H : Int)] 26)).alloc (.cells #[.int .i64 (z : Int), .int .i64 (a : Int)] 120)) = wz at *
  have hl0 : w.heap.size < wz.heap.size := by omega
  have HC := Lib.hid (fun (u : World) (q : Below wz.heap.size wz u) => (⟨(q.cell (p := ⟨w.heap.size, 0, none⟩) hl0).trans hc0, (q.cell (p := ⟨w.heap.size, 1, none⟩) hl0).trans hc1, hk.below hk.1 (hB0.trans (q.mono (Nat.le_of_lt hl0)))⟩ :
    u.cell? ⟨w.heap.size, 0, none⟩ = some (.int .i64 (N : Int)) ∧ u.cell? ⟨w.heap.size, 1, none⟩ = some (.int .i64 (H : Int)) ∧ Consts u))
  have HB0 := Lib.hid hB0
  have HL0 := Lib.hid hl0
  clear hB0 hk hlt hl0 hc0 hc1
  go_quiet (fail)
  have HY := Lib.hid (belowN (Below.refl wz.heap.size wz) nq)
  generalize wz.drewN nq = wy at *
  clear hc2 hc3
  obtain ⟨c0, c1, -⟩ := HC.out _ HY.out
  go_wp2_with fail
  refine (R1.out _).mono ?_
  rintro e w1 ⟨rfl, hb1⟩
  have HW1 := Lib.hid (HY.out.trans (hb1.mono HY.out.size))
  clear hb1 c0 c1
  obtain ⟨c0, c1, -⟩ := HC.out _ HW1.out
  go_wp2_with fail
  refine (R2.out _).mono ?_
  rintro e w2 ⟨rfl, hb2⟩
  have HW2 := Lib.hid (HW1.out.trans (hb2.mono HW1.out.size))
  clear hb2 c0 c1 HW1 HY
  have hmk := HMK.out
  go_upto_region 6 with (fail)
  clear hmk HMK hsub hd1 hd2 hpz hfw
  have hB3 := HW2.out.alloc HW2.out.size (.cells (madeCells #[.string ⟨#[]⟩] p) 9)
  have hrow0 := made_strs w2 p
  obtain ⟨F0, hF0⟩ : ∃ F0 : Nat → List UInt8, F0 = fun j => node N seed.data.toList room.data.toList 0 (f + j) := ⟨_, rfl⟩
  rw [← rowK_zero F0 p] at hrow0
  have hgz := HW2.out.size
  have hlt3 : w2.heap.size < (w2.alloc (.cells (madeCells #[.string ⟨#[]⟩] p) 9)).heap.size := by simp
  generalize w2.alloc (.cells (madeCells #[.string ⟨#[]⟩] p) 9) = w3 at *
  obtain ⟨g, hg⟩ : ∃ g, g = w2.heap.size := ⟨_, rfl⟩
  rw [← hg] at hrow0 hgz hlt3 ⊢
  have HROW0 := Lib.hid hrow0
  have HB3 := Lib.hid hB3
  have HGZ := Lib.hid hgz
  have HF0 := Lib.hid hF0
  clear hg hB3 hrow0 hgz HW2 hlt3 hF0
  go_wp2_with fail
  go_loopw [13, 49] (fun _ i wr => ∃ k : Nat, k ≤ p ∧ i = .int .i64 k ∧ Row wr g (Strs.strsV (rowK F0 p k)) ∧ Below wz.heap.size wz wr) (fun _ i _ => p - (intOf i).toNat)
  case atStart => exact ⟨0, by omega, rfl, HROW0.out, HB3.out⟩
  case round =>
    clear HROW0 HB3
    obtain ⟨k, hk, rfl, hrow, hbel⟩ := hrel
    have HROW := Lib.hid hrow
    have HW := Lib.hid hbel
    clear hrow hbel
    by_cases hlt : k < p
    · obtain ⟨n, hn⟩ : ∃ n, n = f + k := ⟨_, rfl⟩
      have hw1 : IntKind.i64.wrap ((f : Int) + (k : Int)) = (n : Int) := by rw [IntKind.wrap_i64]; omega
      have hw2 : (f : Int) + (k : Int) = (n : Int) := by omega
      obtain ⟨T, hT⟩ : ∃ T, T = tx (F0 k) := ⟨_, rfl⟩
      have RL1 := Lib.hid (fun u hu => RL.out n T u (by rw [hT, HF0.out, hn]; rfl) hu)
      have hst : (Strs.strsV (rowK F0 p k)).set k (.string T) = Strs.strsV (rowK F0 p (k + 1)) := by rw [hT]; exact rowK_set F0 p k
      have HST := Lib.hid hst
      clear hst hT hn
      obtain ⟨c0, c1, hk4⟩ := HC.out _ HW.out
      have HK4 := Lib.hid hk4
      clear hk4
      go_wp2_with fail
      refine (RL1.out _ HK4.out).mono ?_
      rintro e w5 ⟨rfl, hb5⟩
      have hrow5 := HROW.out.below HROW.out.lt hb5
      have hcs := hrow5.cell (i := k) (v := .string (if k < k then tx (F0 k) else ⟨#[]⟩)) (by simp [rowK, Strs.strsV, hlt])
      have hfs := hrow5.free (i := k) (by rw [Strs.strsV_length, rowK_length]; exact hlt)
      have hset := hrow5.set k (.string T)
      rw [HST.out] at hset
      have HS := Lib.hid hset
      have HW5 := Lib.hid ((HW.out.trans (hb5.mono HW.out.size)).setCell (p := ⟨g, k, none⟩) HGZ.out (.string T))
      clear hrow5 hset hb5 c0 c1
      go_wp2
      go_roundw
      case rel =>
        exact ⟨k + 1, by omega, by go_num, HS.out, HW5.out⟩
      case measure => simp [intOf]; omega
    · obtain rfl : k = p := by omega
      go_wp2_with fail
      go_loopw [12, 14, 64] (fun v _ i wr => ∃ (q g m : Nat) (F : Nat → List UInt8), q ≤ z ∧ i = .int .i64 q ∧ m = 2 ^ (z - q) ∧ v = .slice (some ⟨g, 0, none⟩) m m ∧ wz.heap.size ≤ g ∧ (∀ j, F j = node N seed.data.toList room.data.toList q (a * m + j)) ∧ Row wr g (Strs.strsV (rowK F m m)) ∧ Below wz.heap.size wz wr) (fun _ _ i _ => z - (intOf i).toNat)
      case atStart => exact ⟨0, g, k, F0, by omega, rfl, HP.out, rfl, HGZ.out, fun j => by rw [HF0.out, HF.out], HROW.out, HW.out⟩
      case round =>
        clear HROW HW HF0 HGZ
        obtain ⟨q, g, m, F, hq, rfl, hm, rfl, hgz, hFj, hrow, hbel⟩ := hrel
        have HROW := Lib.hid hrow
        have HW := Lib.hid hbel
        have HGZ := Lib.hid hgz
        have HFJ := Lib.hid hFj
        clear hrow hbel hgz hFj
        by_cases hlt : q < z
        · obtain ⟨m', hm'⟩ : ∃ m', m' = 2 ^ (z - (q + 1)) := ⟨_, rfl⟩
          obtain rfl : m = 2 * m' := by rw [hm, hm', show z - q = (z - (q + 1)) + 1 by omega, Nat.pow_succ]; omega
          obtain ⟨c, hc⟩ : ∃ c, c = a * m' := ⟨_, rfl⟩
          obtain ⟨f', hf'⟩ : ∃ f', f' = 2 * c := ⟨_, rfl⟩
          have hfm : f' = a * (2 * m') := by rw [hf', hc, Nat.mul_left_comm]
          have hfq : f / 2 ^ q = f' := by rw [HF.out, HP.out, shift_place a z q (by omega), ← hm, hfm]
          have hsh : (f : Int) / 2 ^ q = (f' : Int) := by rw [← hfq, Int.natCast_ediv, Int.natCast_pow]; rfl
          have hk2 : 2 * m' ≤ k := by rw [HP.out, hm]; exact Nat.pow_le_pow_right (by omega) (by omega)
          have hff : f' ≤ f := by rw [← hfq]; exact Nat.div_le_self _ _
          obtain ⟨F', hF'⟩ : ∃ F' : Nat → List UInt8, F' = fun j => node N seed.data.toList room.data.toList (q + 1) (c + j) := ⟨_, rfl⟩
          have RP1 := Lib.hid (fun (u : World) (hb : Below wr.heap.size wr u) => RP.out q f' m' g (2 * m') F F' u (by omega) (by omega) (fun j _ => Nat.le_trans (by rw [HFJ.out]; exact HHL.out _ _) (by omega : N ≤ 1000000)) (Nat.lt_of_lt_of_le HROW.out.lt hb.size)
            (fun j hj => (row_cell (HROW.out.below HROW.out.lt hb) (rowK_at F (2 * m') (2 * m') j hj hj)))
            (fun j _ => by rw [hF', HFJ.out, HFJ.out, ← hfm, hf']; exact node_up N _ _ q c j) (HC.out u (HW.out.trans (hb.mono HW.out.size))).2.2)
          have HF' := Lib.hid (show ∀ j, F' j = node N seed.data.toList room.data.toList (q + 1) (a * m' + j) from fun j => by rw [hF', hc])
          have HM' := Lib.hid hm'
          clear hm' hm hc hf' hfm hfq hF'
          go_upto_region 14 with (fail)
          refine Steady.region 7 (by kernel_rfl) (by kernel_rfl) (fun u => Below wr.heap.size wr u) ((Below.refl _ _).drew) ?_
          simp only [List.take_succ_cons, List.take_zero, List.drop_succ_cons, List.drop_zero]
          refine Steady.take ?_ rfl (by intro u hu; obtain ⟨c0, c1, -⟩ := HC.out u (HW.out.trans (hu.mono HW.out.size)); go_simp; with_reducible rfl) ?_
          simp only [Act.put, List.setIfInBounds_toArray, List.set_cons_zero, List.set_cons_succ]
          refine Steady.take ?_ rfl (by intro u hu; go_simp; with_reducible rfl) ?_
          simp only [Act.put, List.setIfInBounds_toArray, List.set_cons_zero, List.set_cons_succ]
          refine Steady.take ?_ rfl (by intro u hu; go_simp; with_reducible rfl) ?_
          simp only [Act.put, List.setIfInBounds_toArray, List.set_cons_zero, List.set_cons_succ]
          refine Steady.take ?_ rfl (by intro u hu; go_simp; with_reducible rfl) ?_
          simp only [Act.put, List.setIfInBounds_toArray, List.set_cons_zero, List.set_cons_succ]
          refine Steady.take ?_ rfl (by intro u hu; go_simp; with_reducible rfl) ?_
          simp only [Act.put, List.setIfInBounds_toArray, List.set_cons_zero, List.set_cons_succ]
          refine Steady.take ?_ rfl (by intro u hu; go_simp; with_reducible rfl) ?_
          simp only [Act.put, List.setIfInBounds_toArray, List.set_cons_zero, List.set_cons_succ]
          refine Steady.take ?_ rfl (by intro u hu; go_simp; with_reducible rfl) ?_
          simp only [Act.put, List.setIfInBounds_toArray, List.set_cons_zero, List.set_cons_succ]
          refine Steady.nil ?_
          intro w5 hb5
          have HB5 := Lib.hid hb5
          clear hb5
          go_wp2_with fail
          refine (RP1.out _ HB5.out).mono ?_
          rintro e w6 ⟨g', rfl, hg', hrow', hb6⟩
          have HROW' := Lib.hid hrow'
          have HW6 := Lib.hid ((HW.out.trans (HB5.out.mono HW.out.size)).trans (hb6.mono (Nat.le_trans HW.out.size HB5.out.size)))
          have HG6 := Lib.hid (show wz.heap.size ≤ g' from Nat.le_trans (Nat.le_trans HW.out.size HB5.out.size) hg')
          clear hrow' hb6 hg' hsh
          go_wp2
          go_roundw
          case rel =>
            exact ⟨q + 1, g', m', F', by omega, by go_num, HM'.out, rfl, HG6.out, HF'.out, HROW'.out, HW6.out⟩
          case measure => simp [intOf]; omega
        · obtain rfl : q = z := by omega
          rw [Nat.sub_self, Nat.pow_zero] at hm
          subst hm
          have hcell := row_cell HROW.out (rowK_at F 1 1 0 (by omega) (by omega))
          have hVV : tx (F 0) = V := by rw [HV.out, HFJ.out, Nat.mul_one, Nat.add_zero]
          rw [hVV] at hcell
          clear hVV
          go_wp2
          go_ret
          exact ⟨rfl, HB0.out.trans (HW.out.mono (Nat.le_of_lt HL0.out))⟩

set_option maxHeartbeats 3200000 in
theorem node_no (n h hi pl : Int) (seed room : ByteArray) (w : World) (hno : ¬ (Right n h ∧ 0 ≤ hi ∧ hi ≤ h ∧ 0 ≤ pl ∧ pl < 2 ^ (h - hi).toNat)) :
    Calls Tryz.prog 68 #[.agg #[.int .i64 n, .int .i64 h], .string seed, .string room, .agg #[.int .i64 hi, .int .i64 pl]] w fun e w' => e = .returned (.string ⟨#[]⟩) ∧ Below w.heap.size w w' := by
  have hB0 := ((Below.refl w.heap.size w).alloc (Nat.le_refl _) (.cells #[.int .i64 n, .int .i64 h] 26)).alloc (by simp) (.cells #[.int .i64 hi, .int .i64 pl] 120)
  have hc0 : ((w.alloc (.cells #[.int .i64 n, .int .i64 h] 26)).alloc (.cells #[.int .i64 hi, .int .i64 pl] 120)).cell? ⟨w.heap.size, 0, none⟩ = some (.int .i64 n) := by rw [World.cell?_alloc_lt _ _ _ (by simp)]; simp
  have hc1 : ((w.alloc (.cells #[.int .i64 n, .int .i64 h] 26)).alloc (.cells #[.int .i64 hi, .int .i64 pl] 120)).cell? ⟨w.heap.size, 1, none⟩ = some (.int .i64 h) := by rw [World.cell?_alloc_lt _ _ _ (by simp)]; simp
  have hc2 : ((w.alloc (.cells #[.int .i64 n, .int .i64 h] 26)).alloc (.cells #[.int .i64 hi, .int .i64 pl] 120)).cell? ⟨w.heap.size + 1, 0, none⟩ = some (.int .i64 hi) := by first | (simp; done) | (rw [World.cell?_alloc_lt _ _ _ (by simp)]; simp)
  have hc3 : ((w.alloc (.cells #[.int .i64 n, .int .i64 h] 26)).alloc (.cells #[.int .i64 hi, .int .i64 pl] 120)).cell? ⟨w.heap.size + 1, 1, none⟩ = some (.int .i64 pl) := by first | (simp; done) | (rw [World.cell?_alloc_lt _ _ _ (by simp)]; simp)
  have hlt : w.heap.size + 1 < ((w.alloc (.cells #[.int .i64 n, .int .i64 h] 26)).alloc (.cells #[.int .i64 hi, .int .i64 pl] 120)).heap.size := by simp
  go_enter Tryz.func68, Tryz.ntmps68
  go_upto_region 1 with (fail)
  generalize ((w.alloc (.cells #[.int .i64 n, .int .i64 h] 26)).alloc (.cells #[.int .i64 hi, .int .i64 pl] 120)) = wz at *
  have hl0 : w.heap.size < wz.heap.size := by omega
  have HC := Lib.hid (fun (u : World) (q : Below wz.heap.size wz u) => (⟨(q.cell (p := ⟨w.heap.size, 0, none⟩) hl0).trans hc0, (q.cell (p := ⟨w.heap.size, 1, none⟩) hl0).trans hc1⟩ :
    u.cell? ⟨w.heap.size, 0, none⟩ = some (.int .i64 n) ∧ u.cell? ⟨w.heap.size, 1, none⟩ = some (.int .i64 h)))
  have HB0 := Lib.hid hB0
  have HL0 := Lib.hid hl0
  clear hB0 hlt hl0 hc0 hc1
  go_quiet (fail)
  have HY := Lib.hid (belowN (Below.refl wz.heap.size wz) nq)
  generalize wz.drewN nq = wy at *
  clear hc2 hc3
  obtain ⟨c0, c1⟩ := HC.out _ HY.out
  have HNO := Lib.hid hno
  clear hno
  by_cases hr : Right n h
  · have R1 := Lib.hid (fun u => right_yes n h hr u)
    have HR := Lib.hid hr
    clear hr
    go_wp2_with fail
    refine (R1.out _).mono ?_
    rintro e w1 ⟨rfl, hb1⟩
    have HW1 := Lib.hid (HY.out.trans (hb1.mono HY.out.size))
    clear hb1 c0 c1
    obtain ⟨c0, c1⟩ := HC.out _ HW1.out
    by_cases h1 : hi < 0
    · have hd1 : decide (hi < 0) = true := by simp [h1]
      go_wp2
      go_ret
      exact ⟨rfl, HB0.out.trans (HW1.out.mono (Nat.le_of_lt HL0.out))⟩
    · have hd1 : decide (hi < 0) = false := by simp; omega
      by_cases h2 : h < hi
      · have hd2 : decide (h < hi) = true := by simp [h2]
        go_wp2
        go_ret
        exact ⟨rfl, HB0.out.trans (HW1.out.mono (Nat.le_of_lt HL0.out))⟩
      · have hd2 : decide (h < hi) = false := by simp; omega
        have R2 := Lib.hid (show ∀ u, Calls Tryz.prog 79 #[.int .i64 pl, .int .i64 (h - hi)] u fun e w' => e = .returned (.bool false) ∧ Below u.heap.size u w' from fun u => by
          have hh := HR.out.2.2.2
          have hg := among_any pl (h - hi).toNat (by omega) u
          have e1 : (((h - hi).toNat : Nat) : Int) = h - hi := by omega
          have e2 : decide (0 ≤ pl ∧ pl < 2 ^ (h - hi).toNat) = false := by
            rw [decide_eq_false_iff_not]
            exact fun hx => HNO.out ⟨HR.out, by omega, by omega, hx.1, hx.2⟩
          rw [e1, e2] at hg
          exact hg)
        have hsub : IntKind.i64.wrap (h - hi) = h - hi := by have := HR.out.2.2.2; rw [IntKind.wrap_i64]; omega
        go_wp2_with fail
        refine (R2.out _).mono ?_
        rintro e w2 ⟨rfl, hb2⟩
        have HW2 := Lib.hid (HW1.out.trans (hb2.mono HW1.out.size))
        clear hb2
        go_wp2
        go_ret
        exact ⟨rfl, HB0.out.trans (HW2.out.mono (Nat.le_of_lt HL0.out))⟩
  · have R1 := Lib.hid (fun u => right_no n h hr u)
    clear hr
    go_wp2_with fail
    refine (R1.out _).mono ?_
    rintro e w1 ⟨rfl, hb1⟩
    have HW1 := Lib.hid (HY.out.trans (hb1.mono HY.out.size))
    clear hb1
    go_wp2
    go_ret
    exact ⟨rfl, HB0.out.trans (HW1.out.mono (Nat.le_of_lt HL0.out))⟩
end Go.Proofs.YtdhipdoaefdfeaaGreatDoor.Grv

namespace Go.Proofs.YtdhipdoaefdfeaaGreatDoor.Grv
open Go.RowKit Mur Sha Chn
set_option maxRecDepth 100000

theorem xor_one (x : Nat) (h : x < 4611686018427387904) : bits .xor .i64 (x : Int) 1 = (sib x : Int) := by
  have := xor_i64_nat x 1 (by omega) (by omega)
  rw [sib_xor] at this
  exact this
theorem sib_lt (x m : Nat) (h : x < 2 * m) : sib x < 2 * m := by
  by_cases e : x % 2 = 1
  · rw [sib, if_pos e]; omega
  · rw [sib, if_neg e]; omega
theorem half_lt (x i H : Nat) (h : x < 2 ^ H) (hi : i ≤ H) : x / 2 ^ i < 2 ^ (H - i) := by
  rw [Nat.div_lt_iff_lt_mul (Nat.two_pow_pos i), ← Nat.pow_add, show H - i + i = H by omega]
  exact h
theorem sib_half_lt (x i H : Nat) (h : x < 2 ^ H) (hi : i < H) : sib (x / 2 ^ i) < 2 ^ (H - i) := by
  have := half_lt x i H h (by omega)
  rw [show H - i = (H - i - 1) + 1 by omega, Nat.pow_succ, Nat.mul_comm] at this ⊢
  exact sib_lt _ _ this
theorem among_yes (a k : Nat) (hk : k ≤ 62) (h : a < 2 ^ k) (u : World) : Calls Tryz.prog 79 #[.int .i64 (a : Int), .int .i64 (k : Int)] u fun e w' => e = .returned (.bool true) ∧ Below u.heap.size u w' := by
  have g := among_any (a : Int) k hk u
  have e2 : decide (0 ≤ (a : Int) ∧ (a : Int) < 2 ^ k) = true := by
    have h2 : ((a : Nat) : Int) < ((2 ^ k : Nat) : Int) := Int.ofNat_lt.2 h
    rw [Int.natCast_pow] at h2
    simp only [decide_eq_true_eq]
    exact ⟨by omega, h2⟩
  rw [e2] at g
  exact g
theorem among_no (a h : Int) (h0 : 0 ≤ h) (h8 : h ≤ 8) (hno : ¬ (0 ≤ a ∧ a < 2 ^ h.toNat)) (u : World) : Calls Tryz.prog 79 #[.int .i64 a, .int .i64 h] u fun e w' => e = .returned (.bool false) ∧ Below u.heap.size u w' := by
  have g := among_any a h.toNat (by omega) u
  rw [decide_eq_false hno, show ((h.toNat : Nat) : Int) = h by omega] at g
  exact g

set_option maxHeartbeats 3200000 in
theorem path_no (n h lf : Int) (seed room : ByteArray) (w : World) (hno : ¬ (Right n h ∧ 0 ≤ lf ∧ lf < 2 ^ h.toNat)) :
    Calls Tryz.prog 58 #[.agg #[.int .i64 n, .int .i64 h], .string seed, .string room, .int .i64 lf] w fun e w' => e = .returned (.string ⟨#[]⟩) ∧ Below w.heap.size w w' := by
  have hB0 := (Below.refl w.heap.size w).alloc (Nat.le_refl _) (.cells #[.int .i64 n, .int .i64 h] 26)
  have hc0 : (w.alloc (.cells #[.int .i64 n, .int .i64 h] 26)).cell? ⟨w.heap.size, 0, none⟩ = some (.int .i64 n) := by simp
  have hc1 : (w.alloc (.cells #[.int .i64 n, .int .i64 h] 26)).cell? ⟨w.heap.size, 1, none⟩ = some (.int .i64 h) := by simp
  have hl0 : w.heap.size < (w.alloc (.cells #[.int .i64 n, .int .i64 h] 26)).heap.size := by simp
  go_enter Tryz.func58, Tryz.ntmps58
  go_upto_region 1 with (fail)
  generalize w.alloc (.cells #[.int .i64 n, .int .i64 h] 26) = wz at *
  have HC := Lib.hid (fun (u : World) (q : Below wz.heap.size wz u) => (⟨(q.cell (p := ⟨w.heap.size, 0, none⟩) hl0).trans hc0, (q.cell (p := ⟨w.heap.size, 1, none⟩) hl0).trans hc1⟩ :
    u.cell? ⟨w.heap.size, 0, none⟩ = some (.int .i64 n) ∧ u.cell? ⟨w.heap.size, 1, none⟩ = some (.int .i64 h)))
  have HB0 := Lib.hid hB0
  have HL0 := Lib.hid hl0
  have HNO := Lib.hid hno
  clear hB0 hl0 hno
  by_cases hr : Right n h
  · have R1 := Lib.hid (fun u => right_yes n h hr u)
    have R2 := Lib.hid (fun u => among_no lf h hr.2.2.1 hr.2.2.2 (fun hx => HNO.out ⟨hr, hx.1, hx.2⟩) u)
    clear hr
    go_wp2_with fail
    refine (R1.out _).mono ?_
    rintro e w1 ⟨rfl, hb1⟩
    have HW1 := Lib.hid hb1
    clear hb1 hc0 hc1
    obtain ⟨c0, c1⟩ := HC.out _ HW1.out
    go_wp2_with fail
    refine (R2.out _).mono ?_
    rintro e w2 ⟨rfl, hb2⟩
    have HW2 := Lib.hid (HW1.out.trans (hb2.mono HW1.out.size))
    clear hb2
    go_wp2
    go_ret
    exact ⟨rfl, HB0.out.trans (HW2.out.mono (Nat.le_of_lt HL0.out))⟩
  · have R1 := Lib.hid (fun u => right_no n h hr u)
    clear hr
    go_wp2_with fail
    refine (R1.out _).mono ?_
    rintro e w1 ⟨rfl, hb1⟩
    have HW1 := Lib.hid hb1
    clear hb1
    go_wp2
    go_ret
    exact ⟨rfl, HB0.out.trans (HW1.out.mono (Nat.le_of_lt HL0.out))⟩

set_option maxHeartbeats 3200000 in
theorem path_any (N H lf : Nat) (seed room V : ByteArray) (w : World) (hr : Right (N : Int) (H : Int)) (hlf : lf < 2 ^ H) (hs : seed.size + room.size ≤ 34359738368) (hV : V = tx (path N H seed.data.toList room.data.toList lf)) (hk : Consts w) :
    Calls Tryz.prog 58 #[.agg #[.int .i64 (N : Int), .int .i64 (H : Int)], .string seed, .string room, .int .i64 (lf : Int)] w fun e w' => e = .returned (.string V) ∧ Below w.heap.size w w' := by
  have hN : N ≤ 32 := by have := hr.2.1; omega
  have hH : H ≤ 8 := by have := hr.2.2.2; omega
  have hl8 := pow_256 H hH
  have R1 := Lib.hid (fun u => right_yes N H hr u)
  have R2 := Lib.hid (fun u => among_yes lf H (by omega) hlf u)
  have RN := Lib.hid (fun (i : Nat) (hi : i < H) (P : ByteArray) (hP : P = tx (pathP N seed.data.toList room.data.toList lf i)) (u : World) (hu : Consts u) => node_any N H i (sib (lf / 2 ^ i)) seed room P u hr (by omega) (sib_half_lt lf i H hlf hi) hs hP hu)
  have hl := pathP_length N seed.data.toList room.data.toList lf hN
  obtain ⟨F, hF⟩ : ∃ F, F = pathP N seed.data.toList room.data.toList lf := ⟨_, rfl⟩
  rw [← hF] at hl RN
  have hul := upto_length F N hl
  have HV := Lib.hid (show V = tx (upto F H) from by rw [hV, path, hF])
  have HUL := Lib.hid hul
  have HFL := Lib.hid hl
  have HLF := Lib.hid hlf
  clear hV hF hul hl hs hr hlf
  have hB0 := (Below.refl w.heap.size w).alloc (Nat.le_refl _) (.cells #[.int .i64 (N : Int), .int .i64 (H : Int)] 26)
  have hc0 : (w.alloc (.cells #[.int .i64 (N : Int), .int .i64 (H : Int)] 26)).cell? ⟨w.heap.size, 0, none⟩ = some (.int .i64 (N : Int)) := by simp
  have hc1 : (w.alloc (.cells #[.int .i64 (N : Int), .int .i64 (H : Int)] 26)).cell? ⟨w.heap.size, 1, none⟩ = some (.int .i64 (H : Int)) := by simp
  have hlt : w.heap.size < (w.alloc (.cells #[.int .i64 (N : Int), .int .i64 (H : Int)] 26)).heap.size := by simp
  go_enter Tryz.func58, Tryz.ntmps58
  go_upto_region 1 with (fail)
  generalize w.alloc (.cells #[.int .i64 (N : Int), .int .i64 (H : Int)] 26) = wz at *
  have HC := Lib.hid (fun (u : World) (q : Below wz.heap.size wz u) => (⟨(q.cell (p := ⟨w.heap.size, 0, none⟩) hlt).trans hc0, (q.cell (p := ⟨w.heap.size, 1, none⟩) hlt).trans hc1, hk.below hk.1 (hB0.trans (q.mono hB0.size))⟩ : u.cell? ⟨w.heap.size, 0, none⟩ = some (.int .i64 (N : Int)) ∧ u.cell? ⟨w.heap.size, 1, none⟩ = some (.int .i64 (H : Int)) ∧ Consts u))
  have HB0 := Lib.hid hB0
  clear hB0 hlt hk
  go_wp2_with fail
  refine (R1.out _).mono ?_
  rintro e w1 ⟨rfl, hb1⟩
  have HY1 := Lib.hid hb1
  clear hb1 hc0 hc1
  obtain ⟨c0, c1, -⟩ := HC.out _ HY1.out
  go_wp2_with fail
  refine (R2.out _).mono ?_
  rintro e w2 ⟨rfl, hb2⟩
  have HB1 := Lib.hid (HY1.out.trans (hb2.mono HY1.out.size))
  clear hb2 c0 c1 HY1
  go_upto_region 4 with (fail)
  have HBU := Lib.hid (Use.builder_new w2.heap.size w2.heap.size _ (Nat.le_refl _) (_root_.Go.heap_alloc_new w2 (.cells #[.pointer none, .slice none 0 0] 126)))
  have HW1 := Lib.hid ((Below.refl w2.heap.size w2).alloc (Nat.le_refl _) (.cells #[.pointer none, .slice none 0 0] 126))
  have HZ2 := Lib.hid (HB1.out.trans (HW1.out.mono HB1.out.size))
  generalize w2.alloc (.cells #[.pointer none, .slice none 0 0] 126) = w3 at *
  obtain ⟨c0, c1, -⟩ := HC.out _ HZ2.out
  go_wp2_with fail
  clear c0 c1 HZ2
  go_loopw [10, 24] (fun _ i wr => ∃ k : Nat, k ≤ H ∧ i = .int .i64 k ∧ Lib.IsBuilder 126 5 w2.heap.size w2.heap.size (Lib.byteCells (upto F k)) wr ∧ Below w2.heap.size w2 wr) (fun _ i _ => H - (intOf i).toNat)
  case atStart => exact ⟨0, by omega, rfl, HBU.out, HW1.out⟩
  case round =>
    clear HBU HW1
    obtain ⟨k, hk, rfl, hbu, hbel⟩ := hrel
    have HBU := Lib.hid hbu
    have HW := Lib.hid hbel
    clear hbu hbel
    by_cases hlt : k < H
    · obtain ⟨P, hP⟩ : ∃ P, P = tx (F k) := ⟨_, rfl⟩
      have hPs : P.size = N := by rw [hP]; exact HFL.out k
      have hnx : upto F (k + 1) = upto F k ++ P.data.toList := by rw [hP]; rfl
      have hsz : (upto F k).length + P.size ≤ 140737488355328 := by
        have h1 := HUL.out k
        have h2 : N * k ≤ 32 * 8 := Nat.mul_le_mul hN (by omega)
        omega
      have hzr := HB1.out.trans (HW.out.mono HB1.out.size)
      obtain ⟨x, hx⟩ : ∃ x, x = lf / 2 ^ k := ⟨_, rfl⟩
      obtain ⟨y, hy⟩ : ∃ y, y = sib x := ⟨_, rfl⟩
      have hxl : x ≤ 256 := by have := Nat.div_le_self lf (2 ^ k); have := HLF.out; omega
      have hsh : (lf : Int) / 2 ^ k = (x : Int) := by rw [hx, Int.natCast_ediv, Int.natCast_pow]; rfl
      have hxo : bits .xor .i64 (x : Int) 1 = (y : Int) := by rw [hy]; exact xor_one x (by omega)
      have RN1 := Lib.hid (show ∀ (u : World), Below wr.heap.size wr u → Calls Tryz.prog 68 #[.agg #[.int .i64 (N : Int), .int .i64 (H : Int)], .string seed, .string room, .agg #[.int .i64 (k : Int), .int .i64 (y : Int)]] u fun e w' => e = .returned (.string P) ∧ Below u.heap.size u w' from fun u q => by
        rw [hy, hx]
        exact RN.out k hlt P hP u (HC.out u (hzr.trans (q.mono hzr.size))).2.2)
      have HC1 := Lib.hid (fun (u : World) (q : Below wr.heap.size wr u) => HC.out u (hzr.trans (q.mono hzr.size)))
      have HNX := Lib.hid hnx
      have HSZ := Lib.hid hsz
      clear hP hPs hnx hsz hzr hx hy
      go_upto_region 7 with (fail)
      refine Steady.region 10 (by kernel_rfl) (by kernel_rfl) (fun u => Below wr.heap.size wr u) ((Below.refl _ _).drew) ?_
      simp only [List.take_succ_cons, List.take_zero, List.drop_succ_cons, List.drop_zero]
      refine Steady.take ?_ rfl (by intro u hu; obtain ⟨c0, c1, -⟩ := HC1.out u hu; go_simp; with_reducible rfl) ?_
      simp only [Act.put, List.setIfInBounds_toArray, List.set_cons_zero, List.set_cons_succ]
      refine Steady.take ?_ rfl (by intro u hu; go_simp; with_reducible rfl) ?_
      simp only [Act.put, List.setIfInBounds_toArray, List.set_cons_zero, List.set_cons_succ]
      refine Steady.take ?_ rfl (by intro u hu; go_simp; with_reducible rfl) ?_
      simp only [Act.put, List.setIfInBounds_toArray, List.set_cons_zero, List.set_cons_succ]
      refine Steady.take ?_ rfl (by intro u hu; go_simp; with_reducible rfl) ?_
      simp only [Act.put, List.setIfInBounds_toArray, List.set_cons_zero, List.set_cons_succ]
      refine Steady.take ?_ rfl (by intro u hu; go_simp; with_reducible rfl) ?_
      simp only [Act.put, List.setIfInBounds_toArray, List.set_cons_zero, List.set_cons_succ]
      refine Steady.take ?_ rfl (by intro u hu; go_simp; with_reducible rfl) ?_
      simp only [Act.put, List.setIfInBounds_toArray, List.set_cons_zero, List.set_cons_succ]
      refine Steady.take ?_ rfl (by intro u hu; go_simp; with_reducible rfl) ?_
      simp only [Act.put, List.setIfInBounds_toArray, List.set_cons_zero, List.set_cons_succ]
      refine Steady.take ?_ rfl (by intro u hu; go_simp; with_reducible rfl) ?_
      simp only [Act.put, List.setIfInBounds_toArray, List.set_cons_zero, List.set_cons_succ]
      refine Steady.take ?_ rfl (by intro u hu; go_simp; with_reducible rfl) ?_
      simp only [Act.put, List.setIfInBounds_toArray, List.set_cons_zero, List.set_cons_succ]
      refine Steady.call _ _ _ rfl ?_ (keptIf RN1.out) ?_
      · intro u
        go_simp
      simp only [Act.put, List.setIfInBounds_toArray, List.set_cons_zero, List.set_cons_succ]
      refine Steady.nil ?_
      intro w5 hb5
      have HBU5 := Lib.hid (isBuilder_below HBU.out hb5)
      have HW5 := Lib.hid (HW.out.trans (hb5.mono HW.out.size))
      clear hb5 hsh hxo
      go_wp2_with fail
      refine (Use.write_any w2.heap.size w2.heap.size (upto F k) _ _ HBU5.out HSZ.out HW5.out.size).mono ?_
      rintro e w6 ⟨rfl, hbu6, hb6⟩
      rw [← HNX.out] at hbu6
      have HBU6 := Lib.hid hbu6
      have HW6 := Lib.hid (HW5.out.trans hb6)
      clear hbu6 hb6
      go_wp2
      go_roundw
      case rel => exact ⟨k + 1, by omega, by go_num, HBU6.out, HW6.out⟩
      case measure => simp [intOf]; omega
    · obtain rfl : k = H := by omega
      go_wp2_with fail
      refine (Use.string_any w2.heap.size w2.heap.size (upto F k) wr HBU.out HW.out.size).mono ?_
      rintro e w5 ⟨rfl, hb5⟩
      have HZ5 := Lib.hid (HB0.out.trans ((HB1.out.trans ((HW.out.trans hb5).mono HB1.out.size)).mono HB0.out.size))
      have hVV : (⟨(upto F k).toArray⟩ : ByteArray) = V := HV.out.symm
      rw [hVV]
      clear hb5 hVV
      go_wp2
      go_ret
      exact ⟨rfl, HZ5.out⟩
end Go.Proofs.YtdhipdoaefdfeaaGreatDoor.Grv

namespace Go.Proofs.YtdhipdoaefdfeaaGreatDoor.Grv
open Go.RowKit Mur Sha Chn
set_option maxRecDepth 100000

theorem piece_cut (s : ByteArray) (a n b : Nat) (hb : b = a + n) : s.extract a b = tx ((s.data.toList.drop a).take n) := by
  apply ByteArray.ext
  apply Array.ext'
  rw [hb]
  simp [ByteArray.data_extract, Array.toList_extract, List.extract]

set_option maxHeartbeats 3200000 in
theorem climb_no (n h lf : Int) (room nd pa : ByteArray) (w : World) (hno : ¬ (Right n h ∧ 0 ≤ lf ∧ lf < 2 ^ h.toNat ∧ (pa.size : Int) = n * h)) :
    Calls Tryz.prog 67 #[.agg #[.int .i64 n, .int .i64 h], .string room, .int .i64 lf, .string nd, .string pa] w fun e w' => e = .returned (.string ⟨#[]⟩) ∧ Below w.heap.size w w' := by
  have hB0 := (Below.refl w.heap.size w).alloc (Nat.le_refl _) (.cells #[.int .i64 n, .int .i64 h] 26)
  have hc0 : (w.alloc (.cells #[.int .i64 n, .int .i64 h] 26)).cell? ⟨w.heap.size, 0, none⟩ = some (.int .i64 n) := by simp
  have hc1 : (w.alloc (.cells #[.int .i64 n, .int .i64 h] 26)).cell? ⟨w.heap.size, 1, none⟩ = some (.int .i64 h) := by simp
  have hl0 : w.heap.size < (w.alloc (.cells #[.int .i64 n, .int .i64 h] 26)).heap.size := by simp
  go_enter Tryz.func67, Tryz.ntmps67
  go_upto_region 1 with (fail)
  generalize w.alloc (.cells #[.int .i64 n, .int .i64 h] 26) = wz at *
  have HC := Lib.hid (fun (u : World) (q : Below wz.heap.size wz u) => (⟨(q.cell (p := ⟨w.heap.size, 0, none⟩) hl0).trans hc0, (q.cell (p := ⟨w.heap.size, 1, none⟩) hl0).trans hc1⟩ :
    u.cell? ⟨w.heap.size, 0, none⟩ = some (.int .i64 n) ∧ u.cell? ⟨w.heap.size, 1, none⟩ = some (.int .i64 h)))
  have HB0 := Lib.hid hB0
  have HL0 := Lib.hid hl0
  have HNO := Lib.hid hno
  clear hB0 hl0 hno
  by_cases hr : Right n h
  · have R1 := Lib.hid (fun u => right_yes n h hr u)
    have hn0 := hr.1
    have hn1 := hr.2.1
    have hh0 := hr.2.2.1
    have hh1 := hr.2.2.2
    have HR := Lib.hid hr
    clear hr
    go_wp2_with fail
    refine (R1.out _).mono ?_
    rintro e w1 ⟨rfl, hb1⟩
    have HW1 := Lib.hid hb1
    clear hb1 hc0 hc1
    obtain ⟨c0, c1⟩ := HC.out _ HW1.out
    by_cases hlf : 0 ≤ lf ∧ lf < 2 ^ h.toNat
    · have R2 := Lib.hid (show ∀ u, Calls Tryz.prog 79 #[.int .i64 lf, .int .i64 h] u fun e w' => e = .returned (.bool true) ∧ Below u.heap.size u w' from fun u => by
        have g := among_any lf h.toNat (by omega) u
        rw [decide_eq_true hlf, show ((h.toNat : Nat) : Int) = h by omega] at g
        exact g)
      obtain ⟨A, hA⟩ : ∃ A, A = n * h := ⟨_, rfl⟩
      have hA1 : A ≤ 256 := by
        have h1 : n * h ≤ 32 * 8 := Int.mul_le_mul hn1 hh1 hh0 (by omega)
        omega
      have hA0 : 0 ≤ A := by rw [hA]; exact Int.mul_nonneg (by omega) hh0
      have hwA : IntKind.i64.wrap (n * h) = A := by rw [← hA]; exact IntWalk.i64_in _ (by omega)
      have hne : ((pa.size : Int) != A) = true := by
        rw [bne_iff_ne]
        exact fun e => HNO.out ⟨HR.out, hlf.1, hlf.2, by rw [e, hA]⟩
      clear hlf hA
      go_wp2_with fail
      refine (R2.out _).mono ?_
      rintro e w2 ⟨rfl, hb2⟩
      have HW2 := Lib.hid (HW1.out.trans (hb2.mono HW1.out.size))
      clear hb2 c0 c1
      obtain ⟨c0, c1⟩ := HC.out _ HW2.out
      go_wp2
      go_ret
      exact ⟨rfl, HB0.out.trans (HW2.out.mono (Nat.le_of_lt HL0.out))⟩
    · have R2 := Lib.hid (fun u => among_no lf h hh0 hh1 hlf u)
      clear hlf
      go_wp2_with fail
      refine (R2.out _).mono ?_
      rintro e w2 ⟨rfl, hb2⟩
      have HW2 := Lib.hid (HW1.out.trans (hb2.mono HW1.out.size))
      clear hb2
      go_wp2
      go_ret
      exact ⟨rfl, HB0.out.trans (HW2.out.mono (Nat.le_of_lt HL0.out))⟩
  · have R1 := Lib.hid (fun u => right_no n h hr u)
    clear hr
    go_wp2_with fail
    refine (R1.out _).mono ?_
    rintro e w1 ⟨rfl, hb1⟩
    have HW1 := Lib.hid hb1
    clear hb1
    go_wp2
    go_ret
    exact ⟨rfl, HB0.out.trans (HW1.out.mono (Nat.le_of_lt HL0.out))⟩

set_option maxHeartbeats 3200000 in
theorem climb_any (N H lf : Nat) (room nd pa V : ByteArray) (w : World) (hr : Right (N : Int) (H : Int)) (hlf : lf < 2 ^ H) (hpa : pa.size = N * H) (hs : room.size + nd.size ≤ 34359738368) (hV : V = tx (climb N room.data.toList lf nd.data.toList pa.data.toList H)) (hk : Consts w) :
    Calls Tryz.prog 67 #[.agg #[.int .i64 (N : Int), .int .i64 (H : Int)], .string room, .int .i64 (lf : Int), .string nd, .string pa] w fun e w' => e = .returned (.string V) ∧ Below w.heap.size w w' := by
  have hN : N ≤ 32 := by have := hr.2.1; omega
  have hH : H ≤ 8 := by have := hr.2.2.2; omega
  have hl8 := pow_256 H hH
  have R1 := Lib.hid (fun u => right_yes N H hr u)
  have R2 := Lib.hid (fun u => among_yes lf H (by omega) hlf u)
  have RA := Lib.hid (fun (i n : Nat) (hi : i < H) (hn : n ≤ 256) (x y V : ByteArray) (hx : x.size ≤ nd.size + 32) (hy : y.size ≤ 1000) (hV : V = tx (asOneT N room.data.toList i n x.data.toList y.data.toList)) (u : World) (hu : Consts u) => asOne_any N i n H room x y V u hN (by omega) (by omega) (by omega) hV hu)
  have hcl := fun k => climb_length N room.data.toList lf nd.data.toList pa.data.toList k hN
  have hmul := fun k (hk : k ≤ H) => show N * k ≤ N * H from Nat.mul_le_mul_left _ hk
  have hNH : N * H ≤ 32 * 8 := Nat.mul_le_mul hN hH
  obtain ⟨A, hA⟩ : ∃ A, A = N * H := ⟨_, rfl⟩
  have hwA : IntKind.i64.wrap ((N : Int) * (H : Int)) = (A : Int) := by
    rw [← Int.natCast_mul, ← hA]
    exact IntWalk.i64_in _ (by omega)
  have heq : ((pa.size : Int) != (A : Int)) = false := by simp; omega
  have HWR := Lib.hid (fun (k : Nat) (hk : k < H) => show IntKind.i64.wrap ((N : Int) * (k : Int)) = ((N * k : Nat) : Int) ∧ IntKind.i64.wrap ((N : Int) * ((k : Int) + 1)) = ((N * (k + 1) : Nat) : Int) ∧ IntKind.i64.wrap ((k : Int) + 1) = (k : Int) + 1 ∧ ((N * k : Nat) : Int) ≤ ((N * (k + 1) : Nat) : Int) ∧ ((N * (k + 1) : Nat) : Int) ≤ (pa.size : Int) from by
    have h1 := hmul k (by omega)
    have h2 := hmul (k + 1) hk
    have h3 : N * (k + 1) = N * k + N := Nat.mul_succ _ _
    have e1 : (N : Int) * (k : Int) = ((N * k : Nat) : Int) := by push_cast; rfl
    have e2 : (N : Int) * ((k : Int) + 1) = ((N * (k + 1) : Nat) : Int) := by push_cast; rfl
    refine ⟨by rw [e1]; exact IntWalk.i64_in _ (by omega), by rw [e2]; exact IntWalk.i64_in _ (by omega), IntWalk.i64_in _ (by omega), by omega, by omega⟩)
  obtain ⟨K, hK⟩ : ∃ K, K = climb N room.data.toList lf nd.data.toList pa.data.toList := ⟨_, rfl⟩
  have HKS := Lib.hid (show ∀ k, K (k + 1) = asOneT N room.data.toList k (lf / 2 ^ k) (K k) ((pa.data.toList.drop (N * k)).take N) from fun k => by rw [hK]; rfl)
  have HK0 := Lib.hid (show nd = tx (K 0) from by rw [hK]; rfl)
  have HV := Lib.hid (show V = tx (K H) from by rw [hV, hK])
  have HCL := Lib.hid (show ∀ k, (K k).length ≤ nd.size + 32 from by rw [hK]; exact hcl)
  have HLF := Lib.hid hlf
  clear hV hs hr hlf hpa hcl hmul hNH hA hK
  have hB0 := (Below.refl w.heap.size w).alloc (Nat.le_refl _) (.cells #[.int .i64 (N : Int), .int .i64 (H : Int)] 26)
  have hc0 : (w.alloc (.cells #[.int .i64 (N : Int), .int .i64 (H : Int)] 26)).cell? ⟨w.heap.size, 0, none⟩ = some (.int .i64 (N : Int)) := by simp
  have hc1 : (w.alloc (.cells #[.int .i64 (N : Int), .int .i64 (H : Int)] 26)).cell? ⟨w.heap.size, 1, none⟩ = some (.int .i64 (H : Int)) := by simp
  have hlt : w.heap.size < (w.alloc (.cells #[.int .i64 (N : Int), .int .i64 (H : Int)] 26)).heap.size := by simp
  go_enter Tryz.func67, Tryz.ntmps67
  go_upto_region 1 with (fail)
  generalize w.alloc (.cells #[.int .i64 (N : Int), .int .i64 (H : Int)] 26) = wz at *
  have HC := Lib.hid (fun (u : World) (q : Below wz.heap.size wz u) => (⟨(q.cell (p := ⟨w.heap.size, 0, none⟩) hlt).trans hc0, (q.cell (p := ⟨w.heap.size, 1, none⟩) hlt).trans hc1, hk.below hk.1 (hB0.trans (q.mono hB0.size))⟩ : u.cell? ⟨w.heap.size, 0, none⟩ = some (.int .i64 (N : Int)) ∧ u.cell? ⟨w.heap.size, 1, none⟩ = some (.int .i64 (H : Int)) ∧ Consts u))
  have HB0 := Lib.hid hB0
  clear hB0 hlt hk
  go_wp2_with fail
  refine (R1.out _).mono ?_
  rintro e w1 ⟨rfl, hb1⟩
  have HY1 := Lib.hid hb1
  clear hb1 hc0 hc1
  obtain ⟨c0, c1, -⟩ := HC.out _ HY1.out
  go_wp2_with fail
  refine (R2.out _).mono ?_
  rintro e w2 ⟨rfl, hb2⟩
  have HB1 := Lib.hid (HY1.out.trans (hb2.mono HY1.out.size))
  clear hb2 c0 c1 HY1
  obtain ⟨c0, c1, -⟩ := HC.out _ HB1.out
  go_wp2_with fail
  clear c0 c1 hwA heq
  go_loopw [3, 11, 34] (fun x _ i wr => ∃ (k : Nat) (t : ByteArray), k ≤ H ∧ i = .int .i64 k ∧ x = .string t ∧ t = tx (K k) ∧ Below wz.heap.size wz wr) (fun _ _ i _ => H - (intOf i).toNat)
  case atStart => exact ⟨0, nd, by omega, rfl, rfl, HK0.out, HB1.out⟩
  case round =>
    clear HB1
    obtain ⟨k, t, hk, rfl, rfl, ht, hbel⟩ := hrel
    have HW := Lib.hid hbel
    have HT := Lib.hid ht
    clear hbel ht
    by_cases hlt : k < H
    · obtain ⟨e1, e2, e3, e4, e5⟩ := HWR.out k hlt
      have hT := piece_cut pa (N * k) N (N * (k + 1)) (Nat.mul_succ _ _)
      obtain ⟨T, hTT⟩ : ∃ T, T = pa.extract (N * k) (N * (k + 1)) := ⟨_, rfl⟩
      rw [← hTT] at hT
      have hcut := hTT.symm
      have hTs : T.size ≤ 1000 := by rw [hT]; show ((pa.data.toList.drop (N * k)).take N).length ≤ 1000; rw [List.length_take]; omega
      obtain ⟨x, hx⟩ : ∃ x, x = lf / 2 ^ k := ⟨_, rfl⟩
      have hxl : x ≤ 256 := by have := Nat.div_le_self lf (2 ^ k); have := HLF.out; omega
      have hsh : (lf : Int) / 2 ^ k = (x : Int) := by rw [hx, Int.natCast_ediv, Int.natCast_pow]; rfl
      obtain ⟨V2, hV2⟩ : ∃ V2, V2 = tx (K (k + 1)) := ⟨_, rfl⟩
      have RA1 := Lib.hid (fun (u : World) (q : Below wr.heap.size wr u) => RA.out k x hlt hxl t T V2 (by rw [HT.out]; exact HCL.out k) hTs (by rw [hV2, HKS.out, ← hx, HT.out, hT]) u (HC.out u (HW.out.trans (q.mono HW.out.size))).2.2)
      have HC1 := Lib.hid (fun (u : World) (q : Below wr.heap.size wr u) => HC.out u (HW.out.trans (q.mono HW.out.size)))
      have HV2 := Lib.hid hV2
      clear hT hTT hTs hx hV2
      obtain ⟨a, ha⟩ : ∃ a, a = N * k := ⟨_, rfl⟩
      obtain ⟨b, hb⟩ : ∃ b, b = N * (k + 1) := ⟨_, rfl⟩
      rw [← ha] at e1 e4 hcut
      rw [← hb] at e2 e4 e5 hcut
      have e6 : (0 : Int) ≤ (a : Int) := by omega
      have e7 : (0 : Int) ≤ (b : Int) := by omega
      have e8 : (a : Int).toNat = a := by omega
      have e9 : (b : Int).toNat = b := by omega
      clear ha hb
      go_upto_region 6 with (fail)
      refine Steady.region 20 (by kernel_rfl) (by kernel_rfl) (fun u => Below wr.heap.size wr u) ((Below.refl _ _).drew) ?_
      simp only [List.take_succ_cons, List.take_zero, List.drop_succ_cons, List.drop_zero]
      refine Steady.take ?_ rfl (by intro u hu; obtain ⟨c0, c1, -⟩ := HC1.out u hu; go_simp; with_reducible rfl) ?_
      simp only [Act.put, List.setIfInBounds_toArray, List.set_cons_zero, List.set_cons_succ]
      refine Steady.take ?_ rfl (by intro u hu; go_simp; with_reducible rfl) ?_
      simp only [Act.put, List.setIfInBounds_toArray, List.set_cons_zero, List.set_cons_succ]
      refine Steady.take ?_ rfl (by intro u hu; go_simp; with_reducible rfl) ?_
      simp only [Act.put, List.setIfInBounds_toArray, List.set_cons_zero, List.set_cons_succ]
      refine Steady.take ?_ rfl (by intro u hu; go_simp; with_reducible rfl) ?_
      simp only [Act.put, List.setIfInBounds_toArray, List.set_cons_zero, List.set_cons_succ]
      refine Steady.take ?_ rfl (by intro u hu; go_simp; with_reducible rfl) ?_
      simp only [Act.put, List.setIfInBounds_toArray, List.set_cons_zero, List.set_cons_succ]
      refine Steady.take ?_ rfl (by intro u hu; go_simp; with_reducible rfl) ?_
      simp only [Act.put, List.setIfInBounds_toArray, List.set_cons_zero, List.set_cons_succ]
      refine Steady.take ?_ rfl (by intro u hu; go_simp; with_reducible rfl) ?_
      simp only [Act.put, List.setIfInBounds_toArray, List.set_cons_zero, List.set_cons_succ]
      refine Steady.take ?_ rfl (by intro u hu; go_simp; with_reducible rfl) ?_
      simp only [Act.put, List.setIfInBounds_toArray, List.set_cons_zero, List.set_cons_succ]
      refine Steady.take ?_ rfl (by intro u hu; go_simp; with_reducible rfl) ?_
      simp only [Act.put, List.setIfInBounds_toArray, List.set_cons_zero, List.set_cons_succ]
      refine Steady.take ?_ rfl (by intro u hu; go_simp; with_reducible rfl) ?_
      simp only [Act.put, List.setIfInBounds_toArray, List.set_cons_zero, List.set_cons_succ]
      refine Steady.take ?_ rfl (by intro u hu; obtain ⟨c0, c1, -⟩ := HC1.out u hu; go_simp; with_reducible rfl) ?_
      simp only [Act.put, List.setIfInBounds_toArray, List.set_cons_zero, List.set_cons_succ]
      refine Steady.take ?_ rfl (by intro u hu; go_simp; with_reducible rfl) ?_
      simp only [Act.put, List.setIfInBounds_toArray, List.set_cons_zero, List.set_cons_succ]
      refine Steady.take ?_ rfl (by intro u hu; go_simp; with_reducible rfl) ?_
      simp only [Act.put, List.setIfInBounds_toArray, List.set_cons_zero, List.set_cons_succ]
      refine Steady.take ?_ rfl (by intro u hu; go_simp; with_reducible rfl) ?_
      simp only [Act.put, List.setIfInBounds_toArray, List.set_cons_zero, List.set_cons_succ]
      refine Steady.take ?_ rfl (by intro u hu; obtain ⟨c0, c1, -⟩ := HC1.out u hu; go_simp; with_reducible rfl) ?_
      simp only [Act.put, List.setIfInBounds_toArray, List.set_cons_zero, List.set_cons_succ]
      refine Steady.take ?_ rfl (by intro u hu; go_simp; with_reducible rfl) ?_
      simp only [Act.put, List.setIfInBounds_toArray, List.set_cons_zero, List.set_cons_succ]
      refine Steady.take ?_ rfl (by intro u hu; go_simp; with_reducible rfl) ?_
      simp only [Act.put, List.setIfInBounds_toArray, List.set_cons_zero, List.set_cons_succ]
      refine Steady.take ?_ rfl (by intro u hu; go_simp; with_reducible rfl) ?_
      simp only [Act.put, List.setIfInBounds_toArray, List.set_cons_zero, List.set_cons_succ]
      refine Steady.take ?_ rfl (by intro u hu; go_simp; with_reducible rfl) ?_
      simp only [Act.put, List.setIfInBounds_toArray, List.set_cons_zero, List.set_cons_succ]
      refine Steady.call _ _ _ rfl ?_ (keptIf RA1.out) ?_
      · intro u
        go_simp
      simp only [Act.put, List.setIfInBounds_toArray, List.set_cons_zero, List.set_cons_succ]
      refine Steady.nil ?_
      intro w5 hb5
      have HW5 := Lib.hid (HW.out.trans (hb5.mono HW.out.size))
      clear hb5 hsh e1 e2 e3 e4 e5 e6 e7 e8 e9 hcut
      go_wp2
      go_roundw
      case rel => exact ⟨k + 1, V2, by omega, by go_num, rfl, HV2.out, HW5.out⟩
      case measure => simp [intOf]; omega
    · obtain rfl : k = H := by omega
      have hVV : t = V := by rw [HV.out, HT.out]
      subst hVV
      go_wp2
      go_ret
      exact ⟨rfl, HB0.out.trans (HW.out.mono HB0.out.size)⟩
end Go.Proofs.YtdhipdoaefdfeaaGreatDoor.Grv
