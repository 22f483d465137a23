/-
  The plain mathematics of package grove: nodes, paths and climbs, proofs and climbing from many, as functions on lists of bytes and of numbers. Nothing here speaks of a program: no condition but those that each lemma names.
-/
import Derived.Test.YtncafbejgidliaaDoorChn
namespace Go.Proofs.YtncafbejgidliaaDoor.Grv
open Go.RowKit Mur Sha Chn

def nodeT : List UInt8 := [110, 111, 100, 101]
/-- Two nodes, one behind the other, as one of height z at place a. -/
def pairT (N : Nat) (room : List UInt8) (z a : Nat) (both : List UInt8) : List UInt8 := value N [nodeT, room, num (z : Int) 1, num (a : Int) 4, both]
theorem pairT_length (N : Nat) (room : List UInt8) (z a : Nat) (both : List UInt8) (h : N ≤ 32) : (pairT N room z a both).length = N := value_length N _ h

/-- The node at number n of height z, and the one beside it, as one. -/
def asOneT (N : Nat) (room : List UInt8) (z n : Nat) (x y : List UInt8) : List UInt8 := pairT N room (z + 1) (n / 2) (if n % 2 = 1 then y ++ x else x ++ y)
theorem asOneT_length (N : Nat) (room : List UInt8) (z n : Nat) (x y : List UInt8) (h : N ≤ 32) : (asOneT N room z n x y).length = N := pairT_length N _ _ _ _ h
/-- The number beside. -/
def sib (n : Nat) : Nat := if n % 2 = 1 then n - 1 else n + 1
theorem sib_half (n : Nat) : sib n / 2 = n / 2 := by unfold sib; split <;> omega
theorem sib_sib (n : Nat) : sib (sib n) = n := by unfold sib; split <;> split <;> omega
theorem sib_ne (n : Nat) : sib n ≠ n := by unfold sib; split <;> omega
theorem sib_le (n : Nat) : sib n ≤ n + 1 := by unfold sib; split <;> omega
theorem sib_xor (n : Nat) : n ^^^ 1 = sib n := by
  have h1 : (n ^^^ 1) / 2 = n / 2 := by rw [Nat.xor_div_two]; simp
  have h2 : (n ^^^ 1) % 2 = 1 ↔ ¬(n % 2 = 1 ↔ 1 % 2 = 1) := Nat.xor_mod_two_eq_one
  unfold sib
  split <;> omega

def node (N : Nat) (seed room : List UInt8) : Nat → Nat → List UInt8
  | 0, a => leafOf N seed room (a : Int)
  | z + 1, a => pairT N room (z + 1) a (node N seed room z (2 * a) ++ node N seed room z (2 * a + 1))
theorem node_length (N : Nat) (seed room : List UInt8) (z a : Nat) (h : N ≤ 32) : (node N seed room z a).length = N := by
  cases z with
  | zero => exact leafOf_length N seed room _ h
  | succ z => exact pairT_length N _ _ _ _ h
/-- A node and the one beside it make the one above. -/
theorem asOne_node (N : Nat) (seed room : List UInt8) (z n : Nat) : asOneT N room z n (node N seed room z n) (node N seed room z (sib n)) = node N seed room (z + 1) (n / 2) := by
  unfold asOneT sib
  rw [node]
  by_cases h : n % 2 = 1
  · rw [if_pos h, if_pos h, show 2 * (n / 2) = n - 1 by omega, show n - 1 + 1 = n by omega]
  · rw [if_neg h, if_neg h, show 2 * (n / 2) = n by omega]

def pathP (N : Nat) (seed room : List UInt8) (leaf : Nat) (z : Nat) : List UInt8 := node N seed room z (sib (leaf / 2 ^ z))
def path (N H : Nat) (seed room : List UInt8) (leaf : Nat) : List UInt8 := upto (pathP N seed room leaf) H
theorem pathP_length (N : Nat) (seed room : List UInt8) (leaf : Nat) (h : N ≤ 32) (z : Nat) : (pathP N seed room leaf z).length = N := node_length N _ _ _ _ h
theorem path_length (N H : Nat) (seed room : List UInt8) (leaf : Nat) (h : N ≤ 32) : (path N H seed room leaf).length = N * H := upto_length _ N (pathP_length N seed room leaf h) H
/-- The climb's node at height z. -/
def climb (N : Nat) (room : List UInt8) (leaf : Nat) (x p : List UInt8) : Nat → List UInt8
  | 0 => x
  | z + 1 => asOneT N room z (leaf / 2 ^ z) (climb N room leaf x p z) ((p.drop (N * z)).take N)
theorem climb_length (N : Nat) (room : List UInt8) (leaf : Nat) (x p : List UInt8) (z : Nat) (h : N ≤ 32) : (climb N room leaf x p z).length ≤ x.length + 32 := by
  cases z with
  | zero => exact Nat.le_add_right _ _
  | succ z =>
    have := asOneT_length N room z (leaf / 2 ^ z) (climb N room leaf x p z) ((p.drop (N * z)).take N) h
    show (asOneT N room z (leaf / 2 ^ z) _ _).length ≤ _
    omega
theorem climb_path (N H : Nat) (seed room : List UInt8) (leaf : Nat) (h : N ≤ 32) (z : Nat) (hz : z ≤ H) : climb N room leaf (leafOf N seed room (leaf : Int)) (path N H seed room leaf) z = node N seed room z (leaf / 2 ^ z) := by
  induction z with
  | zero => rw [climb, Nat.pow_zero, Nat.div_one, node]
  | succ z ih =>
    rw [climb, ih (by omega)]
    unfold path
    rw [upto_at _ N (pathP_length N seed room leaf h) H z (by omega)]
    unfold pathP
    rw [asOne_node, Nat.pow_succ, ← Nat.div_div_eq_div_mul]

/-- Each one's half, once. -/
def halves : List Nat → List Nat
  | [] => []
  | [n] => [n / 2]
  | n :: m :: l => if m = sib n then (n / 2) :: halves l else (n / 2) :: halves (m :: l)
/-- The numbers that the proof has of a height. -/
def need : List Nat → List Nat
  | [] => []
  | [n] => [sib n]
  | n :: m :: l => if m = sib n then need l else sib n :: need (m :: l)
theorem halves_length (l : List Nat) : (halves l).length ≤ l.length := by
  fun_induction halves l <;> simp_all <;> omega
theorem need_length (l : List Nat) : (need l).length ≤ l.length := by
  fun_induction need l <;> simp_all <;> omega
theorem halves_nil (l : List Nat) (h : halves l = []) : l = [] := by
  fun_induction halves l <;> simp_all

/-- Rising numbers. -/
abbrev Up (l : List Nat) : Prop := l.Pairwise (· < ·)
theorem sib_up {n m : Nat} (h : n < m) : m = sib n ↔ m / 2 = n / 2 := by unfold sib; split <;> omega
theorem sib_odd {n : Nat} (h : n < sib n) : sib n % 2 = 1 := by
  by_cases e : n % 2 = 1
  · rw [sib, if_pos e] at h
    omega
  · rw [sib, if_neg e]
    omega
theorem halves_of (l : List Nat) : ∀ x, x ∈ halves l → ∃ n, n ∈ l ∧ x = n / 2 := by
  fun_induction halves l with
  | case1 => intro x hx; cases hx
  | case2 n => intro x hx; exact ⟨n, by simp, by simpa using hx⟩
  | case3 n l ih =>
    intro x hx
    rcases List.mem_cons.1 hx with rfl | hx
    · exact ⟨n, by simp, rfl⟩
    · obtain ⟨k, hk, e⟩ := ih x hx
      exact ⟨k, by simp [hk], e⟩
  | case4 n m l hne ih =>
    intro x hx
    rcases List.mem_cons.1 hx with rfl | hx
    · exact ⟨n, by simp, rfl⟩
    · obtain ⟨k, hk, e⟩ := ih x hx
      exact ⟨k, List.mem_cons_of_mem _ hk, e⟩
theorem halves_lt (l : List Nat) (b : Nat) (h : ∀ n ∈ l, n < 2 * b) : ∀ x ∈ halves l, x < b := fun x hx => by
  obtain ⟨n, hn, rfl⟩ := halves_of l x hx
  have := h n hn
  omega
theorem halves_up (l : List Nat) (h : Up l) : Up (halves l) := by
  fun_induction halves l with
  | case1 => exact List.Pairwise.nil
  | case2 n => simp
  | case3 n l ih =>
    have h := List.pairwise_cons.1 h
    have h2 := (List.pairwise_cons.1 h.2)
    refine List.pairwise_cons.2 ⟨fun x hx => ?_, ih h2.2⟩
    obtain ⟨k, hk, rfl⟩ := halves_of l x hx
    have h1 := h.1 (sib n) (by simp)
    have h3 := h2.1 k hk
    have h4 := (sib_up h1).1 rfl
    have h5 : sib n % 2 = 1 := sib_odd h1
    omega
  | case4 n m l hne ih =>
    have h := List.pairwise_cons.1 h
    refine List.pairwise_cons.2 ⟨fun x hx => ?_, ih h.2⟩
    obtain ⟨k, hk, rfl⟩ := halves_of _ x hx
    have h1 := h.1 m (by simp)
    have hne2 : ¬ m / 2 = n / 2 := fun e => hne ((sib_up h1).2 e)
    rcases List.mem_cons.1 hk with rfl | hk
    · omega
    · have := (List.pairwise_cons.1 h.2).1 k hk
      omega
/-- Of one more number the half comes, unless it is there. -/
theorem halves_snoc (l : List Nat) (n : Nat) (h : Up (l ++ [n])) : halves (l ++ [n]) = if n / 2 ∈ halves l then halves l else halves l ++ [n / 2] := by
  fun_induction halves l with
  | case1 => simp [halves]
  | case2 m =>
    have h1 : m < n := by simpa using h
    show halves [m, n] = _
    rw [halves]
    by_cases e : n = sib m
    · rw [if_pos e, if_pos (by rw [(sib_up h1).1 e]; simp), halves]
    · rw [if_neg e, if_neg (by simpa using fun x => e ((sib_up h1).2 x)), halves]
      rfl
  | case3 a l ih =>
    simp only [List.cons_append] at h ⊢
    have h0 := List.pairwise_cons.1 h
    have h1 := List.pairwise_cons.1 h0.2
    have hb := h0.1 (sib a) (by simp)
    have hn := h1.1 n (by simp)
    have hne : ¬ n / 2 = a / 2 := by
      have := (sib_up hb).1 rfl
      have h2 : sib a % 2 = 1 := sib_odd hb
      omega
    rw [halves, if_pos rfl, ih h1.2]
    by_cases e : n / 2 ∈ halves l
    · rw [if_pos e, if_pos (List.mem_cons_of_mem _ e)]
    · rw [if_neg e, if_neg (by simp [e, hne])]
  | case4 a m l hne ih =>
    simp only [List.cons_append] at h ih ⊢
    have h0 := List.pairwise_cons.1 h
    have h1 := List.pairwise_cons.1 h0.2
    have hb := h0.1 m (by simp)
    have hn := h1.1 n (by simp)
    have hne1 : ¬ m / 2 = a / 2 := fun e => hne ((sib_up hb).2 e)
    have hne2 : ¬ n / 2 = a / 2 := by omega
    rw [halves, if_neg hne, ih h0.2]
    by_cases e : n / 2 ∈ halves (m :: l)
    · rw [if_pos e, if_pos (List.mem_cons_of_mem _ e)]
    · rw [if_neg e, if_neg (by simp [e, hne2])]
theorem flat_congr {α β : Type} {l : List α} {f g : α → List β} (h : ∀ k ∈ l, f k = g k) : l.flatMap f = l.flatMap g := by
  induction l with
  | nil => rfl
  | cons a l ih => rw [List.flatMap_cons, List.flatMap_cons, h a (by simp), ih fun k hk => h k (List.mem_cons_of_mem _ hk)]
/-- What the proof needs: the numbers beside those that are alone. -/
theorem need_of (l : List Nat) (h : Up l) : l.flatMap (fun n => if sib n ∈ l then [] else [sib n]) = need l := by
  fun_induction need l with
  | case1 => rfl
  | case2 n => simp [sib_ne]
  | case3 n l ih =>
    have h0 := List.pairwise_cons.1 h
    have h1 := List.pairwise_cons.1 h0.2
    have hb := h0.1 (sib n) (by simp)
    rw [List.flatMap_cons, List.flatMap_cons, if_pos (by simp), if_pos (by rw [sib_sib]; simp), List.nil_append, List.nil_append, ← ih h1.2]
    refine flat_congr fun k hk => ?_
    have h3 := h1.1 k hk
    have e1 : ¬ sib k = n := fun e => by
      have : k = sib n := by rw [← e, sib_sib]
      omega
    have e2 : ¬ sib k = sib n := fun e => by
      have : k = n := by rw [← sib_sib k, e, sib_sib]
      omega
    simp [e1, e2]
  | case4 n m l hne ih =>
    have h0 := List.pairwise_cons.1 h
    have hb := h0.1 m (by simp)
    have hno : ∀ k ∈ m :: l, ¬ k = sib n := fun k hk e => by
      rcases List.mem_cons.1 hk with rfl | hk
      · exact hne e
      · have := (List.pairwise_cons.1 h0.2).1 k hk
        have hs := sib_le n
        omega
    rw [List.flatMap_cons, if_neg (fun hm => by
      rcases List.mem_cons.1 hm with e | hm
      · exact sib_ne n e
      · exact hno _ hm rfl), ← ih h0.2]
    rw [List.singleton_append]
    congr 1
    refine flat_congr fun k hk => ?_
    have e1 : ¬ sib k = n := fun e => hno k hk (by rw [← e, sib_sib])
    simp [e1]

/-- The numbers at hand at a height. -/
def nums (l : List Nat) : Nat → List Nat
  | 0 => l
  | z + 1 => halves (nums l z)
theorem nums_up (l : List Nat) (h : Up l) : ∀ z, Up (nums l z)
  | 0 => h
  | z + 1 => halves_up _ (nums_up l h z)
theorem nums_lt (l : List Nat) (H : Nat) (h : ∀ n ∈ l, n < 2 ^ H) (z : Nat) (hz : z ≤ H) : ∀ n ∈ nums l z, n < 2 ^ (H - z) := by
  induction z with
  | zero => exact h
  | succ z ih =>
    refine halves_lt _ _ fun n hn => ?_
    have := ih (by omega) n hn
    rw [show H - z = (H - (z + 1)) + 1 by omega, Nat.pow_succ] at this
    omega
theorem nums_length (l : List Nat) : ∀ z, (nums l z).length ≤ l.length
  | 0 => Nat.le_refl _
  | z + 1 => Nat.le_trans (halves_length _) (nums_length l z)
theorem nums_ne (l : List Nat) (h : l ≠ []) : ∀ z, nums l z ≠ []
  | 0 => h
  | z + 1 => fun e => nums_ne l h z (halves_nil _ e)
theorem nums_shift (l : List Nat) (z : Nat) : nums (halves l) z = nums l (z + 1) := by
  induction z with
  | zero => rfl
  | succ z ih =>
    show halves (nums (halves l) z) = halves (nums l (z + 1))
    rw [ih]

/-- The proof's nodes of a height, one behind the other. -/
def proofP (N : Nat) (seed room : List UInt8) (z : Nat) (l : List Nat) : List UInt8 := (need l).flatMap (node N seed room z)
def proof (N H : Nat) (seed room : List UInt8) (l : List Nat) : List UInt8 := upto (fun z => proofP N seed room z (nums l z)) H
/-- What a number at hand brings to the proof. -/
def bring (N : Nat) (seed room : List UInt8) (z : Nat) (l : List Nat) (n : Nat) : List UInt8 := if sib n ∈ l then [] else node N seed room z (sib n)
theorem bring_length (N : Nat) (seed room : List UInt8) (z : Nat) (l : List Nat) (n : Nat) (h : N ≤ 32) : (bring N seed room z l n).length ≤ 32 := by
  unfold bring
  split
  · exact Nat.zero_le _
  · rw [node_length N _ _ _ _ h]; exact h
theorem proofP_bring (N : Nat) (seed room : List UInt8) (z : Nat) (l : List Nat) (h : Up l) : l.flatMap (bring N seed room z l) = proofP N seed room z l := by
  unfold proofP
  rw [← need_of l h, List.flatMap_assoc]
  refine flat_congr fun k _ => ?_
  unfold bring
  split <;> simp
theorem flat_len (f : Nat → List UInt8) (l : List Nat) (m : Nat) (h : ∀ n, (f n).length ≤ m) : (l.flatMap f).length ≤ l.length * m := by
  induction l with
  | nil => simp
  | cons a l ih =>
    rw [List.flatMap_cons, List.length_append, List.length_cons, Nat.succ_mul]
    have := h a
    omega
theorem proofP_length (N : Nat) (seed room : List UInt8) (z : Nat) (l : List Nat) (h : N ≤ 32) : (proofP N seed room z l).length ≤ l.length * N :=
  Nat.le_trans (flat_len _ _ N fun _ => Nat.le_of_eq (node_length N _ _ _ _ h)) (Nat.mul_le_mul_right _ (need_length l))
theorem proof_length (N H : Nat) (seed room : List UInt8) (l : List Nat) (h : N ≤ 32) : (proof N H seed room l).length ≤ l.length * N * H := by
  unfold proof
  induction H with
  | zero => exact Nat.zero_le _
  | succ H ih =>
    rw [upto, List.length_append, Nat.mul_succ]
    have h1 := proofP_length N seed room H (nums l H) h
    have h2 := Nat.mul_le_mul_right N (nums_length l H)
    omega

/-- What is at hand: numbers, and their nodes. -/
abbrev Hand := List (Nat × List UInt8)
/-- One height up: what is at hand there, and the rest of the proof. -/
def climbed (N : Nat) (room : List UInt8) (z : Nat) : Hand → List UInt8 → Option (Hand × List UInt8)
  | [], p => some ([], p)
  | [(n, x)], p => if p.length < N then none else some ([(n / 2, asOneT N room z n x (p.take N))], p.drop N)
  | (n, x) :: (m, y) :: l, p =>
    if m = sib n then (climbed N room z l p).map fun r => ((n / 2, asOneT N room z n x y) :: r.1, r.2)
    else if p.length < N then none else (climbed N room z ((m, y) :: l) (p.drop N)).map fun r => ((n / 2, asOneT N room z n x (p.take N)) :: r.1, r.2)
def many (N : Nat) (room : List UInt8) : Nat → Nat → Hand → List UInt8 → List UInt8
  | 0, _, h, p => if p = [] then (h.map Prod.snd).headD [] else []
  | k + 1, z, h, p => match climbed N room z h p with
    | none => []
    | some r => many N room k (z + 1) r.1 r.2
def handOf (N : Nat) (seed room : List UInt8) (z : Nat) (l : List Nat) : Hand := l.map fun n => (n, node N seed room z n)
theorem take_node (N : Nat) (seed room : List UInt8) (z n : Nat) (q : List UInt8) (h : N ≤ 32) : (node N seed room z n ++ q).take N = node N seed room z n := by
  have := node_length N seed room z n h
  rw [List.take_append_of_le_length (by omega), List.take_of_length_le (by omega)]
theorem drop_node (N : Nat) (seed room : List UInt8) (z n : Nat) (q : List UInt8) (h : N ≤ 32) : (node N seed room z n ++ q).drop N = q := by
  have := node_length N seed room z n h
  rw [List.drop_append_of_le_length (by omega), List.drop_of_length_le (by omega), List.nil_append]
theorem climbed_hand (N : Nat) (seed room : List UInt8) (z : Nat) (h : N ≤ 32) (l : List Nat) (q : List UInt8) :
    climbed N room z (handOf N seed room z l) (proofP N seed room z l ++ q) = some (handOf N seed room (z + 1) (halves l), q) := by
  unfold proofP
  fun_induction halves l with
  | case1 => rfl
  | case2 n =>
    have hl := node_length N seed room z (sib n) h
    show climbed N room z [(n, _)] ((need [n]).flatMap _ ++ q) = _
    rw [climbed, need, List.flatMap_cons, List.flatMap_nil, List.append_nil, if_neg (by rw [List.length_append]; omega), take_node _ _ _ _ _ _ h, drop_node _ _ _ _ _ _ h, asOne_node]
    rfl
  | case3 n l ih =>
    show climbed N room z ((n, _) :: (sib n, _) :: handOf N seed room z l) _ = _
    rw [climbed, if_pos rfl, need, if_pos rfl, ih, asOne_node]
    rfl
  | case4 n m l hne ih =>
    have hl := node_length N seed room z (sib n) h
    show climbed N room z ((n, _) :: (m, _) :: handOf N seed room z l) _ = _
    rw [climbed, if_neg hne, need, if_neg hne, List.flatMap_cons, if_neg (by rw [List.length_append, List.length_append]; omega), List.append_assoc, take_node _ _ _ _ _ _ h, drop_node _ _ _ _ _ _ h, asOne_node]
    have e : (m, node N seed room z m) :: handOf N seed room z l = handOf N seed room z (m :: l) := rfl
    rw [e, ih]
    rfl
theorem upto_front (F : Nat → List UInt8) (k : Nat) : upto F (k + 1) = F 0 ++ upto (fun z => F (z + 1)) k := by
  induction k with
  | zero => simp [upto]
  | succ k ih => rw [upto, ih, upto, List.append_assoc]
theorem many_upto (N : Nat) (seed room : List UInt8) (h : N ≤ 32) (k : Nat) : ∀ (z : Nat) (l : List Nat), many N room k z (handOf N seed room z l) (upto (fun j => proofP N seed room (z + j) (nums l j)) k) = ((handOf N seed room (z + k) (nums l k)).map Prod.snd).headD [] := by
  induction k with
  | zero => intro z l; rfl
  | succ k ih =>
    intro z l
    rw [upto_front]
    show many N room (k + 1) z _ (proofP N seed room z l ++ _) = _
    rw [many, climbed_hand N seed room z h l]
    show many N room k (z + 1) (handOf N seed room (z + 1) (halves l)) _ = _
    have := ih (z + 1) (halves l)
    rw [nums_shift, show z + 1 + k = z + (k + 1) by omega] at this
    rw [← this]
    congr 1
    refine upto_congr _ _ k fun c _ => ?_
    rw [nums_shift, show z + (c + 1) = z + 1 + c by omega]
/-- Many leaves, with their proof, come to the root. -/
theorem many_proof (N H : Nat) (seed room : List UInt8) (l : List Nat) (hN : N ≤ 32) (hl : ∀ n ∈ l, n < 2 ^ H) (h0 : l ≠ []) :
    many N room H 0 (handOf N seed room 0 l) (proof N H seed room l) = node N seed room H 0 := by
  have h1 := many_upto N seed room hN H 0 l
  have e : (fun z => proofP N seed room z (nums l z)) = fun j => proofP N seed room (0 + j) (nums l j) := funext fun z => by rw [Nat.zero_add]
  unfold proof
  rw [e, h1, Nat.zero_add]
  have h2 := nums_lt l H hl H (Nat.le_refl _)
  rw [Nat.sub_self, Nat.pow_zero] at h2
  have h3 := nums_ne l h0 H
  match hn : nums l H, h3 with
  | n :: l', _ =>
    have := h2 n (by rw [hn]; simp)
    obtain rfl : n = 0 := by omega
    rfl
end Go.Proofs.YtncafbejgidliaaDoor.Grv
