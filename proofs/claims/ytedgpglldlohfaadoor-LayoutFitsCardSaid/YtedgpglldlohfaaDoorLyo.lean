/-
  The plain mathematics of package layout (chapter 19): where slots lie, which are open, what comes next, what stays within a budget, and what share each has. Nothing here speaks of a program: no condition but those that each lemma names.
-/
import Derived.Test.YtedgpglldlohfaaDoorFrC
namespace Go.Proofs.YtedgpglldlohfaaDoor.Lyo
open Go.RowKit Mur Lanes Prt Tap Cel Frm
set_option maxRecDepth 100000

theorem long_bounds (c s : Int) : 0 ≤ Frm.long c s ∧ Frm.long c s ≤ 2024 := by
  unfold Frm.long
  split <;> omega
theorem long_zero (s : Int) : Frm.long 0 s = 0 := by
  unfold Frm.long
  rw [if_pos (by omega)]
def few (l : List Int) : List Int := l.take 6
theorem few_length (l : List Int) : (few l).length = min l.length 6 := by rw [few, List.length_take, Nat.min_comm]
theorem few_all (l : List Int) (h : l.length ≤ 6) : few l = l := List.take_of_length_le h
theorem few_at (l : List Int) (i : Nat) (h : i < (few l).length) : (few l)[i]? = l[i]? := by
  rw [few_length] at h
  rw [few, List.getElem?_take_of_lt (by omega)]
/-- The bytes of slots together. -/
def lsum (s : Int) : List Int → Int
  | [] => 0
  | c :: r => Frm.long c s + lsum s r
theorem lsum_append (s : Int) : ∀ a b : List Int, lsum s (a ++ b) = lsum s a + lsum s b
  | [], b => by simp [lsum]
  | c :: r, b => by
    show Frm.long c s + lsum s (r ++ b) = Frm.long c s + lsum s r + lsum s b
    rw [lsum_append s r b]
    omega
theorem lsum_bounds (s : Int) : ∀ l : List Int, 0 ≤ lsum s l ∧ lsum s l ≤ 2024 * (l.length : Int)
  | [] => by simp [lsum]
  | c :: r => by
    have h1 := long_bounds c s
    have h2 := lsum_bounds s r
    have e : lsum s (c :: r) = Frm.long c s + lsum s r := rfl
    rw [e, List.length_cons]
    omega
theorem lsum_next (s : Int) (l : List Int) (k : Nat) (c : Int) (h : l[k]? = some c) : lsum s (l.take (k + 1)) = lsum s (l.take k) + Frm.long c s := by
  rw [List.take_add_one, h, lsum_append]
  simp [lsum]
/-- Where slot k begins. -/
def at_ (l : List Int) (s : Int) (k : Nat) : Int := ((few l).length : Int) + lsum s ((few l).take k)
theorem at_zero (l : List Int) (s : Int) : at_ l s 0 = ((few l).length : Int) := by simp [at_, lsum]
theorem at_next (l : List Int) (s : Int) (k : Nat) (c : Int) (h : (few l)[k]? = some c) : at_ l s (k + 1) = at_ l s k + Frm.long c s := by
  unfold at_
  rw [lsum_next s (few l) k c h]
  omega
theorem at_bounds (l : List Int) (s : Int) (k : Nat) : 0 ≤ at_ l s k ∧ at_ l s k ≤ 12150 := by
  unfold at_
  have h1 := lsum_bounds s ((few l).take k)
  have h2 := few_length l
  have h3 : ((few l).take k).length ≤ 6 := by rw [List.length_take]; omega
  omega
theorem at_least (l : List Int) (s : Int) (k : Nat) : ((few l).length : Int) ≤ at_ l s k := by
  unfold at_
  have h1 := lsum_bounds s ((few l).take k)
  omega
def total (l : List Int) (s : Int) : Int := at_ l s (few l).length
def inL (l : List Int) (k : Int) : Prop := 0 ≤ k ∧ k < ((few l).length : Int)
instance (l : List Int) (k : Int) : Decidable (inL l k) := by unfold inL; infer_instance
def spotA (l : List Int) (s k : Int) : Int := if inL l k then at_ l s k.toNat else 0
def spotB (l : List Int) (s k : Int) : Int := if inL l k then at_ l s (k.toNat + 1) else 0
def slotT (l : List Int) (s k : Int) (out : List UInt8) : List UInt8 := if (out.length : Int) < spotB l s k then [] else (out.drop (spotA l s k).toNat).take ((spotB l s k).toNat - (spotA l s k).toNat)
def want (l : List Int) (k : Int) (out : List UInt8) : Int := if inL l k ∧ k < (out.length : Int) ∧ byte out k.toNat ≤ 16 then (byte out k.toNat : Nat) else 0
def first (n : Int) : List Int := List.replicate (max 0 (min n 6)).toNat 0
def nextOf (l : List Int) (s : Int) (out : List UInt8) (i : Nat) : Int :=
  if Frm.long (l.getD i 0) s = 0 then want l (i : Int) out else if readE (slotT l s (i : Int) out) (l.getD i 0) s = 0 then (readX (slotT l s (i : Int) out) (l.getD i 0) s).next else 0
def next (l : List Int) (s : Int) (out : List UInt8) : List Int := (List.range (few l).length).map (nextOf l s out)
def isOpen (l : List Int) (s : Int) (i : Nat) : Bool := decide (0 < Frm.long (l.getD i 0) s)
def openL (l : List Int) (s : Int) (k : Nat) : List Int := ((List.range k).filter (isOpen l s)).map fun i : Nat => (i : Int)
def fits (s most n c : Int) : Prop := 0 < Frm.long c s ∧ n ≤ most ∧ Frm.long c s ≤ most - n
instance (s most n c : Int) : Decidable (fits s most n c) := by unfold fits; infer_instance
def budG (s most : Int) : Int → List Int → List Int
  | _, [] => []
  | n, c :: r => if fits s most n c then c :: budG s most (n + Frm.long c s) r else 0 :: budG s most n r
def budget (l : List Int) (s most : Int) : List Int := budG s most ((few l).length : Int) (few l)
def share (l : List Int) (s k : Int) : Int := if total l s = 0 ∨ spotB l s k = 0 then 0 else 1000 * (spotB l s k - spotA l s k + 1) / total l s

theorem spot_in (l : List Int) (s : Int) (k : Nat) (c : Int) (h : (few l)[k]? = some c) : spotA l s (k : Int) = at_ l s k ∧ spotB l s (k : Int) = at_ l s (k + 1) := by
  have hk : k < (few l).length := (List.getElem?_eq_some_iff.1 h).1
  have hi : inL l (k : Int) := ⟨by omega, by omega⟩
  unfold spotA spotB
  rw [if_pos hi, if_pos hi]
  exact ⟨rfl, rfl⟩
theorem spot_bounds (l : List Int) (s k : Int) : 0 ≤ spotA l s k ∧ spotA l s k ≤ spotB l s k ∧ spotB l s k ≤ 12150 := by
  unfold spotA spotB
  split
  · rename_i h
    obtain ⟨h1, h2⟩ := h
    have hk : k.toNat < (few l).length := by omega
    have e := at_next l s k.toNat (few l)[k.toNat] (List.getElem?_eq_getElem hk)
    have b1 := at_bounds l s k.toNat
    have b2 := at_bounds l s (k.toNat + 1)
    have b3 := long_bounds (few l)[k.toNat] s
    omega
  · omega
theorem first_length (n : Int) : (first n).length = (max 0 (min n 6)).toNat := by simp [first]
theorem next_length (l : List Int) (s : Int) (out : List UInt8) : (next l s out).length = (few l).length := by simp [next]
theorem next_at (l : List Int) (s : Int) (out : List UInt8) (i : Nat) (h : i < (few l).length) : (next l s out)[i]? = some (nextOf l s out i) := by
  simp [next, h]
theorem want_bounds (l : List Int) (k : Int) (out : List UInt8) : 0 ≤ want l k out ∧ want l k out ≤ 16 := by
  unfold want
  split <;> omega
theorem read_next (t : List UInt8) (c s : Int) (h : readE t c s = 0) : 0 ≤ (readX t c s).next ∧ (readX t c s).next ≤ 16 := by
  have hb : ¬ badForm (opened t) c := fun hb => by
    unfold readE at h
    rw [if_pos hb] at h
    split at h
    · cases h
    · split at h <;> cases h
  unfold readX sayOf
  rw [if_pos h]
  show 0 ≤ ((byte (opened t) 0 : Nat) : Int) ∧ ((byte (opened t) 0 : Nat) : Int) ≤ 16
  have : ¬ 16 < byte (opened t) 0 := fun h => hb (Or.inl h)
  omega
theorem nextOf_bounds (l : List Int) (s : Int) (out : List UInt8) (i : Nat) : 0 ≤ nextOf l s out i ∧ nextOf l s out i ≤ 16 := by
  unfold nextOf
  split
  · exact want_bounds _ _ _
  · split
    · rename_i h
      exact read_next _ _ _ h
    · omega
theorem budG_length (s most : Int) : ∀ (n : Int) (l : List Int), (budG s most n l).length = l.length
  | _, [] => rfl
  | n, c :: r => by
    show (if fits s most n c then c :: budG s most (n + Frm.long c s) r else 0 :: budG s most n r).length = _
    split <;> rw [List.length_cons, List.length_cons, budG_length s most _ r]
theorem budG_sum (s most : Int) : ∀ (n : Int) (l : List Int), n ≤ most → n + lsum s (budG s most n l) ≤ most
  | n, [], h => by
    show n + 0 ≤ most
    omega
  | n, c :: r, h => by
    show n + lsum s (if fits s most n c then c :: budG s most (n + Frm.long c s) r else 0 :: budG s most n r) ≤ most
    split
    · rename_i hf
      obtain ⟨h1, h2, h3⟩ := hf
      have := budG_sum s most (n + Frm.long c s) r (by omega)
      show n + (Frm.long c s + lsum s (budG s most (n + Frm.long c s) r)) ≤ most
      omega
    · have := budG_sum s most n r h
      show n + (Frm.long 0 s + lsum s (budG s most n r)) ≤ most
      rw [long_zero]
      omega
theorem budG_each (s most : Int) : ∀ (n : Int) (l : List Int) (i : Nat) (c : Int), (budG s most n l)[i]? = some c → c = 0 ∨ l[i]? = some c
  | n, [], i, c, h => by
    have : budG s most n [] = [] := rfl
    rw [this] at h
    simp at h
  | n, a :: r, i, c, h => by
    have e : budG s most n (a :: r) = if fits s most n a then a :: budG s most (n + Frm.long a s) r else 0 :: budG s most n r := rfl
    rw [e] at h
    cases i with
    | zero =>
      split at h
      · exact Or.inr h
      · left
        exact (Option.some.inj h).symm
    | succ i =>
      split at h
      · exact budG_each s most _ r i c h
      · exact budG_each s most _ r i c h
theorem budG_whole (s most : Int) : ∀ (n : Int) (l : List Int), n + lsum s l ≤ most → ∀ (i : Nat) (a c : Int), l[i]? = some a → (budG s most n l)[i]? = some c → Frm.long c s = Frm.long a s
  | n, [], _, i, a, c, h, _ => by simp at h
  | n, x :: r, hn, i, a, c, h1, h2 => by
    have e : budG s most n (x :: r) = if fits s most n x then x :: budG s most (n + Frm.long x s) r else 0 :: budG s most n r := rfl
    have es : lsum s (x :: r) = Frm.long x s + lsum s r := rfl
    rw [es] at hn
    have hb := lsum_bounds s r
    have hx := long_bounds x s
    rw [e] at h2
    by_cases hf : fits s most n x
    · rw [if_pos hf] at h2
      cases i with
      | zero => rw [← Option.some.inj h1, ← Option.some.inj h2]
      | succ i => exact budG_whole s most _ r (by omega) i a c h1 h2
    · rw [if_neg hf] at h2
      have h0 : Frm.long x s = 0 := by
        unfold fits at hf
        omega
      cases i with
      | zero => rw [← Option.some.inj h1, ← Option.some.inj h2, h0, long_zero]
      | succ i => exact budG_whole s most _ r (by omega) i a c h1 h2
/-- Within a budget a layout is no longer than it may be. -/
theorem budget_total (l : List Int) (s most : Int) (hl : l.length ≤ 6) (h : (l.length : Int) ≤ most) : total (budget l s most) s ≤ most := by
  have e : few l = l := few_all l hl
  have hlen : (budget l s most).length = l.length := by rw [budget, e, budG_length]
  have eb : few (budget l s most) = budget l s most := few_all _ (by omega)
  unfold total at_
  rw [eb, List.take_of_length_le (Nat.le_refl _), hlen, budget, e]
  exact budG_sum s most _ l h
theorem budget_whole (l : List Int) (s most : Int) (hl : l.length ≤ 6) (h : total l s ≤ most) (i : Nat) (a c : Int) (h1 : l[i]? = some a) (h2 : (budget l s most)[i]? = some c) : Frm.long c s = Frm.long a s := by
  have e : few l = l := few_all l hl
  unfold total at_ at h
  rw [e, List.take_of_length_le (Nat.le_refl _)] at h
  rw [budget, e] at h2
  exact budG_whole s most _ l h i a c h1 h2
theorem share_bounds (l : List Int) (s k : Int) : 0 ≤ share l s k ∧ share l s k ≤ 12151000 := by
  unfold share
  split
  · omega
  · rename_i h
    have h1 : ¬ total l s = 0 := fun e => h (Or.inl e)
    have h2 := at_bounds l s (few l).length
    have h3 := spot_bounds l s k
    have h4 : 0 < total l s := by unfold total at *; omega
    have h5 : 0 ≤ 1000 * (spotB l s k - spotA l s k + 1) := by omega
    refine ⟨Int.ediv_nonneg h5 (by omega), ?_⟩
    have := Int.ediv_le_self (total l s) h5
    omega
/-- The shares of the first k slots. -/
def shares (l : List Int) (s : Int) : Nat → Int
  | 0 => 0
  | k + 1 => shares l s k + share l s (k : Int)
theorem shares_le (l : List Int) (s : Int) : ∀ k : Nat, k ≤ (few l).length → 0 ≤ shares l s k ∧ total l s * shares l s k ≤ 1000 * (lsum s ((few l).take k) + (k : Int))
  | 0, _ => by simp [shares, lsum]
  | k + 1, h => by
    obtain ⟨h1, h2⟩ := shares_le l s k (by omega)
    have hk : k < (few l).length := by omega
    have hc : (few l)[k]? = some (few l)[k] := List.getElem?_eq_getElem hk
    have hs := share_bounds l s (k : Int)
    have e : shares l s (k + 1) = shares l s k + share l s (k : Int) := rfl
    refine ⟨by omega, ?_⟩
    rw [e, Int.mul_add, lsum_next s (few l) k _ hc]
    have hb := long_bounds (few l)[k] s
    have hq : total l s * share l s (k : Int) ≤ 1000 * (Frm.long (few l)[k] s + 1) := by
      obtain ⟨sa, sb⟩ := spot_in l s k _ hc
      have hn := at_next l s k _ hc
      unfold share
      split
      · rw [Int.mul_zero]
        omega
      · rename_i h3
        rw [sa, sb, hn]
        have e2 : at_ l s k + Frm.long (few l)[k] s - at_ l s k + 1 = Frm.long (few l)[k] s + 1 := by omega
        rw [e2]
        exact Int.mul_ediv_self_le (fun e => h3 (Or.inl e))
    have : 1000 * (lsum s ((few l).take k) + Frm.long (few l)[k] s + ((k + 1 : Nat) : Int)) = 1000 * (lsum s ((few l).take k) + (k : Int)) + 1000 * (Frm.long (few l)[k] s + 1) := by omega
    rw [this]
    omega
theorem shares_whole (l : List Int) (s : Int) : shares l s (few l).length ≤ 1000 := by
  obtain ⟨h1, h2⟩ := shares_le l s (few l).length (Nat.le_refl _)
  have e : lsum s ((few l).take (few l).length) + ((few l).length : Int) = total l s := by unfold total at_; omega
  rw [e] at h2
  have h3 := at_least l s (few l).length
  by_cases h0 : total l s = 0
  · have hz : (few l).length = 0 := by unfold total at h0; omega
    rw [hz]
    show (0 : Int) ≤ 1000
    omega
  · have hp : 0 < total l s := by have := at_bounds l s (few l).length; unfold total at *; omega
    rw [Int.mul_comm 1000] at h2
    exact Int.le_of_mul_le_mul_left h2 hp
end Go.Proofs.YtedgpglldlohfaaDoor.Lyo
