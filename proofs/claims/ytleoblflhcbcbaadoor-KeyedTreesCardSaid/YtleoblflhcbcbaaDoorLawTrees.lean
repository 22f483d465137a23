/-
  KeyedTrees: Step, Chain, Leaf and Tree of package keyed answer as the document's own answers of layer 3 do: for every input, the law answers true and changes nothing that was there. Condition: the constant table lies as the program's text lays it (the card ties it).
-/
import Derived.Test.YtleoblflhcbcbaaDoorKedAwake
import Derived.Test.YtleoblflhcbcbaaDoorRefKedTree
import Derived.Test.YtleoblflhcbcbaaDoorKedTexts
import Derived.Test.YtleoblflhcbcbaaDoorConstFrame
import Derived.Test.YtleoblflhcbcbaaDoorCards
import Derived.Test.YtleoblflhcbcbaaDoorOpen
import Derived.Test.YtleoblflhcbcbaaDoorTie
import Derived.SevenTiedAt
import Derived.Deep.RegionHeld3
namespace Go.Proofs.YtleoblflhcbcbaaDoor.LawTrees
open Go.ChangeShapes Go.WideShapes Go.ChangeAt Go.ChangeMaps Go.RowKit Mur Sha Ked

/-- A row of texts that a call answered. -/
def Rowed (v : Value) (l : List ByteArray) (w : World) : Prop := w.ownsRow 0 9 1 v l.length (Strs.strsV l)
theorem Rowed.below {v : Value} {l : List ByteArray} {w w' : World} (h : Rowed v l w) (hb : Below w.heap.size w w') : Rowed v l w' := Strs.own_below h hb
theorem rowed_of {v : Value} {l : List ByteArray} {w : World} {base n : Nat} (h : w.ownsRow base 9 1 v n (Strs.strsV l)) (hn : n = l.length) : Rowed v l w := by
  subst hn
  exact Strs.own_mono h (Nat.zero_le _)

theorem texts_rows (l : List ByteArray) (v v' : Value) (w : World) (h : Rowed v l w) (h' : Rowed v' l w) (hl : l.length ≤ 1000000) :
    Calls Tryd.prog 19 #[v, v'] w fun e w' => e = .returned (.bool true) ∧ Below w.heap.size w w' := by
  have hs : ∀ {u : Value}, Rowed u l w → ∃ a g c, u = .slice a l.length c ∧ (l.length ≠ 0 → a = some ⟨g, 0, none⟩) ∧ (∀ i x, l[i]? = some x → w.cell? ⟨g, i, none⟩ = some (.string x)) := fun {u} hu => by
    rcases Strs.own_cases hu with ⟨rfl, h0, hx⟩ | ⟨g, c, rfl, _, _, _, _⟩
    · refine ⟨none, 0, 0, by rw [h0], fun hn => absurd h0 hn, fun i x hi => ?_⟩
      have : l = [] := List.eq_nil_of_length_eq_zero h0
      subst this
      simp at hi
    · exact ⟨some ⟨g, 0, none⟩, g, c, rfl, fun _ => rfl, fun i x hi => Strs.own_cell hu i _ (Strs.strsV_at hi)⟩
  obtain ⟨a, g, c, rfl, ha, hg⟩ := hs h
  obtain ⟨b, g', d, rfl, hb, hg'⟩ := hs h'
  exact texts_below l l.length a b g g' c d w rfl hl ha hb hg hg'

/-- Chain's row, Leaf's text and Tree's row of any numbers. -/
def chainR (k : ByteArray) (n : Int) : List ByteArray := (chain k.data.toList (manyKeys n)).map tx
def leafR (k : ByteArray) (i h : Int) : ByteArray := if h < 0 ∨ 30 < h ∨ i < 0 ∨ 2 ^ h.toNat ≤ i then ⟨#[]⟩ else tx (leaf k.data.toList i.toNat h.toNat)
def treeR (k : ByteArray) (h : Int) : List ByteArray := if h < 0 ∨ 8 < h then [] else (tree k.data.toList h.toNat).map tx
theorem chainR_length (k : ByteArray) (n : Int) : (chainR k n).length = manyKeys n := by simp [chainR, chain_length]
theorem chainR_le (k : ByteArray) (n : Int) : (chainR k n).length ≤ 1000000 := by rw [chainR_length]; have := manyKeys_le n; omega
theorem treeR_le (k : ByteArray) (h : Int) : (treeR k h).length ≤ 1000000 := by
  unfold treeR
  split
  · simp
  · have : 2 ^ h.toNat ≤ 2 ^ 8 := Nat.pow_le_pow_right (by omega) (by omega)
    rw [List.length_map, tree_length]
    omega

theorem chain_row (k : ByteArray) (n : Int) (w : World) (hk : k.size ≤ 400000) (hc : Consts w) :
    Calls Tryd.prog 20 #[.string k, .int .i64 n] w fun e w' => ∃ v, e = .returned v ∧ Rowed v (chainR k n) w' ∧ Below w.heap.size w w' :=
  (chain_any k n w (by omega) hc).mono fun e w' ⟨h1, h2, h3⟩ => ⟨_, h1, by
    have hl := chainR_length k n
    have h2' : w'.heap[w.heap.size]? = some (.cells (Strs.strsV (chainR k n)).toArray 9 (0, 0)) := h2
    have h200 := manyKeys_le n
    refine ⟨by rw [Strs.strsV_length, Nat.mul_one], .inr ⟨w.heap.size, manyKeys n, _, by rw [hl], Nat.zero_le _, h2', by rw [hl]; exact Nat.le_refl _, by unfold maxLen; omega, by simp [Strs.strsV_length, hl], ?_⟩⟩
    simp only [Nat.mul_one]
    rw [List.take_of_length_le (by rw [Strs.strsV_length]; exact Nat.le_refl _)], h3⟩
theorem chain_ref (k : ByteArray) (n : Int) (w : World) (hk : k.size ≤ 400000) :
    Calls Tryd.prog 21 #[.string k, .int .i64 n] w fun e w' => ∃ v, e = .returned v ∧ Rowed v (chainR k n) w' ∧ Below w.heap.size w w' :=
  (RefKed.chain_any k n w hk).mono fun _ _ ⟨v, h1, h2, h3⟩ => ⟨v, h1, rowed_of h2 (chainR_length k n).symm, h3⟩
theorem nat_pow_lt (i h : Int) (h0 : ¬ (h < 0 ∨ 30 < h ∨ i < 0 ∨ 2 ^ h.toNat ≤ i)) : i.toNat < 2 ^ h.toNat := by
  have h1 : i < 2 ^ h.toNat := by omega
  have h2 : ((2 ^ h.toNat : Nat) : Int) = (2 : Int) ^ h.toNat := by rw [Int.natCast_pow]; rfl
  rw [← h2] at h1
  omega
theorem leaf_row (k : ByteArray) (i h : Int) (w : World) (hk : k.size ≤ 400000) (hc : Consts w) :
    Calls Tryd.prog 22 #[.string k, .int .i64 i, .int .i64 h] w fun e w' => e = .returned (.string (leafR k i h)) ∧ Below w.heap.size w w' := by
  by_cases h0 : h < 0 ∨ 30 < h ∨ i < 0 ∨ 2 ^ h.toNat ≤ i
  · rw [leafR, if_pos h0]
    exact leaf_none k i h w h0
  · rw [leafR, if_neg h0]
    have := leaf_any k _ i.toNat h.toNat w (by omega) (by omega) (nat_pow_lt i h h0) rfl hc
    rw [Int.toNat_of_nonneg (by omega), Int.toNat_of_nonneg (by omega)] at this
    exact this
theorem leaf_ref (k : ByteArray) (i h : Int) (w : World) (hk : k.size ≤ 400000) :
    Calls Tryd.prog 23 #[.string k, .int .i64 i, .int .i64 h] w fun e w' => e = .returned (.string (leafR k i h)) ∧ Below w.heap.size w w' := by
  by_cases h0 : h < 0 ∨ 30 < h ∨ i < 0 ∨ 2 ^ h.toNat ≤ i
  · rw [leafR, if_pos h0]
    exact RefKed.leaf_none k i h w h0
  · rw [leafR, if_neg h0]
    have := RefKed.leaf_any k _ i.toNat h.toNat w (by omega) (by omega) (nat_pow_lt i h h0) rfl
    rw [Int.toNat_of_nonneg (by omega), Int.toNat_of_nonneg (by omega)] at this
    exact this
theorem tree_row (k : ByteArray) (h : Int) (w : World) (hk : k.size ≤ 400000) (hc : Consts w) :
    Calls Tryd.prog 24 #[.string k, .int .i64 h] w fun e w' => ∃ v, e = .returned v ∧ Rowed v (treeR k h) w' ∧ Below w.heap.size w w' := by
  by_cases h0 : h < 0 ∨ 8 < h
  · rw [treeR, if_pos h0]
    exact (tree_none k h w h0).mono fun _ _ ⟨h1, h2⟩ => ⟨_, h1, World.ownsRow_nil _ _ _ _, h2⟩
  · rw [treeR, if_neg h0]
    have := tree_any k h.toNat w (by omega) (by omega) hc
    rw [Int.toNat_of_nonneg (by omega)] at this
    exact this.mono fun _ _ ⟨g, c, h1, h2, h3⟩ => ⟨_, h1, rowed_of h2 (by rw [List.length_map, tree_length]), h3⟩
theorem tree_ref (k : ByteArray) (h : Int) (w : World) (hk : k.size ≤ 400000) :
    Calls Tryd.prog 25 #[.string k, .int .i64 h] w fun e w' => ∃ v, e = .returned v ∧ Rowed v (treeR k h) w' ∧ Below w.heap.size w w' := by
  by_cases h0 : h < 0 ∨ 8 < h
  · rw [treeR, if_pos h0]
    exact (RefKed.tree_none k h w h0).mono fun _ _ ⟨h1, h2⟩ => ⟨_, h1, World.ownsRow_nil _ _ _ _, h2⟩
  · rw [treeR, if_neg h0]
    have := RefKed.tree_any k h.toNat w (by omega) (by omega)
    rw [Int.toNat_of_nonneg (by omega)] at this
    exact this.mono fun _ _ ⟨v, h1, h2, h3⟩ => ⟨v, h1, rowed_of h2 (by rw [List.length_map, tree_length]), h3⟩
theorem same (x : ByteArray) : (x.toList == x.toList) = true := by simp

/-- What stays while the last statement is reckoned. -/
structure Keep (w0 w : World) : Prop where
  consts : Consts w
  below : Below w0.heap.size w0 w
abbrev Held (w0 : World) (nb : Nat) (n0 n1 n2 : Int) (w : World) : Prop := w.cell? ⟨nb, 0, none⟩ = some (.int .i64 n0) ∧ w.cell? ⟨nb, 1, none⟩ = some (.int .i64 n1) ∧ w.cell? ⟨nb, 2, none⟩ = some (.int .i64 n2) ∧ Keep w0 w
theorem held_next {w0 w w' : World} {nb : Nat} {n0 n1 n2 : Int} (hn : nb < w0.heap.size) (h : Held w0 nb n0 n1 n2 w) (hb : Below w.heap.size w w') : Held w0 nb n0 n1 n2 w' := by
  obtain ⟨h0, h1, h2, hk⟩ := h
  have hl : nb < w.heap.size := Nat.lt_of_lt_of_le hn hk.below.size
  exact ⟨(hb.cell (p := ⟨nb, 0, none⟩) hl).trans h0, (hb.cell (p := ⟨nb, 1, none⟩) hl).trans h1, (hb.cell (p := ⟨nb, 2, none⟩) hl).trans h2, hk.consts.below hk.consts.1 hb, hk.below.trans (hb.mono hk.below.size)⟩

theorem held_consts {w0 w : World} {nb : Nat} {n0 n1 n2 : Int} (h : Held w0 nb n0 n1 n2 w) : Consts w := h.2.2.2.consts

set_option maxHeartbeats 3200000 in
theorem law_small (key : ByteArray) (n0 n1 n2 : Int) (w : World) (hg : key.size ≤ 500) (hn0 : n0 ≤ 40) (hn2 : n2 ≤ 5) (hc : Consts w) :
    Calls Tryd.prog 5 #[.string key, .agg #[.int .i64 n0, .int .i64 n1, .int .i64 n2]] w fun e w' => e = .returned (.bool true) ∧ Below w.heap.size w w' := by
  have hd1 : decide (500 < (key.size : Int)) = false := by simp; omega
  have hd2 : decide (40 < n0) = false := by simp; omega
  have hd3 : decide (5 < n2) = false := by simp; omega
  have hk4 : key.size ≤ 400000 := by omega
  obtain ⟨A, hA⟩ : ∃ A, A = tx (mac key.data.toList nextT) := ⟨_, rfl⟩
  obtain ⟨B, hB⟩ : ∃ B, B = tx (mac key.data.toList outT) := ⟨_, rfl⟩
  have s1 := Lib.hid (fun u hu => step_any key A B u (by omega) hA hB hu)
  have s2 := Lib.hid (fun u => RefKed.step_any key A B u hk4 hA hB)
  obtain ⟨C, hC⟩ : ∃ C, C = chainR key n0 := ⟨_, rfl⟩
  obtain ⟨L, hL⟩ : ∃ L, L = leafR key n1 n2 := ⟨_, rfl⟩
  obtain ⟨T, hT⟩ : ∃ T, T = treeR key n2 := ⟨_, rfl⟩
  have c1 := Lib.hid (show ∀ u, Consts u → Calls Tryd.prog 20 #[.string key, .int .i64 n0] u fun e w' => ∃ v, e = .returned v ∧ Rowed v C w' ∧ Below u.heap.size u w' from fun u hu => by rw [hC]; exact chain_row key n0 u hk4 hu)
  have c2 := Lib.hid (show ∀ u, Calls Tryd.prog 21 #[.string key, .int .i64 n0] u fun e w' => ∃ v, e = .returned v ∧ Rowed v C w' ∧ Below u.heap.size u w' from fun u => by rw [hC]; exact chain_ref key n0 u hk4)
  have c3 := Lib.hid (fun (v v' : Value) (u : World) (h : Rowed v C u) (h' : Rowed v' C u) => texts_rows C v v' u h h' (by rw [hC]; exact chainR_le key n0))
  have l1 := Lib.hid (show ∀ u, Consts u → Calls Tryd.prog 22 #[.string key, .int .i64 n1, .int .i64 n2] u fun e w' => e = .returned (.string L) ∧ Below u.heap.size u w' from fun u hu => by rw [hL]; exact leaf_row key n1 n2 u hk4 hu)
  have l2 := Lib.hid (show ∀ u, Calls Tryd.prog 23 #[.string key, .int .i64 n1, .int .i64 n2] u fun e w' => e = .returned (.string L) ∧ Below u.heap.size u w' from fun u => by rw [hL]; exact leaf_ref key n1 n2 u hk4)
  have t1 := Lib.hid (show ∀ u, Consts u → Calls Tryd.prog 24 #[.string key, .int .i64 n2] u fun e w' => ∃ v, e = .returned v ∧ Rowed v T w' ∧ Below u.heap.size u w' from fun u hu => by rw [hT]; exact tree_row key n2 u hk4 hu)
  have t2 := Lib.hid (show ∀ u, Calls Tryd.prog 25 #[.string key, .int .i64 n2] u fun e w' => ∃ v, e = .returned v ∧ Rowed v T w' ∧ Below u.heap.size u w' from fun u => by rw [hT]; exact tree_ref key n2 u hk4)
  have t3 := Lib.hid (fun (v v' : Value) (u : World) (h : Rowed v T u) (h' : Rowed v' T u) => texts_rows T v v' u h h' (by rw [hT]; exact treeR_le key n2))
  have e1 := same A
  have e2 := same B
  have e3 := same L
  have HC := Lib.hid hc
  have hbel0 : Below w.heap.size w (w.alloc (.cells #[.int .i64 n0, .int .i64 n1, .int .i64 n2] 31)) := (Below.refl _ _).alloc (Nat.le_refl _) _
  have hbox : Held (w.alloc (.cells #[.int .i64 n0, .int .i64 n1, .int .i64 n2] 31)) w.heap.size n0 n1 n2 (w.alloc (.cells #[.int .i64 n0, .int .i64 n1, .int .i64 n2] 31)) :=
    ⟨by simp [World.cell?_alloc_new], by simp [World.cell?_alloc_new], by simp [World.cell?_alloc_new], hc.below hc.1 hbel0, Below.refl _ _⟩
  have hnb : w.heap.size < (w.alloc (.cells #[.int .i64 n0, .int .i64 n1, .int .i64 n2] 31)).heap.size := by simp
  have HBEL0 := Lib.hid hbel0
  have HBOX := Lib.hid hbox
  have HNB := Lib.hid hnb
  clear hA hB hC hL hT hc hbel0 hbox hnb
  go_enter Tryd.func5, Tryd.ntmps5
  go_wp2_with fail
  obtain ⟨nb, hnbe⟩ : ∃ nb, nb = w.heap.size := ⟨_, rfl⟩
  rw [← hnbe] at HBOX HNB ⊢
  generalize w.alloc (.cells #[.int .i64 n0, .int .i64 n1, .int .i64 n2] 31) = w0 at *
  clear hnbe hd1 hd2 hd3
  refine (s1.out _ HBOX.out.2.2.2.consts).mono ?_
  rintro e w1 ⟨rfl, hb1⟩
  have H1 := Lib.hid (held_next HNB.out HBOX.out hb1)
  clear hb1 HBOX
  go_wp2_with fail
  refine (s2.out _).mono ?_
  rintro e w2 ⟨rfl, hb2⟩
  have H2 := Lib.hid (held_next HNB.out H1.out hb2)
  clear hb2 H1
  go_upto_region 5 with (fail)
  have hS : Held w0 nb n0 n1 n2 w2.drew := held_next HNB.out H2.out ((Below.refl _ _).drew)
  have HS := Lib.hid hS
  clear hS H2
  go_region_held3 (fun w' => w'.cell? ⟨nb, 0, none⟩ = some (.int .i64 n0) ∧ w'.cell? ⟨nb, 1, none⟩ = some (.int .i64 n1) ∧ w'.cell? ⟨nb, 2, none⟩ = some (.int .i64 n2) ∧ Keep w0 w')
    (first | exact HS.out | assumption | exact held_next HNB.out (by assumption) (by assumption))
    (first
      | (go_at_call 20; with_reducible refine Calls.mono (c1.out _ (held_consts (by assumption))) ?_; rintro e w' ⟨v, rfl, hr, hb⟩)
      | (go_at_call 21; with_reducible refine Calls.mono (c2.out _) ?_; rintro e w' ⟨v, rfl, hr, hb⟩)
      | (go_at_call 19; refine Calls.mono (c3.out _ _ _ (by first | assumption | exact Rowed.below (by assumption) (by assumption)) (by first | assumption | exact Rowed.below (by assumption) (by assumption))) ?_; rintro e w' ⟨rfl, hb⟩)
      | (go_at_call 19; refine Calls.mono (t3.out _ _ _ (by first | assumption | exact Rowed.below (by assumption) (by assumption)) (by first | assumption | exact Rowed.below (by assumption) (by assumption))) ?_; rintro e w' ⟨rfl, hb⟩)
      | (go_at_call 22; with_reducible refine Calls.mono (l1.out _ (held_consts (by assumption))) ?_; rintro e w' ⟨rfl, hb⟩)
      | (go_at_call 23; with_reducible refine Calls.mono (l2.out _) ?_; rintro e w' ⟨rfl, hb⟩)
      | (go_at_call 24; with_reducible refine Calls.mono (t1.out _ (held_consts (by assumption))) ?_; rintro e w' ⟨v, rfl, hr, hb⟩)
      | (go_at_call 25; with_reducible refine Calls.mono (t2.out _) ?_; rintro e w' ⟨v, rfl, hr, hb⟩)
      | (go_at_call 7; refine (awake_any _ (held_consts (by assumption))).mono ?_; rintro e w' ⟨rfl, hb⟩))
  all_goals
    go_wp2
    go_ret
    have hkk : Held w0 nb n0 n1 n2 w' := by assumption
    exact ⟨rfl, HBEL0.out.trans (hkk.2.2.2.below.mono HBEL0.out.size)⟩

set_option maxHeartbeats 1600000 in
theorem law_great (key : ByteArray) (n0 n1 n2 : Int) (w : World) (hg : ¬ (key.size ≤ 500 ∧ n0 ≤ 40 ∧ n2 ≤ 5)) (hk : key.size ≤ 140737488351232) (hc : Consts w) :
    Calls Tryd.prog 5 #[.string key, .agg #[.int .i64 n0, .int .i64 n1, .int .i64 n2]] w fun e w' => e = .returned (.bool true) ∧ Below w.heap.size w w' := by
  have HC := Lib.hid hc
  clear hc
  by_cases g1 : key.size ≤ 500
  · have hd1 : decide (500 < (key.size : Int)) = false := by simp; omega
    by_cases g2 : n0 ≤ 40
    · have hd2 : decide (40 < n0) = false := by simp; omega
      have hd3 : decide (5 < n2) = true := by simp; omega
      clear hg
      go_enter Tryd.func5, Tryd.ntmps5
      go_wp2_with fail
      refine (awake_any _ (HC.out.below HC.out.1 ((Below.refl _ _).alloc (Nat.le_refl _) _))).mono ?_
      rintro e w1 ⟨rfl, hb1⟩
      go_wp2
      go_ret
      exact ⟨rfl, ((Below.refl _ _).alloc (Nat.le_refl _) _).trans (hb1.mono (by simp <;> omega))⟩
    · have hd2 : decide (40 < n0) = true := by simp; omega
      clear hg
      go_enter Tryd.func5, Tryd.ntmps5
      go_wp2_with fail
      refine (awake_any _ (HC.out.below HC.out.1 ((Below.refl _ _).alloc (Nat.le_refl _) _))).mono ?_
      rintro e w1 ⟨rfl, hb1⟩
      go_wp2
      go_ret
      exact ⟨rfl, ((Below.refl _ _).alloc (Nat.le_refl _) _).trans (hb1.mono (by simp <;> omega))⟩
  · have hd1 : decide (500 < (key.size : Int)) = true := by simp; omega
    clear hg
    go_enter Tryd.func5, Tryd.ntmps5
    go_wp2_with fail
    refine (awake_any _ (HC.out.below HC.out.1 ((Below.refl _ _).alloc (Nat.le_refl _) _))).mono ?_
    rintro e w1 ⟨rfl, hb1⟩
    go_wp2
    go_ret
    exact ⟨rfl, ((Below.refl _ _).alloc (Nat.le_refl _) _).trans (hb1.mono (by simp <;> omega))⟩
theorem walk (key : ByteArray) (n0 n1 n2 : Int) (w : World) (hk : key.size ≤ 140737488351232) (hc : Consts w) :
    Calls Tryd.prog 5 #[.string key, .agg #[.int .i64 n0, .int .i64 n1, .int .i64 n2]] w
      fun e w' => e = .returned (.bool true) ∧ Below w.heap.size w w' := by
  by_cases hg : key.size ≤ 500 ∧ n0 ≤ 40 ∧ n2 ≤ 5
  · exact law_small key n0 n1 n2 w hg.1 hg.2.1 hg.2.2 hc
  · exact law_great key n0 n1 n2 w hg hk hc

theorem three_of {α : Type} (l : List α) (h : l.length = 3) : ∃ a b c, l = [a, b, c] := by
  match l, h with
  | [a, b, c], _ => exact ⟨a, b, c, rfl⟩
theorem laidOut : laidOutB Tryd.prog = true := by kernel_rfl

set_option maxRecDepth 100000 in
theorem lifted (os : Os) (started : os.Started) (H : Type) (enc : TypeId × Value → H) :
    ReturnsInHanded {} Tryd.checked os 5 .any (fun w args => (Rows.keyedTreesSpec.pre enc Tryd.prog Tryd.f5 [] false w args ∧ laidMetH Tryd.prog laidL w) ∧ sizedMet enc Tryd.prog Tryd.f5 (OpenSpec.ofChange Rows.keyedTreesSpec) false w args)
      (Rows.keyedTreesSpec.post enc Tryd.prog Tryd.f5 false true false false) := by
  refine returnsInHanded_of_change_and (C := Tryd.checked) (X := fun w _ => laidMetH Tryd.prog laidL w) (fun _ _ _ hh h => h.of_heap hh) own started (by kernel_rfl) Tryd.func5
    (ChangeSpec.witness_shaped (enc := enc) (C := Tryd.checked) (os := os) (X := fun w _ => laidMetH Tryd.prog laidL w) false (World.doorLaid Tryd.prog 400 os) #[.string ByteArray.empty, .agg #[.int .i64 0, .int .i64 0, .int .i64 0]] 8 rfl (World.shaped_of_RefB (by kernel_rfl) (by kernel_rfl)) (by kernel_rfl) (by kernel_rfl) (by kernel_rfl) (door_met os _)) ?_
  intro W base args ds gs before hval0 hW _ hsz0 hL _
  have hval : ∀ (j : Nat) t v, Tryd.f5.params[j]? = some t → args[j]? = some v → Value.okWide Tryd.prog W .any base t v := hval0
  have hsz : (DataW.weightsEach Tryd.prog (Tryd.f5.params.toList ++ Rows.keyedTreesSpec.plain.varTypes Tryd.prog) (ds ++ gs)).all (· ≤ reachBytes) = true := hsz0
  clear hsz0
  have hW' := hW
  obtain ⟨p, q, hA0, hV, rfl, hfz, hnd⟩ := hW
  have hA : DataW.TrodAll enc Tryd.prog W 0 (fun _ => true) true Tryd.f5.params.toList args.toList ds p := hA0
  rw [Tryd.params5] at hA hval hsz
  obtain ⟨v0, vs0, d0, ds0, p0, q0, hargs, rfl, rfl, h0, r0⟩ := trodAll_cons hA
  obtain ⟨v1, vs1, d1, ds1, p1, q1, rfl, rfl, rfl, h1, r1⟩ := trodAll_cons r0
  obtain ⟨rfl, rfl, rfl⟩ := trodAll_nil r1
  obtain rfl : args = #[v0, v1] := by cases args; simp_all
  obtain ⟨rfl, rfl⟩ := trodVars_none hV
  have k1 := h1
  have lt1 : ∀ x ∈ p1, x.block < W.heap.size := by obtain ⟨m, hm⟩ := k1; exact DataW.trod_lt m _ _ _ hm
  obtain ⟨a0, rfl, rfl, rfl, w0⟩ := open_string Tryd.underlying9 (hval 0 9 v0 rfl rfl) h0
  obtain ⟨ns, hnl, rfl, rfl, rfl, w1⟩ := Open.open_int_array Tryd.underlying31 Tryd.underlying3 (by kernel_rfl) (by kernel_rfl) (hval 1 31 v1 rfl rfl) h1
  obtain ⟨n0, n1, n2, rfl⟩ := three_of ns hnl
  have z0 := sized_string hsz (j := 0) (t := 9) (bytes := a0.data.toList) rfl rfl
  have hcl := of_laid hL
  clear hA0 hval0
  refine (walk a0 n0 n1 n2 W z0 hcl).mono fun e W' ⟨he, bel⟩ => ?_
  subst he
  exact ⟨_, rfl, _, _, _, [], _, [], hW', trodAll_mk1 (shut_bool Tryd.underlying4 _), (trodAll_cons_mk (shut_string Tryd.underlying9 w0) (trodAll_cons_mk (Below.trod laidOut (by kernel_rfl) (of_decide_eq_true (by kernel_rfl)) k1 bel lt1) trodAll_mk0)), rfl, bel.frame _, fun h => by cases h⟩

theorem over : Rows.KeyedTreesSaid :=
  OpenClaim.holds_of_wide 5 Tryd.f5 rfl rfl rfl rfl rfl rfl rfl ⟨rfl, rfl, rfl, rfl, rfl⟩ rfl rfl rfl rfl rfl (by kernel_rfl) Tryd.func5 (by kernel_rfl)
    (of_decide_eq_true (by kernel_rfl)) (by unfold Func.isWrapper; first | (rw [if_pos (by decide +kernel)]; kernel_rfl) | (rw [if_neg (by decide +kernel)]; exact ⟨rfl, rfl⟩))
    (fun os started H enc _ => lifted os started H enc)

theorem proved : Rows.KeyedTreesCardSaid :=
  Claim7.holds_tied_plain_at .later [] [.data] true Rows.keyedTreesCard.stood.harness false
    over (fun _ h => by cases h) (by kernel_rfl) (fun _ h => by cases h) keyedTrees_row_tie rfl ⟨rfl, rfl⟩ (by kernel_rfl) rfl
    (fun f fn hf hfn => by
      obtain rfl : f = 5 := Option.some.inj ((show Tryd.prog.funcNamed "murmur/murmurlaw03.KeyedTrees" = some 5 by kernel_rfl).symm.trans hf) |>.symm
      obtain rfl : fn = Tryd.f5 := (Option.some.inj (Tryd.func5.symm.trans hfn)).symm
      exact ⟨by kernel_rfl, fun j t ht => by
        rw [Tryd.params5] at ht
        have hm : t ∈ [9, 31] := by simpa using Array.mem_of_getElem? ht
        have hall : ([9, 31].all fun u => !Tryd.prog.wantsStandIn u) = true := by kernel_rfl
        exact (show Tryd.prog.wantsStandIn t = false by simpa using List.all_eq_true.1 hall t hm)⟩)
    (by kernel_rfl)
#print axioms proved
end Go.Proofs.YtleoblflhcbcbaaDoor.LawTrees
