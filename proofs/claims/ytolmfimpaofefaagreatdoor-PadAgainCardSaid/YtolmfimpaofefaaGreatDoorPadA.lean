/-
  The plain mathematics of PadAgain: in a book of the seed "seed" whose pads of one pair and epoch were asked for with 40 bytes each, a pad is that of what the pair shares, and so it stays. No condition but those that each lemma names.
-/
import Derived.Test.YtolmfimpaofefaaGreatDoorPadC
import Derived.Test.YtolmfimpaofefaaGreatDoorPadK0
import Derived.Test.YtolmfimpaofefaaGreatDoorPadK1
import Derived.Test.YtolmfimpaofefaaGreatDoorPadK2
namespace Go.Proofs.YtolmfimpaofefaaGreatDoor.Pad
open Go.RowKit Mur Prt Lanes Limb Lad LadC Tap Bkl Bkm Rec Cel Bkr Bkb
set_option maxRecDepth 100000

theorem good_all (c s : Int) (e : Nat) (hc : 100 ≤ c) (hc2 : c ≤ 105) (hs : 0 ≤ s) (hs2 : s ≤ 3) (he : e < 3) : PadK.Good c s (e : Int) := by
  rcases (by omega : e = 0 ∨ e = 1 ∨ e = 2) with rfl | rfl | rfl
  · exact PadK.good_all_0 c s hc hc2 hs hs2
  · exact PadK.good_all_1 c s hc hc2 hs hs2
  · exact PadK.good_all_2 c s hc hc2 hs hs2
theorem numT_inj {a b : Nat} (ha : a < Prime.P) (hb : b < Prime.P) (h : (numT a).data.toList = (numT b).data.toList) : a = b := by
  have h1 := PadK.pubN_num a ha
  have h2 := PadK.pubN_num b hb
  have e : pubN (numT a) = pubN (numT b) := by unfold pubN; rw [h]
  rw [← h1, e, h2]
/-- A client and a server of the seed share something, without an error. -/
theorem shares (c s e : Int) (h : PadK.Good c s e) : sE (tx (secret seedT c s e)) (pub seedT s e) = 0 := by
  unfold PadK.Good at h
  have h1 : (tx (secret seedT c s e)).size = 32 := by rw [tx_long, secret_length]
  have h2 := pub_size seedT s e
  generalize tx (secret seedT c s e) = a at *
  generalize pub seedT s e = b at *
  unfold sE
  rw [if_pos ⟨h1, h2⟩, if_neg]
  intro h3
  exact h (numT_inj (shareN_lt a b) (by decide) h3)
theorem shared_of (c s e : Int) : sT (tx (secret seedT c s e)) (pub seedT s e) = Pad.shared seedT c s e := Eq.refl _

theorem name_inj (c s e : Int) (k m : Nat) (h : name c s e (k : Int) = name c s e (m : Int)) : k = m := by
  have := dec_of_name c s e _ _ h
  rw [dec_nat, dec_nat] at this
  exact digits_same k m this
theorem fit_self (t : List UInt8) (h : t.length = 40) : fit t 40 = t := by
  unfold fit
  have e : (max 0 (min (40 : Int) 6000)).toNat = 40 := by decide
  rw [e, ← h, List.take_left]
/-- A book that was asked for some pads of one pair. -/
structure Inv (c s e : Int) (S : List UInt8) (b : Bk) (m : Nat) : Prop where
  ideal : b.ideal = false
  seed : b.seed = seedT
  cells : b.cells = [(kept c s e 0, S)]
  used : ∀ (k : Nat) T, get b.used (name c s e (k : Int)) = some T → T = Pad.of S (k : Int) 40
  room : Room b m
theorem long_40 : long 40 = 40 := by decide
theorem of_40 (S : List UInt8) (r : Int) : (Pad.of S r 40).length = 40 := by rw [of_length, long_40]
theorem kept_any (c s e r : Int) : kept c s e r = kept c s e 0 := kept_same _ _ _ _ _
theorem put_inv (c s e : Int) (S : List UInt8) (l : List C) (k : Nat) (h : ∀ (j : Nat) T, get l (name c s e (j : Int)) = some T → T = Pad.of S (j : Int) 40) (j : Nat) (T : List UInt8) (hg : get (put l (name c s e (k : Int)) (Pad.of S (k : Int) 40)) (name c s e (j : Int)) = some T) : T = Pad.of S (j : Int) 40 := by
  by_cases hj : name c s e (j : Int) = name c s e (k : Int)
  · obtain rfl := name_inj c s e j k hj
    rw [put_got] at hg
    exact (Option.some.inj hg).symm
  · rw [put_other _ _ _ _ hj] at hg
    exact h j T hg
theorem first_pad (c s e : Int) (S : List UInt8) (hS : (Pad.shared seedT c s e).data.toList = S) (k : Nat) : padS r0 c s e (k : Int) 40 = Pad.of S (k : Int) 40 ∧ Inv c s e S (padB r0 c s e (k : Int) 40) 1 := by
  obtain ⟨h1, h2⟩ := pad_new r0 c s e (k : Int) 40 rfl (get_nil _)
  obtain ⟨h3, h4⟩ := shared_new r0 c s e (k : Int) (get_nil _)
  have e0 : r0.seed = seedT := rfl
  rw [e0, hS] at h3 h4
  rw [h3] at h1
  rw [h3, h4] at h2
  refine ⟨h1, ?_⟩
  rw [h2]
  refine ⟨rfl, rfl, ?_, ?_, ?_⟩
  · show put [] (kept c s e (k : Int)) S = _
    rw [put_nil, kept_any]
  · intro j T hg
    exact put_inv c s e S [] k (fun j T h => by cases h) j T hg
  · refine ⟨(by decide : seedT.length ≤ 1000), ?_, ?_, (by decide : 0 ≤ 1), (by decide : 0 ≤ 1), (by decide : 0 ≤ 1), (by decide : 0 ≤ 1), (by decide : 0 ≤ 1)⟩
    · show (put [] (kept c s e (k : Int)) S).length ≤ 1
      rw [put_nil]
      exact Nat.le_refl 1
    · show (put [] (name c s e (k : Int)) (Pad.of S (k : Int) 40)).length ≤ 1
      rw [put_nil]
      exact Nat.le_refl 1
theorem next_pad (c s e : Int) (S : List UInt8) (b : Bk) (m : Nat) (k : Nat) (h : Inv c s e S b m) : padS b c s e (k : Int) 40 = Pad.of S (k : Int) 40 ∧ Inv c s e S (padB b c s e (k : Int) 40) (m + 1) := by
  cases hu : get b.used (name c s e (k : Int)) with
  | some T =>
    have hT := h.used k T hu
    have hp : plain b c s e (k : Int) = true := by
      unfold plain
      rw [hu, Option.isSome_some, Bool.or_true]
    have hs : padS b c s e (k : Int) 40 = Pad.of S (k : Int) 40 := by
      unfold padS
      rw [if_pos hp]
      unfold cellS
      rw [hu]
      show fit T 40 = _
      rw [hT, fit_self _ (of_40 _ _)]
    have hb : padB b c s e (k : Int) 40 = b := by
      unfold padB
      rw [if_pos hp]
      unfold cellB
      rw [hu]
    refine ⟨hs, ?_⟩
    rw [hb]
    exact ⟨h.ideal, h.seed, h.cells, h.used, h.room.more (Nat.le_succ m)⟩
  | none =>
    have hg : get b.cells (kept c s e (k : Int)) = some S := by
      rw [h.cells, RTap.get_cons, if_pos (kept_any c s e (k : Int)).symm]
    obtain ⟨h1, h2⟩ := pad_new b c s e (k : Int) 40 h.ideal hu
    obtain ⟨h3, h4⟩ := shared_old b c s e (k : Int) S hg
    rw [h3] at h1
    rw [h3, h4] at h2
    refine ⟨h1, ?_⟩
    rw [h2]
    refine ⟨h.ideal, h.seed, h.cells, ?_, ?_⟩
    · intro j T hj
      exact put_inv c s e S b.used k h.used j T hj
    · have hr := h.room
      refine ⟨hr.seed, ?_, ?_, Nat.le_succ_of_le hr.counts, Nat.le_succ_of_le hr.issued, Nat.le_succ_of_le hr.taken, Nat.le_succ_of_le hr.forged, Nat.le_succ_of_le hr.missed⟩
      · have := hr.cells; show b.cells.length ≤ _; omega
      · have := put_length b.used (name c s e (k : Int)) (Pad.of S (k : Int) 40)
        have := hr.used
        show (put b.used (name c s e (k : Int)) (Pad.of S (k : Int) 40)).length ≤ _
        omega
theorem Inv.brief {c s e : Int} {S : List UInt8} {b : Bk} {m : Nat} (h : Inv c s e S b m) (hS : S.length ≤ 1000) : Brief b := fun _ x hx => by
  rw [h.cells] at hx
  obtain rfl := List.mem_singleton.1 hx
  exact hS
end Go.Proofs.YtolmfimpaofefaaGreatDoor.Pad
