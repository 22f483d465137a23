/-
  The document's own answers of layer 19 for where slots lie (Total, Spot), and for First, are what the plain mathematics of the text Lyo says; all memory that was there is left as it was. Conditions: no more than a hundred slots, numbers of 64 bits.
-/
import Derived.Test.YtedgpglldlohfaaDoorLyU
import Derived.BigQuiet
import Derived.Deep.QuietTactic
namespace Go.Proofs.YtedgpglldlohfaaDoor.RLy
open Go.RowKit Mur Lanes Prt Tap Cel Frm Lyo Zs
set_option maxRecDepth 100000
set_option linter.unusedSimpArgs false

theorem wrap_at (l : List Int) (s : Int) (q : Nat) (x A G B : Int) (hA : A = at_ l s q) (hG : G = Frm.long x s) (hB : B = at_ l s (q + 1)) (hx : (few l)[q]? = some x) : wrap64 (A + G) = B := by
  have e := at_next l s q x hx
  have b := at_bounds l s (q + 1)
  rw [hA, hG, ← e, hB]
  exact IntWalk.wrap64_in _ (by omega)

set_option maxHeartbeats 1600000 in
theorem long_ref (c s : Int) (w : World) (hc : InR c) (hs : InR s) : Calls Tryd.prog 26 #[.int .i64 c, .int .i64 s] w fun z w' => z = .returned (.int .i64 (long c s)) ∧ Below w.heap.size w w' := by
  obtain ⟨T, hT⟩ : ∃ T, T = long c s := ⟨_, rfl⟩
  rw [← hT]
  unfold long at hT
  unfold InR at hc hs
  by_cases h0 : c < 1
  · have d0 : decide (c < 1) = true := decide_eq_true h0
    obtain rfl : T = 0 := by rw [hT, if_pos (by omega)]
    clear hT
    go_enter Tryd.func26, Tryd.ntmps26
    go_wp2
    go_ret
    exact ⟨rfl, Below.refl _ _⟩
  have d0 : decide (c < 1) = false := decide_eq_false h0
  by_cases h1 : 16 < c
  · have d1 : decide (16 < c) = true := decide_eq_true h1
    obtain rfl : T = 0 := by rw [hT, if_pos (by omega)]
    clear hT
    go_enter Tryd.func26, Tryd.ntmps26
    go_wp2
    go_ret
    exact ⟨rfl, Below.refl _ _⟩
  have d1 : decide (16 < c) = false := decide_eq_false h1
  by_cases h2 : s < 0
  · have d2 : decide (s < 0) = true := decide_eq_true h2
    obtain rfl : T = 0 := by rw [hT, if_pos (by omega)]
    clear hT
    go_enter Tryd.func26, Tryd.ntmps26
    go_wp2
    go_ret
    exact ⟨rfl, Below.refl _ _⟩
  have d2 : decide (s < 0) = false := decide_eq_false h2
  by_cases h3 : 2000 < s
  · have d3 : decide (2000 < s) = true := decide_eq_true h3
    obtain rfl : T = 0 := by rw [hT, if_pos (by omega)]
    clear hT
    go_enter Tryd.func26, Tryd.ntmps26
    go_wp2
    go_ret
    exact ⟨rfl, Below.refl _ _⟩
  have d3 : decide (2000 < s) = false := decide_eq_false h3
  have hT2 : T = 8 + c + s := by rw [hT, if_neg (by omega)]
  have w1 : wrap64 (8 + c) = 8 + c := IntWalk.wrap64_in _ (by omega)
  have w2 : wrap64 (8 + c + s) = T := by rw [hT2]; exact IntWalk.wrap64_in _ (by omega)
  clear hT
  go_enter Tryd.func26, Tryd.ntmps26
  go_wp2
  go_ret
  exact ⟨by first | rfl | rw [hT2], Below.refl _ _⟩

set_option maxHeartbeats 3200000 in
theorem total_ref (l : List Int) (a : Option Addr) (n c : Nat) (s T : Int) (w : World) (hT : T = total l s) (h : In w a n c l) (hs : InR s) :
    Calls Tryd.prog 28 #[.slice a n c, .int .i64 s] w fun z w' => z = .returned (.int .i64 T) ∧ Below w.heap.size w w' := by
  obtain ⟨w0, hw0⟩ : ∃ w0, w0 = w := ⟨w, rfl⟩
  subst hw0
  obtain ⟨M, hM⟩ : ∃ M : Nat, M = (few l).length := ⟨_, rfl⟩
  have hM2 : M = min n 6 := by rw [hM, few_length, h.len]
  have hM6 : M ≤ 6 := by omega
  have hmin : min (n : Int) 6 = (M : Int) := by omega
  have hMc : M ≤ c := by have := h.cap; omega
  have hcut := cut_to a n c M hMc
  have RL := Lib.hid (fun (x G : Int) (hx : InR x) (hG : G = Frm.long x s) u => show Calls Tryd.prog 26 #[.int .i64 x, .int .i64 s] u fun z w' => z = .returned (.int .i64 G) ∧ Below u.heap.size u w' from by rw [hG]; exact long_ref x s u hx hs)
  have HR := Lib.hid h
  have HT := Lib.hid (And.intro hT hM)
  have HM := Lib.hid (Hold.Hld.start w0)
  clear hT hM hM2 h hs hMc
  go_enter Tryd.func28, Tryd.ntmps28
  go_wp2
  go_loopw [6, 17] (fun o i wr => ∃ (q : Nat) (A : Int), q ≤ M ∧ i = .int .i64 (q : Int) ∧ o = .int .i64 A ∧ A = at_ l s q ∧ Hold.Hld w0 [] wr) (fun _ i _ => M - (intOf i).toNat)
  case atStart => exact ⟨0, (M : Int), by omega, rfl, rfl, by rw [at_zero, ← HT.out.2], HM.out⟩
  case round =>
    obtain ⟨q, A, hq, rfl, rfl, hA, hm⟩ := hrel
    clear HM
    have HM := Lib.hid hm
    clear hm
    by_cases hlt : q < M
    · have hlt2 : (q : Int) < (M : Int) := by omega
      obtain ⟨x, hx⟩ : ∃ x, (few l)[q]? = some x := ⟨_, List.getElem?_eq_getElem (by rw [← HT.out.2]; exact hlt)⟩
      obtain ⟨-, hxr, b, o, rfl, hb, hcell⟩ := in_few (HR.out.below HM.out.below) q x hx
      obtain ⟨G, hG⟩ : ∃ G, G = Frm.long x s := ⟨_, rfl⟩
      have S := Lib.hid (RL.out x G hxr hG)
      obtain ⟨B, hB⟩ : ∃ B, B = at_ l s (q + 1) := ⟨_, rfl⟩
      have hw1 : wrap64 (A + G) = B := wrap_at l s q x A G B hA hG hB hx
      have HB := Lib.hid hB
      clear hx hxr hA hG hB hb
      go_wp2_with (((with_reducible refine (S.out _).mono ?_); rintro e w ⟨rfl, hb⟩; replace HM := Lib.hid (HM.out.next hb); clear hb))
      clear hcell
      go_roundw
      case rel => exact ⟨q + 1, B, by omega, by go_num, by rw [hw1], HB.out, HM.out⟩
      case measure => simp [intOf]; omega
    · obtain rfl : q = M := by omega
      obtain rfl : T = A := by rw [HT.out.1, hA, total, ← HT.out.2]
      clear hA
      go_wp2
      go_ret
      exact ⟨rfl, HM.out.below⟩

set_option maxHeartbeats 3200000 in
theorem spot_ref (l : List Int) (a : Option Addr) (n c : Nat) (s k A B : Int) (w : World) (hA : A = spotA l s k) (hB : B = spotB l s k) (h : In w a n c l) (hs : InR s) (_ : InR k) :
    Calls Tryd.prog 29 #[.slice a n c, .int .i64 s, .int .i64 k] w fun z w' => z = .returned (.tuple #[.int .i64 A, .int .i64 B]) ∧ Below w.heap.size w w' := by
  obtain ⟨w0, hw0⟩ : ∃ w0, w0 = w := ⟨w, rfl⟩
  subst hw0
  obtain ⟨M, hM⟩ : ∃ M : Nat, M = (few l).length := ⟨_, rfl⟩
  have hM2 : M = min n 6 := by rw [hM, few_length, h.len]
  have hM6 : M ≤ 6 := by omega
  have hmin : min (n : Int) 6 = (M : Int) := by omega
  have hMc : M ≤ c := by have := h.cap; omega
  have HM := Lib.hid (Hold.Hld.start w0)
  by_cases h0 : k < 0
  · have d0 : decide (k < 0) = true := decide_eq_true h0
    obtain ⟨rfl, rfl⟩ : A = 0 ∧ B = 0 := by
      have : ¬ inL l k := fun hi => by unfold inL at hi; omega
      rw [hA, hB, spotA, spotB, if_neg this, if_neg this]
      exact ⟨rfl, rfl⟩
    clear hA hB hM hM2 h hs hMc
    go_enter Tryd.func29, Tryd.ntmps29
    go_wp2
    go_ret2
    exact ⟨rfl, HM.out.below⟩
  have d0 : decide (k < 0) = false := decide_eq_false h0
  by_cases h1 : (M : Int) ≤ k
  · have d1 : decide ((M : Int) ≤ k) = true := decide_eq_true h1
    obtain ⟨rfl, rfl⟩ : A = 0 ∧ B = 0 := by
      have : ¬ inL l k := fun hi => by unfold inL at hi; omega
      rw [hA, hB, spotA, spotB, if_neg this, if_neg this]
      exact ⟨rfl, rfl⟩
    clear hA hB hM hM2 h hs hMc
    go_enter Tryd.func29, Tryd.ntmps29
    go_wp2
    go_ret2
    exact ⟨rfl, HM.out.below⟩
  have d1 : decide ((M : Int) ≤ k) = false := decide_eq_false h1
  obtain ⟨K, rfl⟩ : ∃ K : Nat, k = (K : Int) := ⟨k.toNat, by omega⟩
  have hKM : K < M := by omega
  have hcut := cut_to a n c K (by omega)
  obtain ⟨y, hy⟩ : ∃ y, (few l)[K]? = some y := ⟨_, List.getElem?_eq_getElem (by rw [← hM]; exact hKM)⟩
  obtain ⟨eA, eB⟩ := spot_in l s K y hy
  have RL := Lib.hid (fun (x G : Int) (hx : InR x) (hG : G = Frm.long x s) u => show Calls Tryd.prog 26 #[.int .i64 x, .int .i64 s] u fun z w' => z = .returned (.int .i64 G) ∧ Below u.heap.size u w' from by rw [hG]; exact long_ref x s u hx hs)
  have HR := Lib.hid h
  have HT := Lib.hid (And.intro (hA.trans eA) (And.intro (hB.trans eB) (And.intro hM hy)))
  clear hA hB hM hM2 h hs hMc eA eB hy
  go_enter Tryd.func29, Tryd.ntmps29
  go_wp2
  go_loopw [8, 27] (fun o i wr => ∃ (q : Nat) (D : Int), q ≤ K ∧ i = .int .i64 (q : Int) ∧ o = .int .i64 D ∧ D = at_ l s q ∧ Hold.Hld w0 [] wr) (fun _ i _ => K - (intOf i).toNat)
  case atStart => exact ⟨0, (M : Int), by omega, rfl, rfl, by rw [at_zero, ← HT.out.2.2.1], HM.out⟩
  case round =>
    obtain ⟨q, D, hq, rfl, rfl, hD, hm⟩ := hrel
    clear HM
    have HM := Lib.hid hm
    clear hm
    by_cases hlt : q < K
    · have hlt2 : (q : Int) < (K : Int) := by omega
      obtain ⟨x, hx⟩ : ∃ x, (few l)[q]? = some x := ⟨_, List.getElem?_eq_getElem (by rw [← HT.out.2.2.1]; omega)⟩
      obtain ⟨-, hxr, b, o, rfl, hb, hcell⟩ := in_few (HR.out.below HM.out.below) q x hx
      obtain ⟨G, hG⟩ : ∃ G, G = Frm.long x s := ⟨_, rfl⟩
      have S := Lib.hid (RL.out x G hxr hG)
      obtain ⟨E, hE⟩ : ∃ E, E = at_ l s (q + 1) := ⟨_, rfl⟩
      have hw1 : wrap64 (D + G) = E := wrap_at l s q x D G E hD hG hE hx
      have HB := Lib.hid hE
      clear hx hxr hD hG hE hb
      go_wp2_with (((with_reducible refine (S.out _).mono ?_); rintro e w ⟨rfl, hb⟩; replace HM := Lib.hid (HM.out.next hb); clear hb))
      clear hcell
      go_roundw
      case rel => exact ⟨q + 1, E, by omega, by go_num, by rw [hw1], HB.out, HM.out⟩
      case measure => simp [intOf]; omega
    · obtain rfl : q = K := by omega
      obtain ⟨-, hxr, b, o, rfl, hb, hcell⟩ := in_few (HR.out.below HM.out.below) q y HT.out.2.2.2
      obtain ⟨G, hG⟩ : ∃ G, G = Frm.long y s := ⟨_, rfl⟩
      have S := Lib.hid (RL.out y G hxr hG)
      obtain rfl : A = D := by rw [HT.out.1, hD]
      have hw1 : wrap64 (A + G) = B := wrap_at l s q y A G B hD hG HT.out.2.1 HT.out.2.2.2
      have hqn : (q : Int) < (n : Int) := by omega
      have hqn2 : q < n := by omega
      clear hxr hD hG hb
      go_wp2_with (((with_reducible refine (S.out _).mono ?_); rintro e w ⟨rfl, hb⟩; replace HM := Lib.hid (HM.out.next hb); clear hb))
      go_ret2
      exact ⟨by show Ending.returned (Value.tuple #[.int .i64 A, .int .i64 (wrap64 (A + G))]) = _; rw [hw1], HM.out.below⟩

set_option maxHeartbeats 1600000 in
theorem first_ref (k : Int) (L : List Int) (N : Nat) (w : World) (hL : L = first k) (hN : L.length = N) (_ : InR k) :
    Calls Tryd.prog 27 #[.int .i64 k] w (Fresh w L N) := by
  obtain ⟨w0, hw0⟩ : ∃ w0, w0 = w := ⟨w, rfl⟩
  subst hw0
  have hN2 : max 0 (min k 6) = (N : Int) := by rw [← hN, hL, first_length]; omega
  have hN6 : N ≤ 6 := by omega
  have hL2 : L = List.replicate N 0 := by rw [hL]; unfold first; rw [hN2]; rfl
  have hmk := make_zs N (by omega)
  have HM := Lib.hid (Hold.Hld.start w0)
  have HL := Lib.hid hL2
  clear hL hN hL2
  go_enter Tryd.func27, Tryd.ntmps27
  go_wp2
  replace HM := Lib.hid (HM.out.add 3 (zsV (List.replicate N 0)))
  simp only [List.nil_append] at HM
  go_ret
  exact ⟨w0.heap.size, rfl, Nat.le_refl _, by rw [HL.out]; exact HM.out.at 0 rfl, HM.out.below⟩

end Go.Proofs.YtedgpglldlohfaaDoor.RLy
