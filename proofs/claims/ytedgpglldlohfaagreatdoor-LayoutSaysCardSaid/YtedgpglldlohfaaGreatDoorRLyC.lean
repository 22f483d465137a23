/-
  The document's own answers of layer 19 for what is cut out (Slot), what a byte wants (Want), and what comes next (Next), are what the plain mathematics of the text Lyo says; all memory that was there is left as it was. Conditions: no more than a hundred slots, a text of no more than 10000 bytes, numbers of 64 bits.
-/
import Derived.Test.YtedgpglldlohfaaGreatDoorRLyA
import Derived.Test.YtedgpglldlohfaaGreatDoorLyW
import Derived.Test.YtedgpglldlohfaaGreatDoorRFrR
namespace Go.Proofs.YtedgpglldlohfaaGreatDoor.RLy
open Go.RowKit Mur Lanes Prt Tap Cel Frm Lyo Zs
set_option maxRecDepth 100000
set_option linter.unusedSimpArgs false

theorem row_again (D Z : List Int) (q : Nat) (x y : Int) (hD : D.length = q) : (zsV ((D ++ [y]) ++ Z)).set q (.int .i64 x) = zsV ((D ++ [x]) ++ Z) := by
  rw [zsV_set]
  congr 1
  rw [List.append_assoc, List.append_assoc, List.set_append_right _ _ (by omega), hD, Nat.sub_self]
  rfl
theorem row_long (D Z : List Int) (q : Nat) (y : Int) (hD : D.length = q) : q < (zsV ((D ++ [y]) ++ Z)).length := by
  rw [zsV_length, List.length_append, List.length_append, hD]
  simp only [List.length_cons, List.length_nil]
  omega
theorem row_room (D : List Int) (q N : Nat) (hD : D.length = q) (h : q < N) : q < (zsV (D ++ List.replicate (N - q) 0)).length := by
  rw [zsV_length, List.length_append, hD, List.length_replicate]
  omega
theorem next_take (l : List Int) (s : Int) (out : List UInt8) (q : Nat) (h : q < (few l).length) : (next l s out).take (q + 1) = (next l s out).take q ++ [nextOf l s out q] := by
  rw [List.take_add_one, next_at l s out q h]
  rfl
theorem slot_size (l : List Int) (s : Int) (out : List UInt8) (q : Nat) (x : Int) (hx : (few l)[q]? = some x) : (slotT l s (q : Int) out).length ≤ 2024 := by
  obtain ⟨hA, hB⟩ := spot_in l s q x hx
  have hn := at_next l s q x hx
  have b1 := at_bounds l s q
  have b3 := long_bounds x s
  unfold slotT
  rw [hA, hB, hn]
  split
  · simp
  · rw [List.length_take, List.length_drop]
    omega

set_option maxHeartbeats 1600000 in
theorem slot_ref (l : List Int) (a : Option Addr) (n c : Nat) (s k : Int) (t X : ByteArray) (w : World) (hX : X = tx (slotT l s k t.data.toList)) (h : In w a n c l) (hs : InR s) (hk : InR k) (_ : t.size ≤ 10000) :
    Calls Tryz.prog 10 #[.slice a n c, .int .i64 s, .int .i64 k, .string t] w fun z w' => z = .returned (.string X) ∧ Below w.heap.size w w' := by
  obtain ⟨w0, hw0⟩ : ∃ w0, w0 = w := ⟨w, rfl⟩
  subst hw0
  obtain ⟨A, hA⟩ : ∃ A, A = spotA l s k := ⟨_, rfl⟩
  obtain ⟨B, hB⟩ : ∃ A, A = spotB l s k := ⟨_, rfl⟩
  have RS := Lib.hid (fun u (hu : Below w0.heap.size w0 u) => spot_ref l a n c s k A B u hA hB (h.below hu) hs hk)
  have hcut := slot_cut l s k A B t X hA hB hX
  have HM := Lib.hid (Hold.Hld.start w0)
  by_cases hlo : (t.size : Int) < B
  · have d5 : decide ((t.size : Int) < B) = true := decide_eq_true hlo
    obtain rfl : X = ⟨#[]⟩ := by
      have ht : t.data.toList.length = t.size := rfl
      rw [hX]
      unfold slotT
      rw [← hB, ht, if_pos hlo]
    clear hcut hlo hX hA hB h hs hk
    go_enter Tryz.func10, Tryz.ntmps10
    go_wp2_with (((with_reducible refine (RS.out _ HM.out.below).mono ?_); rintro e w ⟨rfl, hb⟩; replace HM := Lib.hid (HM.out.next hb); clear hb))
    go_ret
    exact ⟨rfl, HM.out.below⟩
  · have hsl := hcut.2 hlo
    have d5 : decide ((t.size : Int) < B) = false := decide_eq_false hlo
    clear hcut hlo hX hA hB h hs hk
    go_enter Tryz.func10, Tryz.ntmps10
    go_wp2_with (((with_reducible refine (RS.out _ HM.out.below).mono ?_); rintro e w ⟨rfl, hb⟩; replace HM := Lib.hid (HM.out.next hb); clear hb))
    go_ret
    exact ⟨rfl, HM.out.below⟩

set_option maxHeartbeats 3200000 in
theorem want_ref (l : List Int) (a : Option Addr) (n c : Nat) (k W : Int) (t : ByteArray) (w : World) (hW : W = want l k t.data.toList) (h : In w a n c l) (_ : InR k) (_ : t.size ≤ 10000) :
    Calls Tryz.prog 12 #[.slice a n c, .int .i64 k, .string t] w fun z w' => z = .returned (.int .i64 W) ∧ Below w.heap.size w w' := by
  obtain ⟨w0, hw0⟩ : ∃ w0, w0 = w := ⟨w, rfl⟩
  subst hw0
  obtain ⟨M, hM⟩ : ∃ M : Nat, M = (few l).length := ⟨_, rfl⟩
  have hM2 : M = min n 6 := by rw [hM, few_length, h.len]
  have hmin : min (n : Int) 6 = (M : Int) := by omega
  have htl : t.data.toList.length = t.size := rfl
  have HM := Lib.hid (Hold.Hld.start w0)
  have hW2 : W = if ((0 : Int) ≤ k ∧ k < (M : Int)) ∧ k < (t.size : Int) ∧ byte t.data.toList k.toNat ≤ 16 then ((byte t.data.toList k.toNat : Nat) : Int) else (0 : Int) := by
    rw [hW, hM]
    rfl
  clear hW hM hM2 h
  by_cases h0 : k < 0
  · have d0 : decide (k < 0) = true := decide_eq_true h0
    obtain rfl : W = 0 := by rw [hW2, if_neg (by omega)]
    clear hW2 htl
    go_enter Tryz.func12, Tryz.ntmps12
    go_wp2
    go_ret
    exact ⟨rfl, HM.out.below⟩
  have d0 : decide (k < 0) = false := decide_eq_false h0
  by_cases h1 : (M : Int) ≤ k
  · have d1 : decide ((M : Int) ≤ k) = true := decide_eq_true h1
    obtain rfl : W = 0 := by rw [hW2, if_neg (by omega)]
    clear hW2 htl
    go_enter Tryz.func12, Tryz.ntmps12
    go_wp2
    go_ret
    exact ⟨rfl, HM.out.below⟩
  have d1 : decide ((M : Int) ≤ k) = false := decide_eq_false h1
  by_cases h2 : (t.size : Int) ≤ k
  · have d2 : decide ((t.size : Int) ≤ k) = true := decide_eq_true h2
    obtain rfl : W = 0 := by rw [hW2, if_neg (by omega)]
    clear hW2 htl
    go_enter Tryz.func12, Tryz.ntmps12
    go_wp2
    go_ret
    exact ⟨rfl, HM.out.below⟩
  have d2 : decide ((t.size : Int) ≤ k) = false := decide_eq_false h2
  obtain ⟨K, rfl⟩ : ∃ K : Nat, k = (K : Int) := ⟨k.toNat, by omega⟩
  have hkt : ((K : Int)).toNat = K := rfl
  obtain ⟨B, hB⟩ : ∃ B, B = byte t.data.toList K := ⟨_, rfl⟩
  have hix : ∀ u : World, (Instr.index 9 (.string t) (.int .i64 (K : Int))).run Tryz.prog u = .ok (.int .u8 (B : Int)) u := fun u => by rw [hB]; exact Frl.idx t K (by omega) u
  have hB256 : B < 256 := by rw [hB]; exact Frl.byte_lt _ _
  have hcv : IntKind.i64.wrap (B : Int) = (B : Int) := Frl.i64_in _ (by omega) (by omega)
  rw [hkt, ← hB] at hW2
  by_cases h3 : 16 < B
  · have d3 : decide (16 < (B : Int)) = true := decide_eq_true (by omega)
    obtain rfl : W = 0 := by rw [hW2, if_neg (by omega)]
    clear hW2 htl hB hkt
    go_enter Tryz.func12, Tryz.ntmps12
    go_wp2
    go_ret
    exact ⟨rfl, HM.out.below⟩
  have d3 : decide (16 < (B : Int)) = false := decide_eq_false (by omega)
  obtain rfl : W = (B : Int) := by rw [hW2, if_pos ⟨⟨by omega, by omega⟩, by omega, by omega⟩]
  clear hW2 htl hB hkt
  go_enter Tryz.func12, Tryz.ntmps12
  go_wp2
  go_ret
  exact ⟨by first | rfl | (rw [hcv]), HM.out.below⟩

set_option maxHeartbeats 12800000 in
theorem next_ref (l : List Int) (a : Option Addr) (n c : Nat) (s : Int) (t : ByteArray) (L : List Int) (N : Nat) (w : World) (hL : L = next l s t.data.toList) (hN : L.length = N) (h : In w a n c l) (hs : InR s) (ht : t.size ≤ 10000) :
    Calls Tryz.prog 17 #[.slice a n c, .int .i64 s, .string t] w (Out w L N) := by
  obtain ⟨w0, hw0⟩ : ∃ w0, w0 = w := ⟨w, rfl⟩
  subst hw0
  obtain ⟨b, o, ha, hc⟩ := cells_at h
  have HC := Lib.hid hc
  have HA := Lib.hid ha
  have hNM : (few l).length = N := by rw [← hN, hL, next_length]
  have hN6 : N ≤ 6 := by rw [← hNM, few_length]; omega
  have hNn : N ≤ n := by rw [← hNM, few_length, h.len]; omega
  have hn100 : n ≤ 100 := h.most
  have hf : first (n : Int) = List.replicate N 0 := by
    unfold first
    have : (max 0 (min (n : Int) 6)).toNat = N := by rw [← hNM, few_length, h.len]; omega
    rw [this]
  have RL := Lib.hid (fun (x G : Int) (hx : InR x) (hG : G = Frm.long x s) u => show Calls Tryz.prog 20 #[.int .i64 x, .int .i64 s] u fun z w' => z = .returned (.int .i64 G) ∧ Below u.heap.size u w' from by rw [hG]; exact long_ref x s u hx hs)
  have RF := Lib.hid (fun u => first_ref (n : Int) (List.replicate N 0) N u hf.symm (by simp) (inN n (by have := h.most; omega)))
  have RW := Lib.hid (fun (q : Nat) (W : Int) (hW : W = want l (q : Int) t.data.toList) (hq : q ≤ 6) u (hu : Below w0.heap.size w0 u) => want_ref l a n c (q : Int) W t u hW (h.below hu) (inN q (by omega)) ht)
  have RX := Lib.hid (fun (q : Nat) (X : ByteArray) (hX : X = tx (slotT l s (q : Int) t.data.toList)) (hq : q ≤ 6) u (hu : Below w0.heap.size w0 u) => slot_ref l a n c s (q : Int) t X u hX (h.below hu) hs (inN q (by omega)) ht)
  have RR := Lib.hid (fun (X : ByteArray) (x : Int) (Y : SayB) (E : Int) (hY : Y = ofSay (readX X.data.toList x s)) (hE : E = readE X.data.toList x s) (hX : X.size ≤ 6000) (hx : InR x) u => RFrm.read_ref X x s Y E u hY hE hX hx hs)
  have HF := Lib.hid h.fit
  have HR := Lib.hid (And.intro hL (And.intro hNM hN))
  have HM := Lib.hid (Hold.Hld.start w0)
  clear hL hN h hs hc ha hf hNM ht
  go_enter Tryz.func17, Tryz.ntmps17
  go_wp2_with ((with_reducible refine (RF.out _).mono ?_); rintro e w ⟨b1, rfl, hb1, hw1, hb⟩; replace HM := Lib.hid (HM.out.join hb hb1 hw1); simp only [List.nil_append] at HM; clear hb hb1 hw1)
  go_loopw [16] (fun i wr => ∃ q : Nat, q ≤ N ∧ i = .int .i64 (q : Int) ∧ Hold.Hld w0 [⟨b1, 3, zsV ((next l s t.data.toList).take q ++ List.replicate (N - q) 0)⟩] wr) (fun i _ => N - (intOf i).toNat)
  case atStart => exact ⟨0, by omega, rfl, HM.out⟩
  case round =>
    obtain ⟨q, hq, rfl, hm⟩ := hrel
    clear HM
    have HM := Lib.hid hm
    clear hm
    by_cases hlt : q < N
    · have hlt2 : (q : Int) < (N : Int) := by omega
      have hqn : (q : Int) < (n : Int) := by omega
      have hqn2 : q < n := by omega
      obtain ⟨x, hx⟩ : ∃ x, (few l)[q]? = some x := ⟨_, List.getElem?_eq_getElem (by rw [HR.out.2.1]; exact hlt)⟩
      have hxl : l[q]? = some x := by rw [← Lyo.few_at l q (by rw [HR.out.2.1]; exact hlt)]; exact hx
      obtain rfl := HA.out (by intro e; rw [e] at hxl; simp at hxl)
      have HCX := Lib.hid (fun u hu => HC.out u hu q x hxl)
      have hxr := HF.out x (List.mem_of_getElem? hxl)
      obtain ⟨D, hD⟩ : ∃ D, D = (next l s t.data.toList).take q := ⟨_, rfl⟩
      obtain ⟨Z, hZ⟩ : ∃ Z : List Int, Z = List.replicate (N - (q + 1)) 0 := ⟨_, rfl⟩
      have hDl : D.length = q := by rw [hD, List.length_take, next_length, HR.out.2.1]; omega
      have hnt := next_take l s t.data.toList q (by rw [HR.out.2.1]; exact hlt)
      rw [← hD] at hnt
      obtain ⟨W, hW⟩ : ∃ W, W = want l (q : Int) t.data.toList := ⟨_, rfl⟩
      obtain ⟨G, hG⟩ : ∃ G, G = Frm.long x s := ⟨_, rfl⟩
      obtain ⟨X, hX⟩ : ∃ X, X = tx (slotT l s (q : Int) t.data.toList) := ⟨_, rfl⟩
      have hXd : X.data.toList = slotT l s (q : Int) t.data.toList := by rw [hX]
      have hXs : X.size ≤ 6000 := by
        have := slot_size l s t.data.toList q x hx
        rw [hX, RFrm.tx_len]
        omega
      obtain ⟨Y, hY⟩ : ∃ Y, Y = ofSay (readX X.data.toList x s) := ⟨_, rfl⟩
      obtain ⟨E, hE⟩ : ∃ E, E = readE X.data.toList x s := ⟨_, rfl⟩
      have S1 := Lib.hid (RW.out q W hW (by omega))
      have S2 := Lib.hid (RL.out x G hxr hG)
      have S3 := Lib.hid (RX.out q X hX (by omega))
      have S4 := Lib.hid (RR.out X x Y E hY hE hXs hxr)
      have hgd : l.getD q 0 = x := by rw [List.getD_eq_getElem?_getD, hxl, Option.getD_some]
      have hno : nextOf l s t.data.toList q = if G = 0 then W else if E = 0 then Y.next else 0 := by
        unfold nextOf
        rw [hgd, ← hG, ← hW, hE, hY, hXd]
        rfl
      have hm2 := HM.out
      rw [← hD] at hm2
      replace HM := Lib.hid hm2
      have hset : (zsV (D ++ List.replicate (N - q) 0)).set q (.int .i64 W) = zsV ((D ++ [W]) ++ Z) := by rw [hZ]; exact row_next D N q W hDl hlt
      have Q1 := Lib.hid (And.intro (row_room D q N hDl hlt) hset)
      have Q2 := Lib.hid (And.intro (row_long D Z q W hDl) (row_again D Z q 0 W hDl))
      have Q3 := Lib.hid (And.intro (row_long D Z q 0 hDl) (row_again D Z q Y.next 0 hDl))
      have HNT := Lib.hid (And.intro hnt (And.intro hno hZ))
      have hY0 : (sayV Y)[0]? = some (.int .i64 Y.next) := rfl
      have hGb := long_bounds x s
      rw [← hG] at hGb
      clear hx hxl hxr hW hG hX hXd hXs hY hE hgd hno hm2 hset hnt hZ hD
      by_cases g0 : 0 < G
      · have d1 : decide (0 < G) = true := decide_eq_true g0
        have hg : ¬ G = 0 := by omega
        clear g0 hGb
        by_cases e0 : E = 0
        · have d2 : ((E : Int) == 0) = true := by rw [e0]; rfl
          have hv : nextOf l s t.data.toList q = Y.next := by rw [HNT.out.2.1, if_neg hg, if_pos e0]
          have HV := Lib.hid (show (next l s t.data.toList).take (q + 1) ++ List.replicate (N - (q + 1)) 0 = (D ++ [Y.next]) ++ Z from by rw [HNT.out.1, hv, HNT.out.2.2])
          clear hg e0 hv
          go_upto_region 6 with ((first
            | ((with_reducible refine (S1.out _ HM.out.below).mono ?_); rintro e w ⟨rfl, hb⟩; replace HM := Lib.hid (HM.out.next hb); clear hb)
            | ((refine Hold.store1 HM.out 0 (c := .int .i64 W) (v' := zsV ((D ++ [W]) ++ Z)) rfl rfl rfl rfl rfl (Q1.out.1) (Q1.out.2) (Hold.cell_int _ _) Frm.cellInt ?_); clear HM; intro w HM; simp only [List.set_cons_zero] at HM; replace HM := Lib.hid HM)))
          have hcell := HCX.out _ HM.out.below
          go_upto_region 7 with (((with_reducible refine (S2.out _).mono ?_); rintro e w ⟨rfl, hb⟩; replace HM := Lib.hid (HM.out.next hb); clear hb hcell))
          have HS := Lib.hid (Hold.Hld.drew (show Hold.Hld _ [⟨b1, 3, zsV ((D ++ [W]) ++ Z)⟩] w from HM.out))
          replace HM := Lib.hid HM.out.drew
          refine wp_region_held (S := fun u => Hold.Hld w0 [⟨b1, 3, zsV ((D ++ [W]) ++ Z)⟩] u) (by kernel_rfl) ?_
          change wpAnyH _ _ _ _ _ _ _ _ w.drew
          generalize w.drew = wd at *
          change wpAnyH _ _ _ _ _ (16 + 1) _ _ _
          refine wpAnyH_take (i := 0) (by simp only [List.getElem?_toArray, List.getElem?_cons_succ, List.getElem?_cons_zero]; rfl) (by kernel_rfl) (by kernel_rfl) (by kernel_rfl) (fun _ _ _ h => by exact h) (.inl ⟨by rfl, fun u hu => by go_simp; try with_reducible rfl⟩) HS.out ?_
          try simp only [List.getElem_toArray, List.getElem_cons_succ, List.getElem_cons_zero, Act.put, List.setIfInBounds_toArray, List.set_cons_zero, List.set_cons_succ]
          change wpAnyH _ _ _ _ _ (15 + 1) _ _ _
          refine wpAnyH_take (i := 1) (by simp only [List.getElem?_toArray, List.getElem?_cons_succ, List.getElem?_cons_zero]; rfl) (by kernel_rfl) (by kernel_rfl) (by kernel_rfl) (fun _ _ _ h => by exact h) (.inl ⟨by rfl, fun u hu => by go_simp; try with_reducible rfl⟩) HS.out ?_
          try simp only [List.getElem_toArray, List.getElem_cons_succ, List.getElem_cons_zero, Act.put, List.setIfInBounds_toArray, List.set_cons_zero, List.set_cons_succ]
          change wpAnyH _ _ _ _ _ (14 + 1) _ _ _
          refine wpAnyH_take (i := 2) (by simp only [List.getElem?_toArray, List.getElem?_cons_succ, List.getElem?_cons_zero]; rfl) (by kernel_rfl) (by kernel_rfl) (by kernel_rfl) (fun _ _ _ h => by exact h) (.inl ⟨by rfl, fun u hu => by go_simp; try with_reducible rfl⟩) HS.out ?_
          try simp only [List.getElem_toArray, List.getElem_cons_succ, List.getElem_cons_zero, Act.put, List.setIfInBounds_toArray, List.set_cons_zero, List.set_cons_succ]
          change wpAnyH _ _ _ _ _ (13 + 1) _ _ _
          refine wpAnyH_take (i := 3) (by simp only [List.getElem?_toArray, List.getElem?_cons_succ, List.getElem?_cons_zero]; rfl) (by kernel_rfl) (by kernel_rfl) (by kernel_rfl) (fun _ _ _ h => by exact h) (.inl ⟨by rfl, fun u hu => by go_simp; try with_reducible rfl⟩) HS.out ?_
          try simp only [List.getElem_toArray, List.getElem_cons_succ, List.getElem_cons_zero, Act.put, List.setIfInBounds_toArray, List.set_cons_zero, List.set_cons_succ]
          change wpAnyH _ _ _ _ _ (12 + 1) _ _ _
          refine wpAnyH_take (i := 5) (by simp only [List.getElem?_toArray, List.getElem?_cons_succ, List.getElem?_cons_zero]; rfl) (by kernel_rfl) (by kernel_rfl) (by kernel_rfl) (fun _ _ _ h => by exact h) (.inl ⟨by rfl, fun u hu => by go_simp; try with_reducible rfl⟩) HS.out ?_
          try simp only [List.getElem_toArray, List.getElem_cons_succ, List.getElem_cons_zero, Act.put, List.setIfInBounds_toArray, List.set_cons_zero, List.set_cons_succ]
          change wpAnyH _ _ _ _ _ (11 + 1) _ _ _
          refine wpAnyH_take (i := 6) (by simp only [List.getElem?_toArray, List.getElem?_cons_succ, List.getElem?_cons_zero]; rfl) (by kernel_rfl) (by kernel_rfl) (by kernel_rfl) (fun _ _ _ h => by exact h) (.inl ⟨by rfl, fun u hu => by go_simp; try with_reducible rfl⟩) HS.out ?_
          try simp only [List.getElem_toArray, List.getElem_cons_succ, List.getElem_cons_zero, Act.put, List.setIfInBounds_toArray, List.set_cons_zero, List.set_cons_succ]
          change wpAnyH _ _ _ _ _ (10 + 1) _ _ _
          refine wpAnyH_take (i := 7) (by simp only [List.getElem?_toArray, List.getElem?_cons_succ, List.getElem?_cons_zero]; rfl) (by kernel_rfl) (by kernel_rfl) (by kernel_rfl) (fun _ _ _ h => by exact h) (.inl ⟨by rfl, fun u hu => by go_simp; try with_reducible rfl⟩) HS.out ?_
          try simp only [List.getElem_toArray, List.getElem_cons_succ, List.getElem_cons_zero, Act.put, List.setIfInBounds_toArray, List.set_cons_zero, List.set_cons_succ]
          change wpAnyH _ _ _ _ _ (9 + 1) _ _ _
          refine wpAnyH_take (i := 8) (by simp only [List.getElem?_toArray, List.getElem?_cons_succ, List.getElem?_cons_zero]; rfl) (by kernel_rfl) (by kernel_rfl) (by kernel_rfl) (fun _ _ _ h => by exact h) (.inl ⟨by rfl, fun u hu => by have cc := HCX.out u hu.below; go_simp; try with_reducible rfl⟩) HS.out ?_
          try simp only [List.getElem_toArray, List.getElem_cons_succ, List.getElem_cons_zero, Act.put, List.setIfInBounds_toArray, List.set_cons_zero, List.set_cons_succ]
          change wpAnyH _ _ _ _ _ (8 + 1) _ _ _
          refine wpAnyH_take (i := 9) (by simp only [List.getElem?_toArray, List.getElem?_cons_succ, List.getElem?_cons_zero]; rfl) (by kernel_rfl) (by kernel_rfl) (by kernel_rfl) (fun _ _ _ h => by exact h) (.inl ⟨by rfl, fun u hu => by go_simp; try with_reducible rfl⟩) HS.out ?_
          try simp only [List.getElem_toArray, List.getElem_cons_succ, List.getElem_cons_zero, Act.put, List.setIfInBounds_toArray, List.set_cons_zero, List.set_cons_succ]
          change wpAnyH _ _ _ _ _ (7 + 1) _ _ _
          refine wpAnyH_all (rs := [4, 14]) (by kernel_rfl) (by simp) (fun j hj => ?_)
          rcases (by simpa using hj : j = 4 ∨ j = 14) with rfl | rfl
          · refine Steady.call_any (i := 4) (by simp only [List.getElem?_toArray, List.getElem?_cons_succ, List.getElem?_cons_zero]; rfl) (by kernel_rfl) _ _ (by go_simp) (fun u w' => u = .string X ∧ Below _ _ w') ((S3.out _ HM.out.below).mono (fun e w' hh => ⟨_, hh.1, rfl, hh.2⟩)) ?_
            rintro u w6_1 ⟨rfl, hb⟩
            replace HM := Lib.hid (HM.out.next hb)
            clear hb
            replace HS := Lib.hid (show Hold.Hld _ [⟨b1, 3, zsV ((D ++ [W]) ++ Z)⟩] _ from HM.out)
            refine ⟨HS.out, ?_⟩
            try simp only [List.getElem_toArray, List.getElem_cons_succ, List.getElem_cons_zero, Act.put, List.setIfInBounds_toArray, List.set_cons_zero, List.set_cons_succ]
            change wpAnyH _ _ _ _ _ (6 + 1) _ _ _
            refine wpAnyH_all (rs := [10, 14]) (by kernel_rfl) (by simp) (fun j hj => ?_)
            rcases (by simpa using hj : j = 10 ∨ j = 14) with rfl | rfl
            · refine Steady.call_any (i := 10) (by simp only [List.getElem?_toArray, List.getElem?_cons_succ, List.getElem?_cons_zero]; rfl) (by kernel_rfl) _ _ (by go_simp) (fun u w' => u = .tuple #[.agg (sayV Y).toArray, .int .i64 E] ∧ Below _ _ w') ((S4.out _).mono (fun e w' hh => ⟨_, hh.1, rfl, hh.2⟩)) ?_
              rintro u w6_2 ⟨rfl, hb⟩
              replace HM := Lib.hid (HM.out.next hb)
              clear hb
              replace HS := Lib.hid (show Hold.Hld _ [⟨b1, 3, zsV ((D ++ [W]) ++ Z)⟩] _ from HM.out)
              refine ⟨HS.out, ?_⟩
              try simp only [List.getElem_toArray, List.getElem_cons_succ, List.getElem_cons_zero, Act.put, List.setIfInBounds_toArray, List.set_cons_zero, List.set_cons_succ]
              change wpAnyH _ _ _ _ _ (5 + 1) _ _ _
              refine wpAnyH_take (i := 11) (by simp only [List.getElem?_toArray, List.getElem?_cons_succ, List.getElem?_cons_zero]; rfl) (by kernel_rfl) (by kernel_rfl) (by kernel_rfl) (fun _ _ _ h => by exact h) (.inl ⟨by rfl, fun u hu => by go_simp; try with_reducible rfl⟩) HS.out ?_
              try simp only [List.getElem_toArray, List.getElem_cons_succ, List.getElem_cons_zero, Act.put, List.setIfInBounds_toArray, List.set_cons_zero, List.set_cons_succ]
              change wpAnyH _ _ _ _ _ (4 + 1) _ _ _
              refine wpAnyH_take (i := 12) (by simp only [List.getElem?_toArray, List.getElem?_cons_succ, List.getElem?_cons_zero]; rfl) (by kernel_rfl) (by kernel_rfl) (by kernel_rfl) (fun _ _ _ h => by exact h) (.inl ⟨by rfl, fun u hu => by go_simp; try with_reducible rfl⟩) HS.out ?_
              try simp only [List.getElem_toArray, List.getElem_cons_succ, List.getElem_cons_zero, Act.put, List.setIfInBounds_toArray, List.set_cons_zero, List.set_cons_succ]
              change wpAnyH _ _ _ _ _ (3 + 1) _ _ _
              refine wpAnyH_take (i := 13) (by simp only [List.getElem?_toArray, List.getElem?_cons_succ, List.getElem?_cons_zero]; rfl) (by kernel_rfl) (by kernel_rfl) (by kernel_rfl) (fun _ _ _ h => by exact h) (.inl ⟨by rfl, fun u hu => by go_simp; try with_reducible rfl⟩) HS.out ?_
              try simp only [List.getElem_toArray, List.getElem_cons_succ, List.getElem_cons_zero, Act.put, List.setIfInBounds_toArray, List.set_cons_zero, List.set_cons_succ]
              change wpAnyH _ _ _ _ _ (2 + 1) _ _ _
              refine wpAnyH_all (rs := [14]) (by kernel_rfl) (by simp) (fun j hj => ?_)
              obtain rfl : j = 14 := by simpa using hj
              refine Hold.op_alloc HM.out (by simp only [List.getElem?_toArray, List.getElem?_cons_succ, List.getElem?_cons_zero]; rfl) rfl rfl zeroS zero_said ?_
              clear HM
              intro ba_3 wa_3 HM
              simp only [List.cons_append, List.nil_append] at HM
              replace HM := Lib.hid HM
              replace HS := Lib.hid (show Hold.Hld _ [⟨b1, 3, zsV ((D ++ [W]) ++ Z)⟩] _ from Hold.Hld.front (m' := [_]) HM.out)
              refine ⟨HS.out, ?_⟩
              try simp only [List.getElem_toArray, List.getElem_cons_succ, List.getElem_cons_zero, Act.put, List.setIfInBounds_toArray, List.set_cons_zero, List.set_cons_succ]
              change wpAnyH _ _ _ _ _ (1 + 1) _ _ _
              refine wpAnyH_all (rs := [15]) (by kernel_rfl) (by simp) (fun j hj => ?_)
              obtain rfl : j = 15 := by simpa using hj
              refine RFrm.op_store_any HM.out 1 (i := 15) (v' := sayV Y) (by simp only [List.getElem?_toArray, List.getElem?_cons_succ, List.getElem?_cons_zero]; rfl) rfl rfl rfl rfl rfl (say_fits _ _) (say_laid _ _) (say_one _) (sayRow _) ?_
              clear HM
              intro ws_4 HM
              simp only [List.set_cons_zero, List.set_cons_succ] at HM
              replace HM := Lib.hid HM
              replace HS := Lib.hid (show Hold.Hld _ [⟨b1, 3, zsV ((D ++ [W]) ++ Z)⟩] _ from Hold.Hld.front (m' := [_]) HM.out)
              refine ⟨HS.out, ?_⟩
              try simp only [List.getElem_toArray, List.getElem_cons_succ, List.getElem_cons_zero, Act.put, List.setIfInBounds_toArray, List.set_cons_zero, List.set_cons_succ]
              change wpAnyH _ _ _ _ _ (0 + 1) _ _ _
              refine wpAnyH_take (i := 16) (by simp only [List.getElem?_toArray, List.getElem?_cons_succ, List.getElem?_cons_zero]; rfl) (by kernel_rfl) (by kernel_rfl) (by kernel_rfl) (fun _ _ _ h => by exact h) (.inl ⟨by rfl, fun u hu => by go_simp; try with_reducible rfl⟩) HS.out ?_
              try simp only [List.getElem_toArray, List.getElem_cons_succ, List.getElem_cons_zero, Act.put, List.setIfInBounds_toArray, List.set_cons_zero, List.set_cons_succ]
              refine wpAnyH_done (by kernel_rfl) ?_ _
              go_wp2_with ((first
                | ((refine Hold.store1 HM.out 0 (c := .int .i64 0) (v' := zsV ((D ++ [0]) ++ Z)) rfl rfl rfl rfl rfl (Q2.out.1) (Q2.out.2) (Hold.cell_int _ _) Frm.cellInt ?_); clear HM; intro w HM; simp only [List.set_cons_zero] at HM; replace HM := Lib.hid HM)
                | (with_reducible refine Hold.load1 HM.out 1 (c := .int .i64 Y.next) rfl rfl rfl rfl hY0 Frm.cellInt ?_)
                | ((refine Hold.store1 HM.out 0 (c := .int .i64 Y.next) (v' := zsV ((D ++ [Y.next]) ++ Z)) rfl rfl rfl rfl rfl (Q3.out.1) (Q3.out.2) (Hold.cell_int _ _) Frm.cellInt ?_); clear HM; intro w HM; simp only [List.set_cons_zero] at HM; replace HM := Lib.hid HM)))
              go_roundw
              case rel => exact ⟨q + 1, by omega, by go_num, by rw [HV.out]; exact Hold.Hld.front (m' := [_]) HM.out⟩
              case measure => simp [intOf]; omega
            · refine Hold.op_alloc HM.out (by simp only [List.getElem?_toArray, List.getElem?_cons_succ, List.getElem?_cons_zero]; rfl) rfl rfl zeroS zero_said ?_
              clear HM
              intro ba_5 wa_5 HM
              simp only [List.cons_append, List.nil_append] at HM
              replace HM := Lib.hid HM
              replace HS := Lib.hid (show Hold.Hld _ [⟨b1, 3, zsV ((D ++ [W]) ++ Z)⟩] _ from Hold.Hld.front (m' := [_]) HM.out)
              refine ⟨HS.out, ?_⟩
              try simp only [List.getElem_toArray, List.getElem_cons_succ, List.getElem_cons_zero, Act.put, List.setIfInBounds_toArray, List.set_cons_zero, List.set_cons_succ]
              change wpAnyH _ _ _ _ _ (5 + 1) _ _ _
              refine wpAnyH_all (rs := [10]) (by kernel_rfl) (by simp) (fun j hj => ?_)
              obtain rfl : j = 10 := by simpa using hj
              refine Steady.call_any (i := 10) (by simp only [List.getElem?_toArray, List.getElem?_cons_succ, List.getElem?_cons_zero]; rfl) (by kernel_rfl) _ _ (by go_simp) (fun u w' => u = .tuple #[.agg (sayV Y).toArray, .int .i64 E] ∧ Below _ _ w') ((S4.out _).mono (fun e w' hh => ⟨_, hh.1, rfl, hh.2⟩)) ?_
              rintro u w6_6 ⟨rfl, hb⟩
              replace HM := Lib.hid (HM.out.next hb)
              clear hb
              replace HS := Lib.hid (show Hold.Hld _ [⟨b1, 3, zsV ((D ++ [W]) ++ Z)⟩] _ from Hold.Hld.front (m' := [_]) HM.out)
              refine ⟨HS.out, ?_⟩
              try simp only [List.getElem_toArray, List.getElem_cons_succ, List.getElem_cons_zero, Act.put, List.setIfInBounds_toArray, List.set_cons_zero, List.set_cons_succ]
              change wpAnyH _ _ _ _ _ (4 + 1) _ _ _
              refine wpAnyH_take (i := 11) (by simp only [List.getElem?_toArray, List.getElem?_cons_succ, List.getElem?_cons_zero]; rfl) (by kernel_rfl) (by kernel_rfl) (by kernel_rfl) (fun _ _ _ h => by exact h) (.inl ⟨by rfl, fun u hu => by go_simp; try with_reducible rfl⟩) HS.out ?_
              try simp only [List.getElem_toArray, List.getElem_cons_succ, List.getElem_cons_zero, Act.put, List.setIfInBounds_toArray, List.set_cons_zero, List.set_cons_succ]
              change wpAnyH _ _ _ _ _ (3 + 1) _ _ _
              refine wpAnyH_take (i := 12) (by simp only [List.getElem?_toArray, List.getElem?_cons_succ, List.getElem?_cons_zero]; rfl) (by kernel_rfl) (by kernel_rfl) (by kernel_rfl) (fun _ _ _ h => by exact h) (.inl ⟨by rfl, fun u hu => by go_simp; try with_reducible rfl⟩) HS.out ?_
              try simp only [List.getElem_toArray, List.getElem_cons_succ, List.getElem_cons_zero, Act.put, List.setIfInBounds_toArray, List.set_cons_zero, List.set_cons_succ]
              change wpAnyH _ _ _ _ _ (2 + 1) _ _ _
              refine wpAnyH_take (i := 13) (by simp only [List.getElem?_toArray, List.getElem?_cons_succ, List.getElem?_cons_zero]; rfl) (by kernel_rfl) (by kernel_rfl) (by kernel_rfl) (fun _ _ _ h => by exact h) (.inl ⟨by rfl, fun u hu => by go_simp; try with_reducible rfl⟩) HS.out ?_
              try simp only [List.getElem_toArray, List.getElem_cons_succ, List.getElem_cons_zero, Act.put, List.setIfInBounds_toArray, List.set_cons_zero, List.set_cons_succ]
              change wpAnyH _ _ _ _ _ (1 + 1) _ _ _
              refine wpAnyH_all (rs := [15]) (by kernel_rfl) (by simp) (fun j hj => ?_)
              obtain rfl : j = 15 := by simpa using hj
              refine RFrm.op_store_any HM.out 1 (i := 15) (v' := sayV Y) (by simp only [List.getElem?_toArray, List.getElem?_cons_succ, List.getElem?_cons_zero]; rfl) rfl rfl rfl rfl rfl (say_fits _ _) (say_laid _ _) (say_one _) (sayRow _) ?_
              clear HM
              intro ws_7 HM
              simp only [List.set_cons_zero, List.set_cons_succ] at HM
              replace HM := Lib.hid HM
              replace HS := Lib.hid (show Hold.Hld _ [⟨b1, 3, zsV ((D ++ [W]) ++ Z)⟩] _ from Hold.Hld.front (m' := [_]) HM.out)
              refine ⟨HS.out, ?_⟩
              try simp only [List.getElem_toArray, List.getElem_cons_succ, List.getElem_cons_zero, Act.put, List.setIfInBounds_toArray, List.set_cons_zero, List.set_cons_succ]
              change wpAnyH _ _ _ _ _ (0 + 1) _ _ _
              refine wpAnyH_take (i := 16) (by simp only [List.getElem?_toArray, List.getElem?_cons_succ, List.getElem?_cons_zero]; rfl) (by kernel_rfl) (by kernel_rfl) (by kernel_rfl) (fun _ _ _ h => by exact h) (.inl ⟨by rfl, fun u hu => by go_simp; try with_reducible rfl⟩) HS.out ?_
              try simp only [List.getElem_toArray, List.getElem_cons_succ, List.getElem_cons_zero, Act.put, List.setIfInBounds_toArray, List.set_cons_zero, List.set_cons_succ]
              refine wpAnyH_done (by kernel_rfl) ?_ _
              go_wp2_with ((first
                | ((refine Hold.store1 HM.out 0 (c := .int .i64 0) (v' := zsV ((D ++ [0]) ++ Z)) rfl rfl rfl rfl rfl (Q2.out.1) (Q2.out.2) (Hold.cell_int _ _) Frm.cellInt ?_); clear HM; intro w HM; simp only [List.set_cons_zero] at HM; replace HM := Lib.hid HM)
                | (with_reducible refine Hold.load1 HM.out 1 (c := .int .i64 Y.next) rfl rfl rfl rfl hY0 Frm.cellInt ?_)
                | ((refine Hold.store1 HM.out 0 (c := .int .i64 Y.next) (v' := zsV ((D ++ [Y.next]) ++ Z)) rfl rfl rfl rfl rfl (Q3.out.1) (Q3.out.2) (Hold.cell_int _ _) Frm.cellInt ?_); clear HM; intro w HM; simp only [List.set_cons_zero] at HM; replace HM := Lib.hid HM)))
              go_roundw
              case rel => exact ⟨q + 1, by omega, by go_num, by rw [HV.out]; exact Hold.Hld.front (m' := [_]) HM.out⟩
              case measure => simp [intOf]; omega
          · refine Hold.op_alloc HM.out (by simp only [List.getElem?_toArray, List.getElem?_cons_succ, List.getElem?_cons_zero]; rfl) rfl rfl zeroS zero_said ?_
            clear HM
            intro ba_8 wa_8 HM
            simp only [List.cons_append, List.nil_append] at HM
            replace HM := Lib.hid HM
            replace HS := Lib.hid (show Hold.Hld _ [⟨b1, 3, zsV ((D ++ [W]) ++ Z)⟩] _ from Hold.Hld.front (m' := [_]) HM.out)
            refine ⟨HS.out, ?_⟩
            try simp only [List.getElem_toArray, List.getElem_cons_succ, List.getElem_cons_zero, Act.put, List.setIfInBounds_toArray, List.set_cons_zero, List.set_cons_succ]
            change wpAnyH _ _ _ _ _ (6 + 1) _ _ _
            refine wpAnyH_all (rs := [4]) (by kernel_rfl) (by simp) (fun j hj => ?_)
            obtain rfl : j = 4 := by simpa using hj
            refine Steady.call_any (i := 4) (by simp only [List.getElem?_toArray, List.getElem?_cons_succ, List.getElem?_cons_zero]; rfl) (by kernel_rfl) _ _ (by go_simp) (fun u w' => u = .string X ∧ Below _ _ w') ((S3.out _ HM.out.below).mono (fun e w' hh => ⟨_, hh.1, rfl, hh.2⟩)) ?_
            rintro u w6_9 ⟨rfl, hb⟩
            replace HM := Lib.hid (HM.out.next hb)
            clear hb
            replace HS := Lib.hid (show Hold.Hld _ [⟨b1, 3, zsV ((D ++ [W]) ++ Z)⟩] _ from Hold.Hld.front (m' := [_]) HM.out)
            refine ⟨HS.out, ?_⟩
            try simp only [List.getElem_toArray, List.getElem_cons_succ, List.getElem_cons_zero, Act.put, List.setIfInBounds_toArray, List.set_cons_zero, List.set_cons_succ]
            change wpAnyH _ _ _ _ _ (5 + 1) _ _ _
            refine wpAnyH_all (rs := [10]) (by kernel_rfl) (by simp) (fun j hj => ?_)
            obtain rfl : j = 10 := by simpa using hj
            refine Steady.call_any (i := 10) (by simp only [List.getElem?_toArray, List.getElem?_cons_succ, List.getElem?_cons_zero]; rfl) (by kernel_rfl) _ _ (by go_simp) (fun u w' => u = .tuple #[.agg (sayV Y).toArray, .int .i64 E] ∧ Below _ _ w') ((S4.out _).mono (fun e w' hh => ⟨_, hh.1, rfl, hh.2⟩)) ?_
            rintro u w6_10 ⟨rfl, hb⟩
            replace HM := Lib.hid (HM.out.next hb)
            clear hb
            replace HS := Lib.hid (show Hold.Hld _ [⟨b1, 3, zsV ((D ++ [W]) ++ Z)⟩] _ from Hold.Hld.front (m' := [_]) HM.out)
            refine ⟨HS.out, ?_⟩
            try simp only [List.getElem_toArray, List.getElem_cons_succ, List.getElem_cons_zero, Act.put, List.setIfInBounds_toArray, List.set_cons_zero, List.set_cons_succ]
            change wpAnyH _ _ _ _ _ (4 + 1) _ _ _
            refine wpAnyH_take (i := 11) (by simp only [List.getElem?_toArray, List.getElem?_cons_succ, List.getElem?_cons_zero]; rfl) (by kernel_rfl) (by kernel_rfl) (by kernel_rfl) (fun _ _ _ h => by exact h) (.inl ⟨by rfl, fun u hu => by go_simp; try with_reducible rfl⟩) HS.out ?_
            try simp only [List.getElem_toArray, List.getElem_cons_succ, List.getElem_cons_zero, Act.put, List.setIfInBounds_toArray, List.set_cons_zero, List.set_cons_succ]
            change wpAnyH _ _ _ _ _ (3 + 1) _ _ _
            refine wpAnyH_take (i := 12) (by simp only [List.getElem?_toArray, List.getElem?_cons_succ, List.getElem?_cons_zero]; rfl) (by kernel_rfl) (by kernel_rfl) (by kernel_rfl) (fun _ _ _ h => by exact h) (.inl ⟨by rfl, fun u hu => by go_simp; try with_reducible rfl⟩) HS.out ?_
            try simp only [List.getElem_toArray, List.getElem_cons_succ, List.getElem_cons_zero, Act.put, List.setIfInBounds_toArray, List.set_cons_zero, List.set_cons_succ]
            change wpAnyH _ _ _ _ _ (2 + 1) _ _ _
            refine wpAnyH_take (i := 13) (by simp only [List.getElem?_toArray, List.getElem?_cons_succ, List.getElem?_cons_zero]; rfl) (by kernel_rfl) (by kernel_rfl) (by kernel_rfl) (fun _ _ _ h => by exact h) (.inl ⟨by rfl, fun u hu => by go_simp; try with_reducible rfl⟩) HS.out ?_
            try simp only [List.getElem_toArray, List.getElem_cons_succ, List.getElem_cons_zero, Act.put, List.setIfInBounds_toArray, List.set_cons_zero, List.set_cons_succ]
            change wpAnyH _ _ _ _ _ (1 + 1) _ _ _
            refine wpAnyH_all (rs := [15]) (by kernel_rfl) (by simp) (fun j hj => ?_)
            obtain rfl : j = 15 := by simpa using hj
            refine RFrm.op_store_any HM.out 1 (i := 15) (v' := sayV Y) (by simp only [List.getElem?_toArray, List.getElem?_cons_succ, List.getElem?_cons_zero]; rfl) rfl rfl rfl rfl rfl (say_fits _ _) (say_laid _ _) (say_one _) (sayRow _) ?_
            clear HM
            intro ws_11 HM
            simp only [List.set_cons_zero, List.set_cons_succ] at HM
            replace HM := Lib.hid HM
            replace HS := Lib.hid (show Hold.Hld _ [⟨b1, 3, zsV ((D ++ [W]) ++ Z)⟩] _ from Hold.Hld.front (m' := [_]) HM.out)
            refine ⟨HS.out, ?_⟩
            try simp only [List.getElem_toArray, List.getElem_cons_succ, List.getElem_cons_zero, Act.put, List.setIfInBounds_toArray, List.set_cons_zero, List.set_cons_succ]
            change wpAnyH _ _ _ _ _ (0 + 1) _ _ _
            refine wpAnyH_take (i := 16) (by simp only [List.getElem?_toArray, List.getElem?_cons_succ, List.getElem?_cons_zero]; rfl) (by kernel_rfl) (by kernel_rfl) (by kernel_rfl) (fun _ _ _ h => by exact h) (.inl ⟨by rfl, fun u hu => by go_simp; try with_reducible rfl⟩) HS.out ?_
            try simp only [List.getElem_toArray, List.getElem_cons_succ, List.getElem_cons_zero, Act.put, List.setIfInBounds_toArray, List.set_cons_zero, List.set_cons_succ]
            refine wpAnyH_done (by kernel_rfl) ?_ _
            go_wp2_with ((first
              | ((refine Hold.store1 HM.out 0 (c := .int .i64 0) (v' := zsV ((D ++ [0]) ++ Z)) rfl rfl rfl rfl rfl (Q2.out.1) (Q2.out.2) (Hold.cell_int _ _) Frm.cellInt ?_); clear HM; intro w HM; simp only [List.set_cons_zero] at HM; replace HM := Lib.hid HM)
              | (with_reducible refine Hold.load1 HM.out 1 (c := .int .i64 Y.next) rfl rfl rfl rfl hY0 Frm.cellInt ?_)
              | ((refine Hold.store1 HM.out 0 (c := .int .i64 Y.next) (v' := zsV ((D ++ [Y.next]) ++ Z)) rfl rfl rfl rfl rfl (Q3.out.1) (Q3.out.2) (Hold.cell_int _ _) Frm.cellInt ?_); clear HM; intro w HM; simp only [List.set_cons_zero] at HM; replace HM := Lib.hid HM)))
            go_roundw
            case rel => exact ⟨q + 1, by omega, by go_num, by rw [HV.out]; exact Hold.Hld.front (m' := [_]) HM.out⟩
            case measure => simp [intOf]; omega
        · have d2 : ((E : Int) == 0) = false := by simpa using e0
          have hv : nextOf l s t.data.toList q = 0 := by rw [HNT.out.2.1, if_neg hg, if_neg e0]
          have HV := Lib.hid (show (next l s t.data.toList).take (q + 1) ++ List.replicate (N - (q + 1)) 0 = (D ++ [0]) ++ Z from by rw [HNT.out.1, hv, HNT.out.2.2])
          clear hg e0 hv
          go_upto_region 6 with ((first
            | ((with_reducible refine (S1.out _ HM.out.below).mono ?_); rintro e w ⟨rfl, hb⟩; replace HM := Lib.hid (HM.out.next hb); clear hb)
            | ((refine Hold.store1 HM.out 0 (c := .int .i64 W) (v' := zsV ((D ++ [W]) ++ Z)) rfl rfl rfl rfl rfl (Q1.out.1) (Q1.out.2) (Hold.cell_int _ _) Frm.cellInt ?_); clear HM; intro w HM; simp only [List.set_cons_zero] at HM; replace HM := Lib.hid HM)))
          have hcell := HCX.out _ HM.out.below
          go_upto_region 7 with (((with_reducible refine (S2.out _).mono ?_); rintro e w ⟨rfl, hb⟩; replace HM := Lib.hid (HM.out.next hb); clear hb hcell))
          have HS := Lib.hid (Hold.Hld.drew (show Hold.Hld _ [⟨b1, 3, zsV ((D ++ [W]) ++ Z)⟩] w from HM.out))
          replace HM := Lib.hid HM.out.drew
          refine wp_region_held (S := fun u => Hold.Hld w0 [⟨b1, 3, zsV ((D ++ [W]) ++ Z)⟩] u) (by kernel_rfl) ?_
          change wpAnyH _ _ _ _ _ _ _ _ w.drew
          generalize w.drew = wd at *
          change wpAnyH _ _ _ _ _ (16 + 1) _ _ _
          refine wpAnyH_take (i := 0) (by simp only [List.getElem?_toArray, List.getElem?_cons_succ, List.getElem?_cons_zero]; rfl) (by kernel_rfl) (by kernel_rfl) (by kernel_rfl) (fun _ _ _ h => by exact h) (.inl ⟨by rfl, fun u hu => by go_simp; try with_reducible rfl⟩) HS.out ?_
          try simp only [List.getElem_toArray, List.getElem_cons_succ, List.getElem_cons_zero, Act.put, List.setIfInBounds_toArray, List.set_cons_zero, List.set_cons_succ]
          change wpAnyH _ _ _ _ _ (15 + 1) _ _ _
          refine wpAnyH_take (i := 1) (by simp only [List.getElem?_toArray, List.getElem?_cons_succ, List.getElem?_cons_zero]; rfl) (by kernel_rfl) (by kernel_rfl) (by kernel_rfl) (fun _ _ _ h => by exact h) (.inl ⟨by rfl, fun u hu => by go_simp; try with_reducible rfl⟩) HS.out ?_
          try simp only [List.getElem_toArray, List.getElem_cons_succ, List.getElem_cons_zero, Act.put, List.setIfInBounds_toArray, List.set_cons_zero, List.set_cons_succ]
          change wpAnyH _ _ _ _ _ (14 + 1) _ _ _
          refine wpAnyH_take (i := 2) (by simp only [List.getElem?_toArray, List.getElem?_cons_succ, List.getElem?_cons_zero]; rfl) (by kernel_rfl) (by kernel_rfl) (by kernel_rfl) (fun _ _ _ h => by exact h) (.inl ⟨by rfl, fun u hu => by go_simp; try with_reducible rfl⟩) HS.out ?_
          try simp only [List.getElem_toArray, List.getElem_cons_succ, List.getElem_cons_zero, Act.put, List.setIfInBounds_toArray, List.set_cons_zero, List.set_cons_succ]
          change wpAnyH _ _ _ _ _ (13 + 1) _ _ _
          refine wpAnyH_take (i := 3) (by simp only [List.getElem?_toArray, List.getElem?_cons_succ, List.getElem?_cons_zero]; rfl) (by kernel_rfl) (by kernel_rfl) (by kernel_rfl) (fun _ _ _ h => by exact h) (.inl ⟨by rfl, fun u hu => by go_simp; try with_reducible rfl⟩) HS.out ?_
          try simp only [List.getElem_toArray, List.getElem_cons_succ, List.getElem_cons_zero, Act.put, List.setIfInBounds_toArray, List.set_cons_zero, List.set_cons_succ]
          change wpAnyH _ _ _ _ _ (12 + 1) _ _ _
          refine wpAnyH_take (i := 5) (by simp only [List.getElem?_toArray, List.getElem?_cons_succ, List.getElem?_cons_zero]; rfl) (by kernel_rfl) (by kernel_rfl) (by kernel_rfl) (fun _ _ _ h => by exact h) (.inl ⟨by rfl, fun u hu => by go_simp; try with_reducible rfl⟩) HS.out ?_
          try simp only [List.getElem_toArray, List.getElem_cons_succ, List.getElem_cons_zero, Act.put, List.setIfInBounds_toArray, List.set_cons_zero, List.set_cons_succ]
          change wpAnyH _ _ _ _ _ (11 + 1) _ _ _
          refine wpAnyH_take (i := 6) (by simp only [List.getElem?_toArray, List.getElem?_cons_succ, List.getElem?_cons_zero]; rfl) (by kernel_rfl) (by kernel_rfl) (by kernel_rfl) (fun _ _ _ h => by exact h) (.inl ⟨by rfl, fun u hu => by go_simp; try with_reducible rfl⟩) HS.out ?_
          try simp only [List.getElem_toArray, List.getElem_cons_succ, List.getElem_cons_zero, Act.put, List.setIfInBounds_toArray, List.set_cons_zero, List.set_cons_succ]
          change wpAnyH _ _ _ _ _ (10 + 1) _ _ _
          refine wpAnyH_take (i := 7) (by simp only [List.getElem?_toArray, List.getElem?_cons_succ, List.getElem?_cons_zero]; rfl) (by kernel_rfl) (by kernel_rfl) (by kernel_rfl) (fun _ _ _ h => by exact h) (.inl ⟨by rfl, fun u hu => by go_simp; try with_reducible rfl⟩) HS.out ?_
          try simp only [List.getElem_toArray, List.getElem_cons_succ, List.getElem_cons_zero, Act.put, List.setIfInBounds_toArray, List.set_cons_zero, List.set_cons_succ]
          change wpAnyH _ _ _ _ _ (9 + 1) _ _ _
          refine wpAnyH_take (i := 8) (by simp only [List.getElem?_toArray, List.getElem?_cons_succ, List.getElem?_cons_zero]; rfl) (by kernel_rfl) (by kernel_rfl) (by kernel_rfl) (fun _ _ _ h => by exact h) (.inl ⟨by rfl, fun u hu => by have cc := HCX.out u hu.below; go_simp; try with_reducible rfl⟩) HS.out ?_
          try simp only [List.getElem_toArray, List.getElem_cons_succ, List.getElem_cons_zero, Act.put, List.setIfInBounds_toArray, List.set_cons_zero, List.set_cons_succ]
          change wpAnyH _ _ _ _ _ (8 + 1) _ _ _
          refine wpAnyH_take (i := 9) (by simp only [List.getElem?_toArray, List.getElem?_cons_succ, List.getElem?_cons_zero]; rfl) (by kernel_rfl) (by kernel_rfl) (by kernel_rfl) (fun _ _ _ h => by exact h) (.inl ⟨by rfl, fun u hu => by go_simp; try with_reducible rfl⟩) HS.out ?_
          try simp only [List.getElem_toArray, List.getElem_cons_succ, List.getElem_cons_zero, Act.put, List.setIfInBounds_toArray, List.set_cons_zero, List.set_cons_succ]
          change wpAnyH _ _ _ _ _ (7 + 1) _ _ _
          refine wpAnyH_all (rs := [4, 14]) (by kernel_rfl) (by simp) (fun j hj => ?_)
          rcases (by simpa using hj : j = 4 ∨ j = 14) with rfl | rfl
          · refine Steady.call_any (i := 4) (by simp only [List.getElem?_toArray, List.getElem?_cons_succ, List.getElem?_cons_zero]; rfl) (by kernel_rfl) _ _ (by go_simp) (fun u w' => u = .string X ∧ Below _ _ w') ((S3.out _ HM.out.below).mono (fun e w' hh => ⟨_, hh.1, rfl, hh.2⟩)) ?_
            rintro u w6_1 ⟨rfl, hb⟩
            replace HM := Lib.hid (HM.out.next hb)
            clear hb
            replace HS := Lib.hid (show Hold.Hld _ [⟨b1, 3, zsV ((D ++ [W]) ++ Z)⟩] _ from HM.out)
            refine ⟨HS.out, ?_⟩
            try simp only [List.getElem_toArray, List.getElem_cons_succ, List.getElem_cons_zero, Act.put, List.setIfInBounds_toArray, List.set_cons_zero, List.set_cons_succ]
            change wpAnyH _ _ _ _ _ (6 + 1) _ _ _
            refine wpAnyH_all (rs := [10, 14]) (by kernel_rfl) (by simp) (fun j hj => ?_)
            rcases (by simpa using hj : j = 10 ∨ j = 14) with rfl | rfl
            · refine Steady.call_any (i := 10) (by simp only [List.getElem?_toArray, List.getElem?_cons_succ, List.getElem?_cons_zero]; rfl) (by kernel_rfl) _ _ (by go_simp) (fun u w' => u = .tuple #[.agg (sayV Y).toArray, .int .i64 E] ∧ Below _ _ w') ((S4.out _).mono (fun e w' hh => ⟨_, hh.1, rfl, hh.2⟩)) ?_
              rintro u w6_2 ⟨rfl, hb⟩
              replace HM := Lib.hid (HM.out.next hb)
              clear hb
              replace HS := Lib.hid (show Hold.Hld _ [⟨b1, 3, zsV ((D ++ [W]) ++ Z)⟩] _ from HM.out)
              refine ⟨HS.out, ?_⟩
              try simp only [List.getElem_toArray, List.getElem_cons_succ, List.getElem_cons_zero, Act.put, List.setIfInBounds_toArray, List.set_cons_zero, List.set_cons_succ]
              change wpAnyH _ _ _ _ _ (5 + 1) _ _ _
              refine wpAnyH_take (i := 11) (by simp only [List.getElem?_toArray, List.getElem?_cons_succ, List.getElem?_cons_zero]; rfl) (by kernel_rfl) (by kernel_rfl) (by kernel_rfl) (fun _ _ _ h => by exact h) (.inl ⟨by rfl, fun u hu => by go_simp; try with_reducible rfl⟩) HS.out ?_
              try simp only [List.getElem_toArray, List.getElem_cons_succ, List.getElem_cons_zero, Act.put, List.setIfInBounds_toArray, List.set_cons_zero, List.set_cons_succ]
              change wpAnyH _ _ _ _ _ (4 + 1) _ _ _
              refine wpAnyH_take (i := 12) (by simp only [List.getElem?_toArray, List.getElem?_cons_succ, List.getElem?_cons_zero]; rfl) (by kernel_rfl) (by kernel_rfl) (by kernel_rfl) (fun _ _ _ h => by exact h) (.inl ⟨by rfl, fun u hu => by go_simp; try with_reducible rfl⟩) HS.out ?_
              try simp only [List.getElem_toArray, List.getElem_cons_succ, List.getElem_cons_zero, Act.put, List.setIfInBounds_toArray, List.set_cons_zero, List.set_cons_succ]
              change wpAnyH _ _ _ _ _ (3 + 1) _ _ _
              refine wpAnyH_take (i := 13) (by simp only [List.getElem?_toArray, List.getElem?_cons_succ, List.getElem?_cons_zero]; rfl) (by kernel_rfl) (by kernel_rfl) (by kernel_rfl) (fun _ _ _ h => by exact h) (.inl ⟨by rfl, fun u hu => by go_simp; try with_reducible rfl⟩) HS.out ?_
              try simp only [List.getElem_toArray, List.getElem_cons_succ, List.getElem_cons_zero, Act.put, List.setIfInBounds_toArray, List.set_cons_zero, List.set_cons_succ]
              change wpAnyH _ _ _ _ _ (2 + 1) _ _ _
              refine wpAnyH_all (rs := [14]) (by kernel_rfl) (by simp) (fun j hj => ?_)
              obtain rfl : j = 14 := by simpa using hj
              refine Hold.op_alloc HM.out (by simp only [List.getElem?_toArray, List.getElem?_cons_succ, List.getElem?_cons_zero]; rfl) rfl rfl zeroS zero_said ?_
              clear HM
              intro ba_3 wa_3 HM
              simp only [List.cons_append, List.nil_append] at HM
              replace HM := Lib.hid HM
              replace HS := Lib.hid (show Hold.Hld _ [⟨b1, 3, zsV ((D ++ [W]) ++ Z)⟩] _ from Hold.Hld.front (m' := [_]) HM.out)
              refine ⟨HS.out, ?_⟩
              try simp only [List.getElem_toArray, List.getElem_cons_succ, List.getElem_cons_zero, Act.put, List.setIfInBounds_toArray, List.set_cons_zero, List.set_cons_succ]
              change wpAnyH _ _ _ _ _ (1 + 1) _ _ _
              refine wpAnyH_all (rs := [15]) (by kernel_rfl) (by simp) (fun j hj => ?_)
              obtain rfl : j = 15 := by simpa using hj
              refine RFrm.op_store_any HM.out 1 (i := 15) (v' := sayV Y) (by simp only [List.getElem?_toArray, List.getElem?_cons_succ, List.getElem?_cons_zero]; rfl) rfl rfl rfl rfl rfl (say_fits _ _) (say_laid _ _) (say_one _) (sayRow _) ?_
              clear HM
              intro ws_4 HM
              simp only [List.set_cons_zero, List.set_cons_succ] at HM
              replace HM := Lib.hid HM
              replace HS := Lib.hid (show Hold.Hld _ [⟨b1, 3, zsV ((D ++ [W]) ++ Z)⟩] _ from Hold.Hld.front (m' := [_]) HM.out)
              refine ⟨HS.out, ?_⟩
              try simp only [List.getElem_toArray, List.getElem_cons_succ, List.getElem_cons_zero, Act.put, List.setIfInBounds_toArray, List.set_cons_zero, List.set_cons_succ]
              change wpAnyH _ _ _ _ _ (0 + 1) _ _ _
              refine wpAnyH_take (i := 16) (by simp only [List.getElem?_toArray, List.getElem?_cons_succ, List.getElem?_cons_zero]; rfl) (by kernel_rfl) (by kernel_rfl) (by kernel_rfl) (fun _ _ _ h => by exact h) (.inl ⟨by rfl, fun u hu => by go_simp; try with_reducible rfl⟩) HS.out ?_
              try simp only [List.getElem_toArray, List.getElem_cons_succ, List.getElem_cons_zero, Act.put, List.setIfInBounds_toArray, List.set_cons_zero, List.set_cons_succ]
              refine wpAnyH_done (by kernel_rfl) ?_ _
              go_wp2_with (((refine Hold.store1 HM.out 0 (c := .int .i64 0) (v' := zsV ((D ++ [0]) ++ Z)) rfl rfl rfl rfl rfl (Q2.out.1) (Q2.out.2) (Hold.cell_int _ _) Frm.cellInt ?_); clear HM; intro w HM; simp only [List.set_cons_zero] at HM; replace HM := Lib.hid HM))
              go_roundw
              case rel => exact ⟨q + 1, by omega, by go_num, by rw [HV.out]; exact Hold.Hld.front (m' := [_]) HM.out⟩
              case measure => simp [intOf]; omega
            · refine Hold.op_alloc HM.out (by simp only [List.getElem?_toArray, List.getElem?_cons_succ, List.getElem?_cons_zero]; rfl) rfl rfl zeroS zero_said ?_
              clear HM
              intro ba_5 wa_5 HM
              simp only [List.cons_append, List.nil_append] at HM
              replace HM := Lib.hid HM
              replace HS := Lib.hid (show Hold.Hld _ [⟨b1, 3, zsV ((D ++ [W]) ++ Z)⟩] _ from Hold.Hld.front (m' := [_]) HM.out)
              refine ⟨HS.out, ?_⟩
              try simp only [List.getElem_toArray, List.getElem_cons_succ, List.getElem_cons_zero, Act.put, List.setIfInBounds_toArray, List.set_cons_zero, List.set_cons_succ]
              change wpAnyH _ _ _ _ _ (5 + 1) _ _ _
              refine wpAnyH_all (rs := [10]) (by kernel_rfl) (by simp) (fun j hj => ?_)
              obtain rfl : j = 10 := by simpa using hj
              refine Steady.call_any (i := 10) (by simp only [List.getElem?_toArray, List.getElem?_cons_succ, List.getElem?_cons_zero]; rfl) (by kernel_rfl) _ _ (by go_simp) (fun u w' => u = .tuple #[.agg (sayV Y).toArray, .int .i64 E] ∧ Below _ _ w') ((S4.out _).mono (fun e w' hh => ⟨_, hh.1, rfl, hh.2⟩)) ?_
              rintro u w6_6 ⟨rfl, hb⟩
              replace HM := Lib.hid (HM.out.next hb)
              clear hb
              replace HS := Lib.hid (show Hold.Hld _ [⟨b1, 3, zsV ((D ++ [W]) ++ Z)⟩] _ from Hold.Hld.front (m' := [_]) HM.out)
              refine ⟨HS.out, ?_⟩
              try simp only [List.getElem_toArray, List.getElem_cons_succ, List.getElem_cons_zero, Act.put, List.setIfInBounds_toArray, List.set_cons_zero, List.set_cons_succ]
              change wpAnyH _ _ _ _ _ (4 + 1) _ _ _
              refine wpAnyH_take (i := 11) (by simp only [List.getElem?_toArray, List.getElem?_cons_succ, List.getElem?_cons_zero]; rfl) (by kernel_rfl) (by kernel_rfl) (by kernel_rfl) (fun _ _ _ h => by exact h) (.inl ⟨by rfl, fun u hu => by go_simp; try with_reducible rfl⟩) HS.out ?_
              try simp only [List.getElem_toArray, List.getElem_cons_succ, List.getElem_cons_zero, Act.put, List.setIfInBounds_toArray, List.set_cons_zero, List.set_cons_succ]
              change wpAnyH _ _ _ _ _ (3 + 1) _ _ _
              refine wpAnyH_take (i := 12) (by simp only [List.getElem?_toArray, List.getElem?_cons_succ, List.getElem?_cons_zero]; rfl) (by kernel_rfl) (by kernel_rfl) (by kernel_rfl) (fun _ _ _ h => by exact h) (.inl ⟨by rfl, fun u hu => by go_simp; try with_reducible rfl⟩) HS.out ?_
              try simp only [List.getElem_toArray, List.getElem_cons_succ, List.getElem_cons_zero, Act.put, List.setIfInBounds_toArray, List.set_cons_zero, List.set_cons_succ]
              change wpAnyH _ _ _ _ _ (2 + 1) _ _ _
              refine wpAnyH_take (i := 13) (by simp only [List.getElem?_toArray, List.getElem?_cons_succ, List.getElem?_cons_zero]; rfl) (by kernel_rfl) (by kernel_rfl) (by kernel_rfl) (fun _ _ _ h => by exact h) (.inl ⟨by rfl, fun u hu => by go_simp; try with_reducible rfl⟩) HS.out ?_
              try simp only [List.getElem_toArray, List.getElem_cons_succ, List.getElem_cons_zero, Act.put, List.setIfInBounds_toArray, List.set_cons_zero, List.set_cons_succ]
              change wpAnyH _ _ _ _ _ (1 + 1) _ _ _
              refine wpAnyH_all (rs := [15]) (by kernel_rfl) (by simp) (fun j hj => ?_)
              obtain rfl : j = 15 := by simpa using hj
              refine RFrm.op_store_any HM.out 1 (i := 15) (v' := sayV Y) (by simp only [List.getElem?_toArray, List.getElem?_cons_succ, List.getElem?_cons_zero]; rfl) rfl rfl rfl rfl rfl (say_fits _ _) (say_laid _ _) (say_one _) (sayRow _) ?_
              clear HM
              intro ws_7 HM
              simp only [List.set_cons_zero, List.set_cons_succ] at HM
              replace HM := Lib.hid HM
              replace HS := Lib.hid (show Hold.Hld _ [⟨b1, 3, zsV ((D ++ [W]) ++ Z)⟩] _ from Hold.Hld.front (m' := [_]) HM.out)
              refine ⟨HS.out, ?_⟩
              try simp only [List.getElem_toArray, List.getElem_cons_succ, List.getElem_cons_zero, Act.put, List.setIfInBounds_toArray, List.set_cons_zero, List.set_cons_succ]
              change wpAnyH _ _ _ _ _ (0 + 1) _ _ _
              refine wpAnyH_take (i := 16) (by simp only [List.getElem?_toArray, List.getElem?_cons_succ, List.getElem?_cons_zero]; rfl) (by kernel_rfl) (by kernel_rfl) (by kernel_rfl) (fun _ _ _ h => by exact h) (.inl ⟨by rfl, fun u hu => by go_simp; try with_reducible rfl⟩) HS.out ?_
              try simp only [List.getElem_toArray, List.getElem_cons_succ, List.getElem_cons_zero, Act.put, List.setIfInBounds_toArray, List.set_cons_zero, List.set_cons_succ]
              refine wpAnyH_done (by kernel_rfl) ?_ _
              go_wp2_with (((refine Hold.store1 HM.out 0 (c := .int .i64 0) (v' := zsV ((D ++ [0]) ++ Z)) rfl rfl rfl rfl rfl (Q2.out.1) (Q2.out.2) (Hold.cell_int _ _) Frm.cellInt ?_); clear HM; intro w HM; simp only [List.set_cons_zero] at HM; replace HM := Lib.hid HM))
              go_roundw
              case rel => exact ⟨q + 1, by omega, by go_num, by rw [HV.out]; exact Hold.Hld.front (m' := [_]) HM.out⟩
              case measure => simp [intOf]; omega
          · refine Hold.op_alloc HM.out (by simp only [List.getElem?_toArray, List.getElem?_cons_succ, List.getElem?_cons_zero]; rfl) rfl rfl zeroS zero_said ?_
            clear HM
            intro ba_8 wa_8 HM
            simp only [List.cons_append, List.nil_append] at HM
            replace HM := Lib.hid HM
            replace HS := Lib.hid (show Hold.Hld _ [⟨b1, 3, zsV ((D ++ [W]) ++ Z)⟩] _ from Hold.Hld.front (m' := [_]) HM.out)
            refine ⟨HS.out, ?_⟩
            try simp only [List.getElem_toArray, List.getElem_cons_succ, List.getElem_cons_zero, Act.put, List.setIfInBounds_toArray, List.set_cons_zero, List.set_cons_succ]
            change wpAnyH _ _ _ _ _ (6 + 1) _ _ _
            refine wpAnyH_all (rs := [4]) (by kernel_rfl) (by simp) (fun j hj => ?_)
            obtain rfl : j = 4 := by simpa using hj
            refine Steady.call_any (i := 4) (by simp only [List.getElem?_toArray, List.getElem?_cons_succ, List.getElem?_cons_zero]; rfl) (by kernel_rfl) _ _ (by go_simp) (fun u w' => u = .string X ∧ Below _ _ w') ((S3.out _ HM.out.below).mono (fun e w' hh => ⟨_, hh.1, rfl, hh.2⟩)) ?_
            rintro u w6_9 ⟨rfl, hb⟩
            replace HM := Lib.hid (HM.out.next hb)
            clear hb
            replace HS := Lib.hid (show Hold.Hld _ [⟨b1, 3, zsV ((D ++ [W]) ++ Z)⟩] _ from Hold.Hld.front (m' := [_]) HM.out)
            refine ⟨HS.out, ?_⟩
            try simp only [List.getElem_toArray, List.getElem_cons_succ, List.getElem_cons_zero, Act.put, List.setIfInBounds_toArray, List.set_cons_zero, List.set_cons_succ]
            change wpAnyH _ _ _ _ _ (5 + 1) _ _ _
            refine wpAnyH_all (rs := [10]) (by kernel_rfl) (by simp) (fun j hj => ?_)
            obtain rfl : j = 10 := by simpa using hj
            refine Steady.call_any (i := 10) (by simp only [List.getElem?_toArray, List.getElem?_cons_succ, List.getElem?_cons_zero]; rfl) (by kernel_rfl) _ _ (by go_simp) (fun u w' => u = .tuple #[.agg (sayV Y).toArray, .int .i64 E] ∧ Below _ _ w') ((S4.out _).mono (fun e w' hh => ⟨_, hh.1, rfl, hh.2⟩)) ?_
            rintro u w6_10 ⟨rfl, hb⟩
            replace HM := Lib.hid (HM.out.next hb)
            clear hb
            replace HS := Lib.hid (show Hold.Hld _ [⟨b1, 3, zsV ((D ++ [W]) ++ Z)⟩] _ from Hold.Hld.front (m' := [_]) HM.out)
            refine ⟨HS.out, ?_⟩
            try simp only [List.getElem_toArray, List.getElem_cons_succ, List.getElem_cons_zero, Act.put, List.setIfInBounds_toArray, List.set_cons_zero, List.set_cons_succ]
            change wpAnyH _ _ _ _ _ (4 + 1) _ _ _
            refine wpAnyH_take (i := 11) (by simp only [List.getElem?_toArray, List.getElem?_cons_succ, List.getElem?_cons_zero]; rfl) (by kernel_rfl) (by kernel_rfl) (by kernel_rfl) (fun _ _ _ h => by exact h) (.inl ⟨by rfl, fun u hu => by go_simp; try with_reducible rfl⟩) HS.out ?_
            try simp only [List.getElem_toArray, List.getElem_cons_succ, List.getElem_cons_zero, Act.put, List.setIfInBounds_toArray, List.set_cons_zero, List.set_cons_succ]
            change wpAnyH _ _ _ _ _ (3 + 1) _ _ _
            refine wpAnyH_take (i := 12) (by simp only [List.getElem?_toArray, List.getElem?_cons_succ, List.getElem?_cons_zero]; rfl) (by kernel_rfl) (by kernel_rfl) (by kernel_rfl) (fun _ _ _ h => by exact h) (.inl ⟨by rfl, fun u hu => by go_simp; try with_reducible rfl⟩) HS.out ?_
            try simp only [List.getElem_toArray, List.getElem_cons_succ, List.getElem_cons_zero, Act.put, List.setIfInBounds_toArray, List.set_cons_zero, List.set_cons_succ]
            change wpAnyH _ _ _ _ _ (2 + 1) _ _ _
            refine wpAnyH_take (i := 13) (by simp only [List.getElem?_toArray, List.getElem?_cons_succ, List.getElem?_cons_zero]; rfl) (by kernel_rfl) (by kernel_rfl) (by kernel_rfl) (fun _ _ _ h => by exact h) (.inl ⟨by rfl, fun u hu => by go_simp; try with_reducible rfl⟩) HS.out ?_
            try simp only [List.getElem_toArray, List.getElem_cons_succ, List.getElem_cons_zero, Act.put, List.setIfInBounds_toArray, List.set_cons_zero, List.set_cons_succ]
            change wpAnyH _ _ _ _ _ (1 + 1) _ _ _
            refine wpAnyH_all (rs := [15]) (by kernel_rfl) (by simp) (fun j hj => ?_)
            obtain rfl : j = 15 := by simpa using hj
            refine RFrm.op_store_any HM.out 1 (i := 15) (v' := sayV Y) (by simp only [List.getElem?_toArray, List.getElem?_cons_succ, List.getElem?_cons_zero]; rfl) rfl rfl rfl rfl rfl (say_fits _ _) (say_laid _ _) (say_one _) (sayRow _) ?_
            clear HM
            intro ws_11 HM
            simp only [List.set_cons_zero, List.set_cons_succ] at HM
            replace HM := Lib.hid HM
            replace HS := Lib.hid (show Hold.Hld _ [⟨b1, 3, zsV ((D ++ [W]) ++ Z)⟩] _ from Hold.Hld.front (m' := [_]) HM.out)
            refine ⟨HS.out, ?_⟩
            try simp only [List.getElem_toArray, List.getElem_cons_succ, List.getElem_cons_zero, Act.put, List.setIfInBounds_toArray, List.set_cons_zero, List.set_cons_succ]
            change wpAnyH _ _ _ _ _ (0 + 1) _ _ _
            refine wpAnyH_take (i := 16) (by simp only [List.getElem?_toArray, List.getElem?_cons_succ, List.getElem?_cons_zero]; rfl) (by kernel_rfl) (by kernel_rfl) (by kernel_rfl) (fun _ _ _ h => by exact h) (.inl ⟨by rfl, fun u hu => by go_simp; try with_reducible rfl⟩) HS.out ?_
            try simp only [List.getElem_toArray, List.getElem_cons_succ, List.getElem_cons_zero, Act.put, List.setIfInBounds_toArray, List.set_cons_zero, List.set_cons_succ]
            refine wpAnyH_done (by kernel_rfl) ?_ _
            go_wp2_with (((refine Hold.store1 HM.out 0 (c := .int .i64 0) (v' := zsV ((D ++ [0]) ++ Z)) rfl rfl rfl rfl rfl (Q2.out.1) (Q2.out.2) (Hold.cell_int _ _) Frm.cellInt ?_); clear HM; intro w HM; simp only [List.set_cons_zero] at HM; replace HM := Lib.hid HM))
            go_roundw
            case rel => exact ⟨q + 1, by omega, by go_num, by rw [HV.out]; exact Hold.Hld.front (m' := [_]) HM.out⟩
            case measure => simp [intOf]; omega
      · have d1 : decide (0 < G) = false := decide_eq_false g0
        have hg : G = 0 := by omega
        have hv : nextOf l s t.data.toList q = W := by rw [HNT.out.2.1, if_pos hg]
        have HV := Lib.hid (show (next l s t.data.toList).take (q + 1) ++ List.replicate (N - (q + 1)) 0 = (D ++ [W]) ++ Z from by rw [HNT.out.1, hv, HNT.out.2.2])
        clear hg g0 hGb hv
        go_upto_region 6 with ((first
          | ((with_reducible refine (S1.out _ HM.out.below).mono ?_); rintro e w ⟨rfl, hb⟩; replace HM := Lib.hid (HM.out.next hb); clear hb)
          | ((refine Hold.store1 HM.out 0 (c := .int .i64 W) (v' := zsV ((D ++ [W]) ++ Z)) rfl rfl rfl rfl rfl (Q1.out.1) (Q1.out.2) (Hold.cell_int _ _) Frm.cellInt ?_); clear HM; intro w HM; simp only [List.set_cons_zero] at HM; replace HM := Lib.hid HM)))
        have hcell := HCX.out _ HM.out.below
        go_wp2_with (((with_reducible refine (S2.out _).mono ?_); rintro e w ⟨rfl, hb⟩; replace HM := Lib.hid (HM.out.next hb); clear hb hcell))
        go_roundw
        case rel => exact ⟨q + 1, by omega, by go_num, by rw [HV.out]; exact HM.out⟩
        case measure => simp [intOf]; omega
    · obtain rfl : q = N := by omega
      have he : (next l s t.data.toList).take q = L := by rw [HR.out.1]; exact List.take_of_length_le (Nat.le_of_eq (by rw [next_length, HR.out.2.1]))
      have hm2 := HM.out
      rw [Nat.sub_self, List.replicate_zero, List.append_nil, he] at hm2
      replace HM := Lib.hid hm2
      clear he hm2
      go_wp2
      go_ret
      exact ⟨_, _, rfl, Nat.le_refl _, row_zs (HM.out.at 0 rfl), HM.out.below⟩
end Go.Proofs.YtedgpglldlohfaaGreatDoor.RLy
