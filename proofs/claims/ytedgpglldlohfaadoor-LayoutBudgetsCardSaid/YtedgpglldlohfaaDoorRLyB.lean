/-
  The document's own answers of layer 19 for which slots are open (Open), which stay so within a budget (Budget), and what share each has (Share), are what the plain mathematics of the text Lyo says; all memory that was there is left as it was. Conditions: no more than a hundred slots, numbers of 64 bits.
-/
import Derived.Test.YtedgpglldlohfaaDoorRLyA
import Derived.Test.YtedgpglldlohfaaDoorLyM
import Derived.Test.YtedgpglldlohfaaDoorFrB
namespace Go.Proofs.YtedgpglldlohfaaDoor.RLy
open Go.RowKit Mur Lanes Prt Tap Cel Frm Lyo Zs
set_option maxRecDepth 100000
set_option linter.unusedSimpArgs false

theorem own_none (w : World) : w.ownsRow w.heap.size 3 1 (.slice none 0 0) 0 (zsV []) := ⟨rfl, .inl ⟨rfl, rfl⟩⟩

set_option maxHeartbeats 1600000 in
theorem share_ref (l : List Int) (a : Option Addr) (n c : Nat) (s k Q : Int) (w : World) (hQ : Q = share l s k) (h : In w a n c l) (hs : InR s) (hk : InR k) :
    Calls Tryd.prog 20 #[.slice a n c, .int .i64 s, .int .i64 k] w fun z w' => z = .returned (.int .i64 Q) ∧ Below w.heap.size w w' := by
  obtain ⟨w0, hw0⟩ : ∃ w0, w0 = w := ⟨w, rfl⟩
  subst hw0
  obtain ⟨T, hT⟩ : ∃ T, T = total l s := ⟨_, rfl⟩
  obtain ⟨A, hA⟩ : ∃ A, A = spotA l s k := ⟨_, rfl⟩
  obtain ⟨B, hB⟩ : ∃ A, A = spotB l s k := ⟨_, rfl⟩
  have RT := Lib.hid (fun u (hu : Below w0.heap.size w0 u) => total_ref l a n c s T u hT (h.below hu) hs)
  have RS := Lib.hid (fun u (hu : Below w0.heap.size w0 u) => spot_ref l a n c s k A B u hA hB (h.below hu) hs hk)
  have HM := Lib.hid (Hold.Hld.start w0)
  have hb := spot_bounds l s k
  rw [← hA, ← hB] at hb
  have hT0 : 0 ≤ T ∧ T ≤ 12150 := by rw [hT]; exact at_bounds l s _
  have hQ2 : Q = if T = 0 ∨ B = 0 then 0 else 1000 * (B - A + 1) / T := by rw [hQ, hT, hB, hA]; rfl
  clear hQ h hs hk hA hB hT
  by_cases h0 : T = 0
  · have d0 : ((T : Int) == 0) = true := by rw [h0]; rfl
    obtain rfl : Q = 0 := by rw [hQ2, if_pos (Or.inl h0)]
    clear hQ2 h0 hT0 hb
    go_enter Tryd.func20, Tryd.ntmps20
    go_wp2_with ((first
      | ((with_reducible refine (RT.out _ HM.out.below).mono ?_); rintro e w ⟨rfl, hb⟩; replace HM := Lib.hid (HM.out.next hb); clear hb)
      | ((with_reducible refine (RS.out _ HM.out.below).mono ?_); rintro e w ⟨rfl, hb⟩; replace HM := Lib.hid (HM.out.next hb); clear hb)))
    go_ret
    exact ⟨rfl, HM.out.below⟩
  have d0 : ((T : Int) == 0) = false := by simpa using h0
  by_cases h1 : B = 0
  · have d1 : ((B : Int) == 0) = true := by rw [h1]; rfl
    obtain rfl : Q = 0 := by rw [hQ2, if_pos (Or.inr h1)]
    clear hQ2 h0 h1 hT0 hb
    go_enter Tryd.func20, Tryd.ntmps20
    go_wp2_with ((first
      | ((with_reducible refine (RT.out _ HM.out.below).mono ?_); rintro e w ⟨rfl, hb⟩; replace HM := Lib.hid (HM.out.next hb); clear hb)
      | ((with_reducible refine (RS.out _ HM.out.below).mono ?_); rintro e w ⟨rfl, hb⟩; replace HM := Lib.hid (HM.out.next hb); clear hb)))
    go_ret
    exact ⟨rfl, HM.out.below⟩
  have d1 : ((B : Int) == 0) = false := by simpa using h1
  have w1 : wrap64 (B - A) = B - A := IntWalk.wrap64_in _ (by omega)
  have w2 : wrap64 (B - A + 1) = B - A + 1 := IntWalk.wrap64_in _ (by omega)
  have w3 : wrap64 (1000 * (B - A + 1)) = 1000 * (B - A + 1) := IntWalk.wrap64_in _ (by omega)
  have hq : (1000 * (B - A + 1)).tdiv T = Q := by rw [hQ2, if_neg (by omega), Int.tdiv_eq_ediv_of_nonneg (by omega)]
  have w4 : wrap64 Q = Q := by
    have := share_small A B T Q hq (by omega) (by omega) (by omega)
    exact IntWalk.wrap64_in _ (by omega)
  clear hQ2 h1 hT0 hb
  go_enter Tryd.func20, Tryd.ntmps20
  go_wp2_with ((first
    | ((with_reducible refine (RT.out _ HM.out.below).mono ?_); rintro e w ⟨rfl, hb⟩; replace HM := Lib.hid (HM.out.next hb); clear hb)
    | ((with_reducible refine (RS.out _ HM.out.below).mono ?_); rintro e w ⟨rfl, hb⟩; replace HM := Lib.hid (HM.out.next hb); clear hb)))
  go_ret
  exact ⟨by first | rfl | (simp [hq]; done) | (simp [hq]; exact w4), HM.out.below⟩

set_option maxHeartbeats 3200000 in
theorem open_ref (l : List Int) (a : Option Addr) (n c : Nat) (s : Int) (L : List Int) (N : Nat) (w : World) (hL : L = openL l s (few l).length) (hN : L.length = N) (h : In w a n c l) (hs : InR s) :
    Calls Tryd.prog 16 #[.slice a n c, .int .i64 s] w (Out w L N) := by
  obtain ⟨w0, hw0⟩ : ∃ w0, w0 = w := ⟨w, rfl⟩
  subst hw0
  obtain ⟨b, o, ha, hc⟩ := cells_at h
  have HC := Lib.hid hc
  have RL := Lib.hid (fun (x G : Int) (hx : InR x) (hG : G = Frm.long x s) u => show Calls Tryd.prog 26 #[.int .i64 x, .int .i64 s] u fun z w' => z = .returned (.int .i64 G) ∧ Below u.heap.size u w' from by rw [hG]; exact long_ref x s u hx hs)
  have hn : n ≤ 100 := h.most
  have HF := Lib.hid h.fit
  have HL := Lib.hid h.len
  have HA := Lib.hid ha
  have HE : L = openL l s (min n 6) := by rw [hL, few_length, h.len]
  have HR := Lib.hid (And.intro HE hN)
  have HB0 := Lib.hid (Below.refl w0.heap.size w0)
  have HO0 := Lib.hid (own_none w0)
  clear hL hN h hs hc ha HE
  go_enter Tryd.func16, Tryd.ntmps16
  go_wp2
  go_loopw [5, 10] (fun v i wr => ∃ q : Nat, q ≤ n ∧ i = .int .i64 (q : Int) ∧ wr.ownsRow w0.heap.size 3 1 v (openL l s (min q 6)).length (zsV (openL l s (min q 6))) ∧ Below w0.heap.size w0 wr) (fun _ i _ => n - (intOf i).toNat)
  case atStart => exact ⟨0, by omega, rfl, HO0.out, HB0.out⟩
  case round =>
    obtain ⟨q, hq, rfl, hown, hbel⟩ := hrel
    have HW := Lib.hid hbel
    have HOWN := Lib.hid hown
    clear hbel hown HB0
    by_cases hlt : q < n
    · have hlt2 : (q : Int) < (n : Int) := by omega
      obtain ⟨x, hx⟩ : ∃ x, l[q]? = some x := ⟨_, List.getElem?_eq_getElem (by rw [HL.out]; exact hlt)⟩
      obtain rfl := HA.out (by intro e; rw [e] at hx; simp at hx)
      have hcell := HC.out wr HW.out q x hx
      have hxr := HF.out x (List.mem_of_getElem? hx)
      obtain ⟨G, hG⟩ : ∃ G, G = Frm.long x s := ⟨_, rfl⟩
      have hop : isOpen l s q = decide (0 < G) := by
        unfold isOpen
        rw [hG, List.getD_eq_getElem?_getD, hx, Option.getD_some]
      have S := Lib.hid (RL.out x G hxr hG)
      by_cases h6 : q < 6
      · have d6 : decide ((q : Int) < 6) = true := decide_eq_true (by omega)
        have hnx := open_next l s q h6
        have hlen : (openL l s (min q 6)).length ≤ 100 := open_short l s q
        have HLEN := Lib.hid hlen
        by_cases hg : 0 < G
        · have dg : decide (0 < G) = true := decide_eq_true hg
          rw [hop, dg, if_pos rfl] at hnx
          have HNX := Lib.hid hnx
          clear hnx hlen hx hxr hG hop hg
          go_upto_region 6 with ((with_reducible refine (S.out _).mono ?_); rintro e w3 ⟨rfl, hb⟩; have HW3 := Lib.hid (HW.out.trans (hb.mono HW.out.size)); have HOWN3 := Lib.hid (Strs.own_below HOWN.out hb); clear hb)
          clear hcell
          go_wp2_with (at_builtin; refine append_zs rfl _ _ rfl w0.heap.size _ _ (openL l s (min q 6)) [(q : Int)] _ 1 1 rfl rfl (HOWN3.out.alloc _) (new_z _ _ _) rfl (by have := HLEN.out; omega) (Nat.le_trans HW3.out.size (by simp)) ?_; intro v' w4 hown4 hgrow4)
          go_roundw
          case rel => exact ⟨q + 1, by omega, by go_num, by rw [HNX.out, List.length_append]; exact hown4, (HW3.out.alloc HW3.out.size _).grown hgrow4 (Nat.le_trans HW3.out.size (by simp)) (fun q hq => (HOWN3.out.lt q hq).1)⟩
          case measure => simp [intOf]; omega
        · have dg : decide (0 < G) = false := decide_eq_false hg
          rw [hop, dg, if_neg (by decide)] at hnx
          have HNX := Lib.hid hnx
          clear hnx hlen hx hxr hG hop hg
          go_wp2_with ((with_reducible refine (S.out _).mono ?_); rintro e w3 ⟨rfl, hb⟩; have HW3 := Lib.hid (HW.out.trans (hb.mono HW.out.size)); have HOWN3 := Lib.hid (Strs.own_below HOWN.out hb); clear hb)
          go_roundw
          case rel => exact ⟨q + 1, by omega, by go_num, by rw [HNX.out, List.append_nil]; exact HOWN3.out, HW3.out⟩
          case measure => simp [intOf]; omega
      · have d6 : decide ((q : Int) < 6) = false := decide_eq_false (by omega)
        have hnx : min (q + 1) 6 = min q 6 := by omega
        have HNX := Lib.hid hnx
        clear hnx hx hxr hG hop
        go_wp2
        go_roundw
        case rel => exact ⟨q + 1, by omega, by go_num, by rw [HNX.out]; exact HOWN.out, HW.out⟩
        case measure => simp [intOf]; omega
    · obtain rfl : q = n := by omega
      obtain ⟨hE, hN⟩ := HR.out
      obtain ⟨ao, co, rfl, hco, hrow⟩ := own_out HOWN.out
      have HO := Lib.hid (And.intro hco hrow)
      have HN := Lib.hid (show (openL l s (min q 6)).length = N from by rw [← hE]; exact hN)
      have HE := Lib.hid hE
      clear hco hrow hE hN HOWN
      go_wp2
      go_ret
      exact ⟨ao, co, by show Ending.returned (Value.slice ao (openL l s (min q 6)).length co) = _; rw [HN.out], by rw [← HN.out]; exact HO.out.1, by rw [HE.out]; exact HO.out.2, HW.out⟩

set_option maxHeartbeats 6400000 in
theorem budget_ref (l : List Int) (a : Option Addr) (n c : Nat) (s m : Int) (L : List Int) (N : Nat) (w : World) (hL : L = budget l s m) (hN : L.length = N) (h : In w a n c l) (hs : InR s) (hm : InR m) :
    Calls Tryd.prog 18 #[.slice a n c, .int .i64 s, .int .i64 m] w (Out w L N) := by
  obtain ⟨w0, hw0⟩ : ∃ w0, w0 = w := ⟨w, rfl⟩
  subst hw0
  obtain ⟨b, o, ha, hc⟩ := cells_at h
  have HC := Lib.hid hc
  have HA := Lib.hid ha
  have RL := Lib.hid (fun (x G : Int) (hx : InR x) (hG : G = Frm.long x s) u => show Calls Tryd.prog 26 #[.int .i64 x, .int .i64 s] u fun z w' => z = .returned (.int .i64 G) ∧ Below u.heap.size u w' from by rw [hG]; exact long_ref x s u hx hs)
  have hNM : (few l).length = N := by rw [← hN, hL, budget, budG_length]
  have hN6 : N ≤ 6 := by rw [← hNM, few_length]; omega
  have hNn : N ≤ n := by rw [← hNM, few_length, h.len]; omega
  have hf : first (n : Int) = List.replicate N 0 := by
    unfold first
    have : (max 0 (min (n : Int) 6)).toNat = N := by rw [← hNM, few_length, h.len]; omega
    rw [this]
  have RF := Lib.hid (fun u => first_ref (n : Int) (List.replicate N 0) N u hf.symm (by simp) (inN n (by have := h.most; omega)))
  have HF := Lib.hid h.fit
  have HR := Lib.hid (And.intro hL hNM)
  have HIM := Lib.hid hm
  have HM := Lib.hid (Hold.Hld.start w0)
  have hn100 : n ≤ 100 := h.most
  clear hL hN h hs hc ha hf hNM hm
  go_enter Tryd.func18, Tryd.ntmps18
  go_wp2_with ((with_reducible refine (RF.out _).mono ?_); rintro e w ⟨b1, rfl, hb1, hw1, hb⟩; replace HM := Lib.hid (HM.out.join hb hb1 hw1); simp only [List.nil_append] at HM; clear hb hb1 hw1)
  go_loopw [8, 18] (fun z i wr => ∃ (q : Nat) (D : List Int) (y : Int), q ≤ N ∧ i = .int .i64 (q : Int) ∧ z = .int .i64 y ∧ D.length = q ∧ (N : Int) ≤ y ∧ y ≤ 6 + 2024 * (q : Int) ∧ D ++ budG s m y ((few l).drop q) = budget l s m ∧ Hold.Hld w0 [⟨b1, 3, zsV (D ++ List.replicate (N - q) 0)⟩] wr) (fun _ i _ => N - (intOf i).toNat)
  case atStart => exact ⟨0, [], (N : Int), by omega, rfl, rfl, rfl, by omega, by omega, by rw [List.nil_append, List.drop_zero, budget, HR.out.2], HM.out⟩
  case round =>
    obtain ⟨q, D, y, hq, rfl, rfl, hD, hy1, hy2, hbud, hm⟩ := hrel
    clear HM
    have HM := Lib.hid hm
    have HB := Lib.hid hbud
    have HD := Lib.hid hD
    clear hm hbud hD
    by_cases hlt : q < N
    · have hlt2 : (q : Int) < (N : Int) := by omega
      have hqn : (q : Int) < (n : Int) := by omega
      have hqn2 : q < n := by omega
      obtain ⟨x, hx⟩ : ∃ x, (few l)[q]? = some x := ⟨_, List.getElem?_eq_getElem (by rw [HR.out.2]; exact hlt)⟩
      have hxl : l[q]? = some x := by rw [← Lyo.few_at l q (by rw [HR.out.2]; exact hlt)]; exact hx
      obtain rfl := HA.out (by intro e; rw [e] at hxl; simp at hxl)
      have HCX := Lib.hid (fun u hu => HC.out u hu q x hxl)
      have hxr := HF.out x (List.mem_of_getElem? hxl)
      obtain ⟨G, hG⟩ : ∃ G, G = Frm.long x s := ⟨_, rfl⟩
      have S := Lib.hid (RL.out x G hxr hG)
      have hGb := long_bounds x s
      rw [← hG] at hGb
      have hstep := budG_drop s m y (few l) q x hx
      rw [← hG] at hstep
      have hcell := HCX.out _ HM.out.below
      by_cases hf : fits s m y x
      · have hf2 := hf
        unfold fits at hf2
        rw [← hG] at hf2
        obtain ⟨f1, f2, f3⟩ := hf2
        have d1 : decide (0 < G) = true := decide_eq_true f1
        have d2 : decide (y ≤ m) = true := decide_eq_true f2
        have hmm := HIM.out
        unfold InR at hmm
        have w1 : wrap64 (m - y) = m - y := IntWalk.wrap64_in _ (by omega)
        have d3 : decide (G ≤ m - y) = true := decide_eq_true f3
        have w2 : wrap64 (y + G) = y + G := IntWalk.wrap64_in _ (by omega)
        rw [if_pos hf] at hstep
        have hn := HB.out
        rw [hstep, List.append_cons] at hn
        have HN := Lib.hid (And.intro hn (And.intro (show (N : Int) ≤ y + G by omega) (show y + G ≤ 6 + 2024 * ((q + 1 : Nat) : Int) by omega)))
        have hset : (zsV (D ++ List.replicate (N - q) 0)).set q (.int .i64 x) = zsV ((D ++ [x]) ++ List.replicate (N - (q + 1)) 0) := row_next D N q x HD.out hlt
        have hql : q < (zsV (D ++ List.replicate (N - q) 0)).length := by rw [zsV_length, List.length_append, HD.out, List.length_replicate]; omega
        have HQS := Lib.hid (And.intro hql hset)
        clear hn hstep hx hxl hxr hG hGb hf f1 f2 f3 hmm hy1 hy2 hql hset
        go_upto_region 8 with ((with_reducible refine (S.out _).mono ?_); rintro e w ⟨rfl, hb⟩; replace HM := Lib.hid (HM.out.next hb); clear hb hcell)
        have hcell := HCX.out _ HM.out.below
        go_wp2_with ((refine Hold.store1 HM.out 0 (c := .int .i64 x) (v' := zsV ((D ++ [x]) ++ List.replicate (N - (q + 1)) 0)) rfl rfl rfl rfl rfl (HQS.out.1) (HQS.out.2) (Hold.cell_int _ _) Frm.cellInt ?_); clear HM; intro w HM; simp only [List.set_cons_zero] at HM; replace HM := Lib.hid HM)
        go_roundw
        case rel => exact ⟨q + 1, D ++ [x], y + G, by omega, by go_num, by rw [w2], by rw [List.length_append, HD.out]; rfl, HN.out.2.1, HN.out.2.2, HN.out.1, HM.out⟩
        case measure => simp [intOf]; omega
      · rw [if_neg hf] at hstep
        have hn := HB.out
        rw [hstep, List.append_cons] at hn
        have HN := Lib.hid (And.intro hn (And.intro hy1 (show y ≤ 6 + 2024 * ((q + 1 : Nat) : Int) by omega)))
        have hm2 := HM.out
        rw [zeros_next D N q hlt] at hm2
        replace HM := Lib.hid hm2
        unfold fits at hf
        rw [← hG] at hf
        have hmm := HIM.out
        unfold InR at hmm
        clear hm2 hn hstep hx hxl hxr hG
        by_cases f1 : 0 < G
        · have d1 : decide (0 < G) = true := decide_eq_true f1
          by_cases f2 : y ≤ m
          · have d2 : decide (y ≤ m) = true := decide_eq_true f2
            have w1 : wrap64 (m - y) = m - y := IntWalk.wrap64_in _ (by omega)
            have d3 : decide (G ≤ m - y) = false := decide_eq_false (by omega)
            clear hf f1 f2 hmm hy1 hy2 hGb
            go_wp2_with (((with_reducible refine (S.out _).mono ?_); rintro e w ⟨rfl, hb⟩; replace HM := Lib.hid (HM.out.next hb); clear hb hcell))
            go_roundw
            case rel => exact ⟨q + 1, D ++ [0], y, by omega, by go_num, rfl, by rw [List.length_append, HD.out]; rfl, HN.out.2.1, HN.out.2.2, HN.out.1, HM.out⟩
            case measure => simp [intOf]; omega
          · have d2 : decide (y ≤ m) = false := decide_eq_false f2
            clear hf f1 f2 hmm hy1 hy2 hGb
            go_wp2_with (((with_reducible refine (S.out _).mono ?_); rintro e w ⟨rfl, hb⟩; replace HM := Lib.hid (HM.out.next hb); clear hb hcell))
            go_roundw
            case rel => exact ⟨q + 1, D ++ [0], y, by omega, by go_num, rfl, by rw [List.length_append, HD.out]; rfl, HN.out.2.1, HN.out.2.2, HN.out.1, HM.out⟩
            case measure => simp [intOf]; omega
        · have d1 : decide (0 < G) = false := decide_eq_false f1
          clear hf f1 hmm hy1 hy2 hGb
          go_wp2_with (((with_reducible refine (S.out _).mono ?_); rintro e w ⟨rfl, hb⟩; replace HM := Lib.hid (HM.out.next hb); clear hb hcell))
          go_roundw
          case rel => exact ⟨q + 1, D ++ [0], y, by omega, by go_num, rfl, by rw [List.length_append, HD.out]; rfl, HN.out.2.1, HN.out.2.2, HN.out.1, HM.out⟩
          case measure => simp [intOf]; omega
    · obtain rfl : q = N := by omega
      have he : D = L := by
        have := HB.out
        rw [← HR.out.2, List.drop_length] at this
        rw [HR.out.1, ← this]
        exact (List.append_nil D).symm
      have HE := Lib.hid he
      have hm2 := HM.out
      rw [Nat.sub_self, List.replicate_zero, List.append_nil] at hm2
      replace HM := Lib.hid hm2
      clear he hm2 hy1 hy2
      go_wp2
      go_ret
      exact ⟨_, _, rfl, Nat.le_refl _, by rw [← HE.out]; exact row_zs (HM.out.at 0 rfl), HM.out.below⟩
end Go.Proofs.YtedgpglldlohfaaDoor.RLy
