/-
  The landed package layout: Budget answers what the plain mathematics of the text Lyo says. All memory that was there is left as it was. Conditions: those of the text LyL.
-/
import Derived.Test.YtedgpglldlohfaaDoorLyL
namespace Go.Proofs.YtedgpglldlohfaaDoor.Lyl
open Go.RowKit Mur Lanes Prt Tap Cel Frm Lyo Zs
set_option maxRecDepth 100000
set_option linter.unusedSimpArgs false

set_option maxHeartbeats 6400000 in
theorem budget_any (l : List Int) (a : Option Addr) (n c : Nat) (s m : Int) (L : List Int) (N : Nat) (w : World) (hL : L = budget l s m) (hN : L.length = N) (h : In w a n c l) (hs : InR s) (hm : InR m) :
    Calls Tryd.prog 17 #[.slice a n c, .int .i64 s, .int .i64 m] w (Out w L N) := by
  obtain ⟨w0, hw0⟩ : ∃ w0, w0 = w := ⟨w, rfl⟩
  subst hw0
  obtain ⟨M, hM⟩ : ∃ M : Nat, M = (few l).length := ⟨_, rfl⟩
  have hM6 : M ≤ 6 := by rw [hM]; exact few_six l
  obtain ⟨C, hC⟩ : ∃ C, C = capsL l := ⟨_, rfl⟩
  have hCl : C.length = 6 := by rw [hC, capsL_length]
  have HC6 := Lib.hid hCl
  have RC := Lib.hid (fun u (hu : Below w0.heap.size w0 u) => capacities_any l a n c M C u hC hM (h.below hu))
  have HM := Lib.hid (Hold.Hld.start w0)
  have RL := Lib.hid (fun (x G : Int) (hx : InR x) (hG : G = Frm.long x s) u => show Calls Tryd.prog 9 #[.int .i64 x, .int .i64 s] u fun z w' => z = .returned (.int .i64 G) ∧ Below u.heap.size u w' from by rw [hG]; exact Frm.con.long x s u hx hs)
  have HCA := Lib.hid (fun (q : Nat) (x : Int) (hx : (few l)[q]? = some x) => show (zsV C)[q]? = some (.int .i64 x) from zsV_at (by rw [hC]; exact capsL_at l q x hx))
  have HFX := Lib.hid (fun (q : Nat) (x : Int) (hx : (few l)[q]? = some x) => show InR x from h.fit x (List.mem_of_mem_take (show x ∈ l.take 6 from List.mem_of_getElem? hx)))
  have hcut := fun b u => cut_arr b M hM6 u
  have hf : first (M : Int) = List.replicate M 0 := by
    unfold first
    have : (max 0 (min (M : Int) 6)).toNat = M := by omega
    rw [this]
  have RF := Lib.hid (fun u => first_any (M : Int) (List.replicate M 0) M u hf.symm (by simp) (inN M (by omega)))
  obtain rfl : N = M := by rw [hM, ← hN, hL, budget, budG_length]
  have HR := Lib.hid (And.intro hL hM)
  have HIM := Lib.hid hm
  clear hL hN h hs hC hCl hM hm hf
  go_enter Tryd.func17, Tryd.ntmps17
  go_wp2_with ((first
    | ((with_reducible refine Hold.alloc HM.out rfl rfl zeroC zero_caps ?_); clear HM; intro b7 w HM; simp only [List.nil_append, List.cons_append] at HM; replace HM := Lib.hid HM)
    | ((with_reducible refine (RC.out _ HM.out.below).mono ?_); rintro e w ⟨rfl, hb⟩; replace HM := Lib.hid (HM.out.next hb); clear hb)
    | (refine Hold.store HM.out 0 (v' := zsV C) rfl rfl rfl rfl rfl (by rw [Nat.zero_add, zsV_length, HC6.out]; exact Nat.le_of_eq (by first | rfl | (rw [zeroC_length]; rfl))) (Hold.lay_all (by rw [zsV_length, HC6.out]; first | rfl | (rw [zeroC_length]; rfl))) (zs_one _) (row6 C HC6.out) ?_; clear HM; intro w HM; simp only [List.set_cons_zero, List.set_cons_succ] at HM; replace HM := Lib.hid HM)
    | ((with_reducible refine (RF.out _).mono ?_); rintro e w ⟨b1, rfl, hb1, hw1, hb⟩; replace HM := Lib.hid (HM.out.join hb hb1 hw1); simp only [List.nil_append, List.cons_append] at HM; clear hb hb1 hw1)))
  go_loopw [10, 25] (fun z i wr => ∃ (q : Nat) (D : List Int) (y : Int), q ≤ N ∧ i = .int .i64 (q : Int) ∧ z = .int .i64 y ∧ D.length = q ∧ (N : Int) ≤ y ∧ y ≤ 6 + 2024 * (q : Int) ∧ D ++ budG s m y ((few l).drop q) = budget l s m ∧ Hold.Hld w0 [⟨b7, 49, zsV C⟩, ⟨b1, 3, zsV (D ++ List.replicate (N - q) 0)⟩] wr) (fun _ i _ => N - (intOf i).toNat)
  case atStart => exact ⟨0, [], (N : Int), by omega, rfl, rfl, rfl, by omega, by omega, by rw [List.nil_append, List.drop_zero, budget, HR.out.2], HM.out⟩
  case round =>
    obtain ⟨q, D, y, hq, rfl, rfl, hD, hy1, hy2, hbud, hm⟩ := hrel
    clear HM
    have HM := Lib.hid hm
    have HB := Lib.hid hbud
    have HD := Lib.hid hD
    clear hm hbud hD
    by_cases hlt : q < N
    · have hlt2 : (q : Int) < (N : Int) := by omega
      obtain ⟨x, hx⟩ : ∃ x, (few l)[q]? = some x := ⟨_, List.getElem?_eq_getElem (by rw [← HR.out.2]; exact hlt)⟩
      have hcell := (HM.out.at 0 rfl).row.cell (HCA.out q x hx)
      obtain ⟨G, hG⟩ : ∃ G, G = Frm.long x s := ⟨_, rfl⟩
      have S := Lib.hid (RL.out x G (HFX.out q x hx) hG)
      have hGb := long_bounds x s
      rw [← hG] at hGb
      have hstep := budG_drop s m y (few l) q x hx
      rw [← hG] at hstep
      have hw1 : wrap64 (y + G) = y + G := IntWalk.wrap64_in _ (by omega)
      by_cases hf : fits s m y x
      · have hf2 := hf
        unfold fits at hf2
        rw [← hG] at hf2
        obtain ⟨f1, f2, f3⟩ := hf2
        have d1 : decide (0 < G) = true := decide_eq_true f1
        have d3 : decide (y + G ≤ m) = true := decide_eq_true (by omega)
        rw [if_pos hf] at hstep
        have hn := HB.out
        rw [hstep, List.append_cons] at hn
        have HN := Lib.hid (And.intro hn (And.intro (show (N : Int) ≤ y + G by omega) (show y + G ≤ 6 + 2024 * ((q + 1 : Nat) : Int) by omega)))
        have hset : (zsV (D ++ List.replicate (N - q) 0)).set q (.int .i64 x) = zsV ((D ++ [x]) ++ List.replicate (N - (q + 1)) 0) := row_next D N q x HD.out hlt
        have hql : q < (zsV (D ++ List.replicate (N - q) 0)).length := by rw [zsV_length, List.length_append, HD.out, List.length_replicate]; omega
        have HQS := Lib.hid (And.intro hql hset)
        clear hn hstep hx hG hGb hf f1 f2 f3 hy1 hy2 hql hset
        go_wp2_with ((first
          | ((with_reducible refine (S.out _).mono ?_); rintro e w ⟨rfl, hb⟩; replace HM := Lib.hid (HM.out.next hb); clear hb hcell)
          | (refine Hold.store1 HM.out 1 (c := .int .i64 x) (v' := zsV ((D ++ [x]) ++ List.replicate (N - (q + 1)) 0)) rfl rfl rfl rfl rfl (HQS.out.1) (HQS.out.2) (Hold.cell_int _ _) Frm.cellInt ?_; clear HM; intro w HM; simp only [List.set_cons_zero, List.set_cons_succ] at HM; replace HM := Lib.hid HM)))
        go_roundw
        case rel => exact ⟨q + 1, D ++ [x], y + G, by omega, by go_num, by rw [hw1], by rw [List.length_append, HD.out]; rfl, HN.out.2.1, HN.out.2.2, HN.out.1, HM.out⟩
        case measure => simp [intOf]; omega
      · rw [if_neg hf] at hstep
        have hn := HB.out
        rw [hstep, List.append_cons] at hn
        have HN := Lib.hid (And.intro hn (And.intro hy1 (show y ≤ 6 + 2024 * ((q + 1 : Nat) : Int) by omega)))
        have hm2 := HM.out
        rw [zeros_next D N q hlt] at hm2
        replace HM := Lib.hid hm2
        unfold fits at hf
        rw [← hG] at hf
        clear hm2 hn hstep hx hG
        by_cases f1 : 0 < G
        · have d1 : decide (0 < G) = true := decide_eq_true f1
          have d3 : decide (y + G ≤ m) = false := decide_eq_false (by omega)
          clear hf f1 hy1 hy2 hGb
          go_wp2_with ((first
            | ((with_reducible refine (S.out _).mono ?_); rintro e w ⟨rfl, hb⟩; replace HM := Lib.hid (HM.out.next hb); clear hb hcell)))
          go_roundw
          case rel => exact ⟨q + 1, D ++ [0], y, by omega, by go_num, rfl, by rw [List.length_append, HD.out]; rfl, HN.out.2.1, HN.out.2.2, HN.out.1, HM.out⟩
          case measure => simp [intOf]; omega
        · have d1 : decide (0 < G) = false := decide_eq_false f1
          clear hf f1 hy1 hy2 hGb
          go_wp2_with ((first
            | ((with_reducible refine (S.out _).mono ?_); rintro e w ⟨rfl, hb⟩; replace HM := Lib.hid (HM.out.next hb); clear hb hcell)))
          go_roundw
          case rel => exact ⟨q + 1, D ++ [0], y, by omega, by go_num, rfl, by rw [List.length_append, HD.out]; rfl, HN.out.2.1, HN.out.2.2, HN.out.1, HM.out⟩
          case measure => simp [intOf]; omega
    · obtain rfl : q = N := by omega
      have he : D = L := by
        have := HB.out
        rw [HR.out.2, List.drop_length] at this
        rw [HR.out.1, ← this]
        exact (List.append_nil D).symm
      have HE := Lib.hid he
      have hm2 := HM.out
      rw [Nat.sub_self, List.replicate_zero, List.append_nil] at hm2
      replace HM := Lib.hid hm2
      clear he hm2 hy1 hy2
      go_wp2
      go_ret
      exact ⟨_, _, rfl, Nat.le_refl _, by rw [← HE.out]; exact row_zs (HM.out.at 1 rfl), HM.out.below⟩

end Go.Proofs.YtedgpglldlohfaaDoor.Lyl
