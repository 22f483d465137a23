/-
  The landed package layout: Next answers what the plain mathematics of the text Lyo says. All memory that was there is left as it was. Conditions: those of the text LyL; the listed tables.
-/
import Derived.Test.YtedgpglldlohfaaDoorLyL
namespace Go.Proofs.YtedgpglldlohfaaDoor.Lyl
open Go.RowKit Mur Lanes Prt Tap Cel Frm Lyo Zs
set_option maxRecDepth 100000
set_option linter.unusedSimpArgs false

theorem row_room (D : List Int) (q N : Nat) (hD : D.length = q) (h : q < N) : q < (zsV (D ++ List.replicate (N - q) 0)).length := by
  rw [zsV_length, List.length_append, hD, List.length_replicate]
  omega
theorem next_take (l : List Int) (s : Int) (out : List UInt8) (q : Nat) (h : q < (few l).length) : (next l s out).take (q + 1) = (next l s out).take q ++ [nextOf l s out q] := by
  rw [List.take_add_one, next_at l s out q h]
  rfl
theorem slot_size (l : List Int) (s : Int) (out : List UInt8) (q : Nat) (x : Int) (hx : (few l)[q]? = some x) : (slotT l s (q : Int) out).length ≤ 2024 := by
  obtain ⟨hA, hB⟩ := spot_in l s q x hx
  have hn := at_next l s q x hx
  have b1 := at_bounds l s q
  have b3 := long_bounds x s
  unfold slotT
  rw [hA, hB, hn]
  split
  · simp
  · rw [List.length_take, List.length_drop]
    omega
theorem tx_len (l : List UInt8) : (tx l).size = l.length := by simp [tx, ByteArray.size]
theorem bad_next (t : List UInt8) (c s : Int) (h : ¬ readE t c s = 0) : (readX t c s).next = 0 := by
  unfold readX
  rw [if_neg h]
  rfl

set_option maxHeartbeats 12800000 in
theorem next_any (l : List Int) (a : Option Addr) (n c : Nat) (s : Int) (t : ByteArray) (L : List Int) (N : Nat) (w : World) (hL : L = next l s t.data.toList) (hN : L.length = N) (h : In w a n c l) (hs : InR s) (ht : t.size ≤ 10000) (hl : Laid w) :
    Calls Tryd.prog 12 #[.slice a n c, .int .i64 s, .string t] w (Out w L N) := by
  obtain ⟨w0, hw0⟩ : ∃ w0, w0 = w := ⟨w, rfl⟩
  subst hw0
  obtain ⟨M, hM⟩ : ∃ M : Nat, M = (few l).length := ⟨_, rfl⟩
  have hM6 : M ≤ 6 := by rw [hM]; exact few_six l
  obtain ⟨C, hC⟩ : ∃ C, C = capsL l := ⟨_, rfl⟩
  have hCl : C.length = 6 := by rw [hC, capsL_length]
  have HC6 := Lib.hid hCl
  have RC := Lib.hid (fun u (hu : Below w0.heap.size w0 u) => capacities_any l a n c M C u hC hM (h.below hu))
  have HM := Lib.hid (Hold.Hld.start w0)
  have RL := Lib.hid (fun (x G : Int) (hx : InR x) (hG : G = Frm.long x s) u => show Calls Tryd.prog 9 #[.int .i64 x, .int .i64 s] u fun z w' => z = .returned (.int .i64 G) ∧ Below u.heap.size u w' from by rw [hG]; exact Frm.con.long x s u hx hs)
  have HCA := Lib.hid (fun (q : Nat) (x : Int) (hx : (few l)[q]? = some x) => show (zsV C)[q]? = some (.int .i64 x) from zsV_at (by rw [hC]; exact capsL_at l q x hx))
  have HFX := Lib.hid (fun (q : Nat) (x : Int) (hx : (few l)[q]? = some x) => show InR x from h.fit x (List.mem_of_mem_take (show x ∈ l.take 6 from List.mem_of_getElem? hx)))
  have hcut := fun b u => cut_arr b M hM6 u
  have hf : first (M : Int) = List.replicate M 0 := by
    unfold first
    have : (max 0 (min (M : Int) 6)).toNat = M := by omega
    rw [this]
  have RF := Lib.hid (fun u => first_any (M : Int) (List.replicate M 0) M u hf.symm (by simp) (inN M (by omega)))
  obtain rfl : N = M := by rw [hM, ← hN, hL, next_length]
  have RW := Lib.hid (fun (q : Nat) (W : Int) (hW : W = want l (q : Int) t.data.toList) (hq : q ≤ 6) u (hu : Below w0.heap.size w0 u) => want_any l a n c (q : Int) W t u hW (h.below hu) (inN q (by omega)) ht)
  have RX := Lib.hid (fun (q : Nat) (X : ByteArray) (hX : X = tx (slotT l s (q : Int) t.data.toList)) (hq : q ≤ 6) u (hu : Below w0.heap.size w0 u) => slot_any l a n c s (q : Int) t X u hX (h.below hu) hs (inN q (by omega)) ht)
  have RR := Lib.hid (fun (X : ByteArray) (x : Int) (Y : SayB) (E : Int) (hY : Y = ofSay (readX X.data.toList x s)) (hE : E = readE X.data.toList x s) (hX : X.size ≤ 6000) (hx : InR x) u (hu : Below w0.heap.size w0 u) => Frm.con.read X x s Y E u hY hE (by omega) hx hs (hl.below hu))
  have HR := Lib.hid (And.intro hL hM)
  have HFL := Lib.hid (fun (q : Nat) (x : Int) (hx : (few l)[q]? = some x) => show l[q]? = some x from by rw [← Lyo.few_at l q (List.getElem?_eq_some_iff.1 hx).1]; exact hx)
  clear hL hN h hs hC hCl hM hf ht hl
  go_enter Tryd.func12, Tryd.ntmps12
  go_wp2_with ((first
    | ((with_reducible refine Hold.alloc HM.out rfl rfl zeroC zero_caps ?_); clear HM; intro b7 w HM; simp only [List.nil_append, List.cons_append] at HM; replace HM := Lib.hid HM)
    | ((with_reducible refine (RC.out _ HM.out.below).mono ?_); rintro e w ⟨rfl, hb⟩; replace HM := Lib.hid (HM.out.next hb); clear hb)
    | (refine Hold.store HM.out 0 (v' := zsV C) rfl rfl rfl rfl rfl (by rw [Nat.zero_add, zsV_length, HC6.out]; exact Nat.le_of_eq (by first | rfl | (rw [zeroC_length]; rfl))) (Hold.lay_all (by rw [zsV_length, HC6.out]; first | rfl | (rw [zeroC_length]; rfl))) (zs_one _) (row6 C HC6.out) ?_; clear HM; intro w HM; simp only [List.set_cons_zero, List.set_cons_succ] at HM; replace HM := Lib.hid HM)
    | ((with_reducible refine (RF.out _).mono ?_); rintro e w ⟨b1, rfl, hb1, hw1, hb⟩; replace HM := Lib.hid (HM.out.join hb hb1 hw1); simp only [List.nil_append, List.cons_append] at HM; clear hb hb1 hw1)))
  go_loopw [24] (fun i wr => ∃ q : Nat, q ≤ N ∧ i = .int .i64 (q : Int) ∧ Hold.Hld w0 [⟨b7, 49, zsV C⟩, ⟨b1, 3, zsV ((next l s t.data.toList).take q ++ List.replicate (N - q) 0)⟩] wr) (fun i _ => N - (intOf i).toNat)
  case atStart => exact ⟨0, by omega, rfl, HM.out⟩
  case round =>
    obtain ⟨q, hq, rfl, hm⟩ := hrel
    clear HM
    have HM := Lib.hid hm
    clear hm
    by_cases hlt : q < N
    · have hlt2 : (q : Int) < (N : Int) := by omega
      obtain ⟨x, hx⟩ : ∃ x, (few l)[q]? = some x := ⟨_, List.getElem?_eq_getElem (by rw [← HR.out.2]; exact hlt)⟩
      have hcell := (HM.out.at 0 rfl).row.cell (HCA.out q x hx)
      have hxr := HFX.out q x hx
      have hxl := HFL.out q x hx
      obtain ⟨D, hD⟩ : ∃ D, D = (next l s t.data.toList).take q := ⟨_, rfl⟩
      have hDl : D.length = q := by rw [hD, List.length_take, next_length, ← HR.out.2]; omega
      have hnt := next_take l s t.data.toList q (by rw [← HR.out.2]; exact hlt)
      rw [← hD] at hnt
      obtain ⟨W, hW⟩ : ∃ W, W = want l (q : Int) t.data.toList := ⟨_, rfl⟩
      obtain ⟨G, hG⟩ : ∃ G, G = Frm.long x s := ⟨_, rfl⟩
      obtain ⟨X, hX⟩ : ∃ X, X = tx (slotT l s (q : Int) t.data.toList) := ⟨_, rfl⟩
      have hXd : X.data.toList = slotT l s (q : Int) t.data.toList := by rw [hX]
      have hXs : X.size ≤ 6000 := by
        have := slot_size l s t.data.toList q x hx
        rw [hX, tx_len]
        omega
      obtain ⟨Y, hY⟩ : ∃ Y, Y = ofSay (readX X.data.toList x s) := ⟨_, rfl⟩
      obtain ⟨E, hE⟩ : ∃ E, E = readE X.data.toList x s := ⟨_, rfl⟩
      have S := Lib.hid (RL.out x G hxr hG)
      have S1 := Lib.hid (RW.out q W hW (by omega))
      have S3 := Lib.hid (RX.out q X hX (by omega))
      have S4 := Lib.hid (RR.out X x Y E hY hE hXs hxr)
      have hgd : l.getD q 0 = x := by rw [List.getD_eq_getElem?_getD, hxl, Option.getD_some]
      have hno : nextOf l s t.data.toList q = if G = 0 then W else Y.next := by
        unfold nextOf
        rw [hgd, ← hG, ← hW, hY, ← hXd]
        by_cases g0 : G = 0
        · rw [if_pos g0, if_pos g0]
        · rw [if_neg g0, if_neg g0]
          by_cases e0 : readE X.data.toList x s = 0
          · rw [if_pos e0]
            rfl
          · rw [if_neg e0]
            exact (bad_next _ _ _ e0).symm
      have hm2 := HM.out
      rw [← hD] at hm2
      replace HM := Lib.hid hm2
      have hroom := row_room D q N hDl hlt
      have hY0 : (sayV Y)[0]? = some (.int .i64 Y.next) := rfl
      by_cases g0 : G = 0
      · have d2 : ((G : Int) == 0) = true := by rw [g0]; rfl
        rw [if_pos g0] at hno
        have HV := Lib.hid (show (next l s t.data.toList).take (q + 1) = D ++ [W] from by rw [hnt, hno])
        have HQS := Lib.hid (And.intro hroom (row_next D N q W hDl hlt))
        clear hx hxl hxr hW hG hX hXd hXs hY hE hgd hno hm2 hnt hD hroom hDl g0
        go_wp2_with ((first
          | ((with_reducible refine (S.out _).mono ?_); rintro e w ⟨rfl, hb⟩; replace HM := Lib.hid (HM.out.next hb); clear hb hcell)
          | ((with_reducible refine (S1.out _ HM.out.below).mono ?_); rintro e w ⟨rfl, hb⟩; replace HM := Lib.hid (HM.out.next hb); clear hb)
          | (refine Hold.store1 HM.out 1 (c := .int .i64 W) (v' := zsV ((D ++ [W]) ++ List.replicate (N - (q + 1)) 0)) rfl rfl rfl rfl rfl (HQS.out.1) (HQS.out.2) (Hold.cell_int _ _) Frm.cellInt ?_; clear HM; intro w HM; simp only [List.set_cons_zero, List.set_cons_succ] at HM; replace HM := Lib.hid HM)))
        go_roundw
        case rel => exact ⟨q + 1, by omega, by go_num, by rw [HV.out]; exact HM.out⟩
        case measure => simp [intOf]; omega
      · have d2 : ((G : Int) == 0) = false := by simpa using g0
        rw [if_neg g0] at hno
        have HV := Lib.hid (show (next l s t.data.toList).take (q + 1) = D ++ [Y.next] from by rw [hnt, hno])
        have HQS := Lib.hid (And.intro hroom (row_next D N q Y.next hDl hlt))
        clear hx hxl hxr hW hG hX hXd hXs hY hE hgd hno hm2 hnt hD hroom hDl g0
        go_wp2_with ((first
          | ((with_reducible refine (S.out _).mono ?_); rintro e w ⟨rfl, hb⟩; replace HM := Lib.hid (HM.out.next hb); clear hb hcell)
          | ((with_reducible refine (S3.out _ HM.out.below).mono ?_); rintro e w ⟨rfl, hb⟩; replace HM := Lib.hid (HM.out.next hb); clear hb)
          | ((with_reducible refine (S4.out _ HM.out.below).mono ?_); rintro e w ⟨rfl, hb⟩; replace HM := Lib.hid (HM.out.next hb); clear hb)
          | ((with_reducible refine Hold.alloc HM.out rfl rfl zeroS zero_said ?_); clear HM; intro b12 w HM; simp only [List.nil_append, List.cons_append] at HM; replace HM := Lib.hid HM)
          | (refine Hold.store HM.out 2 (v' := sayV Y) rfl rfl rfl rfl rfl (say_fits _ _) (say_laid _ _) (say_one _) (sayRow _) ?_; clear HM; intro w HM; simp only [List.set_cons_zero, List.set_cons_succ] at HM; replace HM := Lib.hid HM)
          | (with_reducible refine Hold.load1 HM.out 2 (c := .int .i64 Y.next) rfl rfl rfl rfl hY0 Frm.cellInt ?_)
          | (refine Hold.store1 HM.out 1 (c := .int .i64 Y.next) (v' := zsV ((D ++ [Y.next]) ++ List.replicate (N - (q + 1)) 0)) rfl rfl rfl rfl rfl (HQS.out.1) (HQS.out.2) (Hold.cell_int _ _) Frm.cellInt ?_; clear HM; intro w HM; simp only [List.set_cons_zero, List.set_cons_succ] at HM; replace HM := Lib.hid HM)))
        go_roundw
        case rel => exact ⟨q + 1, by omega, by go_num, by rw [HV.out]; exact Hold.Hld.front (m' := [_]) HM.out⟩
        case measure => simp [intOf]; omega
    · obtain rfl : q = N := by omega
      have he : (next l s t.data.toList).take q = L := by rw [HR.out.1]; exact List.take_of_length_le (Nat.le_of_eq (by rw [next_length, ← HR.out.2]))
      have hm2 := HM.out
      rw [Nat.sub_self, List.replicate_zero, List.append_nil, he] at hm2
      replace HM := Lib.hid hm2
      clear he hm2
      go_wp2
      go_ret
      exact ⟨_, _, rfl, Nat.le_refl _, row_zs (HM.out.at 1 rfl), HM.out.below⟩

end Go.Proofs.YtedgpglldlohfaaDoor.Lyl
