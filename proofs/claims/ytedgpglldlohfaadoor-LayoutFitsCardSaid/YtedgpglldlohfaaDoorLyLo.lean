/-
  The landed package layout: Open answers what the plain mathematics of the text Lyo says. All memory that was there is left as it was. Conditions: those of the text LyL.
-/
import Derived.Test.YtedgpglldlohfaaDoorLyL
namespace Go.Proofs.YtedgpglldlohfaaDoor.Lyl
open Go.RowKit Mur Lanes Prt Tap Cel Frm Lyo Zs
set_option maxRecDepth 100000
set_option linter.unusedSimpArgs false

set_option maxHeartbeats 3200000 in
theorem open_any (l : List Int) (a : Option Addr) (n c : Nat) (s : Int) (L : List Int) (N : Nat) (w : World) (hL : L = openL l s (few l).length) (hN : L.length = N) (h : In w a n c l) (hs : InR s) :
    Calls Tryd.prog 15 #[.slice a n c, .int .i64 s] w (Out w L N) := by
  obtain ⟨w0, hw0⟩ : ∃ w0, w0 = w := ⟨w, rfl⟩
  subst hw0
  obtain ⟨M, hM⟩ : ∃ M : Nat, M = (few l).length := ⟨_, rfl⟩
  have hM6 : M ≤ 6 := by rw [hM]; exact few_six l
  obtain ⟨C, hC⟩ : ∃ C, C = capsL l := ⟨_, rfl⟩
  have hCl : C.length = 6 := by rw [hC, capsL_length]
  have HC6 := Lib.hid hCl
  have RC := Lib.hid (fun u (hu : Below w0.heap.size w0 u) => capacities_any l a n c M C u hC hM (h.below hu))
  have HM := Lib.hid (Hold.Hld.start w0)
  have RL := Lib.hid (fun (x G : Int) (hx : InR x) (hG : G = Frm.long x s) u => show Calls Tryd.prog 9 #[.int .i64 x, .int .i64 s] u fun z w' => z = .returned (.int .i64 G) ∧ Below u.heap.size u w' from by rw [hG]; exact Frm.con.long x s u hx hs)
  have HCA := Lib.hid (fun (q : Nat) (x : Int) (hx : (few l)[q]? = some x) => show (zsV C)[q]? = some (.int .i64 x) from zsV_at (by rw [hC]; exact capsL_at l q x hx))
  have HFX := Lib.hid (fun (q : Nat) (x : Int) (hx : (few l)[q]? = some x) => show InR x from h.fit x (List.mem_of_mem_take (show x ∈ l.take 6 from List.mem_of_getElem? hx)))
  have hcut := fun b u => cut_arr b M hM6 u
  have HE : L = openL l s (min M 6) := by rw [hL, ← hM, Nat.min_eq_left hM6]
  have HR := Lib.hid (And.intro HE hN)
  have HMF := Lib.hid hM
  clear hL hN h hs HE hC hCl hM
  go_enter Tryd.func15, Tryd.ntmps15
  go_upto_region 2 with ((first
    | ((with_reducible refine Hold.alloc HM.out rfl rfl zeroC zero_caps ?_); clear HM; intro b5 w HM; simp only [List.nil_append, List.cons_append] at HM; replace HM := Lib.hid HM)
    | ((with_reducible refine (RC.out _ HM.out.below).mono ?_); rintro e w ⟨rfl, hb⟩; replace HM := Lib.hid (HM.out.next hb); clear hb)
    | (refine Hold.store HM.out 0 (v' := zsV C) rfl rfl rfl rfl rfl (by rw [Nat.zero_add, zsV_length, HC6.out]; exact Nat.le_of_eq (by first | rfl | (rw [zeroC_length]; rfl))) (Hold.lay_all (by rw [zsV_length, HC6.out]; first | rfl | (rw [zeroC_length]; rfl))) (zs_one _) (row6 C HC6.out) ?_; clear HM; intro w HM; simp only [List.set_cons_zero, List.set_cons_succ] at HM; replace HM := Lib.hid HM)))
  go_upto_region 3 with (fail)
  obtain ⟨w1, rfl⟩ : ∃ w1, w1 = w := ⟨w, rfl⟩
  have HB1 := Lib.hid ((Below.refl w1.heap.size w1).alloc (Nat.le_refl _) (.cells #[] 3))
  have HO1 := Lib.hid (own_new w1 w1.heap.size (Nat.le_refl _))
  have HM1 := HM
  clear HM
  generalize hwa : w1.alloc (.cells #[] 3) = wa at *
  generalize hva : Value.slice (some ⟨w1.heap.size, 0, none⟩) 0 0 = va at *
  clear hwa hva
  go_wp2
  go_loopw [7, 19] (fun v i wr => ∃ q : Nat, q ≤ M ∧ i = .int .i64 (q : Int) ∧ wr.ownsRow w1.heap.size 3 1 v (openL l s (min q 6)).length (zsV (openL l s (min q 6))) ∧ Below w1.heap.size w1 wr) (fun _ i _ => M - (intOf i).toNat)
  case atStart => exact ⟨0, by omega, rfl, HO1.out, HB1.out⟩
  case round =>
    obtain ⟨q, hq, rfl, hown, hbel⟩ := hrel
    have HW := Lib.hid hbel
    have HOWN := Lib.hid hown
    clear hbel hown HB1
    by_cases hlt : q < M
    · have hlt2 : (q : Int) < (M : Int) := by omega
      obtain ⟨x, hx⟩ : ∃ x, (few l)[q]? = some x := ⟨_, List.getElem?_eq_getElem (by rw [← HMF.out]; exact hlt)⟩
      have hcell := ((HM1.out.next HW.out).at 0 rfl).row.cell (HCA.out q x hx)
      obtain ⟨G, hG⟩ : ∃ G, G = Frm.long x s := ⟨_, rfl⟩
      have hxl : l[q]? = some x := by rw [← Lyo.few_at l q (by rw [← HMF.out]; exact hlt)]; exact hx
      have hop : isOpen l s q = decide (0 < G) := by
        unfold isOpen
        rw [hG, List.getD_eq_getElem?_getD, hxl, Option.getD_some]
      have S := Lib.hid (RL.out x G (HFX.out q x hx) hG)
      have hnx := open_next l s q (by omega)
      have hlen : (openL l s (min q 6)).length ≤ 100 := open_short l s q
      have HLEN := Lib.hid hlen
      by_cases hg : 0 < G
      · have dg : decide (0 < G) = true := decide_eq_true hg
        rw [hop, dg, if_pos rfl] at hnx
        have HNX := Lib.hid hnx
        clear hnx hlen hx hxl hG hop hg
        go_upto_region 7 with ((with_reducible refine (S.out _).mono ?_); rintro e w3 ⟨rfl, hb⟩; have HW3 := Lib.hid (HW.out.trans (hb.mono HW.out.size)); have HOWN3 := Lib.hid (Strs.own_below HOWN.out hb); clear hb)
        clear hcell
        go_wp2_with (at_builtin; refine append_zs rfl _ _ rfl w1.heap.size _ _ (openL l s (min q 6)) [(q : Int)] _ 1 1 rfl rfl (HOWN3.out.alloc _) (new_z _ _ _) rfl (by have := HLEN.out; omega) (Nat.le_trans HW3.out.size (by simp)) ?_; intro v' w4 hown4 hgrow4)
        go_roundw
        case rel => exact ⟨q + 1, by omega, by go_num, by rw [HNX.out, List.length_append]; exact hown4, (HW3.out.alloc HW3.out.size _).grown hgrow4 (Nat.le_trans HW3.out.size (by simp)) (fun q hq => (HOWN3.out.lt q hq).1)⟩
        case measure => simp [intOf]; omega
      · have dg : decide (0 < G) = false := decide_eq_false hg
        rw [hop, dg, if_neg (by decide)] at hnx
        have HNX := Lib.hid hnx
        clear hnx hlen hx hxl hG hop hg
        go_wp2_with ((with_reducible refine (S.out _).mono ?_); rintro e w3 ⟨rfl, hb⟩; have HW3 := Lib.hid (HW.out.trans (hb.mono HW.out.size)); have HOWN3 := Lib.hid (Strs.own_below HOWN.out hb); clear hb)
        go_roundw
        case rel => exact ⟨q + 1, by omega, by go_num, by rw [HNX.out, List.append_nil]; exact HOWN3.out, HW3.out⟩
        case measure => simp [intOf]; omega
    · obtain rfl : q = M := by omega
      obtain ⟨hE, hN⟩ := HR.out
      obtain ⟨ao, co, rfl, hco, hrow⟩ := own_out HOWN.out
      have HO := Lib.hid (And.intro hco hrow)
      have HN := Lib.hid (show (openL l s (min q 6)).length = N from by rw [← hE]; exact hN)
      have HE := Lib.hid hE
      clear hco hrow hE hN HOWN
      go_wp2
      go_ret
      exact ⟨ao, co, by show Ending.returned (Value.slice ao (openL l s (min q 6)).length co) = _; rw [HN.out], by rw [← HN.out]; exact HO.out.1, by rw [HE.out]; exact HO.out.2, HM1.out.below.trans (HW.out.mono HM1.out.below.size)⟩

end Go.Proofs.YtedgpglldlohfaaDoor.Lyl
