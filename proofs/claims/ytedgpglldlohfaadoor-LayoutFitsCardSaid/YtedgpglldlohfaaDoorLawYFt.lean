/-
  LayoutFits: within a budget of at least a byte for each slot a layout is no longer than it may be; one that is not too long stays as it was; all shares together are at most the whole: for any slots and any two numbers the law answers true and changes nothing that was there. Condition: the listed tables hold what the program lays there.
-/
import Derived.Test.YtedgpglldlohfaaDoorLyX
import Derived.Test.YtedgpglldlohfaaDoorLyzb
import Derived.Test.YtedgpglldlohfaaDoorLyW
import Derived.Test.YtedgpglldlohfaaDoorLyD
import Derived.Test.YtedgpglldlohfaaDoorZsO
import Derived.Test.YtedgpglldlohfaaDoorLyK
namespace Go.Proofs.YtedgpglldlohfaaDoor.LawYFt
open Go.ChangeShapes Go.WideShapes Go.ChangeAt Go.RowKit Mur Prt Lanes Tap Cel Frm Lyo Zs
open Go.ChangeMaps (open_string shut_string)
set_option maxRecDepth 100000
set_option linter.unusedSimpArgs false

set_option maxHeartbeats 12800000 in
theorem walk (con : Lyo.Con) (fc : Frm.Con) (cb : ConB) (l : List Int) (n : Nat) (a : Option Addr) (c : Nat) (sg mo : Int) (wz : World) (hr : ZsR wz a l) (hn : l.length = n) (_ : n ≤ 9223372036854775807) (hc : n ≤ c) (hf : ∀ z ∈ l, -9223372036854775808 ≤ z ∧ z ≤ 9223372036854775807) (_ : InR sg) (_ : InR mo) (hl : Laid wz) :
    Calls Tryd.prog 6 #[.slice a n c, .int .i64 sg, .int .i64 mo] wz fun e w' => e = .returned (.bool true) ∧ Below wz.heap.size wz w' := by
  have RA0 := Lib.hid (fun u (hu : Below wz.heap.size wz u) => Lyo.awake_any con fc u (hl.below hu))
  have HM := Lib.hid (Hold.Hld.start wz)
  by_cases h6 : 6 < n
  · have d1 : decide (6 < (n : Int)) = true := decide_eq_true (by omega)
    have d2 : decide (6 < n) = true := decide_eq_true h6
    clear hr hn hc hf hl h6
    go_enter Tryd.func6, Tryd.ntmps6
    go_wp2_with (((with_reducible refine (RA0.out _ HM.out.below).mono ?_); rintro e w ⟨rfl, hb⟩; replace HM := Lib.hid (HM.out.next hb); clear hb))
    go_ret
    exact ⟨rfl, HM.out.below⟩
  have d1 : decide (6 < (n : Int)) = false := decide_eq_false (by omega)
  have d2 : decide (6 < n) = false := decide_eq_false h6
  obtain ⟨m, hm, hq⟩ := rest_of sg 100 (by decide) (by decide)
  obtain ⟨k, hk, hq2⟩ := rest_of mo 400 (by decide) (by decide)
  have hin : In wz a n c l := ⟨hr, hn, by omega, hc, hf⟩
  have hfl : few l = l := few_all l (by omega)
  have hfn : (few l).length = n := by rw [hfl, hn]
  obtain ⟨b, o, ha, hcells⟩ := cells_at hin
  have im : InR (m : Int) := inN m (by omega)
  obtain ⟨M, hM⟩ : ∃ M : Int, M = (n : Int) + (k : Int) := ⟨_, rfl⟩
  have iM : InR M := by rw [hM]; exact ⟨by omega, by omega⟩
  have hwM : wrap64 ((n : Int) + (k : Int)) = M := by rw [hM]; exact IntWalk.wrap64_in _ (by omega)
  obtain ⟨L, hL⟩ : ∃ L, L = budget l (m : Int) M := ⟨_, rfl⟩
  have hLn : L.length = n := by rw [hL, budget, budG_length, hfn]
  obtain ⟨T, hT⟩ : ∃ T, T = total l (m : Int) := ⟨_, rfl⟩
  obtain ⟨T1, hT1⟩ : ∃ T, T = total L (m : Int) := ⟨_, rfl⟩
  have hle : T1 ≤ M := by rw [hT1, hL]; exact budget_total l (m : Int) M (by omega) (by omega)
  have hLf : ∀ z ∈ L, InR z := fun z hz => by
    obtain ⟨i, hi, rfl⟩ := List.mem_iff_getElem.1 hz
    rcases budG_each (m : Int) M _ (few l) i L[i] (by rw [← budget, ← hL]; exact List.getElem?_eq_getElem hi) with h | h
    · rw [h]; exact inN 0 (by decide)
    · rw [hfl] at h
      exact hf _ (List.mem_of_getElem? h)
  have RB := Lib.hid (fun u (hu : Below wz.heap.size wz u) => cb.budget l a n c (m : Int) M L n u hL hLn (hin.below hu) im iM)
  have RT1 := Lib.hid (fun (an : Option Addr) (cn : Nat) u (h : In u an n cn L) => con.total L an n cn (m : Int) T1 u hT1 h im)
  have RG0 := Lib.hid (fun (x G : Int) (hG : G = Frm.long x (m : Int)) (hx : InR x) u => show Calls Tryd.prog 9 #[.int .i64 x, .int .i64 (m : Int)] u fun z w' => z = .returned (.int .i64 G) ∧ Below u.heap.size u w' from by rw [hG]; exact fc.long x (m : Int) u hx im)
  have RT := Lib.hid (fun u (hu : Below wz.heap.size wz u) => con.total l a n c (m : Int) T u hT (hin.below hu) im)
  have RS := Lib.hid (fun (q : Nat) (Q : Int) (hQ : Q = share l (m : Int) (q : Int)) (hq : q ≤ 6) u (hu : Below wz.heap.size wz u) => cb.share l a n c (m : Int) (q : Int) Q u hQ (hin.below hu) im (inN q (by omega)))
  have HC := Lib.hid hcells
  have HA := Lib.hid ha
  have HF := Lib.hid (And.intro hfl (And.intro hfn hf))
  have HL := Lib.hid (And.intro hL (And.intro hLn hLf))
  have HT := Lib.hid hT
  have hn6 : n ≤ 6 := by omega
  have HN := Lib.hid hn
  have e0 : ((n : Int) != (n : Int)) = false := by simp
  have d3 : decide (M < T1) = false := decide_eq_false (by omega)
  clear hr hn hc hf hl h6 hin hfl hfn hcells ha im hT hT1 hle hLf hL hLn iM hM
  go_enter Tryd.func6, Tryd.ntmps6
  go_upto_region 4 with (fail)
  rw [show wrap64 ((IntKind.u64.wrap sg).tmod 100) = (m : Int) from hq, show wrap64 ((IntKind.u64.wrap mo).tmod 400) = (k : Int) from hq2, hwM]
  clear hq hq2 hwM
  generalize (IntKind.u64.wrap sg).tmod 100 = y0
  generalize IntKind.u64.wrap sg = y1
  generalize (IntKind.u64.wrap mo).tmod 400 = y2
  generalize IntKind.u64.wrap mo = y3
  go_upto_region 5 with ((with_reducible refine (RB.out _ HM.out.below).mono ?_); rintro e w3 ⟨an, cn, rfl, hcn, hrn, hb⟩; replace HM := Lib.hid (HM.out.next hb); clear hb)
  have hin3 : In w3 an n cn L := ⟨hrn, HL.out.2.1, by omega, hcn, HL.out.2.2⟩
  obtain ⟨bn, on, han, hcn⟩ := row_cells hrn
  have HAN := Lib.hid han
  have HCN := Lib.hid hcn
  have HB3 := Lib.hid HM.out.below
  clear han hcn hrn HM RB
  have HM := Lib.hid (Hold.Hld.start w3)
  have RD := Lib.hid (fun u (hu : Below w3.heap.size w3 u) => HB3.out.trans (hu.mono HB3.out.size))
  have S0 := Lib.hid (RT1.out an cn w3 hin3)
  clear hin3
  go_wp2_with ((with_reducible refine (S0.out).mono ?_); rintro e w ⟨rfl, hb⟩; replace HM := Lib.hid (HM.out.next hb); clear hb)
  go_loopw [8, 44] (fun z i wr => ∃ (q : Nat) (s : Int), q ≤ n ∧ i = .int .i64 (q : Int) ∧ z = .int .i64 s ∧ s = shares l (m : Int) q ∧ Hold.Hld w3 [] wr) (fun _ i _ => n - (intOf i).toNat)
  case atStart => exact ⟨0, 0, by omega, rfl, rfl, rfl, HM.out⟩
  case round =>
    obtain ⟨q, s, hq, rfl, rfl, hs, hm2⟩ := hrel
    clear HM
    have HM := Lib.hid hm2
    clear hm2
    by_cases hlt : q < n
    · have hlt2 : (q : Int) < (n : Int) := by omega
      obtain ⟨x, hx⟩ : ∃ x, l[q]? = some x := ⟨_, List.getElem?_eq_getElem (by rw [HN.out]; exact hlt)⟩
      obtain rfl := HA.out (by intro e; rw [e] at hx; simp at hx)
      obtain ⟨y, hyL⟩ : ∃ y, L[q]? = some y := ⟨_, List.getElem?_eq_getElem (by rw [HL.out.2.1]; exact hlt)⟩
      obtain rfl := HAN.out (by intro e; rw [e] at hyL; simp at hyL)
      have c2 := HCN.out _ HM.out.below q y hyL
      have HX := Lib.hid (fun u (hu : Below wr.heap.size wr u) => HC.out _ (RD.out _ (HM.out.next hu).below) q x hx)
      have hxr : InR x := HF.out.2.2 x (List.mem_of_getElem? hx)
      have hyr : InR y := HL.out.2.2 y (List.mem_of_getElem? hyL)
      have hxy : y = 0 ∨ y = x := by
        rcases budG_each (m : Int) M _ (few l) q y (by rw [← budget, ← HL.out.1]; exact hyL) with h | h
        · exact Or.inl h
        · rw [HF.out.1, hx] at h
          exact Or.inr (Option.some.inj h).symm
      obtain ⟨G, hG⟩ : ∃ G, G = Frm.long x (m : Int) := ⟨_, rfl⟩
      obtain ⟨G2, hG2⟩ : ∃ G, G = Frm.long y (m : Int) := ⟨_, rfl⟩
      have hGG : T ≤ M → G2 = G := fun h => by rw [hG, hG2]; exact budget_whole l (m : Int) M (by rw [HN.out]; exact hn6) (by rw [← HT.out]; exact h) q x y hx (by rw [← HL.out.1]; exact hyL)
      obtain ⟨Q, hQ⟩ : ∃ Q, Q = share l (m : Int) (q : Int) := ⟨_, rfl⟩
      have S1 := Lib.hid (RG0.out y G2 hG2 hyr)
      have S2 := Lib.hid (RG0.out x G hG hxr)
      have S3 := Lib.hid (RS.out q Q hQ (by omega))
      have hs2 : s + Q = shares l (m : Int) (q + 1) := by rw [hs, hQ]; rfl
      have hw : wrap64 (s + Q) = s + Q := by
        have := shares_small l (m : Int) (q + 1)
        rw [hs2]
        exact IntWalk.wrap64_in _ (by omega)
      have HS2 := Lib.hid (And.intro hw hs2)
      have exx : ((x : Int) != x) = false := by simp
      clear hx hyL hxr hyr hG hG2 hQ hs hs2 hw
      rcases hxy with hy0 | hyx
      · have d5 : ((y : Int) != 0) = false := by rw [hy0]; rfl
        clear hy0
        by_cases hTM : T ≤ M
        · have d6 : decide (T ≤ M) = true := decide_eq_true hTM
          obtain rfl := hGG hTM
          have eg : ((G2 : Int) != G2) = false := by simp
          clear hTM hGG
          go_upto_region 11 with (fail)
          clear c2
          refine Steady.region 28 (by kernel_rfl) (by kernel_rfl) (fun u => Below wr.heap.size wr u) (Below.refl _ _).drew ?_
          simp only [List.take_succ_cons, List.take_zero, List.drop_succ_cons, List.drop_zero]
          refine Steady.take ?_ rfl (by intro u hu; go_simp; with_reducible rfl) ?_
          simp only [Act.put, List.setIfInBounds_toArray, List.set_cons_zero, List.set_cons_succ]
          refine Steady.take ?_ rfl (by intro u hu; go_simp; with_reducible rfl) ?_
          simp only [Act.put, List.setIfInBounds_toArray, List.set_cons_zero, List.set_cons_succ]
          refine Steady.take ?_ rfl (by intro u hu; go_simp; with_reducible rfl) ?_
          simp only [Act.put, List.setIfInBounds_toArray, List.set_cons_zero, List.set_cons_succ]
          refine Steady.pass rfl ?_
          simp only [Act.put, List.setIfInBounds_toArray, List.set_cons_zero, List.set_cons_succ]
          refine Steady.pass rfl ?_
          simp only [Act.put, List.setIfInBounds_toArray, List.set_cons_zero, List.set_cons_succ]
          refine Steady.pass rfl ?_
          simp only [Act.put, List.setIfInBounds_toArray, List.set_cons_zero, List.set_cons_succ]
          refine Steady.pass rfl ?_
          simp only [Act.put, List.setIfInBounds_toArray, List.set_cons_zero, List.set_cons_succ]
          refine Steady.pass rfl ?_
          simp only [Act.put, List.setIfInBounds_toArray, List.set_cons_zero, List.set_cons_succ]
          refine Steady.pass rfl ?_
          simp only [Act.put, List.setIfInBounds_toArray, List.set_cons_zero, List.set_cons_succ]
          refine Steady.take ?_ rfl (by intro u hu; go_simp; with_reducible rfl) ?_
          simp only [Act.put, List.setIfInBounds_toArray, List.set_cons_zero, List.set_cons_succ]
          refine Steady.take ?_ rfl (by intro u hu; go_simp; with_reducible rfl) ?_
          simp only [Act.put, List.setIfInBounds_toArray, List.set_cons_zero, List.set_cons_succ]
          refine Steady.take ?_ rfl (by intro u hu; go_simp; with_reducible rfl) ?_
          simp only [Act.put, List.setIfInBounds_toArray, List.set_cons_zero, List.set_cons_succ]
          refine Steady.take ?_ rfl (by intro u hu; go_simp; with_reducible rfl) ?_
          simp only [Act.put, List.setIfInBounds_toArray, List.set_cons_zero, List.set_cons_succ]
          refine Steady.call _ _ _ rfl ?_ (Chn.keptIf (fun u hu => RT.out u (RD.out _ (HM.out.next hu).below))) ?_
          · intro u
            go_simp
          simp only [Act.put, List.setIfInBounds_toArray, List.set_cons_zero, List.set_cons_succ]
          refine Steady.take ?_ rfl (by intro u hu; go_simp; with_reducible rfl) ?_
          simp only [Act.put, List.setIfInBounds_toArray, List.set_cons_zero, List.set_cons_succ]
          refine Steady.take ?_ rfl (by intro u hu; go_simp; with_reducible rfl) ?_
          simp only [Act.put, List.setIfInBounds_toArray, List.set_cons_zero, List.set_cons_succ]
          refine Steady.take ?_ rfl (by intro u hu; go_simp; with_reducible rfl) ?_
          simp only [Act.put, List.setIfInBounds_toArray, List.set_cons_zero, List.set_cons_succ]
          refine Steady.take ?_ rfl (by intro u hu; go_simp; with_reducible rfl) ?_
          simp only [Act.put, List.setIfInBounds_toArray, List.set_cons_zero, List.set_cons_succ]
          refine Steady.take ?_ rfl (by intro u hu; go_simp; with_reducible rfl) ?_
          simp only [Act.put, List.setIfInBounds_toArray, List.set_cons_zero, List.set_cons_succ]
          refine Steady.call _ _ _ rfl ?_ (Chn.keptIf (fun u _ => S1.out u)) ?_
          · intro u
            go_simp
          simp only [Act.put, List.setIfInBounds_toArray, List.set_cons_zero, List.set_cons_succ]
          refine Steady.take ?_ rfl (by intro u hu; go_simp; with_reducible rfl) ?_
          simp only [Act.put, List.setIfInBounds_toArray, List.set_cons_zero, List.set_cons_succ]
          refine Steady.take ?_ rfl (by intro u hu; go_simp; with_reducible rfl) ?_
          simp only [Act.put, List.setIfInBounds_toArray, List.set_cons_zero, List.set_cons_succ]
          refine Steady.take ?_ rfl (by intro u hu; go_simp; with_reducible rfl) ?_
          simp only [Act.put, List.setIfInBounds_toArray, List.set_cons_zero, List.set_cons_succ]
          refine Steady.take ?_ rfl (by intro u hu; have cc := HX.out u hu; go_simp; with_reducible rfl) ?_
          simp only [Act.put, List.setIfInBounds_toArray, List.set_cons_zero, List.set_cons_succ]
          refine Steady.take ?_ rfl (by intro u hu; go_simp; with_reducible rfl) ?_
          simp only [Act.put, List.setIfInBounds_toArray, List.set_cons_zero, List.set_cons_succ]
          refine Steady.call _ _ _ rfl ?_ (Chn.keptIf (fun u _ => S2.out u)) ?_
          · intro u
            go_simp
          simp only [Act.put, List.setIfInBounds_toArray, List.set_cons_zero, List.set_cons_succ]
          refine Steady.take ?_ rfl (by intro u hu; go_simp; with_reducible rfl) ?_
          simp only [Act.put, List.setIfInBounds_toArray, List.set_cons_zero, List.set_cons_succ]
          refine Steady.take ?_ rfl (by intro u hu; go_simp; with_reducible rfl) ?_
          simp only [Act.put, List.setIfInBounds_toArray, List.set_cons_zero, List.set_cons_succ]
          refine Steady.nil ?_
          intro w1 hb1
          replace HM := Lib.hid (HM.out.next hb1)
          clear hb1
          go_wp2_with (((with_reducible refine (S3.out _ (RD.out _ HM.out.below)).mono ?_); rintro e w ⟨rfl, hb⟩; replace HM := Lib.hid (HM.out.next hb); clear hb))
          go_roundw
          case rel => exact ⟨q + 1, s + Q, by omega, by go_num, by rw [HS2.out.1], HS2.out.2, HM.out⟩
          case measure => simp [intOf]; omega
        · have d6 : decide (T ≤ M) = false := decide_eq_false hTM
          clear hTM hGG
          go_upto_region 11 with (fail)
          clear c2
          refine Steady.region 28 (by kernel_rfl) (by kernel_rfl) (fun u => Below wr.heap.size wr u) (Below.refl _ _).drew ?_
          simp only [List.take_succ_cons, List.take_zero, List.drop_succ_cons, List.drop_zero]
          refine Steady.take ?_ rfl (by intro u hu; go_simp; with_reducible rfl) ?_
          simp only [Act.put, List.setIfInBounds_toArray, List.set_cons_zero, List.set_cons_succ]
          refine Steady.take ?_ rfl (by intro u hu; go_simp; with_reducible rfl) ?_
          simp only [Act.put, List.setIfInBounds_toArray, List.set_cons_zero, List.set_cons_succ]
          refine Steady.take ?_ rfl (by intro u hu; go_simp; with_reducible rfl) ?_
          simp only [Act.put, List.setIfInBounds_toArray, List.set_cons_zero, List.set_cons_succ]
          refine Steady.pass rfl ?_
          simp only [Act.put, List.setIfInBounds_toArray, List.set_cons_zero, List.set_cons_succ]
          refine Steady.pass rfl ?_
          simp only [Act.put, List.setIfInBounds_toArray, List.set_cons_zero, List.set_cons_succ]
          refine Steady.pass rfl ?_
          simp only [Act.put, List.setIfInBounds_toArray, List.set_cons_zero, List.set_cons_succ]
          refine Steady.pass rfl ?_
          simp only [Act.put, List.setIfInBounds_toArray, List.set_cons_zero, List.set_cons_succ]
          refine Steady.pass rfl ?_
          simp only [Act.put, List.setIfInBounds_toArray, List.set_cons_zero, List.set_cons_succ]
          refine Steady.pass rfl ?_
          simp only [Act.put, List.setIfInBounds_toArray, List.set_cons_zero, List.set_cons_succ]
          refine Steady.take ?_ rfl (by intro u hu; go_simp; with_reducible rfl) ?_
          simp only [Act.put, List.setIfInBounds_toArray, List.set_cons_zero, List.set_cons_succ]
          refine Steady.take ?_ rfl (by intro u hu; go_simp; with_reducible rfl) ?_
          simp only [Act.put, List.setIfInBounds_toArray, List.set_cons_zero, List.set_cons_succ]
          refine Steady.take ?_ rfl (by intro u hu; go_simp; with_reducible rfl) ?_
          simp only [Act.put, List.setIfInBounds_toArray, List.set_cons_zero, List.set_cons_succ]
          refine Steady.take ?_ rfl (by intro u hu; go_simp; with_reducible rfl) ?_
          simp only [Act.put, List.setIfInBounds_toArray, List.set_cons_zero, List.set_cons_succ]
          refine Steady.call _ _ _ rfl ?_ (Chn.keptIf (fun u hu => RT.out u (RD.out _ (HM.out.next hu).below))) ?_
          · intro u
            go_simp
          simp only [Act.put, List.setIfInBounds_toArray, List.set_cons_zero, List.set_cons_succ]
          refine Steady.take ?_ rfl (by intro u hu; go_simp; with_reducible rfl) ?_
          simp only [Act.put, List.setIfInBounds_toArray, List.set_cons_zero, List.set_cons_succ]
          refine Steady.take ?_ rfl (by intro u hu; go_simp; with_reducible rfl) ?_
          simp only [Act.put, List.setIfInBounds_toArray, List.set_cons_zero, List.set_cons_succ]
          refine Steady.take ?_ rfl (by intro u hu; go_simp; with_reducible rfl) ?_
          simp only [Act.put, List.setIfInBounds_toArray, List.set_cons_zero, List.set_cons_succ]
          refine Steady.pass rfl ?_
          simp only [Act.put, List.setIfInBounds_toArray, List.set_cons_zero, List.set_cons_succ]
          refine Steady.pass rfl ?_
          simp only [Act.put, List.setIfInBounds_toArray, List.set_cons_zero, List.set_cons_succ]
          refine Steady.pass rfl ?_
          simp only [Act.put, List.setIfInBounds_toArray, List.set_cons_zero, List.set_cons_succ]
          refine Steady.pass rfl ?_
          simp only [Act.put, List.setIfInBounds_toArray, List.set_cons_zero, List.set_cons_succ]
          refine Steady.pass rfl ?_
          simp only [Act.put, List.setIfInBounds_toArray, List.set_cons_zero, List.set_cons_succ]
          refine Steady.pass rfl ?_
          simp only [Act.put, List.setIfInBounds_toArray, List.set_cons_zero, List.set_cons_succ]
          refine Steady.pass rfl ?_
          simp only [Act.put, List.setIfInBounds_toArray, List.set_cons_zero, List.set_cons_succ]
          refine Steady.pass rfl ?_
          simp only [Act.put, List.setIfInBounds_toArray, List.set_cons_zero, List.set_cons_succ]
          refine Steady.pass rfl ?_
          simp only [Act.put, List.setIfInBounds_toArray, List.set_cons_zero, List.set_cons_succ]
          refine Steady.pass rfl ?_
          simp only [Act.put, List.setIfInBounds_toArray, List.set_cons_zero, List.set_cons_succ]
          refine Steady.take ?_ rfl (by intro u hu; go_simp; with_reducible rfl) ?_
          simp only [Act.put, List.setIfInBounds_toArray, List.set_cons_zero, List.set_cons_succ]
          refine Steady.nil ?_
          intro w1 hb1
          replace HM := Lib.hid (HM.out.next hb1)
          clear hb1
          go_wp2_with (((with_reducible refine (S3.out _ (RD.out _ HM.out.below)).mono ?_); rintro e w ⟨rfl, hb⟩; replace HM := Lib.hid (HM.out.next hb); clear hb))
          go_roundw
          case rel => exact ⟨q + 1, s + Q, by omega, by go_num, by rw [HS2.out.1], HS2.out.2, HM.out⟩
          case measure => simp [intOf]; omega
      · by_cases hy1 : y = 0
        · have d5 : ((y : Int) != 0) = false := by rw [hy1]; rfl
          clear hyx hy1
          by_cases hTM : T ≤ M
          · have d6 : decide (T ≤ M) = true := decide_eq_true hTM
            obtain rfl := hGG hTM
            have eg : ((G2 : Int) != G2) = false := by simp
            clear hTM hGG
            go_upto_region 11 with (fail)
            clear c2
            refine Steady.region 28 (by kernel_rfl) (by kernel_rfl) (fun u => Below wr.heap.size wr u) (Below.refl _ _).drew ?_
            simp only [List.take_succ_cons, List.take_zero, List.drop_succ_cons, List.drop_zero]
            refine Steady.take ?_ rfl (by intro u hu; go_simp; with_reducible rfl) ?_
            simp only [Act.put, List.setIfInBounds_toArray, List.set_cons_zero, List.set_cons_succ]
            refine Steady.take ?_ rfl (by intro u hu; go_simp; with_reducible rfl) ?_
            simp only [Act.put, List.setIfInBounds_toArray, List.set_cons_zero, List.set_cons_succ]
            refine Steady.take ?_ rfl (by intro u hu; go_simp; with_reducible rfl) ?_
            simp only [Act.put, List.setIfInBounds_toArray, List.set_cons_zero, List.set_cons_succ]
            refine Steady.pass rfl ?_
            simp only [Act.put, List.setIfInBounds_toArray, List.set_cons_zero, List.set_cons_succ]
            refine Steady.pass rfl ?_
            simp only [Act.put, List.setIfInBounds_toArray, List.set_cons_zero, List.set_cons_succ]
            refine Steady.pass rfl ?_
            simp only [Act.put, List.setIfInBounds_toArray, List.set_cons_zero, List.set_cons_succ]
            refine Steady.pass rfl ?_
            simp only [Act.put, List.setIfInBounds_toArray, List.set_cons_zero, List.set_cons_succ]
            refine Steady.pass rfl ?_
            simp only [Act.put, List.setIfInBounds_toArray, List.set_cons_zero, List.set_cons_succ]
            refine Steady.pass rfl ?_
            simp only [Act.put, List.setIfInBounds_toArray, List.set_cons_zero, List.set_cons_succ]
            refine Steady.take ?_ rfl (by intro u hu; go_simp; with_reducible rfl) ?_
            simp only [Act.put, List.setIfInBounds_toArray, List.set_cons_zero, List.set_cons_succ]
            refine Steady.take ?_ rfl (by intro u hu; go_simp; with_reducible rfl) ?_
            simp only [Act.put, List.setIfInBounds_toArray, List.set_cons_zero, List.set_cons_succ]
            refine Steady.take ?_ rfl (by intro u hu; go_simp; with_reducible rfl) ?_
            simp only [Act.put, List.setIfInBounds_toArray, List.set_cons_zero, List.set_cons_succ]
            refine Steady.take ?_ rfl (by intro u hu; go_simp; with_reducible rfl) ?_
            simp only [Act.put, List.setIfInBounds_toArray, List.set_cons_zero, List.set_cons_succ]
            refine Steady.call _ _ _ rfl ?_ (Chn.keptIf (fun u hu => RT.out u (RD.out _ (HM.out.next hu).below))) ?_
            · intro u
              go_simp
            simp only [Act.put, List.setIfInBounds_toArray, List.set_cons_zero, List.set_cons_succ]
            refine Steady.take ?_ rfl (by intro u hu; go_simp; with_reducible rfl) ?_
            simp only [Act.put, List.setIfInBounds_toArray, List.set_cons_zero, List.set_cons_succ]
            refine Steady.take ?_ rfl (by intro u hu; go_simp; with_reducible rfl) ?_
            simp only [Act.put, List.setIfInBounds_toArray, List.set_cons_zero, List.set_cons_succ]
            refine Steady.take ?_ rfl (by intro u hu; go_simp; with_reducible rfl) ?_
            simp only [Act.put, List.setIfInBounds_toArray, List.set_cons_zero, List.set_cons_succ]
            refine Steady.take ?_ rfl (by intro u hu; go_simp; with_reducible rfl) ?_
            simp only [Act.put, List.setIfInBounds_toArray, List.set_cons_zero, List.set_cons_succ]
            refine Steady.take ?_ rfl (by intro u hu; go_simp; with_reducible rfl) ?_
            simp only [Act.put, List.setIfInBounds_toArray, List.set_cons_zero, List.set_cons_succ]
            refine Steady.call _ _ _ rfl ?_ (Chn.keptIf (fun u _ => S1.out u)) ?_
            · intro u
              go_simp
            simp only [Act.put, List.setIfInBounds_toArray, List.set_cons_zero, List.set_cons_succ]
            refine Steady.take ?_ rfl (by intro u hu; go_simp; with_reducible rfl) ?_
            simp only [Act.put, List.setIfInBounds_toArray, List.set_cons_zero, List.set_cons_succ]
            refine Steady.take ?_ rfl (by intro u hu; go_simp; with_reducible rfl) ?_
            simp only [Act.put, List.setIfInBounds_toArray, List.set_cons_zero, List.set_cons_succ]
            refine Steady.take ?_ rfl (by intro u hu; go_simp; with_reducible rfl) ?_
            simp only [Act.put, List.setIfInBounds_toArray, List.set_cons_zero, List.set_cons_succ]
            refine Steady.take ?_ rfl (by intro u hu; have cc := HX.out u hu; go_simp; with_reducible rfl) ?_
            simp only [Act.put, List.setIfInBounds_toArray, List.set_cons_zero, List.set_cons_succ]
            refine Steady.take ?_ rfl (by intro u hu; go_simp; with_reducible rfl) ?_
            simp only [Act.put, List.setIfInBounds_toArray, List.set_cons_zero, List.set_cons_succ]
            refine Steady.call _ _ _ rfl ?_ (Chn.keptIf (fun u _ => S2.out u)) ?_
            · intro u
              go_simp
            simp only [Act.put, List.setIfInBounds_toArray, List.set_cons_zero, List.set_cons_succ]
            refine Steady.take ?_ rfl (by intro u hu; go_simp; with_reducible rfl) ?_
            simp only [Act.put, List.setIfInBounds_toArray, List.set_cons_zero, List.set_cons_succ]
            refine Steady.take ?_ rfl (by intro u hu; go_simp; with_reducible rfl) ?_
            simp only [Act.put, List.setIfInBounds_toArray, List.set_cons_zero, List.set_cons_succ]
            refine Steady.nil ?_
            intro w1 hb1
            replace HM := Lib.hid (HM.out.next hb1)
            clear hb1
            go_wp2_with (((with_reducible refine (S3.out _ (RD.out _ HM.out.below)).mono ?_); rintro e w ⟨rfl, hb⟩; replace HM := Lib.hid (HM.out.next hb); clear hb))
            go_roundw
            case rel => exact ⟨q + 1, s + Q, by omega, by go_num, by rw [HS2.out.1], HS2.out.2, HM.out⟩
            case measure => simp [intOf]; omega
          · have d6 : decide (T ≤ M) = false := decide_eq_false hTM
            clear hTM hGG
            go_upto_region 11 with (fail)
            clear c2
            refine Steady.region 28 (by kernel_rfl) (by kernel_rfl) (fun u => Below wr.heap.size wr u) (Below.refl _ _).drew ?_
            simp only [List.take_succ_cons, List.take_zero, List.drop_succ_cons, List.drop_zero]
            refine Steady.take ?_ rfl (by intro u hu; go_simp; with_reducible rfl) ?_
            simp only [Act.put, List.setIfInBounds_toArray, List.set_cons_zero, List.set_cons_succ]
            refine Steady.take ?_ rfl (by intro u hu; go_simp; with_reducible rfl) ?_
            simp only [Act.put, List.setIfInBounds_toArray, List.set_cons_zero, List.set_cons_succ]
            refine Steady.take ?_ rfl (by intro u hu; go_simp; with_reducible rfl) ?_
            simp only [Act.put, List.setIfInBounds_toArray, List.set_cons_zero, List.set_cons_succ]
            refine Steady.pass rfl ?_
            simp only [Act.put, List.setIfInBounds_toArray, List.set_cons_zero, List.set_cons_succ]
            refine Steady.pass rfl ?_
            simp only [Act.put, List.setIfInBounds_toArray, List.set_cons_zero, List.set_cons_succ]
            refine Steady.pass rfl ?_
            simp only [Act.put, List.setIfInBounds_toArray, List.set_cons_zero, List.set_cons_succ]
            refine Steady.pass rfl ?_
            simp only [Act.put, List.setIfInBounds_toArray, List.set_cons_zero, List.set_cons_succ]
            refine Steady.pass rfl ?_
            simp only [Act.put, List.setIfInBounds_toArray, List.set_cons_zero, List.set_cons_succ]
            refine Steady.pass rfl ?_
            simp only [Act.put, List.setIfInBounds_toArray, List.set_cons_zero, List.set_cons_succ]
            refine Steady.take ?_ rfl (by intro u hu; go_simp; with_reducible rfl) ?_
            simp only [Act.put, List.setIfInBounds_toArray, List.set_cons_zero, List.set_cons_succ]
            refine Steady.take ?_ rfl (by intro u hu; go_simp; with_reducible rfl) ?_
            simp only [Act.put, List.setIfInBounds_toArray, List.set_cons_zero, List.set_cons_succ]
            refine Steady.take ?_ rfl (by intro u hu; go_simp; with_reducible rfl) ?_
            simp only [Act.put, List.setIfInBounds_toArray, List.set_cons_zero, List.set_cons_succ]
            refine Steady.take ?_ rfl (by intro u hu; go_simp; with_reducible rfl) ?_
            simp only [Act.put, List.setIfInBounds_toArray, List.set_cons_zero, List.set_cons_succ]
            refine Steady.call _ _ _ rfl ?_ (Chn.keptIf (fun u hu => RT.out u (RD.out _ (HM.out.next hu).below))) ?_
            · intro u
              go_simp
            simp only [Act.put, List.setIfInBounds_toArray, List.set_cons_zero, List.set_cons_succ]
            refine Steady.take ?_ rfl (by intro u hu; go_simp; with_reducible rfl) ?_
            simp only [Act.put, List.setIfInBounds_toArray, List.set_cons_zero, List.set_cons_succ]
            refine Steady.take ?_ rfl (by intro u hu; go_simp; with_reducible rfl) ?_
            simp only [Act.put, List.setIfInBounds_toArray, List.set_cons_zero, List.set_cons_succ]
            refine Steady.take ?_ rfl (by intro u hu; go_simp; with_reducible rfl) ?_
            simp only [Act.put, List.setIfInBounds_toArray, List.set_cons_zero, List.set_cons_succ]
            refine Steady.pass rfl ?_
            simp only [Act.put, List.setIfInBounds_toArray, List.set_cons_zero, List.set_cons_succ]
            refine Steady.pass rfl ?_
            simp only [Act.put, List.setIfInBounds_toArray, List.set_cons_zero, List.set_cons_succ]
            refine Steady.pass rfl ?_
            simp only [Act.put, List.setIfInBounds_toArray, List.set_cons_zero, List.set_cons_succ]
            refine Steady.pass rfl ?_
            simp only [Act.put, List.setIfInBounds_toArray, List.set_cons_zero, List.set_cons_succ]
            refine Steady.pass rfl ?_
            simp only [Act.put, List.setIfInBounds_toArray, List.set_cons_zero, List.set_cons_succ]
            refine Steady.pass rfl ?_
            simp only [Act.put, List.setIfInBounds_toArray, List.set_cons_zero, List.set_cons_succ]
            refine Steady.pass rfl ?_
            simp only [Act.put, List.setIfInBounds_toArray, List.set_cons_zero, List.set_cons_succ]
            refine Steady.pass rfl ?_
            simp only [Act.put, List.setIfInBounds_toArray, List.set_cons_zero, List.set_cons_succ]
            refine Steady.pass rfl ?_
            simp only [Act.put, List.setIfInBounds_toArray, List.set_cons_zero, List.set_cons_succ]
            refine Steady.pass rfl ?_
            simp only [Act.put, List.setIfInBounds_toArray, List.set_cons_zero, List.set_cons_succ]
            refine Steady.take ?_ rfl (by intro u hu; go_simp; with_reducible rfl) ?_
            simp only [Act.put, List.setIfInBounds_toArray, List.set_cons_zero, List.set_cons_succ]
            refine Steady.nil ?_
            intro w1 hb1
            replace HM := Lib.hid (HM.out.next hb1)
            clear hb1
            go_wp2_with (((with_reducible refine (S3.out _ (RD.out _ HM.out.below)).mono ?_); rintro e w ⟨rfl, hb⟩; replace HM := Lib.hid (HM.out.next hb); clear hb))
            go_roundw
            case rel => exact ⟨q + 1, s + Q, by omega, by go_num, by rw [HS2.out.1], HS2.out.2, HM.out⟩
            case measure => simp [intOf]; omega
        · have d5 : ((y : Int) != 0) = true := by simpa using hy1
          subst hyx
          clear hy1
          by_cases hTM : T ≤ M
          · have d6 : decide (T ≤ M) = true := decide_eq_true hTM
            obtain rfl := hGG hTM
            have eg : ((G2 : Int) != G2) = false := by simp
            clear hTM hGG
            go_upto_region 11 with (fail)
            clear c2
            refine Steady.region 28 (by kernel_rfl) (by kernel_rfl) (fun u => Below wr.heap.size wr u) (Below.refl _ _).drew ?_
            simp only [List.take_succ_cons, List.take_zero, List.drop_succ_cons, List.drop_zero]
            refine Steady.take ?_ rfl (by intro u hu; go_simp; with_reducible rfl) ?_
            simp only [Act.put, List.setIfInBounds_toArray, List.set_cons_zero, List.set_cons_succ]
            refine Steady.take ?_ rfl (by intro u hu; go_simp; with_reducible rfl) ?_
            simp only [Act.put, List.setIfInBounds_toArray, List.set_cons_zero, List.set_cons_succ]
            refine Steady.take ?_ rfl (by intro u hu; go_simp; with_reducible rfl) ?_
            simp only [Act.put, List.setIfInBounds_toArray, List.set_cons_zero, List.set_cons_succ]
            refine Steady.take ?_ rfl (by intro u hu; go_simp; with_reducible rfl) ?_
            simp only [Act.put, List.setIfInBounds_toArray, List.set_cons_zero, List.set_cons_succ]
            refine Steady.take ?_ rfl (by intro u hu; go_simp; with_reducible rfl) ?_
            simp only [Act.put, List.setIfInBounds_toArray, List.set_cons_zero, List.set_cons_succ]
            refine Steady.take ?_ rfl (by intro u hu; go_simp; with_reducible rfl) ?_
            simp only [Act.put, List.setIfInBounds_toArray, List.set_cons_zero, List.set_cons_succ]
            refine Steady.take ?_ rfl (by intro u hu; go_simp; with_reducible rfl) ?_
            simp only [Act.put, List.setIfInBounds_toArray, List.set_cons_zero, List.set_cons_succ]
            refine Steady.take ?_ rfl (by intro u hu; have cc := HX.out u hu; go_simp; with_reducible rfl) ?_
            simp only [Act.put, List.setIfInBounds_toArray, List.set_cons_zero, List.set_cons_succ]
            refine Steady.take ?_ rfl (by intro u hu; go_simp; with_reducible rfl) ?_
            simp only [Act.put, List.setIfInBounds_toArray, List.set_cons_zero, List.set_cons_succ]
            refine Steady.take ?_ rfl (by intro u hu; go_simp; with_reducible rfl) ?_
            simp only [Act.put, List.setIfInBounds_toArray, List.set_cons_zero, List.set_cons_succ]
            refine Steady.take ?_ rfl (by intro u hu; go_simp; with_reducible rfl) ?_
            simp only [Act.put, List.setIfInBounds_toArray, List.set_cons_zero, List.set_cons_succ]
            refine Steady.take ?_ rfl (by intro u hu; go_simp; with_reducible rfl) ?_
            simp only [Act.put, List.setIfInBounds_toArray, List.set_cons_zero, List.set_cons_succ]
            refine Steady.take ?_ rfl (by intro u hu; go_simp; with_reducible rfl) ?_
            simp only [Act.put, List.setIfInBounds_toArray, List.set_cons_zero, List.set_cons_succ]
            refine Steady.call _ _ _ rfl ?_ (Chn.keptIf (fun u hu => RT.out u (RD.out _ (HM.out.next hu).below))) ?_
            · intro u
              go_simp
            simp only [Act.put, List.setIfInBounds_toArray, List.set_cons_zero, List.set_cons_succ]
            refine Steady.take ?_ rfl (by intro u hu; go_simp; with_reducible rfl) ?_
            simp only [Act.put, List.setIfInBounds_toArray, List.set_cons_zero, List.set_cons_succ]
            refine Steady.take ?_ rfl (by intro u hu; go_simp; with_reducible rfl) ?_
            simp only [Act.put, List.setIfInBounds_toArray, List.set_cons_zero, List.set_cons_succ]
            refine Steady.take ?_ rfl (by intro u hu; go_simp; with_reducible rfl) ?_
            simp only [Act.put, List.setIfInBounds_toArray, List.set_cons_zero, List.set_cons_succ]
            refine Steady.take ?_ rfl (by intro u hu; go_simp; with_reducible rfl) ?_
            simp only [Act.put, List.setIfInBounds_toArray, List.set_cons_zero, List.set_cons_succ]
            refine Steady.take ?_ rfl (by intro u hu; go_simp; with_reducible rfl) ?_
            simp only [Act.put, List.setIfInBounds_toArray, List.set_cons_zero, List.set_cons_succ]
            refine Steady.call _ _ _ rfl ?_ (Chn.keptIf (fun u _ => S1.out u)) ?_
            · intro u
              go_simp
            simp only [Act.put, List.setIfInBounds_toArray, List.set_cons_zero, List.set_cons_succ]
            refine Steady.take ?_ rfl (by intro u hu; go_simp; with_reducible rfl) ?_
            simp only [Act.put, List.setIfInBounds_toArray, List.set_cons_zero, List.set_cons_succ]
            refine Steady.take ?_ rfl (by intro u hu; go_simp; with_reducible rfl) ?_
            simp only [Act.put, List.setIfInBounds_toArray, List.set_cons_zero, List.set_cons_succ]
            refine Steady.take ?_ rfl (by intro u hu; go_simp; with_reducible rfl) ?_
            simp only [Act.put, List.setIfInBounds_toArray, List.set_cons_zero, List.set_cons_succ]
            refine Steady.take ?_ rfl (by intro u hu; have cc := HX.out u hu; go_simp; with_reducible rfl) ?_
            simp only [Act.put, List.setIfInBounds_toArray, List.set_cons_zero, List.set_cons_succ]
            refine Steady.take ?_ rfl (by intro u hu; go_simp; with_reducible rfl) ?_
            simp only [Act.put, List.setIfInBounds_toArray, List.set_cons_zero, List.set_cons_succ]
            refine Steady.call _ _ _ rfl ?_ (Chn.keptIf (fun u _ => S2.out u)) ?_
            · intro u
              go_simp
            simp only [Act.put, List.setIfInBounds_toArray, List.set_cons_zero, List.set_cons_succ]
            refine Steady.take ?_ rfl (by intro u hu; go_simp; with_reducible rfl) ?_
            simp only [Act.put, List.setIfInBounds_toArray, List.set_cons_zero, List.set_cons_succ]
            refine Steady.take ?_ rfl (by intro u hu; go_simp; with_reducible rfl) ?_
            simp only [Act.put, List.setIfInBounds_toArray, List.set_cons_zero, List.set_cons_succ]
            refine Steady.nil ?_
            intro w1 hb1
            replace HM := Lib.hid (HM.out.next hb1)
            clear hb1
            go_wp2_with (((with_reducible refine (S3.out _ (RD.out _ HM.out.below)).mono ?_); rintro e w ⟨rfl, hb⟩; replace HM := Lib.hid (HM.out.next hb); clear hb))
            go_roundw
            case rel => exact ⟨q + 1, s + Q, by omega, by go_num, by rw [HS2.out.1], HS2.out.2, HM.out⟩
            case measure => simp [intOf]; omega
          · have d6 : decide (T ≤ M) = false := decide_eq_false hTM
            clear hTM hGG
            go_upto_region 11 with (fail)
            clear c2
            refine Steady.region 28 (by kernel_rfl) (by kernel_rfl) (fun u => Below wr.heap.size wr u) (Below.refl _ _).drew ?_
            simp only [List.take_succ_cons, List.take_zero, List.drop_succ_cons, List.drop_zero]
            refine Steady.take ?_ rfl (by intro u hu; go_simp; with_reducible rfl) ?_
            simp only [Act.put, List.setIfInBounds_toArray, List.set_cons_zero, List.set_cons_succ]
            refine Steady.take ?_ rfl (by intro u hu; go_simp; with_reducible rfl) ?_
            simp only [Act.put, List.setIfInBounds_toArray, List.set_cons_zero, List.set_cons_succ]
            refine Steady.take ?_ rfl (by intro u hu; go_simp; with_reducible rfl) ?_
            simp only [Act.put, List.setIfInBounds_toArray, List.set_cons_zero, List.set_cons_succ]
            refine Steady.take ?_ rfl (by intro u hu; go_simp; with_reducible rfl) ?_
            simp only [Act.put, List.setIfInBounds_toArray, List.set_cons_zero, List.set_cons_succ]
            refine Steady.take ?_ rfl (by intro u hu; go_simp; with_reducible rfl) ?_
            simp only [Act.put, List.setIfInBounds_toArray, List.set_cons_zero, List.set_cons_succ]
            refine Steady.take ?_ rfl (by intro u hu; go_simp; with_reducible rfl) ?_
            simp only [Act.put, List.setIfInBounds_toArray, List.set_cons_zero, List.set_cons_succ]
            refine Steady.take ?_ rfl (by intro u hu; go_simp; with_reducible rfl) ?_
            simp only [Act.put, List.setIfInBounds_toArray, List.set_cons_zero, List.set_cons_succ]
            refine Steady.take ?_ rfl (by intro u hu; have cc := HX.out u hu; go_simp; with_reducible rfl) ?_
            simp only [Act.put, List.setIfInBounds_toArray, List.set_cons_zero, List.set_cons_succ]
            refine Steady.take ?_ rfl (by intro u hu; go_simp; with_reducible rfl) ?_
            simp only [Act.put, List.setIfInBounds_toArray, List.set_cons_zero, List.set_cons_succ]
            refine Steady.take ?_ rfl (by intro u hu; go_simp; with_reducible rfl) ?_
            simp only [Act.put, List.setIfInBounds_toArray, List.set_cons_zero, List.set_cons_succ]
            refine Steady.take ?_ rfl (by intro u hu; go_simp; with_reducible rfl) ?_
            simp only [Act.put, List.setIfInBounds_toArray, List.set_cons_zero, List.set_cons_succ]
            refine Steady.take ?_ rfl (by intro u hu; go_simp; with_reducible rfl) ?_
            simp only [Act.put, List.setIfInBounds_toArray, List.set_cons_zero, List.set_cons_succ]
            refine Steady.take ?_ rfl (by intro u hu; go_simp; with_reducible rfl) ?_
            simp only [Act.put, List.setIfInBounds_toArray, List.set_cons_zero, List.set_cons_succ]
            refine Steady.call _ _ _ rfl ?_ (Chn.keptIf (fun u hu => RT.out u (RD.out _ (HM.out.next hu).below))) ?_
            · intro u
              go_simp
            simp only [Act.put, List.setIfInBounds_toArray, List.set_cons_zero, List.set_cons_succ]
            refine Steady.take ?_ rfl (by intro u hu; go_simp; with_reducible rfl) ?_
            simp only [Act.put, List.setIfInBounds_toArray, List.set_cons_zero, List.set_cons_succ]
            refine Steady.take ?_ rfl (by intro u hu; go_simp; with_reducible rfl) ?_
            simp only [Act.put, List.setIfInBounds_toArray, List.set_cons_zero, List.set_cons_succ]
            refine Steady.take ?_ rfl (by intro u hu; go_simp; with_reducible rfl) ?_
            simp only [Act.put, List.setIfInBounds_toArray, List.set_cons_zero, List.set_cons_succ]
            refine Steady.pass rfl ?_
            simp only [Act.put, List.setIfInBounds_toArray, List.set_cons_zero, List.set_cons_succ]
            refine Steady.pass rfl ?_
            simp only [Act.put, List.setIfInBounds_toArray, List.set_cons_zero, List.set_cons_succ]
            refine Steady.pass rfl ?_
            simp only [Act.put, List.setIfInBounds_toArray, List.set_cons_zero, List.set_cons_succ]
            refine Steady.pass rfl ?_
            simp only [Act.put, List.setIfInBounds_toArray, List.set_cons_zero, List.set_cons_succ]
            refine Steady.pass rfl ?_
            simp only [Act.put, List.setIfInBounds_toArray, List.set_cons_zero, List.set_cons_succ]
            refine Steady.pass rfl ?_
            simp only [Act.put, List.setIfInBounds_toArray, List.set_cons_zero, List.set_cons_succ]
            refine Steady.pass rfl ?_
            simp only [Act.put, List.setIfInBounds_toArray, List.set_cons_zero, List.set_cons_succ]
            refine Steady.pass rfl ?_
            simp only [Act.put, List.setIfInBounds_toArray, List.set_cons_zero, List.set_cons_succ]
            refine Steady.pass rfl ?_
            simp only [Act.put, List.setIfInBounds_toArray, List.set_cons_zero, List.set_cons_succ]
            refine Steady.pass rfl ?_
            simp only [Act.put, List.setIfInBounds_toArray, List.set_cons_zero, List.set_cons_succ]
            refine Steady.take ?_ rfl (by intro u hu; go_simp; with_reducible rfl) ?_
            simp only [Act.put, List.setIfInBounds_toArray, List.set_cons_zero, List.set_cons_succ]
            refine Steady.nil ?_
            intro w1 hb1
            replace HM := Lib.hid (HM.out.next hb1)
            clear hb1
            go_wp2_with (((with_reducible refine (S3.out _ (RD.out _ HM.out.below)).mono ?_); rintro e w ⟨rfl, hb⟩; replace HM := Lib.hid (HM.out.next hb); clear hb))
            go_roundw
            case rel => exact ⟨q + 1, s + Q, by omega, by go_num, by rw [HS2.out.1], HS2.out.2, HM.out⟩
            case measure => simp [intOf]; omega
    · obtain rfl : q = n := by omega
      have d7 : decide (s ≤ 1000) = true := decide_eq_true (by rw [hs, ← HF.out.2.1]; exact shares_whole l (m : Int))
      have RA := Lib.hid (RA0.out _ (RD.out _ HM.out.below))
      clear hs
      go_wp2_with ((with_reducible refine (RA.out).mono ?_); rintro e w ⟨rfl, hb⟩; replace HM := Lib.hid (HM.out.next hb); clear hb)
      go_ret
      exact ⟨by simp, RD.out _ HM.out.below⟩

set_option maxHeartbeats 1600000 in
theorem lifted (con : Lyo.Con) (fc : Frm.Con) (cb : ConB) (os : Os) (started : os.Started) (H : Type) (enc : TypeId × Value → H) :
    ReturnsInHanded {} Tryd.checked os 6 .any (fun w args => (Rows.layoutFitsSpec.pre enc Tryd.prog Tryd.f6 [] false w args ∧ laidMetH Tryd.prog Lyk.laidL w) ∧ sizedMet enc Tryd.prog Tryd.f6 (OpenSpec.ofChange Rows.layoutFitsSpec) false w args)
      (Rows.layoutFitsSpec.post enc Tryd.prog Tryd.f6 false true false false) := by
  refine returnsInHanded_of_change_and (C := Tryd.checked) (X := fun w _ => laidMetH Tryd.prog Lyk.laidL w) (fun _ _ _ hh h => h.of_heap hh) Lyk.own started (by kernel_rfl) Tryd.func6
    (ChangeSpec.witness_shaped (enc := enc) (C := Tryd.checked) (os := os) (X := fun w _ => laidMetH Tryd.prog Lyk.laidL w) false (World.laidAll Tryd.prog os Lyk.laidL) #[.slice none 0 0, .int .i64 0, .int .i64 0] 8 (World.laidAll_os _ _ _) (Lyk.table_shaped os _) (by kernel_rfl) (by kernel_rfl) (by kernel_rfl) (Lyk.table_met os _)) ?_
  intro W base args ds gs before hval0 hW _ hsz0 hL _
  have hval : ∀ (j : Nat) t v, Tryd.f6.params[j]? = some t → args[j]? = some v → Value.okWide Tryd.prog W .any base t v := hval0
  have hsz : (DataW.weightsEach Tryd.prog (Tryd.f6.params.toList ++ Rows.layoutFitsSpec.plain.varTypes Tryd.prog) (ds ++ gs)).all (· ≤ reachBytes) = true := hsz0
  clear hsz0
  have hW' := hW
  obtain ⟨p, q, hA0, hV, rfl, hfz, hnd⟩ := hW
  have hA : DataW.TrodAll enc Tryd.prog W 0 (fun _ => true) true Tryd.f6.params.toList args.toList ds p := hA0
  rw [Tryd.params6] at hA hval hsz
  obtain ⟨v0, vs0, d0, ds0, p0, q0, hargs, rfl, rfl, h0, r0⟩ := trodAll_cons hA
  obtain ⟨v1, vs1, d1, ds1, p1, q1, rfl, rfl, rfl, h1, r1⟩ := trodAll_cons r0
  obtain ⟨v2, vs2, d2, ds2, p2, q2, rfl, rfl, rfl, h2, r2⟩ := trodAll_cons r1
  obtain ⟨rfl, rfl, rfl⟩ := trodAll_nil r2
  obtain rfl : args = #[v0, v1, v2] := by cases args; simp_all
  obtain ⟨rfl, rfl⟩ := trodVars_none hV
  obtain ⟨a0, len0, cap0, rfl⟩ := okWide_slice Tryd.underlying22 (hval 0 22 v0 rfl rfl)
  have k0 := h0
  have lt0 : ∀ x ∈ p0, x.block < W.heap.size := by obtain ⟨m, hm⟩ := k0; exact DataW.trod_lt m _ _ _ hm
  obtain ⟨z0, w0, x0, y0, c0, u0⟩ := Zs.ints_came h0
  obtain ⟨a1, rfl, rfl, rfl, w1⟩ := Go.ChangeShapes.open_int Tryd.underlying3 (hval 1 3 v1 rfl rfl) h1
  obtain ⟨a2, rfl, rfl, rfl, w2⟩ := Go.ChangeShapes.open_int Tryd.underlying3 (hval 2 3 v2 rfl rfl) h2
  have hcl := Lyk.of_laid hL
  clear hA0 hval0
  refine (walk con fc cb z0 len0 a0 cap0 a1 a2 W w0 x0 y0 c0 u0 (Zs.int_wf w1) (Zs.int_wf w2) hcl).mono fun e W' ⟨he, bel⟩ => ?_
  subst he
  exact ⟨_, rfl, _, _, _, [], _, [], hW', trodAll_mk1 (shut_bool Tryd.underlying4 _), (trodAll_cons_mk (Below.trod Lyk.laidOut (by kernel_rfl) (of_decide_eq_true (by kernel_rfl)) k0 bel lt0) (trodAll_cons_mk (Go.ChangeShapes.shut_int Tryd.underlying3 w1) (trodAll_cons_mk (Go.ChangeShapes.shut_int Tryd.underlying3 w2) trodAll_mk0))), rfl, bel.frame _, fun h => by cases h⟩

theorem over (con : Lyo.Con) (fc : Frm.Con) (cb : ConB) : Rows.LayoutFitsSaid :=
  OpenClaim.holds_of_wide 6 Tryd.f6 rfl rfl rfl rfl rfl rfl rfl ⟨rfl, rfl, rfl, rfl, rfl⟩ rfl rfl rfl rfl rfl (by kernel_rfl) Tryd.func6 (by kernel_rfl)
    (of_decide_eq_true (by kernel_rfl)) (by unfold Func.isWrapper; first | (rw [if_pos (by decide +kernel)]; kernel_rfl) | (rw [if_neg (by decide +kernel)]; exact ⟨rfl, rfl⟩))
    (fun os started H enc _ => lifted con fc cb os started H enc)

theorem of_con (con : Lyo.Con) (fc : Frm.Con) (cb : ConB) : Rows.LayoutFitsCardSaid :=
  Claim7.holds_tied_plain_at .later [] [.data, .data, .pinned] true Rows.layoutFitsCard.stood.harness false
    (over con fc cb) (fun _ h => by cases h) (by kernel_rfl) (fun _ h => by cases h) layoutFits_row_tie rfl ⟨rfl, rfl⟩ (by kernel_rfl) rfl
    (fun f fn hf hfn => by
      obtain rfl : f = 6 := Option.some.inj ((show Tryd.prog.funcNamed "murmur/murmurlaw19.LayoutFits" = some 6 by kernel_rfl).symm.trans hf) |>.symm
      obtain rfl : fn = Tryd.f6 := (Option.some.inj (Tryd.func6.symm.trans hfn)).symm
      exact ⟨by kernel_rfl, fun j t ht => by
        rw [Tryd.params6] at ht
        have hm : t ∈ [22, 3, 3] := by simpa using Array.mem_of_getElem? ht
        have hall : ([22, 3, 3].all fun u => !Tryd.prog.wantsStandIn u) = true := by kernel_rfl
        exact (show Tryd.prog.wantsStandIn t = false by simpa using List.all_eq_true.1 hall t hm)⟩)
    (by kernel_rfl)
/-- The statement. -/
theorem proved : Rows.LayoutFitsCardSaid := of_con Lyo.con Frm.con Lyo.con_b
#print axioms proved
end Go.Proofs.YtedgpglldlohfaaDoor.LawYFt
