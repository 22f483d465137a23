/-
  LayoutBudgets: which slots are open, which stay so within a budget, and what share each has, are what the document's own answers say: for any slots and any three numbers the law answers true and changes nothing that was there. Condition: the listed tables hold what the program lays there.
-/
import Derived.Test.YtedgpglldlohfaaDoorLyX
import Derived.Test.YtedgpglldlohfaaDoorLyzb
import Derived.Test.YtedgpglldlohfaaDoorLyW
import Derived.Test.YtedgpglldlohfaaDoorLyI
import Derived.Test.YtedgpglldlohfaaDoorLyD
import Derived.Test.YtedgpglldlohfaaDoorZsOh
import Derived.Test.YtedgpglldlohfaaDoorLyK
import Derived.Test.YtedgpglldlohfaaDoorRLyB
namespace Go.Proofs.YtedgpglldlohfaaDoor.LawYBd
open Go.ChangeShapes Go.WideShapes Go.ChangeAt Go.RowKit Mur Prt Lanes Tap Cel Frm Lyo Zs
open Go.ChangeMaps (open_string shut_string)
set_option maxRecDepth 100000
set_option linter.unusedSimpArgs false

set_option maxHeartbeats 12800000 in
theorem walk (con : Lyo.Con) (fc : Frm.Con) (cb : ConB) (co : ConOpen) (l : List Int) (n : Nat) (a : Option Addr) (c : Nat) (n0 n1 n2 : Int) (wz : World) (hr : ZsR wz a l) (hn : l.length = n) (_ : n ≤ 9223372036854775807) (hc : n ≤ c) (hf : ∀ z ∈ l, -9223372036854775808 ≤ z ∧ z ≤ 9223372036854775807) (i0 : InR n0) (i1 : InR n1) (i2 : InR n2) (hl : Laid wz) :
    Calls Tryd.prog 5 #[.slice a n c, .agg #[.int .i64 n0, .int .i64 n1, .int .i64 n2]] wz fun e w' => e = .returned (.bool true) ∧ Below wz.heap.size wz w' := by
  have RA := Lib.hid (fun u (hu : Below wz.heap.size wz u) => Lyo.awake_any con fc u (hl.below hu))
  have HM := Lib.hid (Hold.Hld.start wz)
  by_cases h6 : 30 < n
  · have d1 : decide (30 < (n : Int)) = true := decide_eq_true (by omega)
    have d2 : decide (30 < n) = true := decide_eq_true h6
    clear hr hn hc hf hl h6 i0 i1 i2
    go_enter Tryd.func5, Tryd.ntmps5
    go_wp2_with ((first
      | ((with_reducible refine Hold.box (t := 33) HM.out rfl rfl rfl ?_); clear HM; intro bx w HM; simp only [List.nil_append] at HM; replace HM := Lib.hid HM)
      | ((with_reducible refine (RA.out _ HM.out.below).mono ?_); rintro e w ⟨rfl, hb⟩; replace HM := Lib.hid (HM.out.next hb); clear hb)))
    go_ret
    exact ⟨rfl, HM.out.below⟩
  have d1 : decide (30 < (n : Int)) = false := decide_eq_false (by omega)
  have d2 : decide (30 < n) = false := decide_eq_false h6
  have hin : In wz a n c l := ⟨hr, hn, by omega, hc, hf⟩
  obtain ⟨L1, hL1⟩ : ∃ L, L = openL l n0 (few l).length := ⟨_, rfl⟩
  obtain ⟨N1, hN1⟩ : ∃ N : Nat, N = L1.length := ⟨_, rfl⟩
  have hN1s : N1 ≤ 1000000 := by
    rw [hN1, hL1, few_length]
    have := open_short l n0 l.length
    omega
  obtain ⟨L2, hL2⟩ : ∃ L, L = budget l n0 n1 := ⟨_, rfl⟩
  obtain ⟨N2, hN2⟩ : ∃ N : Nat, N = L2.length := ⟨_, rfl⟩
  have hN2s : N2 ≤ 1000000 := by
    rw [hN2, hL2, budget, budG_length, few_length]
    omega
  obtain ⟨Q, hQ⟩ : ∃ Q, Q = share l n0 n2 := ⟨_, rfl⟩
  have RO1 := Lib.hid (fun u (hu : Below wz.heap.size wz u) => co l a n c n0 L1 N1 u hL1 hN1.symm (hin.below hu) i0)
  have RO2 := Lib.hid (fun u (hu : Below wz.heap.size wz u) => RLy.open_ref l a n c n0 L1 N1 u hL1 hN1.symm (hin.below hu) i0)
  have RB1 := Lib.hid (fun u (hu : Below wz.heap.size wz u) => cb.budget l a n c n0 n1 L2 N2 u hL2 hN2.symm (hin.below hu) i0 i1)
  have RB2 := Lib.hid (fun u (hu : Below wz.heap.size wz u) => RLy.budget_ref l a n c n0 n1 L2 N2 u hL2 hN2.symm (hin.below hu) i0 i1)
  have RH1 := Lib.hid (fun u (hu : Below wz.heap.size wz u) => cb.share l a n c n0 n2 Q u hQ (hin.below hu) i0 i2)
  have RH2 := Lib.hid (fun u (hu : Below wz.heap.size wz u) => RLy.share_ref l a n c n0 n2 Q u hQ (hin.below hu) i0 i2)
  have RI1 := Lib.hid (fun (a1 a2 : Option Addr) (c1 c2 : Nat) u (h1 : ZsR u a1 L1) (h2 : ZsR u a2 L1) => ints_any L1 N1 a1 a2 c1 c2 u hN1.symm hN1s h1 h2)
  have RI2 := Lib.hid (fun (a1 a2 : Option Addr) (c1 c2 : Nat) u (h1 : ZsR u a1 L2) (h2 : ZsR u a2 L2) => ints_any L2 N2 a1 a2 c1 c2 u hN2.symm hN2s h1 h2)
  have eQ : ((Q : Int) == Q) = true := by simp
  clear hr hn hc hf hl h6 hin hL1 hN1 hN1s hL2 hN2 hN2s hQ i0 i1 i2
  go_enter Tryd.func5, Tryd.ntmps5
  go_upto_region 3 with (((with_reducible refine Hold.box (t := 33) HM.out rfl rfl rfl ?_); clear HM; intro bx w HM; simp only [List.nil_append] at HM; replace HM := Lib.hid HM))
  obtain ⟨w0, hw0⟩ : ∃ w0, w0 = wz := ⟨wz, rfl⟩
  subst hw0
  have HS := Lib.hid (Hold.Hld.drew (show Hold.Hld _ [⟨bx, 33, [.int .i64 n0, .int .i64 n1, .int .i64 n2]⟩] w from HM.out))
  replace HM := Lib.hid HM.out.drew
  refine wp_region_held (S := fun u => Hold.Hld w0 [⟨bx, 33, [.int .i64 n0, .int .i64 n1, .int .i64 n2]⟩] u) (by kernel_rfl) ?_
  change wpAnyH _ _ _ _ _ (42 + 1) _ _ _
  refine wpAnyH_take (i := 0) (by simp only [List.getElem?_toArray, List.getElem?_cons_succ, List.getElem?_cons_zero]; rfl) (by kernel_rfl) (by kernel_rfl) (by kernel_rfl) (fun _ _ _ h => by exact h) (.inl ⟨by rfl, fun u hu => by go_simp; with_reducible rfl⟩) HS.out ?_
  try simp only [List.getElem_toArray, List.getElem_cons_succ, List.getElem_cons_zero, Act.put, List.setIfInBounds_toArray, List.set_cons_zero, List.set_cons_succ]
  change wpAnyH _ _ _ _ _ (41 + 1) _ _ _
  refine wpAnyH_take (i := 1) (by simp only [List.getElem?_toArray, List.getElem?_cons_succ, List.getElem?_cons_zero]; rfl) (by kernel_rfl) (by kernel_rfl) (by kernel_rfl) (fun _ _ _ h => by exact h) (.inl ⟨by rfl, fun u hu => by go_simp; with_reducible rfl⟩) HS.out ?_
  try simp only [List.getElem_toArray, List.getElem_cons_succ, List.getElem_cons_zero, Act.put, List.setIfInBounds_toArray, List.set_cons_zero, List.set_cons_succ]
  change wpAnyH _ _ _ _ _ (40 + 1) _ _ _
  refine wpAnyH_take (i := 2) (v := .int .i64 n0) (by simp only [List.getElem?_toArray, List.getElem?_cons_succ, List.getElem?_cons_zero]; rfl) (by kernel_rfl) (by kernel_rfl) (by kernel_rfl) (fun _ _ _ h => by exact h) (.inl ⟨by rfl, fun u hu => Hold.load1_run hu 0 rfl rfl rfl (rfl) (Frm.cellInt)⟩) HS.out ?_
  try simp only [List.getElem_toArray, List.getElem_cons_succ, List.getElem_cons_zero, Act.put, List.setIfInBounds_toArray, List.set_cons_zero, List.set_cons_succ]
  change wpAnyH _ _ _ _ _ (39 + 1) _ _ _
  refine wpAnyH_take (i := 4) (by simp only [List.getElem?_toArray, List.getElem?_cons_succ, List.getElem?_cons_zero]; rfl) (by kernel_rfl) (by kernel_rfl) (by kernel_rfl) (fun _ _ _ h => by exact h) (.inl ⟨by rfl, fun u hu => by go_simp; with_reducible rfl⟩) HS.out ?_
  try simp only [List.getElem_toArray, List.getElem_cons_succ, List.getElem_cons_zero, Act.put, List.setIfInBounds_toArray, List.set_cons_zero, List.set_cons_succ]
  change wpAnyH _ _ _ _ _ (38 + 1) _ _ _
  refine wpAnyH_take (i := 5) (by simp only [List.getElem?_toArray, List.getElem?_cons_succ, List.getElem?_cons_zero]; rfl) (by kernel_rfl) (by kernel_rfl) (by kernel_rfl) (fun _ _ _ h => by exact h) (.inl ⟨by rfl, fun u hu => by go_simp; with_reducible rfl⟩) HS.out ?_
  try simp only [List.getElem_toArray, List.getElem_cons_succ, List.getElem_cons_zero, Act.put, List.setIfInBounds_toArray, List.set_cons_zero, List.set_cons_succ]
  change wpAnyH _ _ _ _ _ (37 + 1) _ _ _
  refine wpAnyH_take (i := 6) (v := .int .i64 n0) (by simp only [List.getElem?_toArray, List.getElem?_cons_succ, List.getElem?_cons_zero]; rfl) (by kernel_rfl) (by kernel_rfl) (by kernel_rfl) (fun _ _ _ h => by exact h) (.inl ⟨by rfl, fun u hu => Hold.load1_run hu 0 rfl rfl rfl (rfl) (Frm.cellInt)⟩) HS.out ?_
  try simp only [List.getElem_toArray, List.getElem_cons_succ, List.getElem_cons_zero, Act.put, List.setIfInBounds_toArray, List.set_cons_zero, List.set_cons_succ]
  change wpAnyH _ _ _ _ _ (36 + 1) _ _ _
  refine Steady.call_next (i := 3) (by kernel_rfl) (by simp only [List.getElem?_toArray, List.getElem?_cons_succ, List.getElem?_cons_zero]; rfl) (by kernel_rfl) _ _ (by go_simp) (fun v w' => ∃ a1 c1, v = .slice a1 N1 c1 ∧ ZsR w' a1 L1 ∧ Below _ _ w') ((RO1.out _ HM.out.below).mono (fun e w' h => by obtain ⟨a1, c1, h1, -, h2, h4⟩ := h; exact ⟨_, h1, a1, c1, rfl, h2, h4⟩)) ?_
  rintro u w2 ⟨a1, c1, rfl, hz, hb⟩
  replace HM := Lib.hid (HM.out.next hb)
  have HZ1 := Lib.hid hz
  clear hb hz
  replace HS := Lib.hid (show Hold.Hld _ [⟨bx, 33, [.int .i64 n0, .int .i64 n1, .int .i64 n2]⟩] _ from HM.out)
  refine ⟨HS.out, ?_⟩
  try simp only [List.getElem_toArray, List.getElem_cons_succ, List.getElem_cons_zero, Act.put, List.setIfInBounds_toArray, List.set_cons_zero, List.set_cons_succ]
  change wpAnyH _ _ _ _ _ (35 + 1) _ _ _
  refine Steady.call_next (i := 7) (by kernel_rfl) (by simp only [List.getElem?_toArray, List.getElem?_cons_succ, List.getElem?_cons_zero]; rfl) (by kernel_rfl) _ _ (by go_simp) (fun v w' => ∃ a2 c2, v = .slice a2 N1 c2 ∧ ZsR w' a2 L1 ∧ Below _ _ w') ((RO2.out _ HM.out.below).mono (fun e w' h => by obtain ⟨a1, c1, h1, -, h2, h4⟩ := h; exact ⟨_, h1, a1, c1, rfl, h2, h4⟩)) ?_
  rintro u w2 ⟨a2, c2, rfl, hz, hb⟩
  replace HM := Lib.hid (HM.out.next hb)
  replace HZ1 := Lib.hid (HZ1.out.below hb)
  have HZ2 := Lib.hid hz
  clear hb hz
  replace HS := Lib.hid (show Hold.Hld _ [⟨bx, 33, [.int .i64 n0, .int .i64 n1, .int .i64 n2]⟩] _ from HM.out)
  refine ⟨HS.out, ?_⟩
  try simp only [List.getElem_toArray, List.getElem_cons_succ, List.getElem_cons_zero, Act.put, List.setIfInBounds_toArray, List.set_cons_zero, List.set_cons_succ]
  change wpAnyH _ _ _ _ _ (34 + 1) _ _ _
  refine Steady.call_next (i := 8) (by kernel_rfl) (by simp only [List.getElem?_toArray, List.getElem?_cons_succ, List.getElem?_cons_zero]; rfl) (by kernel_rfl) _ _ (by go_simp) (fun v w' => v = .bool true ∧ Below _ _ w') ((RI1.out a1 a2 c1 c2 _ HZ1.out HZ2.out).mono (fun e w' h => ⟨_, h.1, rfl, h.2⟩)) ?_
  rintro u w2 ⟨rfl, hb⟩
  replace HM := Lib.hid (HM.out.next hb)
  clear hb
  replace HS := Lib.hid (show Hold.Hld _ [⟨bx, 33, [.int .i64 n0, .int .i64 n1, .int .i64 n2]⟩] _ from HM.out)
  refine ⟨HS.out, ?_⟩
  try simp only [List.getElem_toArray, List.getElem_cons_succ, List.getElem_cons_zero, Act.put, List.setIfInBounds_toArray, List.set_cons_zero, List.set_cons_succ]
  change wpAnyH _ _ _ _ _ (33 + 1) _ _ _
  refine wpAnyH_take (i := 9) (by simp only [List.getElem?_toArray, List.getElem?_cons_succ, List.getElem?_cons_zero]; rfl) (by kernel_rfl) (by kernel_rfl) (by kernel_rfl) (fun _ _ _ h => by exact h) (.inl ⟨by rfl, fun u hu => by go_simp; with_reducible rfl⟩) HS.out ?_
  try simp only [List.getElem_toArray, List.getElem_cons_succ, List.getElem_cons_zero, Act.put, List.setIfInBounds_toArray, List.set_cons_zero, List.set_cons_succ]
  change wpAnyH _ _ _ _ _ (32 + 1) _ _ _
  refine wpAnyH_take (i := 10) (by simp only [List.getElem?_toArray, List.getElem?_cons_succ, List.getElem?_cons_zero]; rfl) (by kernel_rfl) (by kernel_rfl) (by kernel_rfl) (fun _ _ _ h => by exact h) (.inl ⟨by rfl, fun u hu => by go_simp; with_reducible rfl⟩) HS.out ?_
  try simp only [List.getElem_toArray, List.getElem_cons_succ, List.getElem_cons_zero, Act.put, List.setIfInBounds_toArray, List.set_cons_zero, List.set_cons_succ]
  change wpAnyH _ _ _ _ _ (31 + 1) _ _ _
  refine wpAnyH_take (i := 11) (by simp only [List.getElem?_toArray, List.getElem?_cons_succ, List.getElem?_cons_zero]; rfl) (by kernel_rfl) (by kernel_rfl) (by kernel_rfl) (fun _ _ _ h => by exact h) (.inl ⟨by rfl, fun u hu => by go_simp; with_reducible rfl⟩) HS.out ?_
  try simp only [List.getElem_toArray, List.getElem_cons_succ, List.getElem_cons_zero, Act.put, List.setIfInBounds_toArray, List.set_cons_zero, List.set_cons_succ]
  change wpAnyH _ _ _ _ _ (30 + 1) _ _ _
  refine wpAnyH_take (i := 12) (v := .int .i64 n0) (by simp only [List.getElem?_toArray, List.getElem?_cons_succ, List.getElem?_cons_zero]; rfl) (by kernel_rfl) (by kernel_rfl) (by kernel_rfl) (fun _ _ _ h => by exact h) (.inl ⟨by rfl, fun u hu => Hold.load1_run hu 0 rfl rfl rfl (rfl) (Frm.cellInt)⟩) HS.out ?_
  try simp only [List.getElem_toArray, List.getElem_cons_succ, List.getElem_cons_zero, Act.put, List.setIfInBounds_toArray, List.set_cons_zero, List.set_cons_succ]
  change wpAnyH _ _ _ _ _ (29 + 1) _ _ _
  refine wpAnyH_take (i := 13) (by simp only [List.getElem?_toArray, List.getElem?_cons_succ, List.getElem?_cons_zero]; rfl) (by kernel_rfl) (by kernel_rfl) (by kernel_rfl) (fun _ _ _ h => by exact h) (.inl ⟨by rfl, fun u hu => by go_simp; with_reducible rfl⟩) HS.out ?_
  try simp only [List.getElem_toArray, List.getElem_cons_succ, List.getElem_cons_zero, Act.put, List.setIfInBounds_toArray, List.set_cons_zero, List.set_cons_succ]
  change wpAnyH _ _ _ _ _ (28 + 1) _ _ _
  refine wpAnyH_take (i := 14) (v := .int .i64 n1) (by simp only [List.getElem?_toArray, List.getElem?_cons_succ, List.getElem?_cons_zero]; rfl) (by kernel_rfl) (by kernel_rfl) (by kernel_rfl) (fun _ _ _ h => by exact h) (.inl ⟨by rfl, fun u hu => Hold.load1_run hu 0 rfl rfl rfl (rfl) (Frm.cellInt)⟩) HS.out ?_
  try simp only [List.getElem_toArray, List.getElem_cons_succ, List.getElem_cons_zero, Act.put, List.setIfInBounds_toArray, List.set_cons_zero, List.set_cons_succ]
  change wpAnyH _ _ _ _ _ (27 + 1) _ _ _
  refine wpAnyH_take (i := 16) (by simp only [List.getElem?_toArray, List.getElem?_cons_succ, List.getElem?_cons_zero]; rfl) (by kernel_rfl) (by kernel_rfl) (by kernel_rfl) (fun _ _ _ h => by exact h) (.inl ⟨by rfl, fun u hu => by go_simp; with_reducible rfl⟩) HS.out ?_
  try simp only [List.getElem_toArray, List.getElem_cons_succ, List.getElem_cons_zero, Act.put, List.setIfInBounds_toArray, List.set_cons_zero, List.set_cons_succ]
  change wpAnyH _ _ _ _ _ (26 + 1) _ _ _
  refine wpAnyH_take (i := 17) (by simp only [List.getElem?_toArray, List.getElem?_cons_succ, List.getElem?_cons_zero]; rfl) (by kernel_rfl) (by kernel_rfl) (by kernel_rfl) (fun _ _ _ h => by exact h) (.inl ⟨by rfl, fun u hu => by go_simp; with_reducible rfl⟩) HS.out ?_
  try simp only [List.getElem_toArray, List.getElem_cons_succ, List.getElem_cons_zero, Act.put, List.setIfInBounds_toArray, List.set_cons_zero, List.set_cons_succ]
  change wpAnyH _ _ _ _ _ (25 + 1) _ _ _
  refine wpAnyH_take (i := 18) (v := .int .i64 n0) (by simp only [List.getElem?_toArray, List.getElem?_cons_succ, List.getElem?_cons_zero]; rfl) (by kernel_rfl) (by kernel_rfl) (by kernel_rfl) (fun _ _ _ h => by exact h) (.inl ⟨by rfl, fun u hu => Hold.load1_run hu 0 rfl rfl rfl (rfl) (Frm.cellInt)⟩) HS.out ?_
  try simp only [List.getElem_toArray, List.getElem_cons_succ, List.getElem_cons_zero, Act.put, List.setIfInBounds_toArray, List.set_cons_zero, List.set_cons_succ]
  change wpAnyH _ _ _ _ _ (24 + 1) _ _ _
  refine wpAnyH_take (i := 19) (by simp only [List.getElem?_toArray, List.getElem?_cons_succ, List.getElem?_cons_zero]; rfl) (by kernel_rfl) (by kernel_rfl) (by kernel_rfl) (fun _ _ _ h => by exact h) (.inl ⟨by rfl, fun u hu => by go_simp; with_reducible rfl⟩) HS.out ?_
  try simp only [List.getElem_toArray, List.getElem_cons_succ, List.getElem_cons_zero, Act.put, List.setIfInBounds_toArray, List.set_cons_zero, List.set_cons_succ]
  change wpAnyH _ _ _ _ _ (23 + 1) _ _ _
  refine wpAnyH_take (i := 20) (v := .int .i64 n1) (by simp only [List.getElem?_toArray, List.getElem?_cons_succ, List.getElem?_cons_zero]; rfl) (by kernel_rfl) (by kernel_rfl) (by kernel_rfl) (fun _ _ _ h => by exact h) (.inl ⟨by rfl, fun u hu => Hold.load1_run hu 0 rfl rfl rfl (rfl) (Frm.cellInt)⟩) HS.out ?_
  try simp only [List.getElem_toArray, List.getElem_cons_succ, List.getElem_cons_zero, Act.put, List.setIfInBounds_toArray, List.set_cons_zero, List.set_cons_succ]
  change wpAnyH _ _ _ _ _ (22 + 1) _ _ _
  refine Steady.call_next (i := 15) (by kernel_rfl) (by simp only [List.getElem?_toArray, List.getElem?_cons_succ, List.getElem?_cons_zero]; rfl) (by kernel_rfl) _ _ (by go_simp) (fun v w' => ∃ a3 c3, v = .slice a3 N2 c3 ∧ ZsR w' a3 L2 ∧ Below _ _ w') ((RB1.out _ HM.out.below).mono (fun e w' h => by obtain ⟨a1, c1, h1, -, h2, h4⟩ := h; exact ⟨_, h1, a1, c1, rfl, h2, h4⟩)) ?_
  rintro u w2 ⟨a3, c3, rfl, hz, hb⟩
  replace HM := Lib.hid (HM.out.next hb)
  have HZ3 := Lib.hid hz
  clear hb hz
  replace HS := Lib.hid (show Hold.Hld _ [⟨bx, 33, [.int .i64 n0, .int .i64 n1, .int .i64 n2]⟩] _ from HM.out)
  refine ⟨HS.out, ?_⟩
  try simp only [List.getElem_toArray, List.getElem_cons_succ, List.getElem_cons_zero, Act.put, List.setIfInBounds_toArray, List.set_cons_zero, List.set_cons_succ]
  change wpAnyH _ _ _ _ _ (21 + 1) _ _ _
  refine Steady.call_next (i := 21) (by kernel_rfl) (by simp only [List.getElem?_toArray, List.getElem?_cons_succ, List.getElem?_cons_zero]; rfl) (by kernel_rfl) _ _ (by go_simp) (fun v w' => ∃ a4 c4, v = .slice a4 N2 c4 ∧ ZsR w' a4 L2 ∧ Below _ _ w') ((RB2.out _ HM.out.below).mono (fun e w' h => by obtain ⟨a1, c1, h1, -, h2, h4⟩ := h; exact ⟨_, h1, a1, c1, rfl, h2, h4⟩)) ?_
  rintro u w2 ⟨a4, c4, rfl, hz, hb⟩
  replace HM := Lib.hid (HM.out.next hb)
  replace HZ3 := Lib.hid (HZ3.out.below hb)
  have HZ4 := Lib.hid hz
  clear hb hz
  replace HS := Lib.hid (show Hold.Hld _ [⟨bx, 33, [.int .i64 n0, .int .i64 n1, .int .i64 n2]⟩] _ from HM.out)
  refine ⟨HS.out, ?_⟩
  try simp only [List.getElem_toArray, List.getElem_cons_succ, List.getElem_cons_zero, Act.put, List.setIfInBounds_toArray, List.set_cons_zero, List.set_cons_succ]
  change wpAnyH _ _ _ _ _ (20 + 1) _ _ _
  refine Steady.call_next (i := 22) (by kernel_rfl) (by simp only [List.getElem?_toArray, List.getElem?_cons_succ, List.getElem?_cons_zero]; rfl) (by kernel_rfl) _ _ (by go_simp) (fun v w' => v = .bool true ∧ Below _ _ w') ((RI2.out a3 a4 c3 c4 _ HZ3.out HZ4.out).mono (fun e w' h => ⟨_, h.1, rfl, h.2⟩)) ?_
  rintro u w2 ⟨rfl, hb⟩
  replace HM := Lib.hid (HM.out.next hb)
  clear hb
  replace HS := Lib.hid (show Hold.Hld _ [⟨bx, 33, [.int .i64 n0, .int .i64 n1, .int .i64 n2]⟩] _ from HM.out)
  refine ⟨HS.out, ?_⟩
  try simp only [List.getElem_toArray, List.getElem_cons_succ, List.getElem_cons_zero, Act.put, List.setIfInBounds_toArray, List.set_cons_zero, List.set_cons_succ]
  change wpAnyH _ _ _ _ _ (19 + 1) _ _ _
  refine wpAnyH_take (i := 23) (by simp only [List.getElem?_toArray, List.getElem?_cons_succ, List.getElem?_cons_zero]; rfl) (by kernel_rfl) (by kernel_rfl) (by kernel_rfl) (fun _ _ _ h => by exact h) (.inl ⟨by rfl, fun u hu => by go_simp; with_reducible rfl⟩) HS.out ?_
  try simp only [List.getElem_toArray, List.getElem_cons_succ, List.getElem_cons_zero, Act.put, List.setIfInBounds_toArray, List.set_cons_zero, List.set_cons_succ]
  change wpAnyH _ _ _ _ _ (18 + 1) _ _ _
  refine wpAnyH_take (i := 24) (by simp only [List.getElem?_toArray, List.getElem?_cons_succ, List.getElem?_cons_zero]; rfl) (by kernel_rfl) (by kernel_rfl) (by kernel_rfl) (fun _ _ _ h => by exact h) (.inl ⟨by rfl, fun u hu => by go_simp; with_reducible rfl⟩) HS.out ?_
  try simp only [List.getElem_toArray, List.getElem_cons_succ, List.getElem_cons_zero, Act.put, List.setIfInBounds_toArray, List.set_cons_zero, List.set_cons_succ]
  change wpAnyH _ _ _ _ _ (17 + 1) _ _ _
  refine wpAnyH_take (i := 25) (by simp only [List.getElem?_toArray, List.getElem?_cons_succ, List.getElem?_cons_zero]; rfl) (by kernel_rfl) (by kernel_rfl) (by kernel_rfl) (fun _ _ _ h => by exact h) (.inl ⟨by rfl, fun u hu => by go_simp; with_reducible rfl⟩) HS.out ?_
  try simp only [List.getElem_toArray, List.getElem_cons_succ, List.getElem_cons_zero, Act.put, List.setIfInBounds_toArray, List.set_cons_zero, List.set_cons_succ]
  change wpAnyH _ _ _ _ _ (16 + 1) _ _ _
  refine wpAnyH_take (i := 26) (by simp only [List.getElem?_toArray, List.getElem?_cons_succ, List.getElem?_cons_zero]; rfl) (by kernel_rfl) (by kernel_rfl) (by kernel_rfl) (fun _ _ _ h => by exact h) (.inl ⟨by rfl, fun u hu => by go_simp; with_reducible rfl⟩) HS.out ?_
  try simp only [List.getElem_toArray, List.getElem_cons_succ, List.getElem_cons_zero, Act.put, List.setIfInBounds_toArray, List.set_cons_zero, List.set_cons_succ]
  change wpAnyH _ _ _ _ _ (15 + 1) _ _ _
  refine wpAnyH_take (i := 27) (v := .int .i64 n0) (by simp only [List.getElem?_toArray, List.getElem?_cons_succ, List.getElem?_cons_zero]; rfl) (by kernel_rfl) (by kernel_rfl) (by kernel_rfl) (fun _ _ _ h => by exact h) (.inl ⟨by rfl, fun u hu => Hold.load1_run hu 0 rfl rfl rfl (rfl) (Frm.cellInt)⟩) HS.out ?_
  try simp only [List.getElem_toArray, List.getElem_cons_succ, List.getElem_cons_zero, Act.put, List.setIfInBounds_toArray, List.set_cons_zero, List.set_cons_succ]
  change wpAnyH _ _ _ _ _ (14 + 1) _ _ _
  refine wpAnyH_take (i := 28) (by simp only [List.getElem?_toArray, List.getElem?_cons_succ, List.getElem?_cons_zero]; rfl) (by kernel_rfl) (by kernel_rfl) (by kernel_rfl) (fun _ _ _ h => by exact h) (.inl ⟨by rfl, fun u hu => by go_simp; with_reducible rfl⟩) HS.out ?_
  try simp only [List.getElem_toArray, List.getElem_cons_succ, List.getElem_cons_zero, Act.put, List.setIfInBounds_toArray, List.set_cons_zero, List.set_cons_succ]
  change wpAnyH _ _ _ _ _ (13 + 1) _ _ _
  refine wpAnyH_take (i := 29) (v := .int .i64 n2) (by simp only [List.getElem?_toArray, List.getElem?_cons_succ, List.getElem?_cons_zero]; rfl) (by kernel_rfl) (by kernel_rfl) (by kernel_rfl) (fun _ _ _ h => by exact h) (.inl ⟨by rfl, fun u hu => Hold.load1_run hu 0 rfl rfl rfl (rfl) (Frm.cellInt)⟩) HS.out ?_
  try simp only [List.getElem_toArray, List.getElem_cons_succ, List.getElem_cons_zero, Act.put, List.setIfInBounds_toArray, List.set_cons_zero, List.set_cons_succ]
  change wpAnyH _ _ _ _ _ (12 + 1) _ _ _
  refine wpAnyH_take (i := 31) (by simp only [List.getElem?_toArray, List.getElem?_cons_succ, List.getElem?_cons_zero]; rfl) (by kernel_rfl) (by kernel_rfl) (by kernel_rfl) (fun _ _ _ h => by exact h) (.inl ⟨by rfl, fun u hu => by go_simp; with_reducible rfl⟩) HS.out ?_
  try simp only [List.getElem_toArray, List.getElem_cons_succ, List.getElem_cons_zero, Act.put, List.setIfInBounds_toArray, List.set_cons_zero, List.set_cons_succ]
  change wpAnyH _ _ _ _ _ (11 + 1) _ _ _
  refine wpAnyH_take (i := 32) (by simp only [List.getElem?_toArray, List.getElem?_cons_succ, List.getElem?_cons_zero]; rfl) (by kernel_rfl) (by kernel_rfl) (by kernel_rfl) (fun _ _ _ h => by exact h) (.inl ⟨by rfl, fun u hu => by go_simp; with_reducible rfl⟩) HS.out ?_
  try simp only [List.getElem_toArray, List.getElem_cons_succ, List.getElem_cons_zero, Act.put, List.setIfInBounds_toArray, List.set_cons_zero, List.set_cons_succ]
  change wpAnyH _ _ _ _ _ (10 + 1) _ _ _
  refine wpAnyH_take (i := 33) (v := .int .i64 n0) (by simp only [List.getElem?_toArray, List.getElem?_cons_succ, List.getElem?_cons_zero]; rfl) (by kernel_rfl) (by kernel_rfl) (by kernel_rfl) (fun _ _ _ h => by exact h) (.inl ⟨by rfl, fun u hu => Hold.load1_run hu 0 rfl rfl rfl (rfl) (Frm.cellInt)⟩) HS.out ?_
  try simp only [List.getElem_toArray, List.getElem_cons_succ, List.getElem_cons_zero, Act.put, List.setIfInBounds_toArray, List.set_cons_zero, List.set_cons_succ]
  change wpAnyH _ _ _ _ _ (9 + 1) _ _ _
  refine wpAnyH_take (i := 34) (by simp only [List.getElem?_toArray, List.getElem?_cons_succ, List.getElem?_cons_zero]; rfl) (by kernel_rfl) (by kernel_rfl) (by kernel_rfl) (fun _ _ _ h => by exact h) (.inl ⟨by rfl, fun u hu => by go_simp; with_reducible rfl⟩) HS.out ?_
  try simp only [List.getElem_toArray, List.getElem_cons_succ, List.getElem_cons_zero, Act.put, List.setIfInBounds_toArray, List.set_cons_zero, List.set_cons_succ]
  change wpAnyH _ _ _ _ _ (8 + 1) _ _ _
  refine wpAnyH_take (i := 35) (v := .int .i64 n2) (by simp only [List.getElem?_toArray, List.getElem?_cons_succ, List.getElem?_cons_zero]; rfl) (by kernel_rfl) (by kernel_rfl) (by kernel_rfl) (fun _ _ _ h => by exact h) (.inl ⟨by rfl, fun u hu => Hold.load1_run hu 0 rfl rfl rfl (rfl) (Frm.cellInt)⟩) HS.out ?_
  try simp only [List.getElem_toArray, List.getElem_cons_succ, List.getElem_cons_zero, Act.put, List.setIfInBounds_toArray, List.set_cons_zero, List.set_cons_succ]
  change wpAnyH _ _ _ _ _ (7 + 1) _ _ _
  refine Steady.call_next (i := 30) (by kernel_rfl) (by simp only [List.getElem?_toArray, List.getElem?_cons_succ, List.getElem?_cons_zero]; rfl) (by kernel_rfl) _ _ (by go_simp) (fun v w' => v = .int .i64 Q ∧ Below _ _ w') ((RH1.out _ HM.out.below).mono (fun e w' h => ⟨_, h.1, rfl, h.2⟩)) ?_
  rintro u w2 ⟨rfl, hb⟩
  replace HM := Lib.hid (HM.out.next hb)
  clear hb
  replace HS := Lib.hid (show Hold.Hld _ [⟨bx, 33, [.int .i64 n0, .int .i64 n1, .int .i64 n2]⟩] _ from HM.out)
  refine ⟨HS.out, ?_⟩
  try simp only [List.getElem_toArray, List.getElem_cons_succ, List.getElem_cons_zero, Act.put, List.setIfInBounds_toArray, List.set_cons_zero, List.set_cons_succ]
  change wpAnyH _ _ _ _ _ (6 + 1) _ _ _
  refine Steady.call_next (i := 36) (by kernel_rfl) (by simp only [List.getElem?_toArray, List.getElem?_cons_succ, List.getElem?_cons_zero]; rfl) (by kernel_rfl) _ _ (by go_simp) (fun v w' => v = .int .i64 Q ∧ Below _ _ w') ((RH2.out _ HM.out.below).mono (fun e w' h => ⟨_, h.1, rfl, h.2⟩)) ?_
  rintro u w2 ⟨rfl, hb⟩
  replace HM := Lib.hid (HM.out.next hb)
  clear hb
  replace HS := Lib.hid (show Hold.Hld _ [⟨bx, 33, [.int .i64 n0, .int .i64 n1, .int .i64 n2]⟩] _ from HM.out)
  refine ⟨HS.out, ?_⟩
  try simp only [List.getElem_toArray, List.getElem_cons_succ, List.getElem_cons_zero, Act.put, List.setIfInBounds_toArray, List.set_cons_zero, List.set_cons_succ]
  change wpAnyH _ _ _ _ _ (5 + 1) _ _ _
  refine wpAnyH_take (i := 37) (by simp only [List.getElem?_toArray, List.getElem?_cons_succ, List.getElem?_cons_zero]; rfl) (by kernel_rfl) (by kernel_rfl) (by kernel_rfl) (fun _ _ _ h => by exact h) (.inl ⟨by rfl, fun u hu => by go_simp; with_reducible rfl⟩) HS.out ?_
  try simp only [List.getElem_toArray, List.getElem_cons_succ, List.getElem_cons_zero, Act.put, List.setIfInBounds_toArray, List.set_cons_zero, List.set_cons_succ]
  change wpAnyH _ _ _ _ _ (4 + 1) _ _ _
  refine wpAnyH_take (i := 38) (by simp only [List.getElem?_toArray, List.getElem?_cons_succ, List.getElem?_cons_zero]; rfl) (by kernel_rfl) (by kernel_rfl) (by kernel_rfl) (fun _ _ _ h => by exact h) (.inl ⟨by rfl, fun u hu => by go_simp; with_reducible rfl⟩) HS.out ?_
  try simp only [List.getElem_toArray, List.getElem_cons_succ, List.getElem_cons_zero, Act.put, List.setIfInBounds_toArray, List.set_cons_zero, List.set_cons_succ]
  change wpAnyH _ _ _ _ _ (3 + 1) _ _ _
  refine wpAnyH_take (i := 39) (by simp only [List.getElem?_toArray, List.getElem?_cons_succ, List.getElem?_cons_zero]; rfl) (by kernel_rfl) (by kernel_rfl) (by kernel_rfl) (fun _ _ _ h => by exact h) (.inl ⟨by rfl, fun u hu => by go_simp; with_reducible rfl⟩) HS.out ?_
  try simp only [List.getElem_toArray, List.getElem_cons_succ, List.getElem_cons_zero, Act.put, List.setIfInBounds_toArray, List.set_cons_zero, List.set_cons_succ]
  change wpAnyH _ _ _ _ _ (2 + 1) _ _ _
  refine Steady.call_next (i := 40) (by kernel_rfl) (by simp only [List.getElem?_toArray, List.getElem?_cons_succ, List.getElem?_cons_zero]; rfl) (by kernel_rfl) _ _ (by go_simp) (fun v w' => v = .bool true ∧ Below _ _ w') ((RA.out _ HM.out.below).mono (fun e w' h => ⟨_, h.1, rfl, h.2⟩)) ?_
  rintro u w2 ⟨rfl, hb⟩
  replace HM := Lib.hid (HM.out.next hb)
  clear hb
  replace HS := Lib.hid (show Hold.Hld _ [⟨bx, 33, [.int .i64 n0, .int .i64 n1, .int .i64 n2]⟩] _ from HM.out)
  refine ⟨HS.out, ?_⟩
  try simp only [List.getElem_toArray, List.getElem_cons_succ, List.getElem_cons_zero, Act.put, List.setIfInBounds_toArray, List.set_cons_zero, List.set_cons_succ]
  change wpAnyH _ _ _ _ _ (1 + 1) _ _ _
  refine wpAnyH_take (i := 41) (by simp only [List.getElem?_toArray, List.getElem?_cons_succ, List.getElem?_cons_zero]; rfl) (by kernel_rfl) (by kernel_rfl) (by kernel_rfl) (fun _ _ _ h => by exact h) (.inl ⟨by rfl, fun u hu => by go_simp; with_reducible rfl⟩) HS.out ?_
  try simp only [List.getElem_toArray, List.getElem_cons_succ, List.getElem_cons_zero, Act.put, List.setIfInBounds_toArray, List.set_cons_zero, List.set_cons_succ]
  change wpAnyH _ _ _ _ _ (0 + 1) _ _ _
  refine wpAnyH_take (i := 42) (by simp only [List.getElem?_toArray, List.getElem?_cons_succ, List.getElem?_cons_zero]; rfl) (by kernel_rfl) (by kernel_rfl) (by kernel_rfl) (fun _ _ _ h => by exact h) (.inl ⟨by rfl, fun u hu => by go_simp; with_reducible rfl⟩) HS.out ?_
  try simp only [List.getElem_toArray, List.getElem_cons_succ, List.getElem_cons_zero, Act.put, List.setIfInBounds_toArray, List.set_cons_zero, List.set_cons_succ]
  refine wpAnyH_done (by kernel_rfl) ?_ _
  go_wp2
  go_ret
  exact ⟨by simp, HM.out.below⟩

set_option maxHeartbeats 1600000 in
theorem lifted (con : Lyo.Con) (fc : Frm.Con) (cb : ConB) (co : ConOpen) (os : Os) (started : os.Started) (H : Type) (enc : TypeId × Value → H) :
    ReturnsInHanded {} Tryd.checked os 5 .any (fun w args => (Rows.layoutBudgetsSpec.pre enc Tryd.prog Tryd.f5 [] false w args ∧ laidMetH Tryd.prog Lyk.laidL w) ∧ sizedMet enc Tryd.prog Tryd.f5 (OpenSpec.ofChange Rows.layoutBudgetsSpec) false w args)
      (Rows.layoutBudgetsSpec.post enc Tryd.prog Tryd.f5 false true false false) := by
  refine returnsInHanded_of_change_and (C := Tryd.checked) (X := fun w _ => laidMetH Tryd.prog Lyk.laidL w) (fun _ _ _ hh h => h.of_heap hh) Lyk.own started (by kernel_rfl) Tryd.func5
    (ChangeSpec.witness_shaped (enc := enc) (C := Tryd.checked) (os := os) (X := fun w _ => laidMetH Tryd.prog Lyk.laidL w) false (World.laidAll Tryd.prog os Lyk.laidL) #[.slice none 0 0, .agg #[.int .i64 0, .int .i64 0, .int .i64 0]] 8 (World.laidAll_os _ _ _) (Lyk.table_shaped os _) (by kernel_rfl) (by kernel_rfl) (by kernel_rfl) (Lyk.table_met os _)) ?_
  intro W base args ds gs before hval0 hW _ hsz0 hL _
  have hval : ∀ (j : Nat) t v, Tryd.f5.params[j]? = some t → args[j]? = some v → Value.okWide Tryd.prog W .any base t v := hval0
  have hsz : (DataW.weightsEach Tryd.prog (Tryd.f5.params.toList ++ Rows.layoutBudgetsSpec.plain.varTypes Tryd.prog) (ds ++ gs)).all (· ≤ reachBytes) = true := hsz0
  clear hsz0
  have hW' := hW
  obtain ⟨p, q, hA0, hV, rfl, hfz, hnd⟩ := hW
  have hA : DataW.TrodAll enc Tryd.prog W 0 (fun _ => true) true Tryd.f5.params.toList args.toList ds p := hA0
  rw [Tryd.params5] at hA hval hsz
  obtain ⟨v0, vs0, d0, ds0, p0, q0, hargs, rfl, rfl, h0, r0⟩ := trodAll_cons hA
  obtain ⟨v1, vs1, d1, ds1, p1, q1, rfl, rfl, rfl, h1, r1⟩ := trodAll_cons r0
  obtain ⟨rfl, rfl, rfl⟩ := trodAll_nil r1
  obtain rfl : args = #[v0, v1] := by cases args; simp_all
  obtain ⟨rfl, rfl⟩ := trodVars_none hV
  obtain ⟨a0, len0, cap0, rfl⟩ := okWide_slice Tryd.underlying22 (hval 0 22 v0 rfl rfl)
  have k0 := h0
  have lt0 : ∀ x ∈ p0, x.block < W.heap.size := by obtain ⟨m, hm⟩ := k0; exact DataW.trod_lt m _ _ _ hm
  obtain ⟨z0, w0, x0, y0, c0, u0⟩ := Zs.ints_came h0
  have k1 := h1
  have lt1 : ∀ x ∈ p1, x.block < W.heap.size := by obtain ⟨m, hm⟩ := k1; exact DataW.trod_lt m _ _ _ hm
  obtain ⟨x1, y1, z1, rfl, b1, e1, g1⟩ := Zs.open_three (hval 1 33 v1 rfl rfl) h1
  have hcl := Lyk.of_laid hL
  clear hA0 hval0
  refine (walk con fc cb co z0 len0 a0 cap0 x1 y1 z1 W w0 x0 y0 c0 u0 b1 e1 g1 hcl).mono fun e W' ⟨he, bel⟩ => ?_
  subst he
  exact ⟨_, rfl, _, _, _, [], _, [], hW', trodAll_mk1 (shut_bool Tryd.underlying4 _), (trodAll_cons_mk (Below.trod Lyk.laidOut (by kernel_rfl) (of_decide_eq_true (by kernel_rfl)) k0 bel lt0) (trodAll_cons_mk (Below.trod Lyk.laidOut (by kernel_rfl) (of_decide_eq_true (by kernel_rfl)) k1 bel lt1) trodAll_mk0)), rfl, bel.frame _, fun h => by cases h⟩

theorem over (con : Lyo.Con) (fc : Frm.Con) (cb : ConB) (co : ConOpen) : Rows.LayoutBudgetsSaid :=
  OpenClaim.holds_of_wide 5 Tryd.f5 rfl rfl rfl rfl rfl rfl rfl ⟨rfl, rfl, rfl, rfl, rfl⟩ rfl rfl rfl rfl rfl (by kernel_rfl) Tryd.func5 (by kernel_rfl)
    (of_decide_eq_true (by kernel_rfl)) (by unfold Func.isWrapper; first | (rw [if_pos (by decide +kernel)]; kernel_rfl) | (rw [if_neg (by decide +kernel)]; exact ⟨rfl, rfl⟩))
    (fun os started H enc _ => lifted con fc cb co os started H enc)

theorem of_con (con : Lyo.Con) (fc : Frm.Con) (cb : ConB) (co : ConOpen) : Rows.LayoutBudgetsCardSaid :=
  Claim7.holds_tied_plain_at .later [] [.data, .data, .pinned] true Rows.layoutBudgetsCard.stood.harness false
    (over con fc cb co) (fun _ h => by cases h) (by kernel_rfl) (fun _ h => by cases h) layoutBudgets_row_tie rfl ⟨rfl, rfl⟩ (by kernel_rfl) rfl
    (fun f fn hf hfn => by
      obtain rfl : f = 5 := Option.some.inj ((show Tryd.prog.funcNamed "murmur/murmurlaw19.LayoutBudgets" = some 5 by kernel_rfl).symm.trans hf) |>.symm
      obtain rfl : fn = Tryd.f5 := (Option.some.inj (Tryd.func5.symm.trans hfn)).symm
      exact ⟨by kernel_rfl, fun j t ht => by
        rw [Tryd.params5] at ht
        have hm : t ∈ [22, 33] := by simpa using Array.mem_of_getElem? ht
        have hall : ([22, 33].all fun u => !Tryd.prog.wantsStandIn u) = true := by kernel_rfl
        exact (show Tryd.prog.wantsStandIn t = false by simpa using List.all_eq_true.1 hall t hm)⟩)
    (by kernel_rfl)
/-- The statement. -/
theorem proved : Rows.LayoutBudgetsCardSaid := of_con Lyo.con Frm.con Lyo.con_b Lyo.con_open
#print axioms proved
end Go.Proofs.YtedgpglldlohfaaDoor.LawYBd
