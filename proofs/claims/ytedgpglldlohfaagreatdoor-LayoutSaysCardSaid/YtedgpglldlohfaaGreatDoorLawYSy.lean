/-
  LayoutSays: where slots of any layout lie, and what comes next, are what the document's own answers say: for any slots, any two numbers and any text the law answers true and changes nothing that was there. Condition: the listed tables hold what the program lays there.
-/
import Derived.Test.YtedgpglldlohfaaGreatDoorLyX
import Derived.Test.YtedgpglldlohfaaGreatDoorLyz
import Derived.Test.YtedgpglldlohfaaGreatDoorLyW
import Derived.Test.YtedgpglldlohfaaGreatDoorLyI
import Derived.Test.YtedgpglldlohfaaGreatDoorZsOt
import Derived.Test.YtedgpglldlohfaaGreatDoorLyK
import Derived.Test.YtedgpglldlohfaaGreatDoorRLyC
namespace Go.Proofs.YtedgpglldlohfaaGreatDoor.LawYSy
open Go.ChangeShapes Go.WideShapes Go.ChangeAt Go.RowKit Mur Prt Lanes Tap Cel Frm Lyo Zs
open Go.ChangeMaps (open_string shut_string)
set_option maxRecDepth 100000
set_option linter.unusedSimpArgs false

set_option maxHeartbeats 25600000 in
theorem walk (con : Lyo.Con) (fc : Frm.Con) (l : List Int) (n : Nat) (a : Option Addr) (c : Nat) (n0 n1 : Int) (t : ByteArray) (wz : World) (hr : ZsR wz a l) (hn : l.length = n) (_ : n ≤ 9223372036854775807) (hc : n ≤ c) (hf : ∀ z ∈ l, -9223372036854775808 ≤ z ∧ z ≤ 9223372036854775807) (i0 : InR n0) (i1 : InR n1) (_ : t.size ≤ 140737488351232) (hl : Laid wz) :
    Calls Tryz.prog 3 #[.slice a n c, .agg #[.int .i64 n0, .int .i64 n1], .string t] wz fun e w' => e = .returned (.bool true) ∧ Below wz.heap.size wz w' := by
  have RA := Lib.hid (fun u (hu : Below wz.heap.size wz u) => Lyo.awake_any con fc u (hl.below hu))
  have HM := Lib.hid (Hold.Hld.start wz)
  by_cases h6 : 30 < n
  · have d1 : decide (30 < (n : Int)) = true := decide_eq_true (by omega)
    have d2 : decide (30 < n) = true := decide_eq_true h6
    clear hr hn hc hf hl h6 i0 i1
    go_enter Tryz.func3, Tryz.ntmps3
    go_wp2_with ((first
      | ((with_reducible refine Hold.box (t := 23) HM.out rfl rfl rfl ?_); clear HM; intro bx w HM; simp only [List.nil_append] at HM; replace HM := Lib.hid HM)
      | ((with_reducible refine (RA.out _ HM.out.below).mono ?_); rintro e w ⟨rfl, hb⟩; replace HM := Lib.hid (HM.out.next hb); clear hb)))
    go_ret
    exact ⟨rfl, HM.out.below⟩
  have d1 : decide (30 < (n : Int)) = false := decide_eq_false (by omega)
  have d2 : decide (30 < n) = false := decide_eq_false h6
  by_cases h3 : 3000 < t.size
  · have d3 : decide (3000 < (t.size : Int)) = true := decide_eq_true (by omega)
    have d4 : decide (3000 < t.size) = true := decide_eq_true h3
    clear hr hn hc hf hl h6 i0 i1 h3
    go_enter Tryz.func3, Tryz.ntmps3
    go_wp2_with ((first
      | ((with_reducible refine Hold.box (t := 23) HM.out rfl rfl rfl ?_); clear HM; intro bx w HM; simp only [List.nil_append] at HM; replace HM := Lib.hid HM)
      | ((with_reducible refine (RA.out _ HM.out.below).mono ?_); rintro e w ⟨rfl, hb⟩; replace HM := Lib.hid (HM.out.next hb); clear hb)))
    go_ret
    exact ⟨rfl, HM.out.below⟩
  have d3 : decide (3000 < (t.size : Int)) = false := decide_eq_false (by omega)
  have d4 : decide (3000 < t.size) = false := decide_eq_false h3
  have hin : In wz a n c l := ⟨hr, hn, by omega, hc, hf⟩
  have ht : t.size ≤ 10000 := by omega
  obtain ⟨A, hA⟩ : ∃ A, A = spotA l n0 n1 := ⟨_, rfl⟩
  obtain ⟨B, hB⟩ : ∃ A, A = spotB l n0 n1 := ⟨_, rfl⟩
  obtain ⟨T, hT⟩ : ∃ A, A = total l n0 := ⟨_, rfl⟩
  obtain ⟨X, hX⟩ : ∃ X, X = tx (slotT l n0 n1 t.data.toList) := ⟨_, rfl⟩
  obtain ⟨W, hW⟩ : ∃ W, W = want l n1 t.data.toList := ⟨_, rfl⟩
  obtain ⟨L1, hL1⟩ : ∃ L, L = first n1 := ⟨_, rfl⟩
  obtain ⟨N1, hN1⟩ : ∃ N : Nat, N = L1.length := ⟨_, rfl⟩
  have hN1s : N1 ≤ 1000000 := by
    rw [hN1, hL1, first_length]
    omega
  obtain ⟨L2, hL2⟩ : ∃ L, L = next l n0 t.data.toList := ⟨_, rfl⟩
  obtain ⟨N2, hN2⟩ : ∃ N : Nat, N = L2.length := ⟨_, rfl⟩
  have hN2s : N2 ≤ 1000000 := by
    rw [hN2, hL2, next_length, few_length]
    omega
  have RS1 := Lib.hid (fun u (hu : Below wz.heap.size wz u) => con.spot l a n c n0 n1 A B u hA hB (hin.below hu) i0 i1)
  have RS2 := Lib.hid (fun u (hu : Below wz.heap.size wz u) => RLy.spot_ref l a n c n0 n1 A B u hA hB (hin.below hu) i0 i1)
  have RT1 := Lib.hid (fun u (hu : Below wz.heap.size wz u) => con.total l a n c n0 T u hT (hin.below hu) i0)
  have RT2 := Lib.hid (fun u (hu : Below wz.heap.size wz u) => RLy.total_ref l a n c n0 T u hT (hin.below hu) i0)
  have RX1 := Lib.hid (fun u (hu : Below wz.heap.size wz u) => con.slot l a n c n0 n1 t X u hX (hin.below hu) i0 i1 ht)
  have RX2 := Lib.hid (fun u (hu : Below wz.heap.size wz u) => RLy.slot_ref l a n c n0 n1 t X u hX (hin.below hu) i0 i1 ht)
  have RW1 := Lib.hid (fun u (hu : Below wz.heap.size wz u) => con.want l a n c n1 W t u hW (hin.below hu) i1 ht)
  have RW2 := Lib.hid (fun u (hu : Below wz.heap.size wz u) => RLy.want_ref l a n c n1 W t u hW (hin.below hu) i1 ht)
  have RF1 := Lib.hid (fun u => con.first n1 L1 N1 u hL1 hN1.symm i1)
  have RF2 := Lib.hid (fun u => (RLy.first_ref n1 L1 N1 u hL1 hN1.symm i1).mono fun e w' h => h.out)
  have RN1 := Lib.hid (fun u (hu : Below wz.heap.size wz u) => con.next l a n c n0 t L2 N2 u hL2 hN2.symm (hin.below hu) i0 ht (hl.below hu))
  have RN2 := Lib.hid (fun u (hu : Below wz.heap.size wz u) => RLy.next_ref l a n c n0 t L2 N2 u hL2 hN2.symm (hin.below hu) i0 ht)
  have RI1 := Lib.hid (fun (a1 a2 : Option Addr) (c1 c2 : Nat) u (h1 : ZsR u a1 L1) (h2 : ZsR u a2 L1) => ints_any L1 N1 a1 a2 c1 c2 u hN1.symm hN1s h1 h2)
  have RI2 := Lib.hid (fun (a1 a2 : Option Addr) (c1 c2 : Nat) u (h1 : ZsR u a1 L2) (h2 : ZsR u a2 L2) => ints_any L2 N2 a1 a2 c1 c2 u hN2.symm hN2s h1 h2)
  have eT : ((T : Int) == T) = true := by simp
  have eA : ((A : Int) == A) = true := by simp
  have eB : ((B : Int) == B) = true := by simp
  have eW : ((W : Int) == W) = true := by simp
  have eX : (X.toList == X.toList) = true := by simp
  have hx0 : ([.int .i64 n0, .int .i64 n1])[0]? = some (Value.int .i64 n0) := rfl
  have hx1 : ([.int .i64 n0, .int .i64 n1])[1]? = some (Value.int .i64 n1) := rfl
  clear hr hn hc hf hl h6 h3 hin ht hA hB hT hX hW hL1 hN1 hN1s hL2 hN2 hN2s i0 i1
  obtain ⟨w0, hw0⟩ : ∃ w0, w0 = wz := ⟨wz, rfl⟩
  subst hw0
  go_enter Tryz.func3, Tryz.ntmps3
  go_upto_region 5 with ((first
    | ((with_reducible refine Hold.box (t := 23) HM.out rfl rfl rfl ?_); clear HM; intro bx w HM; simp only [List.nil_append] at HM; replace HM := Lib.hid HM)
    | (with_reducible refine Hold.load1 HM.out 0 (c := .int .i64 n0) rfl rfl rfl rfl hx0 Frm.cellInt ?_)
    | (with_reducible refine Hold.load1 HM.out 0 (c := .int .i64 n1) rfl rfl rfl rfl hx1 Frm.cellInt ?_)
    | ((with_reducible refine (RS1.out _ HM.out.below).mono ?_); rintro e w ⟨rfl, hb⟩; replace HM := Lib.hid (HM.out.next hb); clear hb)
    | ((with_reducible refine (RS2.out _ HM.out.below).mono ?_); rintro e w ⟨rfl, hb⟩; replace HM := Lib.hid (HM.out.next hb); clear hb)))
  simp only [List.append_eq, List.cons_append, List.nil_append]
  have HS := Lib.hid (Hold.Hld.drew (show Hold.Hld _ [⟨bx, 23, [.int .i64 n0, .int .i64 n1]⟩] w from HM.out))
  replace HM := Lib.hid HM.out.drew
  refine wp_region_held (S := fun u => Hold.Hld w0 [⟨bx, 23, [.int .i64 n0, .int .i64 n1]⟩] u) (by kernel_rfl) ?_
  change wpAnyH _ _ _ _ _ (74 + 1) _ _ _
  refine wpAnyH_take (i := 0) (by simp only [List.getElem?_toArray, List.getElem?_cons_succ, List.getElem?_cons_zero]; rfl) (by kernel_rfl) (by kernel_rfl) (by kernel_rfl) (fun _ _ _ h => by exact h) (.inl ⟨by rfl, fun u hu => by go_simp; with_reducible rfl⟩) HS.out ?_
  try simp only [List.getElem_toArray, List.getElem_cons_succ, List.getElem_cons_zero, Act.put, List.setIfInBounds_toArray, List.set_cons_zero, List.set_cons_succ]
  change wpAnyH _ _ _ _ _ (73 + 1) _ _ _
  refine wpAnyH_take (i := 1) (by simp only [List.getElem?_toArray, List.getElem?_cons_succ, List.getElem?_cons_zero]; rfl) (by kernel_rfl) (by kernel_rfl) (by kernel_rfl) (fun _ _ _ h => by exact h) (.inl ⟨by rfl, fun u hu => by go_simp; with_reducible rfl⟩) HS.out ?_
  try simp only [List.getElem_toArray, List.getElem_cons_succ, List.getElem_cons_zero, Act.put, List.setIfInBounds_toArray, List.set_cons_zero, List.set_cons_succ]
  change wpAnyH _ _ _ _ _ (72 + 1) _ _ _
  refine wpAnyH_take (i := 2) (v := .int .i64 n0) (by simp only [List.getElem?_toArray, List.getElem?_cons_succ, List.getElem?_cons_zero]; rfl) (by kernel_rfl) (by kernel_rfl) (by kernel_rfl) (fun _ _ _ h => by exact h) (.inl ⟨by rfl, fun u hu => Hold.load1_run hu 0 rfl rfl rfl (rfl) (Frm.cellInt)⟩) HS.out ?_
  try simp only [List.getElem_toArray, List.getElem_cons_succ, List.getElem_cons_zero, Act.put, List.setIfInBounds_toArray, List.set_cons_zero, List.set_cons_succ]
  change wpAnyH _ _ _ _ _ (71 + 1) _ _ _
  refine wpAnyH_take (i := 4) (by simp only [List.getElem?_toArray, List.getElem?_cons_succ, List.getElem?_cons_zero]; rfl) (by kernel_rfl) (by kernel_rfl) (by kernel_rfl) (fun _ _ _ h => by exact h) (.inl ⟨by rfl, fun u hu => by go_simp; with_reducible rfl⟩) HS.out ?_
  try simp only [List.getElem_toArray, List.getElem_cons_succ, List.getElem_cons_zero, Act.put, List.setIfInBounds_toArray, List.set_cons_zero, List.set_cons_succ]
  change wpAnyH _ _ _ _ _ (70 + 1) _ _ _
  refine wpAnyH_take (i := 5) (by simp only [List.getElem?_toArray, List.getElem?_cons_succ, List.getElem?_cons_zero]; rfl) (by kernel_rfl) (by kernel_rfl) (by kernel_rfl) (fun _ _ _ h => by exact h) (.inl ⟨by rfl, fun u hu => by go_simp; with_reducible rfl⟩) HS.out ?_
  try simp only [List.getElem_toArray, List.getElem_cons_succ, List.getElem_cons_zero, Act.put, List.setIfInBounds_toArray, List.set_cons_zero, List.set_cons_succ]
  change wpAnyH _ _ _ _ _ (69 + 1) _ _ _
  refine wpAnyH_take (i := 6) (v := .int .i64 n0) (by simp only [List.getElem?_toArray, List.getElem?_cons_succ, List.getElem?_cons_zero]; rfl) (by kernel_rfl) (by kernel_rfl) (by kernel_rfl) (fun _ _ _ h => by exact h) (.inl ⟨by rfl, fun u hu => Hold.load1_run hu 0 rfl rfl rfl (rfl) (Frm.cellInt)⟩) HS.out ?_
  try simp only [List.getElem_toArray, List.getElem_cons_succ, List.getElem_cons_zero, Act.put, List.setIfInBounds_toArray, List.set_cons_zero, List.set_cons_succ]
  change wpAnyH _ _ _ _ _ (68 + 1) _ _ _
  refine Steady.call_next (i := 3) (by kernel_rfl) (by simp only [List.getElem?_toArray, List.getElem?_cons_succ, List.getElem?_cons_zero]; rfl) (by kernel_rfl) _ _ (by go_simp) (fun v w' => v = .int .i64 T ∧ Below _ _ w') ((RT1.out _ HM.out.below).mono (fun e w' h => ⟨_, h.1, rfl, h.2⟩)) ?_
  rintro u w2 ⟨rfl, hb⟩
  replace HM := Lib.hid (HM.out.next hb)
  clear hb
  replace HS := Lib.hid (show Hold.Hld _ [⟨bx, 23, [.int .i64 n0, .int .i64 n1]⟩] _ from HM.out)
  refine ⟨HS.out, ?_⟩
  try simp only [List.getElem_toArray, List.getElem_cons_succ, List.getElem_cons_zero, Act.put, List.setIfInBounds_toArray, List.set_cons_zero, List.set_cons_succ]
  change wpAnyH _ _ _ _ _ (67 + 1) _ _ _
  refine Steady.call_next (i := 7) (by kernel_rfl) (by simp only [List.getElem?_toArray, List.getElem?_cons_succ, List.getElem?_cons_zero]; rfl) (by kernel_rfl) _ _ (by go_simp) (fun v w' => v = .int .i64 T ∧ Below _ _ w') ((RT2.out _ HM.out.below).mono (fun e w' h => ⟨_, h.1, rfl, h.2⟩)) ?_
  rintro u w2 ⟨rfl, hb⟩
  replace HM := Lib.hid (HM.out.next hb)
  clear hb
  replace HS := Lib.hid (show Hold.Hld _ [⟨bx, 23, [.int .i64 n0, .int .i64 n1]⟩] _ from HM.out)
  refine ⟨HS.out, ?_⟩
  try simp only [List.getElem_toArray, List.getElem_cons_succ, List.getElem_cons_zero, Act.put, List.setIfInBounds_toArray, List.set_cons_zero, List.set_cons_succ]
  change wpAnyH _ _ _ _ _ (66 + 1) _ _ _
  refine wpAnyH_take (i := 8) (by simp only [List.getElem?_toArray, List.getElem?_cons_succ, List.getElem?_cons_zero]; rfl) (by kernel_rfl) (by kernel_rfl) (by kernel_rfl) (fun _ _ _ h => by exact h) (.inl ⟨by rfl, fun u hu => by go_simp; with_reducible rfl⟩) HS.out ?_
  try simp only [List.getElem_toArray, List.getElem_cons_succ, List.getElem_cons_zero, Act.put, List.setIfInBounds_toArray, List.set_cons_zero, List.set_cons_succ]
  change wpAnyH _ _ _ _ _ (65 + 1) _ _ _
  refine wpAnyH_take (i := 9) (by simp only [List.getElem?_toArray, List.getElem?_cons_succ, List.getElem?_cons_zero]; rfl) (by kernel_rfl) (by kernel_rfl) (by kernel_rfl) (fun _ _ _ h => by exact h) (.inl ⟨by rfl, fun u hu => by go_simp; with_reducible rfl⟩) HS.out ?_
  try simp only [List.getElem_toArray, List.getElem_cons_succ, List.getElem_cons_zero, Act.put, List.setIfInBounds_toArray, List.set_cons_zero, List.set_cons_succ]
  change wpAnyH _ _ _ _ _ (64 + 1) _ _ _
  refine wpAnyH_take (i := 10) (by simp only [List.getElem?_toArray, List.getElem?_cons_succ, List.getElem?_cons_zero]; rfl) (by kernel_rfl) (by kernel_rfl) (by kernel_rfl) (fun _ _ _ h => by exact h) (.inl ⟨by rfl, fun u hu => by go_simp; with_reducible rfl⟩) HS.out ?_
  try simp only [List.getElem_toArray, List.getElem_cons_succ, List.getElem_cons_zero, Act.put, List.setIfInBounds_toArray, List.set_cons_zero, List.set_cons_succ]
  change wpAnyH _ _ _ _ _ (63 + 1) _ _ _
  refine wpAnyH_take (i := 11) (by simp only [List.getElem?_toArray, List.getElem?_cons_succ, List.getElem?_cons_zero]; rfl) (by kernel_rfl) (by kernel_rfl) (by kernel_rfl) (fun _ _ _ h => by exact h) (.inl ⟨by rfl, fun u hu => by go_simp; with_reducible rfl⟩) HS.out ?_
  try simp only [List.getElem_toArray, List.getElem_cons_succ, List.getElem_cons_zero, Act.put, List.setIfInBounds_toArray, List.set_cons_zero, List.set_cons_succ]
  change wpAnyH _ _ _ _ _ (62 + 1) _ _ _
  refine wpAnyH_take (i := 12) (by simp only [List.getElem?_toArray, List.getElem?_cons_succ, List.getElem?_cons_zero]; rfl) (by kernel_rfl) (by kernel_rfl) (by kernel_rfl) (fun _ _ _ h => by exact h) (.inl ⟨by rfl, fun u hu => by go_simp; with_reducible rfl⟩) HS.out ?_
  try simp only [List.getElem_toArray, List.getElem_cons_succ, List.getElem_cons_zero, Act.put, List.setIfInBounds_toArray, List.set_cons_zero, List.set_cons_succ]
  change wpAnyH _ _ _ _ _ (61 + 1) _ _ _
  refine wpAnyH_take (i := 13) (by simp only [List.getElem?_toArray, List.getElem?_cons_succ, List.getElem?_cons_zero]; rfl) (by kernel_rfl) (by kernel_rfl) (by kernel_rfl) (fun _ _ _ h => by exact h) (.inl ⟨by rfl, fun u hu => by go_simp; with_reducible rfl⟩) HS.out ?_
  try simp only [List.getElem_toArray, List.getElem_cons_succ, List.getElem_cons_zero, Act.put, List.setIfInBounds_toArray, List.set_cons_zero, List.set_cons_succ]
  change wpAnyH _ _ _ _ _ (60 + 1) _ _ _
  refine wpAnyH_take (i := 14) (by simp only [List.getElem?_toArray, List.getElem?_cons_succ, List.getElem?_cons_zero]; rfl) (by kernel_rfl) (by kernel_rfl) (by kernel_rfl) (fun _ _ _ h => by exact h) (.inl ⟨by rfl, fun u hu => by go_simp; with_reducible rfl⟩) HS.out ?_
  try simp only [List.getElem_toArray, List.getElem_cons_succ, List.getElem_cons_zero, Act.put, List.setIfInBounds_toArray, List.set_cons_zero, List.set_cons_succ]
  change wpAnyH _ _ _ _ _ (59 + 1) _ _ _
  refine wpAnyH_take (i := 15) (by simp only [List.getElem?_toArray, List.getElem?_cons_succ, List.getElem?_cons_zero]; rfl) (by kernel_rfl) (by kernel_rfl) (by kernel_rfl) (fun _ _ _ h => by exact h) (.inl ⟨by rfl, fun u hu => by go_simp; with_reducible rfl⟩) HS.out ?_
  try simp only [List.getElem_toArray, List.getElem_cons_succ, List.getElem_cons_zero, Act.put, List.setIfInBounds_toArray, List.set_cons_zero, List.set_cons_succ]
  change wpAnyH _ _ _ _ _ (58 + 1) _ _ _
  refine wpAnyH_take (i := 16) (by simp only [List.getElem?_toArray, List.getElem?_cons_succ, List.getElem?_cons_zero]; rfl) (by kernel_rfl) (by kernel_rfl) (by kernel_rfl) (fun _ _ _ h => by exact h) (.inl ⟨by rfl, fun u hu => by go_simp; with_reducible rfl⟩) HS.out ?_
  try simp only [List.getElem_toArray, List.getElem_cons_succ, List.getElem_cons_zero, Act.put, List.setIfInBounds_toArray, List.set_cons_zero, List.set_cons_succ]
  change wpAnyH _ _ _ _ _ (57 + 1) _ _ _
  refine wpAnyH_take (i := 17) (by simp only [List.getElem?_toArray, List.getElem?_cons_succ, List.getElem?_cons_zero]; rfl) (by kernel_rfl) (by kernel_rfl) (by kernel_rfl) (fun _ _ _ h => by exact h) (.inl ⟨by rfl, fun u hu => by go_simp; with_reducible rfl⟩) HS.out ?_
  try simp only [List.getElem_toArray, List.getElem_cons_succ, List.getElem_cons_zero, Act.put, List.setIfInBounds_toArray, List.set_cons_zero, List.set_cons_succ]
  change wpAnyH _ _ _ _ _ (56 + 1) _ _ _
  refine wpAnyH_take (i := 18) (by simp only [List.getElem?_toArray, List.getElem?_cons_succ, List.getElem?_cons_zero]; rfl) (by kernel_rfl) (by kernel_rfl) (by kernel_rfl) (fun _ _ _ h => by exact h) (.inl ⟨by rfl, fun u hu => by go_simp; with_reducible rfl⟩) HS.out ?_
  try simp only [List.getElem_toArray, List.getElem_cons_succ, List.getElem_cons_zero, Act.put, List.setIfInBounds_toArray, List.set_cons_zero, List.set_cons_succ]
  change wpAnyH _ _ _ _ _ (55 + 1) _ _ _
  refine wpAnyH_take (i := 19) (by simp only [List.getElem?_toArray, List.getElem?_cons_succ, List.getElem?_cons_zero]; rfl) (by kernel_rfl) (by kernel_rfl) (by kernel_rfl) (fun _ _ _ h => by exact h) (.inl ⟨by rfl, fun u hu => by go_simp; with_reducible rfl⟩) HS.out ?_
  try simp only [List.getElem_toArray, List.getElem_cons_succ, List.getElem_cons_zero, Act.put, List.setIfInBounds_toArray, List.set_cons_zero, List.set_cons_succ]
  change wpAnyH _ _ _ _ _ (54 + 1) _ _ _
  refine wpAnyH_take (i := 20) (by simp only [List.getElem?_toArray, List.getElem?_cons_succ, List.getElem?_cons_zero]; rfl) (by kernel_rfl) (by kernel_rfl) (by kernel_rfl) (fun _ _ _ h => by exact h) (.inl ⟨by rfl, fun u hu => by go_simp; with_reducible rfl⟩) HS.out ?_
  try simp only [List.getElem_toArray, List.getElem_cons_succ, List.getElem_cons_zero, Act.put, List.setIfInBounds_toArray, List.set_cons_zero, List.set_cons_succ]
  change wpAnyH _ _ _ _ _ (53 + 1) _ _ _
  refine wpAnyH_take (i := 21) (by simp only [List.getElem?_toArray, List.getElem?_cons_succ, List.getElem?_cons_zero]; rfl) (by kernel_rfl) (by kernel_rfl) (by kernel_rfl) (fun _ _ _ h => by exact h) (.inl ⟨by rfl, fun u hu => by go_simp; with_reducible rfl⟩) HS.out ?_
  try simp only [List.getElem_toArray, List.getElem_cons_succ, List.getElem_cons_zero, Act.put, List.setIfInBounds_toArray, List.set_cons_zero, List.set_cons_succ]
  change wpAnyH _ _ _ _ _ (52 + 1) _ _ _
  refine wpAnyH_take (i := 22) (v := .int .i64 n0) (by simp only [List.getElem?_toArray, List.getElem?_cons_succ, List.getElem?_cons_zero]; rfl) (by kernel_rfl) (by kernel_rfl) (by kernel_rfl) (fun _ _ _ h => by exact h) (.inl ⟨by rfl, fun u hu => Hold.load1_run hu 0 rfl rfl rfl (rfl) (Frm.cellInt)⟩) HS.out ?_
  try simp only [List.getElem_toArray, List.getElem_cons_succ, List.getElem_cons_zero, Act.put, List.setIfInBounds_toArray, List.set_cons_zero, List.set_cons_succ]
  change wpAnyH _ _ _ _ _ (51 + 1) _ _ _
  refine wpAnyH_take (i := 23) (by simp only [List.getElem?_toArray, List.getElem?_cons_succ, List.getElem?_cons_zero]; rfl) (by kernel_rfl) (by kernel_rfl) (by kernel_rfl) (fun _ _ _ h => by exact h) (.inl ⟨by rfl, fun u hu => by go_simp; with_reducible rfl⟩) HS.out ?_
  try simp only [List.getElem_toArray, List.getElem_cons_succ, List.getElem_cons_zero, Act.put, List.setIfInBounds_toArray, List.set_cons_zero, List.set_cons_succ]
  change wpAnyH _ _ _ _ _ (50 + 1) _ _ _
  refine wpAnyH_take (i := 24) (v := .int .i64 n1) (by simp only [List.getElem?_toArray, List.getElem?_cons_succ, List.getElem?_cons_zero]; rfl) (by kernel_rfl) (by kernel_rfl) (by kernel_rfl) (fun _ _ _ h => by exact h) (.inl ⟨by rfl, fun u hu => Hold.load1_run hu 0 rfl rfl rfl (rfl) (Frm.cellInt)⟩) HS.out ?_
  try simp only [List.getElem_toArray, List.getElem_cons_succ, List.getElem_cons_zero, Act.put, List.setIfInBounds_toArray, List.set_cons_zero, List.set_cons_succ]
  change wpAnyH _ _ _ _ _ (49 + 1) _ _ _
  refine wpAnyH_take (i := 25) (by simp only [List.getElem?_toArray, List.getElem?_cons_succ, List.getElem?_cons_zero]; rfl) (by kernel_rfl) (by kernel_rfl) (by kernel_rfl) (fun _ _ _ h => by exact h) (.inl ⟨by rfl, fun u hu => by go_simp; with_reducible rfl⟩) HS.out ?_
  try simp only [List.getElem_toArray, List.getElem_cons_succ, List.getElem_cons_zero, Act.put, List.setIfInBounds_toArray, List.set_cons_zero, List.set_cons_succ]
  change wpAnyH _ _ _ _ _ (48 + 1) _ _ _
  refine wpAnyH_take (i := 27) (by simp only [List.getElem?_toArray, List.getElem?_cons_succ, List.getElem?_cons_zero]; rfl) (by kernel_rfl) (by kernel_rfl) (by kernel_rfl) (fun _ _ _ h => by exact h) (.inl ⟨by rfl, fun u hu => by go_simp; with_reducible rfl⟩) HS.out ?_
  try simp only [List.getElem_toArray, List.getElem_cons_succ, List.getElem_cons_zero, Act.put, List.setIfInBounds_toArray, List.set_cons_zero, List.set_cons_succ]
  change wpAnyH _ _ _ _ _ (47 + 1) _ _ _
  refine wpAnyH_take (i := 28) (by simp only [List.getElem?_toArray, List.getElem?_cons_succ, List.getElem?_cons_zero]; rfl) (by kernel_rfl) (by kernel_rfl) (by kernel_rfl) (fun _ _ _ h => by exact h) (.inl ⟨by rfl, fun u hu => by go_simp; with_reducible rfl⟩) HS.out ?_
  try simp only [List.getElem_toArray, List.getElem_cons_succ, List.getElem_cons_zero, Act.put, List.setIfInBounds_toArray, List.set_cons_zero, List.set_cons_succ]
  change wpAnyH _ _ _ _ _ (46 + 1) _ _ _
  refine wpAnyH_take (i := 29) (v := .int .i64 n0) (by simp only [List.getElem?_toArray, List.getElem?_cons_succ, List.getElem?_cons_zero]; rfl) (by kernel_rfl) (by kernel_rfl) (by kernel_rfl) (fun _ _ _ h => by exact h) (.inl ⟨by rfl, fun u hu => Hold.load1_run hu 0 rfl rfl rfl (rfl) (Frm.cellInt)⟩) HS.out ?_
  try simp only [List.getElem_toArray, List.getElem_cons_succ, List.getElem_cons_zero, Act.put, List.setIfInBounds_toArray, List.set_cons_zero, List.set_cons_succ]
  change wpAnyH _ _ _ _ _ (45 + 1) _ _ _
  refine wpAnyH_take (i := 30) (by simp only [List.getElem?_toArray, List.getElem?_cons_succ, List.getElem?_cons_zero]; rfl) (by kernel_rfl) (by kernel_rfl) (by kernel_rfl) (fun _ _ _ h => by exact h) (.inl ⟨by rfl, fun u hu => by go_simp; with_reducible rfl⟩) HS.out ?_
  try simp only [List.getElem_toArray, List.getElem_cons_succ, List.getElem_cons_zero, Act.put, List.setIfInBounds_toArray, List.set_cons_zero, List.set_cons_succ]
  change wpAnyH _ _ _ _ _ (44 + 1) _ _ _
  refine wpAnyH_take (i := 31) (v := .int .i64 n1) (by simp only [List.getElem?_toArray, List.getElem?_cons_succ, List.getElem?_cons_zero]; rfl) (by kernel_rfl) (by kernel_rfl) (by kernel_rfl) (fun _ _ _ h => by exact h) (.inl ⟨by rfl, fun u hu => Hold.load1_run hu 0 rfl rfl rfl (rfl) (Frm.cellInt)⟩) HS.out ?_
  try simp only [List.getElem_toArray, List.getElem_cons_succ, List.getElem_cons_zero, Act.put, List.setIfInBounds_toArray, List.set_cons_zero, List.set_cons_succ]
  change wpAnyH _ _ _ _ _ (43 + 1) _ _ _
  refine wpAnyH_take (i := 32) (by simp only [List.getElem?_toArray, List.getElem?_cons_succ, List.getElem?_cons_zero]; rfl) (by kernel_rfl) (by kernel_rfl) (by kernel_rfl) (fun _ _ _ h => by exact h) (.inl ⟨by rfl, fun u hu => by go_simp; with_reducible rfl⟩) HS.out ?_
  try simp only [List.getElem_toArray, List.getElem_cons_succ, List.getElem_cons_zero, Act.put, List.setIfInBounds_toArray, List.set_cons_zero, List.set_cons_succ]
  change wpAnyH _ _ _ _ _ (42 + 1) _ _ _
  refine Steady.call_next (i := 26) (by kernel_rfl) (by simp only [List.getElem?_toArray, List.getElem?_cons_succ, List.getElem?_cons_zero]; rfl) (by kernel_rfl) _ _ (by go_simp) (fun v w' => v = .string X ∧ Below _ _ w') ((RX1.out _ HM.out.below).mono (fun e w' h => ⟨_, h.1, rfl, h.2⟩)) ?_
  rintro u w2 ⟨rfl, hb⟩
  replace HM := Lib.hid (HM.out.next hb)
  clear hb
  replace HS := Lib.hid (show Hold.Hld _ [⟨bx, 23, [.int .i64 n0, .int .i64 n1]⟩] _ from HM.out)
  refine ⟨HS.out, ?_⟩
  try simp only [List.getElem_toArray, List.getElem_cons_succ, List.getElem_cons_zero, Act.put, List.setIfInBounds_toArray, List.set_cons_zero, List.set_cons_succ]
  change wpAnyH _ _ _ _ _ (41 + 1) _ _ _
  refine Steady.call_next (i := 33) (by kernel_rfl) (by simp only [List.getElem?_toArray, List.getElem?_cons_succ, List.getElem?_cons_zero]; rfl) (by kernel_rfl) _ _ (by go_simp) (fun v w' => v = .string X ∧ Below _ _ w') ((RX2.out _ HM.out.below).mono (fun e w' h => ⟨_, h.1, rfl, h.2⟩)) ?_
  rintro u w2 ⟨rfl, hb⟩
  replace HM := Lib.hid (HM.out.next hb)
  clear hb
  replace HS := Lib.hid (show Hold.Hld _ [⟨bx, 23, [.int .i64 n0, .int .i64 n1]⟩] _ from HM.out)
  refine ⟨HS.out, ?_⟩
  try simp only [List.getElem_toArray, List.getElem_cons_succ, List.getElem_cons_zero, Act.put, List.setIfInBounds_toArray, List.set_cons_zero, List.set_cons_succ]
  change wpAnyH _ _ _ _ _ (40 + 1) _ _ _
  refine wpAnyH_take (i := 34) (by simp only [List.getElem?_toArray, List.getElem?_cons_succ, List.getElem?_cons_zero]; rfl) (by kernel_rfl) (by kernel_rfl) (by kernel_rfl) (fun _ _ _ h => by exact h) (.inl ⟨by rfl, fun u hu => by go_simp; with_reducible rfl⟩) HS.out ?_
  try simp only [List.getElem_toArray, List.getElem_cons_succ, List.getElem_cons_zero, Act.put, List.setIfInBounds_toArray, List.set_cons_zero, List.set_cons_succ]
  change wpAnyH _ _ _ _ _ (39 + 1) _ _ _
  refine wpAnyH_take (i := 35) (by simp only [List.getElem?_toArray, List.getElem?_cons_succ, List.getElem?_cons_zero]; rfl) (by kernel_rfl) (by kernel_rfl) (by kernel_rfl) (fun _ _ _ h => by exact h) (.inl ⟨by rfl, fun u hu => by go_simp; with_reducible rfl⟩) HS.out ?_
  try simp only [List.getElem_toArray, List.getElem_cons_succ, List.getElem_cons_zero, Act.put, List.setIfInBounds_toArray, List.set_cons_zero, List.set_cons_succ]
  change wpAnyH _ _ _ _ _ (38 + 1) _ _ _
  refine wpAnyH_take (i := 36) (by simp only [List.getElem?_toArray, List.getElem?_cons_succ, List.getElem?_cons_zero]; rfl) (by kernel_rfl) (by kernel_rfl) (by kernel_rfl) (fun _ _ _ h => by exact h) (.inl ⟨by rfl, fun u hu => by go_simp; with_reducible rfl⟩) HS.out ?_
  try simp only [List.getElem_toArray, List.getElem_cons_succ, List.getElem_cons_zero, Act.put, List.setIfInBounds_toArray, List.set_cons_zero, List.set_cons_succ]
  change wpAnyH _ _ _ _ _ (37 + 1) _ _ _
  refine wpAnyH_take (i := 37) (by simp only [List.getElem?_toArray, List.getElem?_cons_succ, List.getElem?_cons_zero]; rfl) (by kernel_rfl) (by kernel_rfl) (by kernel_rfl) (fun _ _ _ h => by exact h) (.inl ⟨by rfl, fun u hu => by go_simp; with_reducible rfl⟩) HS.out ?_
  try simp only [List.getElem_toArray, List.getElem_cons_succ, List.getElem_cons_zero, Act.put, List.setIfInBounds_toArray, List.set_cons_zero, List.set_cons_succ]
  change wpAnyH _ _ _ _ _ (36 + 1) _ _ _
  refine wpAnyH_take (i := 38) (by simp only [List.getElem?_toArray, List.getElem?_cons_succ, List.getElem?_cons_zero]; rfl) (by kernel_rfl) (by kernel_rfl) (by kernel_rfl) (fun _ _ _ h => by exact h) (.inl ⟨by rfl, fun u hu => by go_simp; with_reducible rfl⟩) HS.out ?_
  try simp only [List.getElem_toArray, List.getElem_cons_succ, List.getElem_cons_zero, Act.put, List.setIfInBounds_toArray, List.set_cons_zero, List.set_cons_succ]
  change wpAnyH _ _ _ _ _ (35 + 1) _ _ _
  refine wpAnyH_take (i := 39) (v := .int .i64 n1) (by simp only [List.getElem?_toArray, List.getElem?_cons_succ, List.getElem?_cons_zero]; rfl) (by kernel_rfl) (by kernel_rfl) (by kernel_rfl) (fun _ _ _ h => by exact h) (.inl ⟨by rfl, fun u hu => Hold.load1_run hu 0 rfl rfl rfl (rfl) (Frm.cellInt)⟩) HS.out ?_
  try simp only [List.getElem_toArray, List.getElem_cons_succ, List.getElem_cons_zero, Act.put, List.setIfInBounds_toArray, List.set_cons_zero, List.set_cons_succ]
  change wpAnyH _ _ _ _ _ (34 + 1) _ _ _
  refine wpAnyH_take (i := 40) (by simp only [List.getElem?_toArray, List.getElem?_cons_succ, List.getElem?_cons_zero]; rfl) (by kernel_rfl) (by kernel_rfl) (by kernel_rfl) (fun _ _ _ h => by exact h) (.inl ⟨by rfl, fun u hu => by go_simp; with_reducible rfl⟩) HS.out ?_
  try simp only [List.getElem_toArray, List.getElem_cons_succ, List.getElem_cons_zero, Act.put, List.setIfInBounds_toArray, List.set_cons_zero, List.set_cons_succ]
  change wpAnyH _ _ _ _ _ (33 + 1) _ _ _
  refine wpAnyH_take (i := 42) (by simp only [List.getElem?_toArray, List.getElem?_cons_succ, List.getElem?_cons_zero]; rfl) (by kernel_rfl) (by kernel_rfl) (by kernel_rfl) (fun _ _ _ h => by exact h) (.inl ⟨by rfl, fun u hu => by go_simp; with_reducible rfl⟩) HS.out ?_
  try simp only [List.getElem_toArray, List.getElem_cons_succ, List.getElem_cons_zero, Act.put, List.setIfInBounds_toArray, List.set_cons_zero, List.set_cons_succ]
  change wpAnyH _ _ _ _ _ (32 + 1) _ _ _
  refine wpAnyH_take (i := 43) (by simp only [List.getElem?_toArray, List.getElem?_cons_succ, List.getElem?_cons_zero]; rfl) (by kernel_rfl) (by kernel_rfl) (by kernel_rfl) (fun _ _ _ h => by exact h) (.inl ⟨by rfl, fun u hu => by go_simp; with_reducible rfl⟩) HS.out ?_
  try simp only [List.getElem_toArray, List.getElem_cons_succ, List.getElem_cons_zero, Act.put, List.setIfInBounds_toArray, List.set_cons_zero, List.set_cons_succ]
  change wpAnyH _ _ _ _ _ (31 + 1) _ _ _
  refine wpAnyH_take (i := 44) (v := .int .i64 n1) (by simp only [List.getElem?_toArray, List.getElem?_cons_succ, List.getElem?_cons_zero]; rfl) (by kernel_rfl) (by kernel_rfl) (by kernel_rfl) (fun _ _ _ h => by exact h) (.inl ⟨by rfl, fun u hu => Hold.load1_run hu 0 rfl rfl rfl (rfl) (Frm.cellInt)⟩) HS.out ?_
  try simp only [List.getElem_toArray, List.getElem_cons_succ, List.getElem_cons_zero, Act.put, List.setIfInBounds_toArray, List.set_cons_zero, List.set_cons_succ]
  change wpAnyH _ _ _ _ _ (30 + 1) _ _ _
  refine wpAnyH_take (i := 45) (by simp only [List.getElem?_toArray, List.getElem?_cons_succ, List.getElem?_cons_zero]; rfl) (by kernel_rfl) (by kernel_rfl) (by kernel_rfl) (fun _ _ _ h => by exact h) (.inl ⟨by rfl, fun u hu => by go_simp; with_reducible rfl⟩) HS.out ?_
  try simp only [List.getElem_toArray, List.getElem_cons_succ, List.getElem_cons_zero, Act.put, List.setIfInBounds_toArray, List.set_cons_zero, List.set_cons_succ]
  change wpAnyH _ _ _ _ _ (29 + 1) _ _ _
  refine Steady.call_next (i := 41) (by kernel_rfl) (by simp only [List.getElem?_toArray, List.getElem?_cons_succ, List.getElem?_cons_zero]; rfl) (by kernel_rfl) _ _ (by go_simp) (fun v w' => v = .int .i64 W ∧ Below _ _ w') ((RW1.out _ HM.out.below).mono (fun e w' h => ⟨_, h.1, rfl, h.2⟩)) ?_
  rintro u w2 ⟨rfl, hb⟩
  replace HM := Lib.hid (HM.out.next hb)
  clear hb
  replace HS := Lib.hid (show Hold.Hld _ [⟨bx, 23, [.int .i64 n0, .int .i64 n1]⟩] _ from HM.out)
  refine ⟨HS.out, ?_⟩
  try simp only [List.getElem_toArray, List.getElem_cons_succ, List.getElem_cons_zero, Act.put, List.setIfInBounds_toArray, List.set_cons_zero, List.set_cons_succ]
  change wpAnyH _ _ _ _ _ (28 + 1) _ _ _
  refine Steady.call_next (i := 46) (by kernel_rfl) (by simp only [List.getElem?_toArray, List.getElem?_cons_succ, List.getElem?_cons_zero]; rfl) (by kernel_rfl) _ _ (by go_simp) (fun v w' => v = .int .i64 W ∧ Below _ _ w') ((RW2.out _ HM.out.below).mono (fun e w' h => ⟨_, h.1, rfl, h.2⟩)) ?_
  rintro u w2 ⟨rfl, hb⟩
  replace HM := Lib.hid (HM.out.next hb)
  clear hb
  replace HS := Lib.hid (show Hold.Hld _ [⟨bx, 23, [.int .i64 n0, .int .i64 n1]⟩] _ from HM.out)
  refine ⟨HS.out, ?_⟩
  try simp only [List.getElem_toArray, List.getElem_cons_succ, List.getElem_cons_zero, Act.put, List.setIfInBounds_toArray, List.set_cons_zero, List.set_cons_succ]
  change wpAnyH _ _ _ _ _ (27 + 1) _ _ _
  refine wpAnyH_take (i := 47) (by simp only [List.getElem?_toArray, List.getElem?_cons_succ, List.getElem?_cons_zero]; rfl) (by kernel_rfl) (by kernel_rfl) (by kernel_rfl) (fun _ _ _ h => by exact h) (.inl ⟨by rfl, fun u hu => by go_simp; with_reducible rfl⟩) HS.out ?_
  try simp only [List.getElem_toArray, List.getElem_cons_succ, List.getElem_cons_zero, Act.put, List.setIfInBounds_toArray, List.set_cons_zero, List.set_cons_succ]
  change wpAnyH _ _ _ _ _ (26 + 1) _ _ _
  refine wpAnyH_take (i := 48) (by simp only [List.getElem?_toArray, List.getElem?_cons_succ, List.getElem?_cons_zero]; rfl) (by kernel_rfl) (by kernel_rfl) (by kernel_rfl) (fun _ _ _ h => by exact h) (.inl ⟨by rfl, fun u hu => by go_simp; with_reducible rfl⟩) HS.out ?_
  try simp only [List.getElem_toArray, List.getElem_cons_succ, List.getElem_cons_zero, Act.put, List.setIfInBounds_toArray, List.set_cons_zero, List.set_cons_succ]
  change wpAnyH _ _ _ _ _ (25 + 1) _ _ _
  refine wpAnyH_take (i := 49) (by simp only [List.getElem?_toArray, List.getElem?_cons_succ, List.getElem?_cons_zero]; rfl) (by kernel_rfl) (by kernel_rfl) (by kernel_rfl) (fun _ _ _ h => by exact h) (.inl ⟨by rfl, fun u hu => by go_simp; with_reducible rfl⟩) HS.out ?_
  try simp only [List.getElem_toArray, List.getElem_cons_succ, List.getElem_cons_zero, Act.put, List.setIfInBounds_toArray, List.set_cons_zero, List.set_cons_succ]
  change wpAnyH _ _ _ _ _ (24 + 1) _ _ _
  refine wpAnyH_take (i := 50) (by simp only [List.getElem?_toArray, List.getElem?_cons_succ, List.getElem?_cons_zero]; rfl) (by kernel_rfl) (by kernel_rfl) (by kernel_rfl) (fun _ _ _ h => by exact h) (.inl ⟨by rfl, fun u hu => by go_simp; with_reducible rfl⟩) HS.out ?_
  try simp only [List.getElem_toArray, List.getElem_cons_succ, List.getElem_cons_zero, Act.put, List.setIfInBounds_toArray, List.set_cons_zero, List.set_cons_succ]
  change wpAnyH _ _ _ _ _ (23 + 1) _ _ _
  refine wpAnyH_take (i := 51) (v := .int .i64 n1) (by simp only [List.getElem?_toArray, List.getElem?_cons_succ, List.getElem?_cons_zero]; rfl) (by kernel_rfl) (by kernel_rfl) (by kernel_rfl) (fun _ _ _ h => by exact h) (.inl ⟨by rfl, fun u hu => Hold.load1_run hu 0 rfl rfl rfl (rfl) (Frm.cellInt)⟩) HS.out ?_
  try simp only [List.getElem_toArray, List.getElem_cons_succ, List.getElem_cons_zero, Act.put, List.setIfInBounds_toArray, List.set_cons_zero, List.set_cons_succ]
  change wpAnyH _ _ _ _ _ (22 + 1) _ _ _
  refine wpAnyH_take (i := 53) (by simp only [List.getElem?_toArray, List.getElem?_cons_succ, List.getElem?_cons_zero]; rfl) (by kernel_rfl) (by kernel_rfl) (by kernel_rfl) (fun _ _ _ h => by exact h) (.inl ⟨by rfl, fun u hu => by go_simp; with_reducible rfl⟩) HS.out ?_
  try simp only [List.getElem_toArray, List.getElem_cons_succ, List.getElem_cons_zero, Act.put, List.setIfInBounds_toArray, List.set_cons_zero, List.set_cons_succ]
  change wpAnyH _ _ _ _ _ (21 + 1) _ _ _
  refine wpAnyH_take (i := 54) (v := .int .i64 n1) (by simp only [List.getElem?_toArray, List.getElem?_cons_succ, List.getElem?_cons_zero]; rfl) (by kernel_rfl) (by kernel_rfl) (by kernel_rfl) (fun _ _ _ h => by exact h) (.inl ⟨by rfl, fun u hu => Hold.load1_run hu 0 rfl rfl rfl (rfl) (Frm.cellInt)⟩) HS.out ?_
  try simp only [List.getElem_toArray, List.getElem_cons_succ, List.getElem_cons_zero, Act.put, List.setIfInBounds_toArray, List.set_cons_zero, List.set_cons_succ]
  change wpAnyH _ _ _ _ _ (20 + 1) _ _ _
  refine Steady.call_next (i := 52) (by kernel_rfl) (by simp only [List.getElem?_toArray, List.getElem?_cons_succ, List.getElem?_cons_zero]; rfl) (by kernel_rfl) _ _ (by go_simp) (fun v w' => ∃ a1 c1, v = .slice a1 N1 c1 ∧ ZsR w' a1 L1 ∧ Below _ _ w') ((RF1.out _).mono (fun e w' h => by obtain ⟨a1, c1, h1, -, h2, h4⟩ := h; exact ⟨_, h1, a1, c1, rfl, h2, h4⟩)) ?_
  rintro u w2 ⟨a1, c1, rfl, hz, hb⟩
  replace HM := Lib.hid (HM.out.next hb)
  have HZ1 := Lib.hid hz
  clear hb hz
  replace HS := Lib.hid (show Hold.Hld _ [⟨bx, 23, [.int .i64 n0, .int .i64 n1]⟩] _ from HM.out)
  refine ⟨HS.out, ?_⟩
  try simp only [List.getElem_toArray, List.getElem_cons_succ, List.getElem_cons_zero, Act.put, List.setIfInBounds_toArray, List.set_cons_zero, List.set_cons_succ]
  change wpAnyH _ _ _ _ _ (19 + 1) _ _ _
  refine Steady.call_next (i := 55) (by kernel_rfl) (by simp only [List.getElem?_toArray, List.getElem?_cons_succ, List.getElem?_cons_zero]; rfl) (by kernel_rfl) _ _ (by go_simp) (fun v w' => ∃ a2 c2, v = .slice a2 N1 c2 ∧ ZsR w' a2 L1 ∧ Below _ _ w') ((RF2.out _).mono (fun e w' h => by obtain ⟨a1, c1, h1, -, h2, h4⟩ := h; exact ⟨_, h1, a1, c1, rfl, h2, h4⟩)) ?_
  rintro u w2 ⟨a2, c2, rfl, hz, hb⟩
  replace HM := Lib.hid (HM.out.next hb)
  replace HZ1 := Lib.hid (HZ1.out.below hb)
  have HZ2 := Lib.hid hz
  clear hb hz
  replace HS := Lib.hid (show Hold.Hld _ [⟨bx, 23, [.int .i64 n0, .int .i64 n1]⟩] _ from HM.out)
  refine ⟨HS.out, ?_⟩
  try simp only [List.getElem_toArray, List.getElem_cons_succ, List.getElem_cons_zero, Act.put, List.setIfInBounds_toArray, List.set_cons_zero, List.set_cons_succ]
  change wpAnyH _ _ _ _ _ (18 + 1) _ _ _
  refine Steady.call_next (i := 56) (by kernel_rfl) (by simp only [List.getElem?_toArray, List.getElem?_cons_succ, List.getElem?_cons_zero]; rfl) (by kernel_rfl) _ _ (by go_simp) (fun v w' => v = .bool true ∧ Below _ _ w') ((RI1.out a1 a2 c1 c2 _ HZ1.out HZ2.out).mono (fun e w' h => ⟨_, h.1, rfl, h.2⟩)) ?_
  rintro u w2 ⟨rfl, hb⟩
  replace HM := Lib.hid (HM.out.next hb)
  clear hb
  replace HS := Lib.hid (show Hold.Hld _ [⟨bx, 23, [.int .i64 n0, .int .i64 n1]⟩] _ from HM.out)
  refine ⟨HS.out, ?_⟩
  try simp only [List.getElem_toArray, List.getElem_cons_succ, List.getElem_cons_zero, Act.put, List.setIfInBounds_toArray, List.set_cons_zero, List.set_cons_succ]
  change wpAnyH _ _ _ _ _ (17 + 1) _ _ _
  refine wpAnyH_take (i := 57) (by simp only [List.getElem?_toArray, List.getElem?_cons_succ, List.getElem?_cons_zero]; rfl) (by kernel_rfl) (by kernel_rfl) (by kernel_rfl) (fun _ _ _ h => by exact h) (.inl ⟨by rfl, fun u hu => by go_simp; with_reducible rfl⟩) HS.out ?_
  try simp only [List.getElem_toArray, List.getElem_cons_succ, List.getElem_cons_zero, Act.put, List.setIfInBounds_toArray, List.set_cons_zero, List.set_cons_succ]
  change wpAnyH _ _ _ _ _ (16 + 1) _ _ _
  refine wpAnyH_take (i := 58) (by simp only [List.getElem?_toArray, List.getElem?_cons_succ, List.getElem?_cons_zero]; rfl) (by kernel_rfl) (by kernel_rfl) (by kernel_rfl) (fun _ _ _ h => by exact h) (.inl ⟨by rfl, fun u hu => by go_simp; with_reducible rfl⟩) HS.out ?_
  try simp only [List.getElem_toArray, List.getElem_cons_succ, List.getElem_cons_zero, Act.put, List.setIfInBounds_toArray, List.set_cons_zero, List.set_cons_succ]
  change wpAnyH _ _ _ _ _ (15 + 1) _ _ _
  refine wpAnyH_take (i := 59) (by simp only [List.getElem?_toArray, List.getElem?_cons_succ, List.getElem?_cons_zero]; rfl) (by kernel_rfl) (by kernel_rfl) (by kernel_rfl) (fun _ _ _ h => by exact h) (.inl ⟨by rfl, fun u hu => by go_simp; with_reducible rfl⟩) HS.out ?_
  try simp only [List.getElem_toArray, List.getElem_cons_succ, List.getElem_cons_zero, Act.put, List.setIfInBounds_toArray, List.set_cons_zero, List.set_cons_succ]
  change wpAnyH _ _ _ _ _ (14 + 1) _ _ _
  refine wpAnyH_take (i := 60) (by simp only [List.getElem?_toArray, List.getElem?_cons_succ, List.getElem?_cons_zero]; rfl) (by kernel_rfl) (by kernel_rfl) (by kernel_rfl) (fun _ _ _ h => by exact h) (.inl ⟨by rfl, fun u hu => by go_simp; with_reducible rfl⟩) HS.out ?_
  try simp only [List.getElem_toArray, List.getElem_cons_succ, List.getElem_cons_zero, Act.put, List.setIfInBounds_toArray, List.set_cons_zero, List.set_cons_succ]
  change wpAnyH _ _ _ _ _ (13 + 1) _ _ _
  refine wpAnyH_take (i := 61) (v := .int .i64 n0) (by simp only [List.getElem?_toArray, List.getElem?_cons_succ, List.getElem?_cons_zero]; rfl) (by kernel_rfl) (by kernel_rfl) (by kernel_rfl) (fun _ _ _ h => by exact h) (.inl ⟨by rfl, fun u hu => Hold.load1_run hu 0 rfl rfl rfl (rfl) (Frm.cellInt)⟩) HS.out ?_
  try simp only [List.getElem_toArray, List.getElem_cons_succ, List.getElem_cons_zero, Act.put, List.setIfInBounds_toArray, List.set_cons_zero, List.set_cons_succ]
  change wpAnyH _ _ _ _ _ (12 + 1) _ _ _
  refine wpAnyH_take (i := 62) (by simp only [List.getElem?_toArray, List.getElem?_cons_succ, List.getElem?_cons_zero]; rfl) (by kernel_rfl) (by kernel_rfl) (by kernel_rfl) (fun _ _ _ h => by exact h) (.inl ⟨by rfl, fun u hu => by go_simp; with_reducible rfl⟩) HS.out ?_
  try simp only [List.getElem_toArray, List.getElem_cons_succ, List.getElem_cons_zero, Act.put, List.setIfInBounds_toArray, List.set_cons_zero, List.set_cons_succ]
  change wpAnyH _ _ _ _ _ (11 + 1) _ _ _
  refine wpAnyH_take (i := 64) (by simp only [List.getElem?_toArray, List.getElem?_cons_succ, List.getElem?_cons_zero]; rfl) (by kernel_rfl) (by kernel_rfl) (by kernel_rfl) (fun _ _ _ h => by exact h) (.inl ⟨by rfl, fun u hu => by go_simp; with_reducible rfl⟩) HS.out ?_
  try simp only [List.getElem_toArray, List.getElem_cons_succ, List.getElem_cons_zero, Act.put, List.setIfInBounds_toArray, List.set_cons_zero, List.set_cons_succ]
  change wpAnyH _ _ _ _ _ (10 + 1) _ _ _
  refine wpAnyH_take (i := 65) (by simp only [List.getElem?_toArray, List.getElem?_cons_succ, List.getElem?_cons_zero]; rfl) (by kernel_rfl) (by kernel_rfl) (by kernel_rfl) (fun _ _ _ h => by exact h) (.inl ⟨by rfl, fun u hu => by go_simp; with_reducible rfl⟩) HS.out ?_
  try simp only [List.getElem_toArray, List.getElem_cons_succ, List.getElem_cons_zero, Act.put, List.setIfInBounds_toArray, List.set_cons_zero, List.set_cons_succ]
  change wpAnyH _ _ _ _ _ (9 + 1) _ _ _
  refine wpAnyH_take (i := 66) (v := .int .i64 n0) (by simp only [List.getElem?_toArray, List.getElem?_cons_succ, List.getElem?_cons_zero]; rfl) (by kernel_rfl) (by kernel_rfl) (by kernel_rfl) (fun _ _ _ h => by exact h) (.inl ⟨by rfl, fun u hu => Hold.load1_run hu 0 rfl rfl rfl (rfl) (Frm.cellInt)⟩) HS.out ?_
  try simp only [List.getElem_toArray, List.getElem_cons_succ, List.getElem_cons_zero, Act.put, List.setIfInBounds_toArray, List.set_cons_zero, List.set_cons_succ]
  change wpAnyH _ _ _ _ _ (8 + 1) _ _ _
  refine wpAnyH_take (i := 67) (by simp only [List.getElem?_toArray, List.getElem?_cons_succ, List.getElem?_cons_zero]; rfl) (by kernel_rfl) (by kernel_rfl) (by kernel_rfl) (fun _ _ _ h => by exact h) (.inl ⟨by rfl, fun u hu => by go_simp; with_reducible rfl⟩) HS.out ?_
  try simp only [List.getElem_toArray, List.getElem_cons_succ, List.getElem_cons_zero, Act.put, List.setIfInBounds_toArray, List.set_cons_zero, List.set_cons_succ]
  change wpAnyH _ _ _ _ _ (7 + 1) _ _ _
  refine Steady.call_next (i := 63) (by kernel_rfl) (by simp only [List.getElem?_toArray, List.getElem?_cons_succ, List.getElem?_cons_zero]; rfl) (by kernel_rfl) _ _ (by go_simp) (fun v w' => ∃ a3 c3, v = .slice a3 N2 c3 ∧ ZsR w' a3 L2 ∧ Below _ _ w') ((RN1.out _ HM.out.below).mono (fun e w' h => by obtain ⟨a1, c1, h1, -, h2, h4⟩ := h; exact ⟨_, h1, a1, c1, rfl, h2, h4⟩)) ?_
  rintro u w2 ⟨a3, c3, rfl, hz, hb⟩
  replace HM := Lib.hid (HM.out.next hb)
  have HZ3 := Lib.hid hz
  clear hb hz
  replace HS := Lib.hid (show Hold.Hld _ [⟨bx, 23, [.int .i64 n0, .int .i64 n1]⟩] _ from HM.out)
  refine ⟨HS.out, ?_⟩
  try simp only [List.getElem_toArray, List.getElem_cons_succ, List.getElem_cons_zero, Act.put, List.setIfInBounds_toArray, List.set_cons_zero, List.set_cons_succ]
  change wpAnyH _ _ _ _ _ (6 + 1) _ _ _
  refine Steady.call_next (i := 68) (by kernel_rfl) (by simp only [List.getElem?_toArray, List.getElem?_cons_succ, List.getElem?_cons_zero]; rfl) (by kernel_rfl) _ _ (by go_simp) (fun v w' => ∃ a4 c4, v = .slice a4 N2 c4 ∧ ZsR w' a4 L2 ∧ Below _ _ w') ((RN2.out _ HM.out.below).mono (fun e w' h => by obtain ⟨a1, c1, h1, -, h2, h4⟩ := h; exact ⟨_, h1, a1, c1, rfl, h2, h4⟩)) ?_
  rintro u w2 ⟨a4, c4, rfl, hz, hb⟩
  replace HM := Lib.hid (HM.out.next hb)
  replace HZ3 := Lib.hid (HZ3.out.below hb)
  have HZ4 := Lib.hid hz
  clear hb hz
  replace HS := Lib.hid (show Hold.Hld _ [⟨bx, 23, [.int .i64 n0, .int .i64 n1]⟩] _ from HM.out)
  refine ⟨HS.out, ?_⟩
  try simp only [List.getElem_toArray, List.getElem_cons_succ, List.getElem_cons_zero, Act.put, List.setIfInBounds_toArray, List.set_cons_zero, List.set_cons_succ]
  change wpAnyH _ _ _ _ _ (5 + 1) _ _ _
  refine Steady.call_next (i := 69) (by kernel_rfl) (by simp only [List.getElem?_toArray, List.getElem?_cons_succ, List.getElem?_cons_zero]; rfl) (by kernel_rfl) _ _ (by go_simp) (fun v w' => v = .bool true ∧ Below _ _ w') ((RI2.out a3 a4 c3 c4 _ HZ3.out HZ4.out).mono (fun e w' h => ⟨_, h.1, rfl, h.2⟩)) ?_
  rintro u w2 ⟨rfl, hb⟩
  replace HM := Lib.hid (HM.out.next hb)
  clear hb
  replace HS := Lib.hid (show Hold.Hld _ [⟨bx, 23, [.int .i64 n0, .int .i64 n1]⟩] _ from HM.out)
  refine ⟨HS.out, ?_⟩
  try simp only [List.getElem_toArray, List.getElem_cons_succ, List.getElem_cons_zero, Act.put, List.setIfInBounds_toArray, List.set_cons_zero, List.set_cons_succ]
  change wpAnyH _ _ _ _ _ (4 + 1) _ _ _
  refine wpAnyH_take (i := 70) (by simp only [List.getElem?_toArray, List.getElem?_cons_succ, List.getElem?_cons_zero]; rfl) (by kernel_rfl) (by kernel_rfl) (by kernel_rfl) (fun _ _ _ h => by exact h) (.inl ⟨by rfl, fun u hu => by go_simp; with_reducible rfl⟩) HS.out ?_
  try simp only [List.getElem_toArray, List.getElem_cons_succ, List.getElem_cons_zero, Act.put, List.setIfInBounds_toArray, List.set_cons_zero, List.set_cons_succ]
  change wpAnyH _ _ _ _ _ (3 + 1) _ _ _
  refine wpAnyH_take (i := 71) (by simp only [List.getElem?_toArray, List.getElem?_cons_succ, List.getElem?_cons_zero]; rfl) (by kernel_rfl) (by kernel_rfl) (by kernel_rfl) (fun _ _ _ h => by exact h) (.inl ⟨by rfl, fun u hu => by go_simp; with_reducible rfl⟩) HS.out ?_
  try simp only [List.getElem_toArray, List.getElem_cons_succ, List.getElem_cons_zero, Act.put, List.setIfInBounds_toArray, List.set_cons_zero, List.set_cons_succ]
  change wpAnyH _ _ _ _ _ (2 + 1) _ _ _
  refine Steady.call_next (i := 72) (by kernel_rfl) (by simp only [List.getElem?_toArray, List.getElem?_cons_succ, List.getElem?_cons_zero]; rfl) (by kernel_rfl) _ _ (by go_simp) (fun v w' => v = .bool true ∧ Below _ _ w') ((RA.out _ HM.out.below).mono (fun e w' h => ⟨_, h.1, rfl, h.2⟩)) ?_
  rintro u w2 ⟨rfl, hb⟩
  replace HM := Lib.hid (HM.out.next hb)
  clear hb
  replace HS := Lib.hid (show Hold.Hld _ [⟨bx, 23, [.int .i64 n0, .int .i64 n1]⟩] _ from HM.out)
  refine ⟨HS.out, ?_⟩
  try simp only [List.getElem_toArray, List.getElem_cons_succ, List.getElem_cons_zero, Act.put, List.setIfInBounds_toArray, List.set_cons_zero, List.set_cons_succ]
  change wpAnyH _ _ _ _ _ (1 + 1) _ _ _
  refine wpAnyH_take (i := 73) (by simp only [List.getElem?_toArray, List.getElem?_cons_succ, List.getElem?_cons_zero]; rfl) (by kernel_rfl) (by kernel_rfl) (by kernel_rfl) (fun _ _ _ h => by exact h) (.inl ⟨by rfl, fun u hu => by go_simp; with_reducible rfl⟩) HS.out ?_
  try simp only [List.getElem_toArray, List.getElem_cons_succ, List.getElem_cons_zero, Act.put, List.setIfInBounds_toArray, List.set_cons_zero, List.set_cons_succ]
  change wpAnyH _ _ _ _ _ (0 + 1) _ _ _
  refine wpAnyH_take (i := 74) (by simp only [List.getElem?_toArray, List.getElem?_cons_succ, List.getElem?_cons_zero]; rfl) (by kernel_rfl) (by kernel_rfl) (by kernel_rfl) (fun _ _ _ h => by exact h) (.inl ⟨by rfl, fun u hu => by go_simp; with_reducible rfl⟩) HS.out ?_
  try simp only [List.getElem_toArray, List.getElem_cons_succ, List.getElem_cons_zero, Act.put, List.setIfInBounds_toArray, List.set_cons_zero, List.set_cons_succ]
  refine wpAnyH_done (by kernel_rfl) ?_ _
  go_wp2
  go_ret
  exact ⟨by simp, HM.out.below⟩

set_option maxHeartbeats 1600000 in
theorem lifted (con : Lyo.Con) (fc : Frm.Con) (os : Os) (started : os.Started) (H : Type) (enc : TypeId × Value → H) :
    ReturnsInHanded {} Tryz.checked os 3 .any (fun w args => (Rows.layoutSaysSpec.pre enc Tryz.prog Tryz.f3 [] false w args ∧ laidMetH Tryz.prog Lyk.laidL w) ∧ sizedMet enc Tryz.prog Tryz.f3 (OpenSpec.ofChange Rows.layoutSaysSpec) false w args)
      (Rows.layoutSaysSpec.post enc Tryz.prog Tryz.f3 false true false false) := by
  refine returnsInHanded_of_change_and (C := Tryz.checked) (X := fun w _ => laidMetH Tryz.prog Lyk.laidL w) (fun _ _ _ hh h => h.of_heap hh) Lyk.own started (by kernel_rfl) Tryz.func3
    (ChangeSpec.witness_shaped (enc := enc) (C := Tryz.checked) (os := os) (X := fun w _ => laidMetH Tryz.prog Lyk.laidL w) false (World.laidAll Tryz.prog os Lyk.laidL) #[.slice none 0 0, .agg #[.int .i64 0, .int .i64 0], .string ByteArray.empty] 8 (World.laidAll_os _ _ _) (Lyk.table_shaped os _) (by kernel_rfl) (by kernel_rfl) (by kernel_rfl) (Lyk.table_met os _)) ?_
  intro W base args ds gs before hval0 hW _ hsz0 hL _
  have hval : ∀ (j : Nat) t v, Tryz.f3.params[j]? = some t → args[j]? = some v → Value.okWide Tryz.prog W .any base t v := hval0
  have hsz : (DataW.weightsEach Tryz.prog (Tryz.f3.params.toList ++ Rows.layoutSaysSpec.plain.varTypes Tryz.prog) (ds ++ gs)).all (· ≤ reachBytes) = true := hsz0
  clear hsz0
  have hW' := hW
  obtain ⟨p, q, hA0, hV, rfl, hfz, hnd⟩ := hW
  have hA : DataW.TrodAll enc Tryz.prog W 0 (fun _ => true) true Tryz.f3.params.toList args.toList ds p := hA0
  rw [Tryz.params3] at hA hval hsz
  obtain ⟨v0, vs0, d0, ds0, p0, q0, hargs, rfl, rfl, h0, r0⟩ := trodAll_cons hA
  obtain ⟨v1, vs1, d1, ds1, p1, q1, rfl, rfl, rfl, h1, r1⟩ := trodAll_cons r0
  obtain ⟨v2, vs2, d2, ds2, p2, q2, rfl, rfl, rfl, h2, r2⟩ := trodAll_cons r1
  obtain ⟨rfl, rfl, rfl⟩ := trodAll_nil r2
  obtain rfl : args = #[v0, v1, v2] := by cases args; simp_all
  obtain ⟨rfl, rfl⟩ := trodVars_none hV
  obtain ⟨a0, len0, cap0, rfl⟩ := okWide_slice Tryz.underlying22 (hval 0 22 v0 rfl rfl)
  have k0 := h0
  have lt0 : ∀ x ∈ p0, x.block < W.heap.size := by obtain ⟨m, hm⟩ := k0; exact DataW.trod_lt m _ _ _ hm
  obtain ⟨z0, w0, x0, y0, c0, u0⟩ := Zs.ints_came h0
  have k1 := h1
  have lt1 : ∀ x ∈ p1, x.block < W.heap.size := by obtain ⟨m, hm⟩ := k1; exact DataW.trod_lt m _ _ _ hm
  obtain ⟨x1, y1, rfl, b1, e1⟩ := Zs.open_two (hval 1 23 v1 rfl rfl) h1
  obtain ⟨a2, rfl, rfl, rfl, w2⟩ := open_string Tryz.underlying9 (hval 2 9 v2 rfl rfl) h2
  have zz2 := sized_string hsz (j := 2) (t := 9) (bytes := a2.data.toList) rfl rfl
  have hcl := Lyk.of_laid hL
  clear hA0 hval0
  refine (walk con fc z0 len0 a0 cap0 x1 y1 a2 W w0 x0 y0 c0 u0 b1 e1 (show a2.size ≤ 140737488351232 from Nat.le_trans zz2 (by decide)) hcl).mono fun e W' ⟨he, bel⟩ => ?_
  subst he
  exact ⟨_, rfl, _, _, _, [], _, [], hW', trodAll_mk1 (shut_bool Tryz.underlying4 _), (trodAll_cons_mk (Below.trod Lyk.laidOut (by kernel_rfl) (of_decide_eq_true (by kernel_rfl)) k0 bel lt0) (trodAll_cons_mk (Below.trod Lyk.laidOut (by kernel_rfl) (of_decide_eq_true (by kernel_rfl)) k1 bel lt1) (trodAll_cons_mk (shut_string Tryz.underlying9 w2) trodAll_mk0))), rfl, bel.frame _, fun h => by cases h⟩

theorem over (con : Lyo.Con) (fc : Frm.Con) : Rows.LayoutSaysSaid :=
  OpenClaim.holds_of_wide 3 Tryz.f3 rfl rfl rfl rfl rfl rfl rfl ⟨rfl, rfl, rfl, rfl, rfl⟩ rfl rfl rfl rfl rfl (by kernel_rfl) Tryz.func3 (by kernel_rfl)
    (of_decide_eq_true (by kernel_rfl)) (by unfold Func.isWrapper; first | (rw [if_pos (by decide +kernel)]; kernel_rfl) | (rw [if_neg (by decide +kernel)]; exact ⟨rfl, rfl⟩))
    (fun os started H enc _ => lifted con fc os started H enc)

theorem of_con (con : Lyo.Con) (fc : Frm.Con) : Rows.LayoutSaysCardSaid :=
  Claim7.holds_tied_plain_at .later [] [.data, .data, .pinned] true Rows.layoutSaysCard.stood.harness false
    (over con fc) (fun _ h => by cases h) (by kernel_rfl) (fun _ h => by cases h) layoutSays_row_tie rfl ⟨rfl, rfl⟩ (by kernel_rfl) rfl
    (fun f fn hf hfn => by
      obtain rfl : f = 3 := Option.some.inj ((show Tryz.prog.funcNamed "murmur/murmurlaw19.LayoutSays" = some 3 by kernel_rfl).symm.trans hf) |>.symm
      obtain rfl : fn = Tryz.f3 := (Option.some.inj (Tryz.func3.symm.trans hfn)).symm
      exact ⟨by kernel_rfl, fun j t ht => by
        rw [Tryz.params3] at ht
        have hm : t ∈ [22, 23, 9] := by simpa using Array.mem_of_getElem? ht
        have hall : ([22, 23, 9].all fun u => !Tryz.prog.wantsStandIn u) = true := by kernel_rfl
        exact (show Tryz.prog.wantsStandIn t = false by simpa using List.all_eq_true.1 hall t hm)⟩)
    (by kernel_rfl)
/-- The statement. -/
theorem proved : Rows.LayoutSaysCardSaid := of_con Lyo.con Frm.con
#print axioms proved
end Go.Proofs.YtedgpglldlohfaaGreatDoor.LawYSy
