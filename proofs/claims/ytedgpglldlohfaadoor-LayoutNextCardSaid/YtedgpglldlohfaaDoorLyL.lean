/-
  The landed package layout: what its array of capacities is (capacities), where bytes end (ends), Total, Spot, Slot, Want, First and Share answer what the plain mathematics of the text Lyo says; all memory that was there is left as it was. Conditions: no more than a hundred slots, numbers of 64 bits, a text of no more than 10000 bytes.
-/
import Derived.Test.YtedgpglldlohfaaDoorLyP
import Derived.Test.YtedgpglldlohfaaDoorLyW
import Derived.Test.YtedgpglldlohfaaDoorFrB
import Derived.Test.YtedgpglldlohfaaDoorFrlz
import Derived.BigQuiet
import Derived.Deep.QuietTactic
namespace Go.Proofs.YtedgpglldlohfaaDoor.Lyl
open Go.RowKit Mur Lanes Prt Tap Cel Frm Lyo Zs
set_option maxRecDepth 100000
set_option linter.unusedSimpArgs false

def capsL (l : List Int) : List Int := few l ++ List.replicate (6 - (few l).length) 0
theorem few_six (l : List Int) : (few l).length ≤ 6 := by rw [few_length]; omega
theorem capsL_length (l : List Int) : (capsL l).length = 6 := by
  have := few_length l
  rw [capsL, List.length_append, List.length_replicate]
  omega
theorem capsL_at (l : List Int) (q : Nat) (x : Int) (h : (few l)[q]? = some x) : (capsL l)[q]? = some x := by
  rw [capsL, List.getElem?_append_left (List.getElem?_eq_some_iff.1 h).1]
  exact h
def zeroC : List Value := zsV (List.replicate 6 0)
def zeroE : List Value := zsV (List.replicate 7 0)
theorem zeroC_length : zeroC.length = 6 := rfl
theorem zeroE_length : zeroE.length = 7 := rfl
theorem zero_caps : (Tryd.prog.info? 49).map (fun i => (i.zero, i.size)) = some (some (.agg zeroC.toArray), zeroC.length) := by kernel_rfl
theorem zero_ends : (Tryd.prog.info? 46).map (fun i => (i.zero, i.size)) = some (some (.agg zeroE.toArray), zeroE.length) := by kernel_rfl
theorem row6 (C : List Int) (h : C.length = 6) : Hold.TyRow Tryd.prog 49 (zsV C).length := ⟨_, Tryd.underlying49, rfl, by rw [zsV_length, h]; kernel_rfl⟩
theorem row7 (C : List Int) (h : C.length = 7) : Hold.TyRow Tryd.prog 46 (zsV C).length := ⟨_, Tryd.underlying46, rfl, by rw [zsV_length, h]; kernel_rfl⟩
theorem row77 : Hold.TyRow Tryd.prog 46 7 := ⟨_, Tryd.underlying46, rfl, by kernel_rfl⟩
theorem zs_one (C : List Int) : Hold.Single (zsV C) := by
  unfold Hold.Single
  simp only [List.all_toArray, List.all_eq_true]
  exact zsV_one C
/-- The ends of the first k slots, and how many slots there are ahead of them. -/
def endsL (l : List Int) (s : Int) (k : Nat) : List Int := (List.range (k + 1)).map (at_ l s) ++ List.replicate (6 - k) 0
theorem endsL_length (l : List Int) (s : Int) (k : Nat) (h : k ≤ 6) : (endsL l s k).length = 7 := by
  rw [endsL, List.length_append, List.length_map, List.length_range, List.length_replicate]
  omega
theorem endsL_at (l : List Int) (s : Int) (k q : Nat) (h : q ≤ k) : (endsL l s k)[q]? = some (at_ l s q) := by
  rw [endsL, List.getElem?_append_left (by rw [List.length_map, List.length_range]; omega), List.getElem?_map, List.getElem?_range (by omega)]
  rfl
theorem endsL_next (l : List Int) (s : Int) (k : Nat) (h : k < 6) : (zsV (endsL l s k)).set (k + 1) (.int .i64 (at_ l s (k + 1))) = zsV (endsL l s (k + 1)) := by
  rw [zsV_set]
  congr 1
  have e : 6 - k = (6 - (k + 1)) + 1 := by omega
  have el : ((List.range (k + 1)).map (at_ l s)).length = k + 1 := by rw [List.length_map, List.length_range]
  unfold endsL
  rw [e, List.replicate_succ, List.set_append_right _ _ (by omega), el, Nat.sub_self, List.set_cons_zero, List.range_succ (n := k + 1), List.map_append, List.append_assoc]
  rfl
theorem endsL_zero (l : List Int) (s : Int) (M : Nat) (h : M = (few l).length) : zsV (endsL l s 0) = [.int .i64 (M : Int), .int .i64 0, .int .i64 0, .int .i64 0, .int .i64 0, .int .i64 0, .int .i64 0] := by
  have e : endsL l s 0 = at_ l s 0 :: List.replicate 6 0 := rfl
  rw [e, at_zero, ← h]
  rfl
theorem built_ends (x : Int) : Tryd.prog.built 46 [(0, .int .i64 x)] = some #[.int .i64 x, .int .i64 0, .int .i64 0, .int .i64 0, .int .i64 0, .int .i64 0, .int .i64 0] := by kernel_rfl
theorem wrap_at (l : List Int) (s : Int) (q : Nat) (x A G B : Int) (hA : A = at_ l s q) (hG : G = Frm.long x s) (hB : B = at_ l s (q + 1)) (hx : (few l)[q]? = some x) : wrap64 (A + G) = B := by
  have e := at_next l s q x hx
  have b := at_bounds l s (q + 1)
  rw [hA, hG, ← e, hB]
  exact IntWalk.wrap64_in _ (by omega)

theorem i64_ok (z : Int) (h1 : 0 ≤ z) (h2 : z < 1000000000) : IntKind.i64.wrap z = z := by
  first
  | exact IntWalk.wrap64_in z (by omega)
  | (rw [IntKind.wrap_i64]; omega)
theorem cut_arr (b k : Nat) (h : k ≤ 6) (u : World) : (Instr.sliceAt 49 (.pointer (some ⟨b, 0, none⟩)) none (some (.int .i64 (k : Int))) none).run Tryd.prog u = .ok (.slice (some ⟨b, 0, none⟩) k 6) u := by
  have el : Tryd.prog.elem 49 = 3 := by simp [Program.elem, Tryd.underlying49]
  have al : Tryd.prog.arrayLen 49 = 6 := by simp [Program.arrayLen, Tryd.underlying49]
  rw [run_sliceAt_array_h u 49 _ (by rw [el, al]; exact Tryd.underlying49) .i64 (k : Int) (by omega) (by rw [al]; omega), el, al, size_int]
  have ek : ((k : Int)).toNat = k := by omega
  simp [Result.andThen, slicedAt, ek, Addr.add]
theorem wrap_ai (l : List Int) (s : Int) (q : Nat) (x A G B : Int) (hA : A = at_ l s q) (hG : G = Frm.long x s) (hB : B = at_ l s (q + 1)) (hx : (few l)[q]? = some x) : IntKind.i64.wrap (A + G) = B := by
  have e := at_next l s q x hx
  have b := at_bounds l s (q + 1)
  rw [hA, hG, ← e, hB]
  exact i64_ok _ (by omega) (by omega)

set_option maxHeartbeats 3200000 in
theorem capacities_any (l : List Int) (a : Option Addr) (n c M : Nat) (C : List Int) (w : World) (hC : C = capsL l) (hM : M = (few l).length) (h : In w a n c l) :
    Calls Tryd.prog 24 #[.slice a n c] w fun z w' => z = .returned (.tuple #[.agg (zsV C).toArray, .int .i64 (M : Int)]) ∧ Below w.heap.size w w' := by
  obtain ⟨w0, hw0⟩ : ∃ w0, w0 = w := ⟨w, rfl⟩
  subst hw0
  have hM2 : M = min n 6 := by rw [hM, few_length, h.len]
  have hCl : C.length = 6 := by rw [hC, capsL_length]
  have hfl : few l = l.take M := by
    rw [hM2]
    unfold few
    by_cases h6 : 6 ≤ n
    · rw [Nat.min_eq_right h6]
    · rw [Nat.min_eq_left (by omega), List.take_of_length_le (by have := h.len; omega), List.take_of_length_le (by have := h.len; omega)]
  have hlt : (l.take M).length = M := by rw [← hfl, hM]
  have hlay : Hold.lay zeroC 0 (zsV (l.take M)) = zsV C := by
    unfold zeroC
    rw [lay_zs 6 M l hlt (by omega), hC, capsL, ← hM, hfl]
  have hr := Lib.hid (fun u (hu : Below w0.heap.size w0 u) => (h.below hu).row)
  have HLN := Lib.hid h.len
  have HLY := Lib.hid hlay
  have hk : M ≤ zeroC.length := by
    show M ≤ 6
    omega
  have HK := Lib.hid hk
  have HMM := Lib.hid hM2
  have HROW := Lib.hid (row6 C hCl)
  have HFT := Lib.hid (show (zsV C).length ≤ zeroC.length from by rw [zsV_length, hCl]; exact Nat.le_refl 6)
  have HFT2 := Lib.hid (show zeroC.length = (zsV C).length from by rw [zsV_length, hCl]; rfl)
  have HM := Lib.hid (Hold.Hld.start w0)
  clear hC hM hM2 h hCl hfl hlt hlay hk
  go_enter Tryd.func24, Tryd.ntmps24
  go_upto_region 2 with ((with_reducible refine Hold.alloc HM.out rfl rfl zeroC zero_caps ?_); clear HM; intro b4 w HM; simp only [List.nil_append, List.cons_append] at HM; replace HM := Lib.hid HM)
  go_wp2_with ((first
    | (refine copyZs HM.out 1 (k := M) rfl rfl rfl rfl rfl (hr.out _ HM.out.below) HLN.out HMM.out HK.out HLY.out ?_; clear HM; intro w HM; simp only [List.set_cons_zero, List.set_cons_succ] at HM; replace HM := Lib.hid HM)
    | (refine Hold.load HM.out 1 (cs := zsV C) rfl rfl rfl rfl (Hold.Part.all _) HROW.out ?_)
    | (refine Hold.store HM.out 0 (v' := zsV C) rfl rfl rfl rfl rfl (by rw [Nat.zero_add]; exact HFT.out) (Hold.lay_all HFT2.out) (zs_one C) HROW.out ?_; clear HM; intro w HM; simp only [List.set_cons_zero, List.set_cons_succ] at HM; replace HM := Lib.hid HM)))
  refine bodyPost_ret (Hold.resultsCT HM.out 0 rfl _ rfl rfl rfl HROW.out) rfl ?_
  exact ⟨rfl, HM.out.below⟩

set_option maxHeartbeats 6400000 in
theorem ends_any (l : List Int) (a : Option Addr) (n c M : Nat) (s : Int) (E : List Int) (w : World) (hE : E = endsL l s M) (hM : M = (few l).length) (h : In w a n c l) (hs : InR s) :
    Calls Tryd.prog 23 #[.slice a n c, .int .i64 s] w fun z w' => z = .returned (.tuple #[.agg (zsV E).toArray, .int .i64 (M : Int)]) ∧ Below w.heap.size w w' := by
  obtain ⟨w0, hw0⟩ : ∃ w0, w0 = w := ⟨w, rfl⟩
  subst hw0
  have hM6 : M ≤ 6 := by rw [hM]; exact few_six l
  obtain ⟨C, hC⟩ : ∃ C, C = capsL l := ⟨_, rfl⟩
  have hCl : C.length = 6 := by rw [hC, capsL_length]
  have RC := Lib.hid (fun u (hu : Below w0.heap.size w0 u) => capacities_any l a n c M C u hC hM (h.below hu))
  have RL := Lib.hid (fun (x G : Int) (hx : InR x) (hG : G = Frm.long x s) u => show Calls Tryd.prog 9 #[.int .i64 x, .int .i64 s] u fun z w' => z = .returned (.int .i64 G) ∧ Below u.heap.size u w' from by rw [hG]; exact Frm.con.long x s u hx hs)
  have HCA := Lib.hid (fun (q : Nat) (x : Int) (hx : (few l)[q]? = some x) => show (zsV C)[q]? = some (.int .i64 x) from zsV_at (by rw [hC]; exact capsL_at l q x hx))
  have HFX := Lib.hid (fun (q : Nat) (x : Int) (hx : (few l)[q]? = some x) => show InR x from h.fit x (List.mem_of_mem_take (show x ∈ l.take 6 from List.mem_of_getElem? hx)))
  obtain ⟨E0, hE0⟩ : ∃ E0, E0 = endsL l s 0 := ⟨_, rfl⟩
  have hE0l : E0.length = 7 := by rw [hE0]; exact endsL_length l s 0 (by omega)
  have hbu : zsV E0 = [.int .i64 (M : Int), .int .i64 0, .int .i64 0, .int .i64 0, .int .i64 0, .int .i64 0, .int .i64 0] := by rw [hE0, endsL_zero l s M hM]
  have HBU := Lib.hid hbu
  have hcut := fun b u => cut_arr b M hM6 u
  have HE0 := Lib.hid (And.intro hE0 hE0l)
  have HC6 := Lib.hid hCl
  have HR := Lib.hid (And.intro hE hM)
  have HEl := Lib.hid (show E.length = 7 from by rw [hE]; exact endsL_length l s M hM6)
  have HM := Lib.hid (Hold.Hld.start w0)
  clear hC hCl hE hM h hs hbu hE0 hE0l
  go_enter Tryd.func23, Tryd.ntmps23
  go_upto_region 2 with ((first
    | ((with_reducible refine Hold.alloc HM.out rfl rfl zeroE zero_ends ?_); clear HM; intro b4 w HM; simp only [List.nil_append, List.cons_append] at HM; replace HM := Lib.hid HM)
    | ((with_reducible refine Hold.alloc HM.out rfl rfl zeroC zero_caps ?_); clear HM; intro b6 w HM; simp only [List.nil_append, List.cons_append] at HM; replace HM := Lib.hid HM)
    | ((with_reducible refine (RC.out _ HM.out.below).mono ?_); rintro e w ⟨rfl, hb⟩; replace HM := Lib.hid (HM.out.next hb); clear hb)
    | (refine Hold.store HM.out 1 (v' := zsV C) rfl rfl rfl rfl rfl (by rw [Nat.zero_add, zsV_length, HC6.out]; exact Nat.le_of_eq (by first | rfl | (rw [zeroC_length]; rfl))) (Hold.lay_all (by rw [zsV_length, HC6.out]; first | rfl | (rw [zeroC_length]; rfl))) (zs_one _) (row6 C HC6.out) ?_; clear HM; intro w HM; simp only [List.set_cons_zero, List.set_cons_succ] at HM; replace HM := Lib.hid HM)))
  go_wp2_with ((first
    | ((with_reducible refine Hold.alloc HM.out rfl rfl zeroE zero_ends ?_); clear HM; intro b8 w HM; simp only [List.nil_append, List.cons_append] at HM; replace HM := Lib.hid HM)
    | (refine Hold.store HM.out 2 (cs := [.int .i64 (M : Int), .int .i64 0, .int .i64 0, .int .i64 0, .int .i64 0, .int .i64 0, .int .i64 0]) (v' := zsV E0) rfl rfl rfl rfl rfl (Nat.le_refl 7) ((Hold.lay_all rfl).trans HBU.out.symm) (by simp [Hold.Single, Value.oneCell']) row77 ?_; clear HM; intro w HM; simp only [List.set_cons_zero, List.set_cons_succ] at HM; replace HM := Lib.hid HM)))
  go_loopw [21] (fun i wr => ∃ q : Nat, q ≤ M ∧ i = .int .i64 (q : Int) ∧ Hold.Hld w0 [⟨b4, 46, zeroE⟩, ⟨b6, 49, zsV C⟩, ⟨b8, 46, zsV (endsL l s q)⟩] wr) (fun i _ => M - (intOf i).toNat)
  case atStart => exact ⟨0, by omega, rfl, by rw [← HE0.out.1]; exact HM.out⟩
  case round =>
    obtain ⟨q, hq, rfl, hm⟩ := hrel
    clear HM
    have HM := Lib.hid hm
    clear hm
    by_cases hlt : q < M
    · have hlt2 : (q : Int) < (M : Int) := by omega
      have hq6 : q < 6 := by omega
      have hq7 : (q : Int) < 7 := by omega
      have hq8 : (q : Int) + 1 < 7 := by omega
      have hw0 : wrap64 ((q : Int) + 1) = (q : Int) + 1 := IntWalk.wrap64_in _ (by omega)
      have hwi : IntKind.i64.wrap ((q : Int) + 1) = (q : Int) + 1 := i64_ok _ (by omega) (by omega)
      have hq9 : (0 : Int) ≤ (q : Int) + 1 := by omega
      obtain ⟨x, hx⟩ : ∃ x, (few l)[q]? = some x := ⟨_, List.getElem?_eq_getElem (by rw [← HR.out.2]; exact hlt)⟩
      have hcell := (HM.out.at 1 rfl).row.cell (HCA.out q x hx)
      obtain ⟨A, hA⟩ : ∃ A, A = at_ l s q := ⟨_, rfl⟩
      obtain ⟨G, hG⟩ : ∃ G, G = Frm.long x s := ⟨_, rfl⟩
      obtain ⟨B, hB⟩ : ∃ B, B = at_ l s (q + 1) := ⟨_, rfl⟩
      have S := Lib.hid (RL.out x G (HFX.out q x hx) hG)
      have hw1 : IntKind.i64.wrap (A + G) = B := wrap_ai l s q x A G B hA hG hB hx
      have HG := Lib.hid (show (zsV (endsL l s q))[q]? = some (.int .i64 A) from zsV_at (by rw [hA]; exact endsL_at l s q q (Nat.le_refl _)))
      have HS := Lib.hid (show (zsV (endsL l s q)).set (q + 1) (.int .i64 B) = zsV (endsL l s (q + 1)) from by rw [hB]; exact endsL_next l s q hq6)
      have HSL := Lib.hid (show q + 1 < (zsV (endsL l s q)).length from by rw [zsV_length, endsL_length l s q (by omega)]; omega)
      clear hx hA hG hB
      go_upto_region 6 with (fail)
      clear hcell
      refine Steady.region 10 (by kernel_rfl) (by kernel_rfl) (fun u => Hold.Hld _ _ u) HM.out.drew ?_
      simp only [List.take_succ_cons, List.take_zero, List.drop_succ_cons, List.drop_zero]
      refine Steady.take ?_ rfl (by intro u hu; go_simp; with_reducible rfl) ?_
      simp only [Act.put, List.setIfInBounds_toArray, List.set_cons_zero, List.set_cons_succ]
      refine Steady.take ?_ rfl (by intro u hu; go_simp; with_reducible rfl) ?_
      simp only [Act.put, List.setIfInBounds_toArray, List.set_cons_zero, List.set_cons_succ]
      refine Steady.take ?_ rfl (by intro u hu; go_simp; with_reducible rfl) ?_
      simp only [Act.put, List.setIfInBounds_toArray, List.set_cons_zero, List.set_cons_succ]
      refine Steady.take ?_ rfl (by intro u hu; go_simp; with_reducible rfl) ?_
      simp only [Act.put, List.setIfInBounds_toArray, List.set_cons_zero, List.set_cons_succ]
      refine Steady.take (.int .i64 A) rfl (fun u hu => Hold.load1_run hu 2 rfl rfl rfl (HG.out) (Frm.cellInt)) ?_
      simp only [Act.put, List.setIfInBounds_toArray, List.set_cons_zero, List.set_cons_succ]
      refine Steady.take ?_ rfl (by intro u hu; go_simp; with_reducible rfl) ?_
      simp only [Act.put, List.setIfInBounds_toArray, List.set_cons_zero, List.set_cons_succ]
      refine Steady.take ?_ rfl (by intro u hu; go_simp; with_reducible rfl) ?_
      simp only [Act.put, List.setIfInBounds_toArray, List.set_cons_zero, List.set_cons_succ]
      refine Steady.call _ _ _ rfl ?_ (Hold.kept S.out) ?_
      · intro u
        go_simp
      simp only [Act.put, List.setIfInBounds_toArray, List.set_cons_zero, List.set_cons_succ]
      refine Steady.take ?_ rfl (by intro u hu; go_simp; with_reducible rfl) ?_
      simp only [Act.put, List.setIfInBounds_toArray, List.set_cons_zero, List.set_cons_succ]
      refine Steady.take ?_ rfl (by intro u hu; go_simp; with_reducible rfl) ?_
      simp only [Act.put, List.setIfInBounds_toArray, List.set_cons_zero, List.set_cons_succ]
      refine Steady.nil ?_
      clear HM
      intro w HM
      replace HM := Lib.hid HM
      go_wp2_with ((refine Hold.store1 HM.out 2 (c := .int .i64 B) (v' := zsV (endsL l s (q + 1))) rfl rfl rfl rfl rfl HSL.out HS.out (Hold.cell_int _ _) Frm.cellInt ?_; clear HM; intro w HM; simp only [List.set_cons_zero, List.set_cons_succ] at HM; replace HM := Lib.hid HM))
      go_roundw
      case rel => exact ⟨q + 1, by omega, by go_num, HM.out⟩
      case measure => simp [intOf]; omega
    · obtain rfl : q = M := by omega
      have hm2 := HM.out
      rw [← HR.out.1] at hm2
      replace HM := Lib.hid hm2
      clear hm2
      go_wp2_with ((first
        | (refine Hold.load HM.out 2 (cs := zsV E) rfl rfl rfl rfl (Hold.Part.all _) (row7 E HEl.out) ?_)
        | (refine Hold.store HM.out 0 (v' := zsV E) rfl rfl rfl rfl rfl (by rw [Nat.zero_add, zsV_length, HEl.out]; exact Nat.le_of_eq (by first | rfl | (rw [zeroE_length]; rfl))) (Hold.lay_all (by rw [zsV_length, HEl.out]; first | rfl | (rw [zeroE_length]; rfl))) (zs_one _) (row7 E HEl.out) ?_; clear HM; intro w HM; simp only [List.set_cons_zero, List.set_cons_succ] at HM; replace HM := Lib.hid HM)))
      refine bodyPost_ret (Hold.resultsCT HM.out 0 rfl _ rfl rfl rfl (row7 E HEl.out)) rfl ?_
      exact ⟨rfl, HM.out.below⟩

set_option maxHeartbeats 3200000 in
theorem total_any (l : List Int) (a : Option Addr) (n c : Nat) (s T : Int) (w : World) (hT : T = total l s) (h : In w a n c l) (hs : InR s) :
    Calls Tryd.prog 11 #[.slice a n c, .int .i64 s] w fun z w' => z = .returned (.int .i64 T) ∧ Below w.heap.size w w' := by
  obtain ⟨w0, hw0⟩ : ∃ w0, w0 = w := ⟨w, rfl⟩
  subst hw0
  obtain ⟨M, hM⟩ : ∃ M : Nat, M = (few l).length := ⟨_, rfl⟩
  have hM6 : M ≤ 6 := by rw [hM]; exact few_six l
  obtain ⟨E, hE⟩ : ∃ E, E = endsL l s M := ⟨_, rfl⟩
  have HEl := Lib.hid (show E.length = 7 from by rw [hE]; exact endsL_length l s M hM6)
  have RE := Lib.hid (fun u (hu : Below w0.heap.size w0 u) => ends_any l a n c M s E u hE hM (h.below hu) hs)
  have HEA := Lib.hid (fun (q : Nat) (hq : q ≤ M) => show (zsV E)[q]? = some (.int .i64 (at_ l s q)) from zsV_at (by rw [hE]; exact endsL_at l s M q hq))
  have HM := Lib.hid (Hold.Hld.start w0)
  have hM7 : (M : Int) < 7 := by omega
  have hM8 : M < 7 := by omega
  have HT := Lib.hid (show (zsV E)[M]? = some (.int .i64 T) from by rw [HEA.out M (Nat.le_refl _), hT, hM]; rfl)
  clear hT hM h hs hE
  go_enter Tryd.func11, Tryd.ntmps11
  go_wp2_with ((first
    | ((with_reducible refine Hold.alloc HM.out rfl rfl zeroE zero_ends ?_); clear HM; intro b5 w HM; simp only [List.nil_append, List.cons_append] at HM; replace HM := Lib.hid HM)
    | ((with_reducible refine (RE.out _ HM.out.below).mono ?_); rintro e w ⟨rfl, hb⟩; replace HM := Lib.hid (HM.out.next hb); clear hb)
    | (refine Hold.store HM.out 0 (v' := zsV E) rfl rfl rfl rfl rfl (by rw [Nat.zero_add, zsV_length, HEl.out]; exact Nat.le_of_eq (by first | rfl | (rw [zeroE_length]; rfl))) (Hold.lay_all (by rw [zsV_length, HEl.out]; first | rfl | (rw [zeroE_length]; rfl))) (zs_one _) (row7 E HEl.out) ?_; clear HM; intro w HM; simp only [List.set_cons_zero, List.set_cons_succ] at HM; replace HM := Lib.hid HM)
    | (refine Hold.load1 HM.out 0 (c := .int .i64 T) rfl rfl rfl rfl HT.out Frm.cellInt ?_)))
  go_ret
  exact ⟨rfl, HM.out.below⟩

set_option maxHeartbeats 3200000 in
theorem spot_any (l : List Int) (a : Option Addr) (n c : Nat) (s k A B : Int) (w : World) (hA : A = spotA l s k) (hB : B = spotB l s k) (h : In w a n c l) (hs : InR s) (_ : InR k) :
    Calls Tryd.prog 8 #[.slice a n c, .int .i64 s, .int .i64 k] w fun z w' => z = .returned (.tuple #[.int .i64 A, .int .i64 B]) ∧ Below w.heap.size w w' := by
  obtain ⟨w0, hw0⟩ : ∃ w0, w0 = w := ⟨w, rfl⟩
  subst hw0
  obtain ⟨M, hM⟩ : ∃ M : Nat, M = (few l).length := ⟨_, rfl⟩
  have hM6 : M ≤ 6 := by rw [hM]; exact few_six l
  obtain ⟨E, hE⟩ : ∃ E, E = endsL l s M := ⟨_, rfl⟩
  have HEl := Lib.hid (show E.length = 7 from by rw [hE]; exact endsL_length l s M hM6)
  have RE := Lib.hid (fun u (hu : Below w0.heap.size w0 u) => ends_any l a n c M s E u hE hM (h.below hu) hs)
  have HEA := Lib.hid (fun (q : Nat) (hq : q ≤ M) => show (zsV E)[q]? = some (.int .i64 (at_ l s q)) from zsV_at (by rw [hE]; exact endsL_at l s M q hq))
  have HM := Lib.hid (Hold.Hld.start w0)
  by_cases h0 : k < 0
  · have d0 : decide (k < 0) = true := decide_eq_true h0
    obtain ⟨rfl, rfl⟩ : A = 0 ∧ B = 0 := by
      have : ¬ inL l k := fun hi => by unfold inL at hi; omega
      rw [hA, hB, spotA, spotB, if_neg this, if_neg this]
      exact ⟨rfl, rfl⟩
    clear hA hB
    clear hM h hs hE
    go_enter Tryd.func8, Tryd.ntmps8
    go_wp2_with ((first
      | ((with_reducible refine Hold.alloc HM.out rfl rfl zeroE zero_ends ?_); clear HM; intro b5 w HM; simp only [List.nil_append, List.cons_append] at HM; replace HM := Lib.hid HM)
      | ((with_reducible refine (RE.out _ HM.out.below).mono ?_); rintro e w ⟨rfl, hb⟩; replace HM := Lib.hid (HM.out.next hb); clear hb)
      | (refine Hold.store HM.out 0 (v' := zsV E) rfl rfl rfl rfl rfl (by rw [Nat.zero_add, zsV_length, HEl.out]; exact Nat.le_of_eq (by first | rfl | (rw [zeroE_length]; rfl))) (Hold.lay_all (by rw [zsV_length, HEl.out]; first | rfl | (rw [zeroE_length]; rfl))) (zs_one _) (row7 E HEl.out) ?_; clear HM; intro w HM; simp only [List.set_cons_zero, List.set_cons_succ] at HM; replace HM := Lib.hid HM)))
    go_ret2
    exact ⟨rfl, HM.out.below⟩
  have d0 : decide (k < 0) = false := decide_eq_false h0
  by_cases h1 : (M : Int) ≤ k
  · have d1 : decide ((M : Int) ≤ k) = true := decide_eq_true h1
    obtain ⟨rfl, rfl⟩ : A = 0 ∧ B = 0 := by
      have : ¬ inL l k := fun hi => by unfold inL at hi; omega
      rw [hA, hB, spotA, spotB, if_neg this, if_neg this]
      exact ⟨rfl, rfl⟩
    clear hA hB
    clear hM h hs hE
    go_enter Tryd.func8, Tryd.ntmps8
    go_wp2_with ((first
      | ((with_reducible refine Hold.alloc HM.out rfl rfl zeroE zero_ends ?_); clear HM; intro b5 w HM; simp only [List.nil_append, List.cons_append] at HM; replace HM := Lib.hid HM)
      | ((with_reducible refine (RE.out _ HM.out.below).mono ?_); rintro e w ⟨rfl, hb⟩; replace HM := Lib.hid (HM.out.next hb); clear hb)
      | (refine Hold.store HM.out 0 (v' := zsV E) rfl rfl rfl rfl rfl (by rw [Nat.zero_add, zsV_length, HEl.out]; exact Nat.le_of_eq (by first | rfl | (rw [zeroE_length]; rfl))) (Hold.lay_all (by rw [zsV_length, HEl.out]; first | rfl | (rw [zeroE_length]; rfl))) (zs_one _) (row7 E HEl.out) ?_; clear HM; intro w HM; simp only [List.set_cons_zero, List.set_cons_succ] at HM; replace HM := Lib.hid HM)))
    go_ret2
    exact ⟨rfl, HM.out.below⟩
  have d1 : decide ((M : Int) ≤ k) = false := decide_eq_false h1
  obtain ⟨K, rfl⟩ : ∃ K : Nat, k = (K : Int) := ⟨k.toNat, by omega⟩
  have hKM : K < M := by omega
  have hK7 : (K : Int) < 7 := by omega
  have hK8 : (K : Int) + 1 < 7 := by omega
  have hk9 : K < 7 := by omega
  have hw0 : wrap64 ((K : Int) + 1) = (K : Int) + 1 := IntWalk.wrap64_in _ (by omega)
  have hwi : IntKind.i64.wrap ((K : Int) + 1) = (K : Int) + 1 := i64_ok _ (by omega) (by omega)
  have hk0 : (0 : Int) ≤ (K : Int) + 1 := by omega
  obtain ⟨y, hy⟩ : ∃ y, (few l)[K]? = some y := ⟨_, List.getElem?_eq_getElem (by rw [← hM]; exact hKM)⟩
  obtain ⟨eA, eB⟩ := spot_in l s K y hy
  have HA := Lib.hid (show (zsV E)[K]? = some (.int .i64 A) from by rw [HEA.out K (by omega), hA, eA])
  have HB := Lib.hid (show (zsV E)[K + 1]? = some (.int .i64 B) from by rw [HEA.out (K + 1) (by omega), hB, eB])
  clear hA hB eA eB hM h hs hE hy h0
  go_enter Tryd.func8, Tryd.ntmps8
  go_upto_region 4 with ((first
    | ((with_reducible refine Hold.alloc HM.out rfl rfl zeroE zero_ends ?_); clear HM; intro b5 w HM; simp only [List.nil_append, List.cons_append] at HM; replace HM := Lib.hid HM)
    | ((with_reducible refine (RE.out _ HM.out.below).mono ?_); rintro e w ⟨rfl, hb⟩; replace HM := Lib.hid (HM.out.next hb); clear hb)
    | (refine Hold.store HM.out 0 (v' := zsV E) rfl rfl rfl rfl rfl (by rw [Nat.zero_add, zsV_length, HEl.out]; exact Nat.le_of_eq (by first | rfl | (rw [zeroE_length]; rfl))) (Hold.lay_all (by rw [zsV_length, HEl.out]; first | rfl | (rw [zeroE_length]; rfl))) (zs_one _) (row7 E HEl.out) ?_; clear HM; intro w HM; simp only [List.set_cons_zero, List.set_cons_succ] at HM; replace HM := Lib.hid HM)))
  refine Steady.region 8 (by kernel_rfl) (by kernel_rfl) (fun u => Hold.Hld _ _ u) HM.out.drew ?_
  simp only [List.take_succ_cons, List.take_zero, List.drop_succ_cons, List.drop_zero]
  refine Steady.take ?_ rfl (by intro u hu; go_simp; with_reducible rfl) ?_
  simp only [Act.put, List.setIfInBounds_toArray, List.set_cons_zero, List.set_cons_succ]
  refine Steady.take ?_ rfl (by intro u hu; go_simp; with_reducible rfl) ?_
  simp only [Act.put, List.setIfInBounds_toArray, List.set_cons_zero, List.set_cons_succ]
  refine Steady.take (.int .i64 A) rfl (fun u hu => Hold.load1_run hu 0 rfl rfl rfl (HA.out) (Frm.cellInt)) ?_
  simp only [Act.put, List.setIfInBounds_toArray, List.set_cons_zero, List.set_cons_succ]
  refine Steady.take ?_ rfl (by intro u hu; go_simp; with_reducible rfl) ?_
  simp only [Act.put, List.setIfInBounds_toArray, List.set_cons_zero, List.set_cons_succ]
  refine Steady.take ?_ rfl (by intro u hu; go_simp; with_reducible rfl) ?_
  simp only [Act.put, List.setIfInBounds_toArray, List.set_cons_zero, List.set_cons_succ]
  refine Steady.take ?_ rfl (by intro u hu; go_simp; with_reducible rfl) ?_
  simp only [Act.put, List.setIfInBounds_toArray, List.set_cons_zero, List.set_cons_succ]
  refine Steady.take (.int .i64 B) rfl (fun u hu => Hold.load1_run hu 0 rfl rfl rfl (HB.out) (Frm.cellInt)) ?_
  simp only [Act.put, List.setIfInBounds_toArray, List.set_cons_zero, List.set_cons_succ]
  refine Steady.take ?_ rfl (by intro u hu; go_simp; with_reducible rfl) ?_
  simp only [Act.put, List.setIfInBounds_toArray, List.set_cons_zero, List.set_cons_succ]
  refine Steady.nil ?_
  clear HM
  intro w HM
  replace HM := Lib.hid HM
  go_wp2
  go_ret2
  exact ⟨rfl, HM.out.below⟩

set_option maxHeartbeats 1600000 in
theorem slot_any (l : List Int) (a : Option Addr) (n c : Nat) (s k : Int) (t X : ByteArray) (w : World) (hX : X = tx (slotT l s k t.data.toList)) (h : In w a n c l) (hs : InR s) (hk : InR k) (_ : t.size ≤ 10000) :
    Calls Tryd.prog 10 #[.slice a n c, .int .i64 s, .int .i64 k, .string t] w fun z w' => z = .returned (.string X) ∧ Below w.heap.size w w' := by
  obtain ⟨w0, hw0⟩ : ∃ w0, w0 = w := ⟨w, rfl⟩
  subst hw0
  obtain ⟨A, hA⟩ : ∃ A, A = spotA l s k := ⟨_, rfl⟩
  obtain ⟨B, hB⟩ : ∃ A, A = spotB l s k := ⟨_, rfl⟩
  have RS := Lib.hid (fun u (hu : Below w0.heap.size w0 u) => spot_any l a n c s k A B u hA hB (h.below hu) hs hk)
  have hcut := slot_cut l s k A B t X hA hB hX
  have HM := Lib.hid (Hold.Hld.start w0)
  by_cases hlo : (t.size : Int) < B
  · have d5 : decide ((t.size : Int) < B) = true := decide_eq_true hlo
    obtain rfl : X = ⟨#[]⟩ := by
      have ht : t.data.toList.length = t.size := rfl
      rw [hX]
      unfold slotT
      rw [← hB, ht, if_pos hlo]
    clear hcut hlo hX hA hB h hs hk
    go_enter Tryd.func10, Tryd.ntmps10
    go_wp2_with ((first
      | ((with_reducible refine (RS.out _ HM.out.below).mono ?_); rintro e w ⟨rfl, hb⟩; replace HM := Lib.hid (HM.out.next hb); clear hb)))
    go_ret
    exact ⟨rfl, HM.out.below⟩
  · have hsl := hcut.2 hlo
    have d5 : decide ((t.size : Int) < B) = false := decide_eq_false hlo
    clear hcut hlo hX hA hB h hs hk
    go_enter Tryd.func10, Tryd.ntmps10
    go_wp2_with ((first
      | ((with_reducible refine (RS.out _ HM.out.below).mono ?_); rintro e w ⟨rfl, hb⟩; replace HM := Lib.hid (HM.out.next hb); clear hb)))
    go_ret
    exact ⟨rfl, HM.out.below⟩

set_option maxHeartbeats 3200000 in
theorem want_any (l : List Int) (a : Option Addr) (n c : Nat) (k W : Int) (t : ByteArray) (w : World) (hW : W = want l k t.data.toList) (h : In w a n c l) (_ : InR k) (_ : t.size ≤ 10000) :
    Calls Tryd.prog 13 #[.slice a n c, .int .i64 k, .string t] w fun z w' => z = .returned (.int .i64 W) ∧ Below w.heap.size w w' := by
  obtain ⟨w0, hw0⟩ : ∃ w0, w0 = w := ⟨w, rfl⟩
  subst hw0
  obtain ⟨M, hM⟩ : ∃ M : Nat, M = (few l).length := ⟨_, rfl⟩
  have hM6 : M ≤ 6 := by rw [hM]; exact few_six l
  obtain ⟨C, hC⟩ : ∃ C, C = capsL l := ⟨_, rfl⟩
  have hCl : C.length = 6 := by rw [hC, capsL_length]
  have HC6 := Lib.hid hCl
  have RC := Lib.hid (fun u (hu : Below w0.heap.size w0 u) => capacities_any l a n c M C u hC hM (h.below hu))
  have HM := Lib.hid (Hold.Hld.start w0)
  have htl : t.data.toList.length = t.size := rfl
  have hW2 : W = if ((0 : Int) ≤ k ∧ k < (M : Int)) ∧ k < (t.size : Int) ∧ byte t.data.toList k.toNat ≤ 16 then ((byte t.data.toList k.toNat : Nat) : Int) else (0 : Int) := by
    rw [hW, hM]
    rfl
  clear hW hC hCl hM h
  by_cases h0 : k < 0
  · have d0 : decide (k < 0) = true := decide_eq_true h0
    obtain rfl : W = 0 := by rw [hW2, if_neg (by omega)]
    clear hW2 htl
    go_enter Tryd.func13, Tryd.ntmps13
    go_wp2_with ((first
      | ((with_reducible refine Hold.alloc HM.out rfl rfl zeroC zero_caps ?_); clear HM; intro b7 w HM; simp only [List.nil_append, List.cons_append] at HM; replace HM := Lib.hid HM)
      | ((with_reducible refine (RC.out _ HM.out.below).mono ?_); rintro e w ⟨rfl, hb⟩; replace HM := Lib.hid (HM.out.next hb); clear hb)
      | (refine Hold.store HM.out 0 (v' := zsV C) rfl rfl rfl rfl rfl (by rw [Nat.zero_add, zsV_length, HC6.out]; exact Nat.le_of_eq (by first | rfl | (rw [zeroC_length]; rfl))) (Hold.lay_all (by rw [zsV_length, HC6.out]; first | rfl | (rw [zeroC_length]; rfl))) (zs_one _) (row6 C HC6.out) ?_; clear HM; intro w HM; simp only [List.set_cons_zero, List.set_cons_succ] at HM; replace HM := Lib.hid HM)))
    go_ret
    exact ⟨rfl, HM.out.below⟩
  have d0 : decide (k < 0) = false := decide_eq_false h0
  by_cases h1 : min (M : Int) (t.size : Int) ≤ k
  · have d1 : decide (min (M : Int) (t.size : Int) ≤ k) = true := decide_eq_true h1
    obtain rfl : W = 0 := by rw [hW2, if_neg (by omega)]
    clear hW2 htl
    go_enter Tryd.func13, Tryd.ntmps13
    go_wp2_with ((first
      | ((with_reducible refine Hold.alloc HM.out rfl rfl zeroC zero_caps ?_); clear HM; intro b7 w HM; simp only [List.nil_append, List.cons_append] at HM; replace HM := Lib.hid HM)
      | ((with_reducible refine (RC.out _ HM.out.below).mono ?_); rintro e w ⟨rfl, hb⟩; replace HM := Lib.hid (HM.out.next hb); clear hb)
      | (refine Hold.store HM.out 0 (v' := zsV C) rfl rfl rfl rfl rfl (by rw [Nat.zero_add, zsV_length, HC6.out]; exact Nat.le_of_eq (by first | rfl | (rw [zeroC_length]; rfl))) (Hold.lay_all (by rw [zsV_length, HC6.out]; first | rfl | (rw [zeroC_length]; rfl))) (zs_one _) (row6 C HC6.out) ?_; clear HM; intro w HM; simp only [List.set_cons_zero, List.set_cons_succ] at HM; replace HM := Lib.hid HM)))
    go_ret
    exact ⟨rfl, HM.out.below⟩
  have d1 : decide (min (M : Int) (t.size : Int) ≤ k) = false := decide_eq_false h1
  obtain ⟨K, rfl⟩ : ∃ K : Nat, k = (K : Int) := ⟨k.toNat, by omega⟩
  have hkt : ((K : Int)).toNat = K := rfl
  obtain ⟨B, hB⟩ : ∃ B, B = byte t.data.toList K := ⟨_, rfl⟩
  have hix : ∀ u : World, (Instr.index 9 (.string t) (.int .i64 (K : Int))).run Tryd.prog u = .ok (.int .u8 (B : Int)) u := fun u => by rw [hB]; exact Frl.idx t K (by omega) u
  have hB256 : B < 256 := by rw [hB]; exact Frl.byte_lt _ _
  have hcv : IntKind.i64.wrap (B : Int) = (B : Int) := Frl.i64_in _ (by omega) (by omega)
  rw [hkt, ← hB] at hW2
  by_cases h3 : 16 < B
  · have d3 : decide (16 < (B : Int)) = true := decide_eq_true (by omega)
    obtain rfl : W = 0 := by rw [hW2, if_neg (by omega)]
    clear hB hkt
    clear hW2 htl
    go_enter Tryd.func13, Tryd.ntmps13
    go_wp2_with ((first
      | ((with_reducible refine Hold.alloc HM.out rfl rfl zeroC zero_caps ?_); clear HM; intro b7 w HM; simp only [List.nil_append, List.cons_append] at HM; replace HM := Lib.hid HM)
      | ((with_reducible refine (RC.out _ HM.out.below).mono ?_); rintro e w ⟨rfl, hb⟩; replace HM := Lib.hid (HM.out.next hb); clear hb)
      | (refine Hold.store HM.out 0 (v' := zsV C) rfl rfl rfl rfl rfl (by rw [Nat.zero_add, zsV_length, HC6.out]; exact Nat.le_of_eq (by first | rfl | (rw [zeroC_length]; rfl))) (Hold.lay_all (by rw [zsV_length, HC6.out]; first | rfl | (rw [zeroC_length]; rfl))) (zs_one _) (row6 C HC6.out) ?_; clear HM; intro w HM; simp only [List.set_cons_zero, List.set_cons_succ] at HM; replace HM := Lib.hid HM)))
    go_ret
    exact ⟨rfl, HM.out.below⟩
  have d3 : decide (16 < (B : Int)) = false := decide_eq_false (by omega)
  obtain rfl : W = (B : Int) := by rw [hW2, if_pos ⟨⟨by omega, by omega⟩, by omega, by omega⟩]
  clear hW2 htl hB hkt
  go_enter Tryd.func13, Tryd.ntmps13
  go_wp2_with ((first
    | ((with_reducible refine Hold.alloc HM.out rfl rfl zeroC zero_caps ?_); clear HM; intro b7 w HM; simp only [List.nil_append, List.cons_append] at HM; replace HM := Lib.hid HM)
    | ((with_reducible refine (RC.out _ HM.out.below).mono ?_); rintro e w ⟨rfl, hb⟩; replace HM := Lib.hid (HM.out.next hb); clear hb)
    | (refine Hold.store HM.out 0 (v' := zsV C) rfl rfl rfl rfl rfl (by rw [Nat.zero_add, zsV_length, HC6.out]; exact Nat.le_of_eq (by first | rfl | (rw [zeroC_length]; rfl))) (Hold.lay_all (by rw [zsV_length, HC6.out]; first | rfl | (rw [zeroC_length]; rfl))) (zs_one _) (row6 C HC6.out) ?_; clear HM; intro w HM; simp only [List.set_cons_zero, List.set_cons_succ] at HM; replace HM := Lib.hid HM)))
  go_ret
  exact ⟨by first | rfl | (rw [hcv]), HM.out.below⟩

set_option maxHeartbeats 1600000 in
theorem first_any (k : Int) (L : List Int) (N : Nat) (w : World) (hL : L = first k) (hN : L.length = N) (_ : InR k) :
    Calls Tryd.prog 22 #[.int .i64 k] w (Fresh w L N) := by
  obtain ⟨w0, hw0⟩ : ∃ w0, w0 = w := ⟨w, rfl⟩
  subst hw0
  have hN2 : max 0 (min k 6) = (N : Int) := by rw [← hN, hL, first_length]; omega
  have hN6 : N ≤ 6 := by omega
  have hL2 : L = List.replicate N 0 := by rw [hL]; unfold first; rw [hN2]; rfl
  have hmk := make_zs N (by omega)
  have HM := Lib.hid (Hold.Hld.start w0)
  have HL := Lib.hid hL2
  clear hL hN hL2
  go_enter Tryd.func22, Tryd.ntmps22
  go_wp2
  replace HM := Lib.hid (HM.out.add 3 (zsV (List.replicate N 0)))
  simp only [List.nil_append] at HM
  go_ret
  exact ⟨w0.heap.size, rfl, Nat.le_refl _, by rw [HL.out]; exact HM.out.at 0 rfl, HM.out.below⟩

end Go.Proofs.YtedgpglldlohfaaDoor.Lyl
