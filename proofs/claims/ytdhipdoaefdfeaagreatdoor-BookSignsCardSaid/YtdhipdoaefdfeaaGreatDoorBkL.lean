/-
  Lift of package book: what the plain mathematics of the text Bkm says; all memory that was there is left as it was. Conditions: no list has more than 1000 cells.
-/
import Derived.Test.YtdhipdoaefdfeaaGreatDoorBkG
namespace Go.Proofs.YtdhipdoaefdfeaaGreatDoor.Bkb
open Go.RowKit Mur Prt Lanes Tap Bkl Bkm Rec Cel Bkr
set_option maxRecDepth 100000
set_option linter.unusedSimpArgs false

set_option maxHeartbeats 1600000 in
theorem lift_any (A : Nat → Prop) (b b' : Bk) (v : List Value) (w : World) (hb : b' = liftB b) (h : BkR w b v A) (hro : Room b 1000) :
    Calls Tryz.prog 15 #[.agg v.toArray] w fun e w' => ∃ v', e = .returned (.agg v'.toArray) ∧ BkR w' b' v' (fun k => A k ∨ w.heap.size ≤ k) ∧ Below w.heap.size w w' := by
  have hbu : ∀ a n c, Tryz.prog.built 30 [(0, .bool true), (2, .agg shV.toArray), (3, .slice a n c)] = some (newV true ⟨#[]⟩ a n c).toArray := fun a n c => by kernel_rfl
  obtain ⟨a, n, c, h5, hn, hc, hR, -⟩ := h.at5.lit
  have hn2 : n ≤ 1000 := by have := hro.used; omega
  have hnK : (ofC b.used).length = n := by rw [ofC_length]; exact hn
  have R2 := Lib.hid (fun u (hu : Below w.heap.size w u) => cloneL_any (ofC b.used) n a c u hnK (by omega) (CelR.below hR hu))
  obtain ⟨w0, hw0⟩ : ∃ w0, w0 = w := ⟨w, rfl⟩
  rw [← hw0] at R2 ⊢
  have HM := Lib.hid (Hold.Hld.start w0)
  have HBU := Lib.hid hbu
  have HB := Lib.hid hb
  have HP := Lib.hid h.shape
  have H5 := Lib.hid h5
  have HN := Lib.hid hn
  have HL := Lib.hid h.len
  have HSZ := Lib.hid (fun (u : World) (hu : Below w0.heap.size w0 u) (k : Nat) (hk : u.heap.size ≤ k) => (Or.inr (Nat.le_trans hu.size hk) : A k ∨ w0.heap.size ≤ k))
  clear hbu hb h5 hc hR h hn hnK hro hw0 w
  go_enter Tryz.func15, Tryz.ntmps15
  go_upto_region 1 with ((first
      | ((with_reducible refine Hold.box HM.out rfl rfl rfl ?_); clear HM; intro b1 w HM; simp only [List.nil_append] at HM; replace HM := Lib.hid HM)
      | ((with_reducible refine Hold.allocK HM.out rfl rfl zeroBk zero_bk ?_); clear HM; intro b2 w hn hb HM; simp only [List.nil_append, List.cons_append] at HM; replace HM := Lib.hid HM; clear hn hb)))
  have HS := Lib.hid (Hold.Hld.drew (show Hold.Hld _ [⟨b1, 30, v⟩] w from Hold.Hld.front (m' := [_]) HM.out))
  replace HM := Lib.hid HM.out.drew
  refine wp_region_held (S := fun u => Hold.Hld w0 [⟨b1, 30, v⟩] u) (by kernel_rfl) ?_
  change wpAnyH _ _ _ _ _ (6 + 1) _ _ _
  refine wpAnyH_take (i := 0) (by simp only [List.getElem?_toArray, List.getElem?_cons_succ, List.getElem?_cons_zero]; rfl) (by kernel_rfl) (by kernel_rfl) (by kernel_rfl) (fun _ _ _ h => by exact h) (.inl ⟨by rfl, fun u hu => by go_simp; with_reducible rfl⟩) HS.out ?_
  try simp only [List.getElem_toArray, List.getElem_cons_succ, List.getElem_cons_zero, Act.put, List.setIfInBounds_toArray, List.set_cons_zero, List.set_cons_succ]
  change wpAnyH _ _ _ _ _ (5 + 1) _ _ _
  refine wpAnyH_take (i := 1) (v := .agg (shV).toArray) (by simp only [List.getElem?_toArray, List.getElem?_cons_succ, List.getElem?_cons_zero]; rfl) (by kernel_rfl) (by kernel_rfl) (by kernel_rfl) (fun _ _ _ h => by exact h) (.inl ⟨by rfl, fun u hu => Hold.load_run hu 0 rfl rfl rfl (HP.out) (shV_row)⟩) HS.out ?_
  try simp only [List.getElem_toArray, List.getElem_cons_succ, List.getElem_cons_zero, Act.put, List.setIfInBounds_toArray, List.set_cons_zero, List.set_cons_succ]
  change wpAnyH _ _ _ _ _ (4 + 1) _ _ _
  refine wpAnyH_take (i := 2) (by simp only [List.getElem?_toArray, List.getElem?_cons_succ, List.getElem?_cons_zero]; rfl) (by kernel_rfl) (by kernel_rfl) (by kernel_rfl) (fun _ _ _ h => by exact h) (.inl ⟨by rfl, fun u hu => by go_simp; with_reducible rfl⟩) HS.out ?_
  try simp only [List.getElem_toArray, List.getElem_cons_succ, List.getElem_cons_zero, Act.put, List.setIfInBounds_toArray, List.set_cons_zero, List.set_cons_succ]
  change wpAnyH _ _ _ _ _ (3 + 1) _ _ _
  refine wpAnyH_take (i := 3) (v := .slice a n c) (by simp only [List.getElem?_toArray, List.getElem?_cons_succ, List.getElem?_cons_zero]; rfl) (by kernel_rfl) (by kernel_rfl) (by kernel_rfl) (fun _ _ _ h => by exact h) (.inl ⟨by rfl, fun u hu => Hold.load1_run hu 0 rfl rfl rfl (H5.out) (cellC)⟩) HS.out ?_
  try simp only [List.getElem_toArray, List.getElem_cons_succ, List.getElem_cons_zero, Act.put, List.setIfInBounds_toArray, List.set_cons_zero, List.set_cons_succ]
  change wpAnyH _ _ _ _ _ (2 + 1) _ _ _
  refine Steady.call_next (i := 4) (by kernel_rfl) (by simp only [List.getElem?_toArray, List.getElem?_cons_succ, List.getElem?_cons_zero]; rfl) (by kernel_rfl) _ _ (by go_simp) (fun u w' => ∃ ao co, u = .slice ao n co ∧ n ≤ co ∧ CelR w' ao (ofC b.used) ∧ (∀ q, ao = some q → w.drew.heap.size ≤ q.block) ∧ Below w.drew.heap.size w.drew w') ((R2.out _ HM.out.below).mono (fun e w' hh => by obtain ⟨ao, co, e1, e2⟩ := hh; exact ⟨_, e1, ao, co, rfl, e2⟩)) ?_
  rintro u w2 ⟨ao, co, rfl, hco, hR, hlow, hb⟩
  have HV := Lib.hid (new_bk (A := In (fun k => A k ∨ w0.heap.size ≤ k) [⟨b1, 30, v⟩, ⟨b2, 30, zeroBk⟩]) true ⟨#[]⟩ b.used ao n co (lies_newA HM.out (HSZ.out _ HM.out.below) (R := CelRb) hR HN.out hco hlow))
  replace HM := Lib.hid (HM.out.next hb)
  replace HS := Lib.hid (HS.out.next hb)
  clear hR hlow hco hb
  refine ⟨HS.out, ?_⟩
  try simp only [List.getElem_toArray, List.getElem_cons_succ, List.getElem_cons_zero, Act.put, List.setIfInBounds_toArray, List.set_cons_zero, List.set_cons_succ]
  change wpAnyH _ _ _ _ _ (1 + 1) _ _ _
  refine wpAnyH_take (i := 5) (v := .agg (newV true ⟨#[]⟩ ao n co).toArray) (by simp only [List.getElem?_toArray, List.getElem?_cons_succ, List.getElem?_cons_zero]; rfl) (by kernel_rfl) (by kernel_rfl) (by kernel_rfl) (fun _ _ _ h => by exact h) (.inl ⟨by rfl, fun u hu => Hold.build_run (t := 30) (parts := #[(0, .const (.bool true)), (2, .tmp 4), (3, .tmp 7)]) rfl (by first | exact HBU.out ao n co | (simp [Act.eval, Act.put]; exact HBU.out ao n co))⟩) HS.out ?_
  try simp only [List.getElem_toArray, List.getElem_cons_succ, List.getElem_cons_zero, Act.put, List.setIfInBounds_toArray, List.set_cons_zero, List.set_cons_succ]
  change wpAnyH _ _ _ _ _ (0 + 1) _ _ _
  refine wpAnyH_all (rs := [6]) (by kernel_rfl) (by simp) (fun j hj => ?_)
  obtain rfl : j = 6 := by simpa using hj
  refine Hold.op_storeK HM.out 1 (i := 6) (v' := newV true ⟨#[]⟩ ao n co) (by simp only [List.getElem?_toArray, List.getElem?_cons_succ, List.getElem?_cons_zero]; rfl) rfl rfl rfl rfl rfl (bkFits (newV_len _ _ _ _ _) zero_len) (bkLaid (newV_len _ _ _ _ _) zero_len) (newV_one _ _ _ _ _) (newV_row _ _ _ _ _) ?_
  clear HM
  intro w3 hbt HM
  simp only [List.set_cons_zero, List.set_cons_succ] at HM
  replace HM := Lib.hid HM
  replace HV := Lib.hid (HV.out.storedA (i := 1) (z' := newV true ⟨#[]⟩ ao n co) rfl hbt)
  replace HS := Lib.hid (show Hold.Hld _ [⟨b1, 30, v⟩] w3 from Hold.Hld.front (m' := [_]) HM.out)
  refine ⟨HS.out, ?_⟩
  try simp only [List.getElem_toArray, List.getElem_cons_succ, List.getElem_cons_zero, Act.put, List.setIfInBounds_toArray, List.set_cons_zero, List.set_cons_succ]
  refine wpAnyH_done (by kernel_rfl) ?_ _
  go_wp2
  refine bodyPost_ret (Hold.results1 HM.out 1 rfl _ rfl rfl (newV_row _ _ _ _ _)) rfl ?_
  refine ⟨newV true ⟨#[]⟩ ao n co, rfl, ?_, HM.out.below⟩
  rw [HB.out]
  exact HV.out.doneA
end Go.Proofs.YtdhipdoaefdfeaaGreatDoor.Bkb
