/-
  Perm of package book: what the plain mathematics of the texts Bkp and Bkm says; all memory that was there is left as it was. Conditions: the listed tables; few of each list.
-/
import Derived.Test.YtdhipdoaefdfeaaGreatDoorBkU
namespace Go.Proofs.YtdhipdoaefdfeaaGreatDoor.Bkb
open Go.RowKit Mur Prt Lanes Tap Bkl Bkm Rec Cel Bkr
set_option maxRecDepth 100000
set_option linter.unusedSimpArgs false

theorem cellS_length (b : Bk) (name : List UInt8) (n : Int) : (cellS b name n).length ≤ 6000 := by
  have hf : ∀ s : List UInt8, (fit s n).length ≤ 6000 := fun s => by
    unfold fit
    rw [List.length_take]
    omega
  unfold cellS
  split
  · exact hf _
  · unfold freshS
    split
    · exact hf _
    · exact hf _
set_option maxHeartbeats 3200000 in
theorem perm_any (A : Nat → Prop) (b b' : Bk) (v : List Value) (epoch n : Int) (L : List Nat) (N : Nat) (w : World) (hL : L = Bkp.perm (cellS b (joined [112, 101, 114, 109] [epoch]) n)) (hN : L.length = N) (hb' : b' = cellB b (joined [112, 101, 114, 109] [epoch]) n) (h : BkR w b v A) (hro : Room b 1000) (he1 : -9223372036854775808 ≤ epoch) (he2 : epoch ≤ 9223372036854775807) (hl : Laid w) :
    Calls Tryz.prog 12 #[.agg v.toArray, .int .i64 epoch, .int .i64 n] w fun e w' => ∃ a c v', e = .returned (.tuple #[.slice a N c, .agg v'.toArray]) ∧ NumR w' a L ∧ (L.length ≠ 0 → ∀ q, a = some q → w.heap.size ≤ q.block) ∧ BkR w' b' v' (fun k => A k ∨ w.heap.size ≤ k) ∧ Below w.heap.size w w' := by
  obtain ⟨w0, hw0⟩ : ∃ w0, w0 = w := ⟨w, rfl⟩
  subst hw0
  obtain ⟨nm, hnm⟩ : ∃ nm, nm = joined [112, 101, 114, 109] [epoch] := ⟨_, rfl⟩
  have hnl : nm.length ≤ 24 := by rw [hnm]; exact joined_one [112, 101, 114, 109] epoch he2
  rw [← hnm] at hL hb'
  obtain ⟨X, hX⟩ : ∃ X, X = tx nm := ⟨_, rfl⟩
  obtain ⟨S, hS⟩ : ∃ S, S = tx (cellS b nm n) := ⟨_, rfl⟩
  have hXd : X.data.toList = nm := by rw [hX]
  have hSd : S.data.toList = cellS b nm n := by rw [hS]
  have hXs : X.size ≤ 1000000 := by rw [hX]; show nm.length ≤ _; omega
  have hSs : S.size ≤ 1000000 := by rw [hS]; show (cellS b nm n).length ≤ _; have := cellS_length b nm n; omega
  have R1 := Lib.hid (fun u (hu : Below w0.heap.size w0 u) => Tape.permName_any epoch X u (by rw [hX, hnm]) he1 he2 (hl.pow.below hu))
  have R2 := Lib.hid (fun B u (hu : Below w0.heap.size w0 u) (hb : BkR u b v B) => cell_any B b b' v X S n u (by rw [hXd]; exact hS) (by rw [hXd]; exact hb') hb hro hXs (hl.consts.below hl.consts.1 hu))
  have R3 := Lib.hid (fun u => ranks_any S L N u (by rw [hSd]; exact hL) hN hSs)
  have HM := Lib.hid (Hold.Hld.start w0)
  have HV := Lib.hid h.start
  have HSZ := Lib.hid (fun (u : World) (hu : Below w0.heap.size w0 u) (k : Nat) (hk : u.heap.size ≤ k) => (Or.inr (Nat.le_trans hu.size hk) : A k ∨ w0.heap.size ≤ k))
  have HLEN := Lib.hid h.len
  have HN := Lib.hid hN
  clear hL hN hb' h hro he1 he2 hl hnm hnl hX hS hXd hSd hXs hSs
  go_enter Tryz.func12, Tryz.ntmps12
  go_upto_region 1 with ((first
    | ((with_reducible refine Hold.boxK HM.out rfl rfl rfl ?_); clear HM; intro b1 w hn hb HM; simp only [List.nil_append] at HM; replace HM := Lib.hid HM; replace HV := Lib.hid (HV.out.allocA (t := 30) (z := v) hn hb); simp only [List.nil_append] at HV; clear hn hb)
    | ((with_reducible refine Hold.allocK HM.out rfl rfl zeroBk zero_bk ?_); clear HM; intro b2 w hn hb HM; simp only [List.nil_append, List.cons_append] at HM; replace HM := Lib.hid HM; replace HV := Lib.hid (HV.out.allocA (t := 30) (z := zeroBk) hn hb); simp only [List.cons_append, List.nil_append] at HV; clear hn hb)))
  refine Steady.region_root 4 (by kernel_rfl) (by kernel_rfl) (fun u => Below w.heap.size w u) (Below.refl _ _).drew ?_
  simp only [List.take_succ_cons, List.take_zero]
  refine Steady.take (.agg (v).toArray) rfl (fun u hu => Hold.load_run (HM.out.next hu) 0 rfl rfl rfl (Hold.Part.all _) (bkRowOf HLEN.out)) ?_
  simp only [Act.put, List.setIfInBounds_toArray, List.set_cons_zero, List.set_cons_succ]
  refine Steady.take ?_ rfl (by intro u hu; go_simp; with_reducible rfl) ?_
  simp only [Act.put, List.setIfInBounds_toArray, List.set_cons_zero, List.set_cons_succ]
  refine Steady.call _ _ _ rfl ?_ (Chn.keptIf (fun u hu => R1.out u (HM.out.next hu).below)) ?_
  · intro u
    go_simp
  simp only [Act.put, List.setIfInBounds_toArray, List.set_cons_zero, List.set_cons_succ]
  refine Steady.take ?_ rfl (by intro u hu; go_simp; with_reducible rfl) ?_
  simp only [Act.put, List.setIfInBounds_toArray, List.set_cons_zero, List.set_cons_succ]
  refine Steady.nil ?_
  intro w1 hb1
  replace HM := Lib.hid (HM.out.next hb1)
  replace HV := Lib.hid (HV.out.below hb1)
  clear hb1
  change wpAny _ _ _ _ (5 + 1) _ _ _
  refine wpAny_all (rs := [4]) (by kernel_rfl) (by simp) (fun j hj => ?_)
  obtain rfl : j = 4 := by simpa using hj
  refine Steady.call_any (i := 4) (by simp only [List.getElem?_toArray, List.getElem?_cons_succ, List.getElem?_cons_zero]; rfl) (by kernel_rfl) _ _ (by go_simp) (fun u w' => ∃ v1, u = .tuple #[.string S, .agg v1.toArray] ∧ BkR w' b' v1 (fun k => In (fun k => A k ∨ w0.heap.size ≤ k) [⟨b1, 30, v⟩, ⟨b2, 30, zeroBk⟩] k ∨ w1.heap.size ≤ k) ∧ Below w1.heap.size w1 w') ((R2.out _ w1 HM.out.below HV.out).mono (fun e w' hh => by obtain ⟨v1, e1, e2⟩ := hh; exact ⟨_, e1, v1, rfl, e2⟩)) ?_
  rintro u w2 ⟨v1, rfl, hv, hb⟩
  replace HV := Lib.hid (hv.answeredA HM.out (HSZ.out _ HM.out.below))
  replace HM := Lib.hid (HM.out.next hb)
  clear hv hb
  try simp only [List.getElem_toArray, List.getElem_cons_succ, List.getElem_cons_zero, Act.put, List.setIfInBounds_toArray, List.set_cons_zero, List.set_cons_succ]
  change wpAny _ _ _ _ (4 + 1) _ _ _
  refine wpAny_take (i := 5) (by simp only [List.getElem?_toArray, List.getElem?_cons_succ, List.getElem?_cons_zero]; rfl) (by kernel_rfl) (by kernel_rfl) (by kernel_rfl) (fun _ _ _ h => by exact h) (Or.inl ⟨by rfl, fun u => by go_simp; try with_reducible rfl⟩) ?_
  try simp only [List.getElem_toArray, List.getElem_cons_succ, List.getElem_cons_zero, Act.put, List.setIfInBounds_toArray, List.set_cons_zero, List.set_cons_succ]
  change wpAny _ _ _ _ (3 + 1) _ _ _
  refine wpAny_take (i := 6) (by simp only [List.getElem?_toArray, List.getElem?_cons_succ, List.getElem?_cons_zero]; rfl) (by kernel_rfl) (by kernel_rfl) (by kernel_rfl) (fun _ _ _ h => by exact h) (Or.inl ⟨by rfl, fun u => by go_simp; try with_reducible rfl⟩) ?_
  try simp only [List.getElem_toArray, List.getElem_cons_succ, List.getElem_cons_zero, Act.put, List.setIfInBounds_toArray, List.set_cons_zero, List.set_cons_succ]
  change wpAny _ _ _ _ (2 + 1) _ _ _
  refine wpAny_take (i := 7) (by simp only [List.getElem?_toArray, List.getElem?_cons_succ, List.getElem?_cons_zero]; rfl) (by kernel_rfl) (by kernel_rfl) (by kernel_rfl) (fun _ _ _ h => by exact h) (Or.inl ⟨by rfl, fun u => by go_simp; try with_reducible rfl⟩) ?_
  try simp only [List.getElem_toArray, List.getElem_cons_succ, List.getElem_cons_zero, Act.put, List.setIfInBounds_toArray, List.set_cons_zero, List.set_cons_succ]
  change wpAny _ _ _ _ (1 + 1) _ _ _
  refine wpAny_take (i := 8) (by simp only [List.getElem?_toArray, List.getElem?_cons_succ, List.getElem?_cons_zero]; rfl) (by kernel_rfl) (by kernel_rfl) (by kernel_rfl) (fun _ _ _ h => by exact h) (Or.inl ⟨by rfl, fun u => by go_simp; try with_reducible rfl⟩) ?_
  try simp only [List.getElem_toArray, List.getElem_cons_succ, List.getElem_cons_zero, Act.put, List.setIfInBounds_toArray, List.set_cons_zero, List.set_cons_succ]
  change wpAny _ _ _ _ (0 + 1) _ _ _
  refine wpAny_all (rs := [9]) (by kernel_rfl) (by simp) (fun j hj => ?_)
  obtain rfl : j = 9 := by simpa using hj
  refine Hold.op_storeK HM.out 0 (i := 9) (v' := v1) (by simp only [List.getElem?_toArray, List.getElem?_cons_succ, List.getElem?_cons_zero]; rfl) rfl rfl rfl rfl rfl (bkFits HV.out.len HLEN.out) (bkLaid HV.out.len HLEN.out) (HV.out.one) (bkRowOf HV.out.len) ?_
  clear HM
  intro w3 hbt HM
  simp only [List.set_cons_zero, List.set_cons_succ] at HM
  replace HM := Lib.hid HM
  replace HV := Lib.hid (HV.out.storedA (i := 0) (z' := v1) rfl hbt)
  simp only [List.set_cons_zero, List.set_cons_succ] at HV
  try simp only [List.getElem_toArray, List.getElem_cons_succ, List.getElem_cons_zero, Act.put, List.setIfInBounds_toArray, List.set_cons_zero, List.set_cons_succ]
  refine wpAny_done (by kernel_rfl) ?_ _
  go_upto_region 2 with fail
  have HS := Lib.hid (Hold.Hld.drew (show Hold.Hld _ [⟨b1, 30, v1⟩] w3 from Hold.Hld.front (m' := [_]) HM.out))
  replace HM := Lib.hid HM.out.drew
  refine wp_region_held (S := fun u => Hold.Hld w0 [⟨b1, 30, v1⟩] u) (by kernel_rfl) ?_
  change wpAnyH _ _ _ _ _ (4 + 1) _ _ _
  refine wpAnyH_take (i := 0) (by simp only [List.getElem?_toArray, List.getElem?_cons_succ, List.getElem?_cons_zero]; rfl) (by kernel_rfl) (by kernel_rfl) (by kernel_rfl) (fun _ _ _ h => by exact h) (.inl ⟨by rfl, fun u hu => by go_simp; with_reducible rfl⟩) HS.out ?_
  try simp only [List.getElem_toArray, List.getElem_cons_succ, List.getElem_cons_zero, Act.put, List.setIfInBounds_toArray, List.set_cons_zero, List.set_cons_succ]
  change wpAnyH _ _ _ _ _ (3 + 1) _ _ _
  refine wpAnyH_take (i := 2) (v := .agg (v1).toArray) (by simp only [List.getElem?_toArray, List.getElem?_cons_succ, List.getElem?_cons_zero]; rfl) (by kernel_rfl) (by kernel_rfl) (by kernel_rfl) (fun _ _ _ h => by exact h) (.inl ⟨by rfl, fun u hu => Hold.load_run hu 0 rfl rfl rfl (Hold.Part.all _) (bkRowOf HV.out.len)⟩) HS.out ?_
  try simp only [List.getElem_toArray, List.getElem_cons_succ, List.getElem_cons_zero, Act.put, List.setIfInBounds_toArray, List.set_cons_zero, List.set_cons_succ]
  change wpAnyH _ _ _ _ _ (2 + 1) _ _ _
  refine Steady.call_next (i := 1) (by kernel_rfl) (by simp only [List.getElem?_toArray, List.getElem?_cons_succ, List.getElem?_cons_zero]; rfl) (by kernel_rfl) _ _ (by go_simp) (fun u w' => ∃ ao co, u = .slice ao N co ∧ N ≤ co ∧ NumR w' ao L ∧ (∀ q, ao = some q → w3.drew.heap.size ≤ q.block) ∧ Below w3.drew.heap.size w3.drew w') ((R3.out w3.drew).mono (fun e w' hh => by obtain ⟨ao, co, e1, e2⟩ := hh; exact ⟨_, e1, ao, co, rfl, e2⟩)) ?_
  rintro u w2 ⟨ao, co, rfl, -, hR, hlow, hb⟩
  have HNU := Lib.hid (num_answered hR (fun _ => hlow) HM.out)
  have HLOW := Lib.hid (fun q (hq : ao = some q) => Nat.le_trans HM.out.below.size (hlow q hq))
  replace HM := Lib.hid (HM.out.next hb)
  replace HS := Lib.hid (HS.out.next hb)
  replace HV := Lib.hid ((HV.out.below ((Below.refl _ _).drew)).below hb)
  clear hR hlow hb
  refine ⟨HS.out, ?_⟩
  try simp only [List.getElem_toArray, List.getElem_cons_succ, List.getElem_cons_zero, Act.put, List.setIfInBounds_toArray, List.set_cons_zero, List.set_cons_succ]
  change wpAnyH _ _ _ _ _ (1 + 1) _ _ _
  refine wpAnyH_take (i := 3) (by simp only [List.getElem?_toArray, List.getElem?_cons_succ, List.getElem?_cons_zero]; rfl) (by kernel_rfl) (by kernel_rfl) (by kernel_rfl) (fun _ _ _ h => by exact h) (.inl ⟨by rfl, fun u hu => by go_simp; with_reducible rfl⟩) HS.out ?_
  try simp only [List.getElem_toArray, List.getElem_cons_succ, List.getElem_cons_zero, Act.put, List.setIfInBounds_toArray, List.set_cons_zero, List.set_cons_succ]
  change wpAnyH _ _ _ _ _ (0 + 1) _ _ _
  refine wpAnyH_all (rs := [4]) (by kernel_rfl) (by simp) (fun j hj => ?_)
  obtain rfl : j = 4 := by simpa using hj
  refine Hold.op_storeK HM.out 1 (i := 4) (v' := v1) (by simp only [List.getElem?_toArray, List.getElem?_cons_succ, List.getElem?_cons_zero]; rfl) rfl rfl rfl rfl rfl (bkFits HV.out.len zero_len) (bkLaid HV.out.len zero_len) (HV.out.one) (bkRowOf HV.out.len) ?_
  clear HM
  intro w3 hbt HM
  simp only [List.set_cons_zero, List.set_cons_succ] at HM
  replace HM := Lib.hid HM
  replace HV := Lib.hid (HV.out.storedA (i := 1) (z' := v1) rfl hbt)
  replace HNU := Lib.hid (HNU.out.stored (i := 1) (z' := v1) rfl hbt)
  replace HS := Lib.hid (show Hold.Hld _ [⟨b1, 30, v1⟩] w3 from Hold.Hld.front (m' := [_]) HM.out)
  refine ⟨HS.out, ?_⟩
  try simp only [List.getElem_toArray, List.getElem_cons_succ, List.getElem_cons_zero, Act.put, List.setIfInBounds_toArray, List.set_cons_zero, List.set_cons_succ]
  refine wpAnyH_done (by kernel_rfl) ?_ _
  go_wp2
  refine bodyPost_ret (Hold.resultsTC HM.out 1 rfl _ rfl rfl rfl (bkRowOf HV.out.len)) rfl ?_
  exact ⟨ao, co, v1, rfl, HNU.out.read, fun _ q hq => HLOW.out q hq, HV.out.doneA, HM.out.below⟩
end Go.Proofs.YtdhipdoaefdfeaaGreatDoor.Bkb
