/-
  signer of package book: what the plain mathematics of the text Bkm says; all memory that was there is left as it was. Conditions: the listed tables; short texts, few of each list.
-/
import Derived.Test.YtdhipdoaefdfeaaGreatDoorBkY
namespace Go.Proofs.YtdhipdoaefdfeaaGreatDoor.Hold
open Go Go.RowKit Mur
theorem op_wp {P : Program} {ops : Array Oper} {i : Nat} {o : Oper} {a : Act} {w : World} {K : Act → World → Prop} {Q : Exit → Act → World → Prop} (hi : ops[i]? = some o) (hw : Region.wanted o (yielded ops a.tmps) = true) (h : Oper.wp P o a w K Q) : wpOp P ops Q i K a w := by
  unfold wpOp
  simp only [hi]
  rw [if_pos hw]
  exact .inl h
end Go.Proofs.YtdhipdoaefdfeaaGreatDoor.Hold
namespace Go.Proofs.YtdhipdoaefdfeaaGreatDoor.Bkb
open Go.RowKit Mur Prt Lanes Tap Bkl Bkm Rec Cel Bkr
set_option maxRecDepth 100000
set_option linter.unusedSimpArgs false

/-- A signer's cells. -/
def sgV (S : ByteArray) (k : Int) : List Value := [.int .i64 2, .int .i64 1, .string S, .int .i64 k]
def zeroSg : List Value := [.int .i64 0, .int .i64 0, .string ⟨#[]⟩, .int .i64 0]
theorem zero_sg : (Tryz.prog.info? 65).map (fun i => (i.zero, i.size)) = some (some (.agg zeroSg.toArray), zeroSg.length) := by kernel_rfl
theorem sgRow (S : ByteArray) (k : Int) : Hold.TyRow Tryz.prog 65 (sgV S k).length := ⟨_, Tryz.underlying65, rfl, by kernel_rfl⟩
theorem sg_one (S : ByteArray) (k : Int) : Hold.Single (sgV S k) := by unfold Hold.Single sgV; simp [Value.oneCell']
theorem sg_fits (S : ByteArray) (k : Int) : 0 + (sgV S k).length ≤ zeroSg.length := Nat.le_refl 4
theorem sg_laid (S : ByteArray) (k : Int) : Hold.lay zeroSg 0 (sgV S k) = sgV S k := Hold.lay_all rfl
theorem sg_set (S : ByteArray) (k : Int) : (sgV S 0).set 3 (.int .i64 k) = sgV S k := rfl
theorem sg_lt (S : ByteArray) (k : Int) : 3 < (sgV S k).length := Nat.lt_succ_self 3
def wsV (t s : ByteArray) : List Value := [.string t, .string s]

set_option maxHeartbeats 6400000 in
theorem signer_any (A : Nat → Prop) (b : Bk) (v : List Value) (who S : ByteArray) (k : Int) (w : World) (hS : S = tx (signerSeed b.seed who.data.toList)) (hk : k = (Bkl.count b.counts who.data.toList : Nat)) (h : BkR w b v A) (hro : Room b 1000) (hs : who.size ≤ 1000000) (hl : Sha.Consts w) :
    Calls Tryz.prog 38 #[.agg v.toArray, .string who] w fun e w' => e = .returned (.agg #[.int .i64 2, .int .i64 1, .string S, .int .i64 k]) ∧ Below w.heap.size w w' := by
  obtain ⟨w0, hw0⟩ : ∃ w0, w0 = w := ⟨w, rfl⟩
  subst hw0
  obtain ⟨D, hD⟩ : ∃ D, D = Ked.derive b.seed 32 [signT, who.data.toList] := ⟨_, rfl⟩
  have hDl : D.length = 32 := by rw [hD]; exact Ked.expand_length _ _ _ (by omega)
  have hSD : S = tx (Stp.seedOf D) := by rw [hS, hD]; rfl
  obtain ⟨X, hX⟩ : ∃ X, X = tx D := ⟨_, rfl⟩
  have hXd : X.data.toList = D := by rw [hX]
  have hm32 : Ked.many 32 = 32 := by unfold Ked.many; omega
  have hsl : (tx b.seed).size ≤ 1000 := hro.seed
  have hXl : X.size ≤ 8160 := by
    have e : X.size = D.length := by rw [← hXd]; rfl
    omega
  have RD := Lib.hid (fun (q : Nat) (u : World) (hq : q < u.heap.size) (hc : u.cell? ⟨q, 0, none⟩ = some (.string ⟨#[115, 105, 103, 110]⟩)) (hd : u.cell? ⟨q, 1, none⟩ = some (.string who)) (hu : Below w0.heap.size w0 u) => derive_two (tx b.seed) ⟨#[115, 105, 103, 110]⟩ who 32 X q u (by omega) (by decide) hs hq hc hd (by rw [hX, hD, hm32]; rfl) (hl.below hl.1 hu))
  have RM := Lib.hid (fun u (hu : Below w0.heap.size w0 u) => show Calls Tryz.prog 59 #[.agg shV.toArray, .string X] u fun e w' => e = .returned (.tuple #[.agg (sgV S 0).toArray, .int .i64 0]) ∧ Below u.heap.size u w' from Stp.make_any 2 1 X S u right21 (by omega) (by rw [hXd]; exact hSD) (hl.below hl.1 hu))
  have RC := Lib.hid (fun u (hu : Below w0.heap.size w0 u) => count_any A b v who k u hk (h.below hu) hro)
  have HP := Lib.hid h.shape
  have H1 := Lib.hid h.at1
  have HLEN := Lib.hid h.len
  have HM := Lib.hid (Hold.Hld.start w0)
  generalize tx b.seed = sd at *
  clear hS hk h hro hs hl hX hm32 hsl hXl hD hDl hSD hXd D
  go_enter Tryz.func38, Tryz.ntmps38
  go_upto_region 1 with ((first
    | ((with_reducible refine Hold.box HM.out rfl rfl rfl ?_); clear HM; intro b1 w HM; simp only [List.nil_append] at HM; replace HM := Lib.hid HM)
    | ((with_reducible refine Hold.alloc HM.out rfl rfl zeroSg zero_sg ?_); clear HM; intro b4 w HM; simp only [List.nil_append, List.cons_append] at HM; replace HM := Lib.hid HM)))
  have HS := Lib.hid (Hold.Hld.drew (show Hold.Hld _ [⟨b1, 30, v⟩] w from Hold.Hld.front (m' := [_]) HM.out))
  replace HM := Lib.hid HM.out.drew
  refine wp_region_held (S := fun u => Hold.Hld w0 [⟨b1, 30, v⟩] u) (by kernel_rfl) ?_
  change wpAnyH _ _ _ _ _ _ _ _ w.drew
  generalize w.drew = wd at *
  change wpAnyH _ _ _ _ _ (13 + 1) _ _ _
  refine wpAnyH_take (i := 0) (by simp only [List.getElem?_toArray, List.getElem?_cons_succ, List.getElem?_cons_zero]; rfl) (by kernel_rfl) (by kernel_rfl) (by kernel_rfl) (fun _ _ _ h => by exact h) (.inl ⟨by rfl, fun u hu => by go_simp; try with_reducible rfl⟩) HS.out ?_
  try simp only [List.getElem_toArray, List.getElem_cons_succ, List.getElem_cons_zero, Act.put, List.setIfInBounds_toArray, List.set_cons_zero, List.set_cons_succ]
  change wpAnyH _ _ _ _ _ (12 + 1) _ _ _
  refine wpAnyH_take (i := 1) (v := .agg shV.toArray) (by simp only [List.getElem?_toArray, List.getElem?_cons_succ, List.getElem?_cons_zero]; rfl) (by kernel_rfl) (by kernel_rfl) (by kernel_rfl) (fun _ _ _ h => by exact h) (.inl ⟨by rfl, fun u hu => Hold.load_run hu 0 rfl rfl rfl HP.out shV_row⟩) HS.out ?_
  try simp only [List.getElem_toArray, List.getElem_cons_succ, List.getElem_cons_zero, Act.put, List.setIfInBounds_toArray, List.set_cons_zero, List.set_cons_succ]
  change wpAnyH _ _ _ _ _ (11 + 1) _ _ _
  refine wpAnyH_take (i := 2) (by simp only [List.getElem?_toArray, List.getElem?_cons_succ, List.getElem?_cons_zero]; rfl) (by kernel_rfl) (by kernel_rfl) (by kernel_rfl) (fun _ _ _ h => by exact h) (.inl ⟨by rfl, fun u hu => by go_simp; try with_reducible rfl⟩) HS.out ?_
  try simp only [List.getElem_toArray, List.getElem_cons_succ, List.getElem_cons_zero, Act.put, List.setIfInBounds_toArray, List.set_cons_zero, List.set_cons_succ]
  change wpAnyH _ _ _ _ _ (10 + 1) _ _ _
  refine wpAnyH_take (i := 3) (v := .string sd) (by simp only [List.getElem?_toArray, List.getElem?_cons_succ, List.getElem?_cons_zero]; rfl) (by kernel_rfl) (by kernel_rfl) (by kernel_rfl) (fun _ _ _ h => by exact h) (.inl ⟨by rfl, fun u hu => Hold.load1_run hu 0 rfl rfl rfl H1.out Bkr.cellStr⟩) HS.out ?_
  try simp only [List.getElem_toArray, List.getElem_cons_succ, List.getElem_cons_zero, Act.put, List.setIfInBounds_toArray, List.set_cons_zero, List.set_cons_succ]
  change wpAnyH _ _ _ _ _ (9 + 1) _ _ _
  refine wpAnyH_take (i := 4) (by simp only [List.getElem?_toArray, List.getElem?_cons_succ, List.getElem?_cons_zero]; rfl) (by kernel_rfl) (by kernel_rfl) (by kernel_rfl) (fun _ _ _ h => by exact h) (.inl ⟨by rfl, fun u hu => by go_simp; try with_reducible rfl⟩) HS.out ?_
  try simp only [List.getElem_toArray, List.getElem_cons_succ, List.getElem_cons_zero, Act.put, List.setIfInBounds_toArray, List.set_cons_zero, List.set_cons_succ]
  change wpAnyH _ _ _ _ _ (8 + 1) _ _ _
  refine wpAnyH_all (rs := [5, 11]) (by kernel_rfl) (by simp) (fun j hj => ?_)
  have hj2 : j = 5 ∨ j = 11 := by simpa using hj
  clear hj
  rcases hj2 with rfl | rfl
  ·
    refine Hold.op_wp (by simp only [List.getElem?_toArray, List.getElem?_cons_succ, List.getElem?_cons_zero]; rfl) (by kernel_rfl) ?_
    go_simp
    replace HM := Lib.hid (HM.out.add 9 (wsV ⟨#[115, 105, 103, 110]⟩ who))
    simp only [List.cons_append, List.nil_append] at HM
    replace HS := Lib.hid (show Hold.Hld _ [⟨b1, 30, v⟩] _ from Hold.Hld.front (m' := [_, _]) HM.out)
    refine ⟨HS.out, ?_⟩
    try simp only [List.getElem_toArray, List.getElem_cons_succ, List.getElem_cons_zero, Act.put, List.setIfInBounds_toArray, List.set_cons_zero, List.set_cons_succ]
    change wpAnyH _ _ _ _ _ (7 + 1) _ _ _
    refine wpAnyH_all (rs := [6, 11]) (by kernel_rfl) (by simp) (fun j hj => ?_)
    have hj2 : j = 6 ∨ j = 11 := by simpa using hj
    clear hj
    rcases hj2 with rfl | rfl
    ·
      refine Steady.call_any (i := 6) (by simp only [List.getElem?_toArray, List.getElem?_cons_succ, List.getElem?_cons_zero]; rfl) (by kernel_rfl) _ _ (by go_simp) (fun u w' => u = .string X ∧ Below _ _ w') ((RD.out _ _ (HM.out.at 2 rfl).lt ((HM.out.at 2 rfl).row.cell rfl) ((HM.out.at 2 rfl).row.cell rfl) HM.out.below).mono (fun e w' hh => ⟨_, hh.1, rfl, hh.2⟩)) ?_
      rintro u w6 ⟨rfl, hb⟩
      replace HM := Lib.hid (HM.out.next hb)
      clear hb
      replace HS := Lib.hid (show Hold.Hld _ [⟨b1, 30, v⟩] _ from Hold.Hld.front (m' := [_, _]) HM.out)
      refine ⟨HS.out, ?_⟩
      try simp only [List.getElem_toArray, List.getElem_cons_succ, List.getElem_cons_zero, Act.put, List.setIfInBounds_toArray, List.set_cons_zero, List.set_cons_succ]
      change wpAnyH _ _ _ _ _ (6 + 1) _ _ _
      refine wpAnyH_all (rs := [7, 11]) (by kernel_rfl) (by simp) (fun j hj => ?_)
      have hj2 : j = 7 ∨ j = 11 := by simpa using hj
      clear hj
      rcases hj2 with rfl | rfl
      ·
        refine Steady.call_any (i := 7) (by simp only [List.getElem?_toArray, List.getElem?_cons_succ, List.getElem?_cons_zero]; rfl) (by kernel_rfl) _ _ (by go_simp) (fun u w' => u = .tuple #[.agg (sgV S 0).toArray, .int .i64 0] ∧ Below _ _ w') ((RM.out _ HM.out.below).mono (fun e w' hh => ⟨_, hh.1, rfl, hh.2⟩)) ?_
        rintro u w7 ⟨rfl, hb⟩
        replace HM := Lib.hid (HM.out.next hb)
        clear hb
        replace HS := Lib.hid (show Hold.Hld _ [⟨b1, 30, v⟩] _ from Hold.Hld.front (m' := [_, _]) HM.out)
        refine ⟨HS.out, ?_⟩
        try simp only [List.getElem_toArray, List.getElem_cons_succ, List.getElem_cons_zero, Act.put, List.setIfInBounds_toArray, List.set_cons_zero, List.set_cons_succ]
        change wpAnyH _ _ _ _ _ (5 + 1) _ _ _
        refine wpAnyH_take (i := 8) (by simp only [List.getElem?_toArray, List.getElem?_cons_succ, List.getElem?_cons_zero]; rfl) (by kernel_rfl) (by kernel_rfl) (by kernel_rfl) (fun _ _ _ h => by exact h) (.inl ⟨by rfl, fun u hu => by go_simp; try with_reducible rfl⟩) HS.out ?_
        try simp only [List.getElem_toArray, List.getElem_cons_succ, List.getElem_cons_zero, Act.put, List.setIfInBounds_toArray, List.set_cons_zero, List.set_cons_succ]
        change wpAnyH _ _ _ _ _ (4 + 1) _ _ _
        refine wpAnyH_take (i := 9) (by simp only [List.getElem?_toArray, List.getElem?_cons_succ, List.getElem?_cons_zero]; rfl) (by kernel_rfl) (by kernel_rfl) (by kernel_rfl) (fun _ _ _ h => by exact h) (.inl ⟨by rfl, fun u hu => by go_simp; try with_reducible rfl⟩) HS.out ?_
        try simp only [List.getElem_toArray, List.getElem_cons_succ, List.getElem_cons_zero, Act.put, List.setIfInBounds_toArray, List.set_cons_zero, List.set_cons_succ]
        change wpAnyH _ _ _ _ _ (3 + 1) _ _ _
        refine wpAnyH_take (i := 10) (by simp only [List.getElem?_toArray, List.getElem?_cons_succ, List.getElem?_cons_zero]; rfl) (by kernel_rfl) (by kernel_rfl) (by kernel_rfl) (fun _ _ _ h => by exact h) (.inl ⟨by rfl, fun u hu => by go_simp; try with_reducible rfl⟩) HS.out ?_
        try simp only [List.getElem_toArray, List.getElem_cons_succ, List.getElem_cons_zero, Act.put, List.setIfInBounds_toArray, List.set_cons_zero, List.set_cons_succ]
        change wpAnyH _ _ _ _ _ (2 + 1) _ _ _
        refine wpAnyH_all (rs := [11]) (by kernel_rfl) (by simp) (fun j hj => ?_)
        obtain rfl : j = 11 := by simpa using hj
        refine Hold.op_alloc HM.out (by simp only [List.getElem?_toArray, List.getElem?_cons_succ, List.getElem?_cons_zero]; rfl) rfl rfl zeroSg zero_sg ?_
        clear HM
        intro b5 w5 HM
        simp only [List.cons_append, List.nil_append] at HM
        replace HM := Lib.hid HM
        replace HS := Lib.hid (show Hold.Hld _ [⟨b1, 30, v⟩] _ from Hold.Hld.front (m' := [_, _, _]) HM.out)
        refine ⟨HS.out, ?_⟩
        try simp only [List.getElem_toArray, List.getElem_cons_succ, List.getElem_cons_zero, Act.put, List.setIfInBounds_toArray, List.set_cons_zero, List.set_cons_succ]
        change wpAnyH _ _ _ _ _ (1 + 1) _ _ _
        refine wpAnyH_all (rs := [12]) (by kernel_rfl) (by simp) (fun j hj => ?_)
        obtain rfl : j = 12 := by simpa using hj
        refine Hold.op_storeK HM.out 3 (i := 12) (v' := sgV S 0) (by simp only [List.getElem?_toArray, List.getElem?_cons_succ, List.getElem?_cons_zero]; rfl) rfl rfl rfl rfl rfl (sg_fits _ _) (sg_laid _ _) (sg_one _ _) (sgRow _ _) ?_
        clear HM
        intro w8 hbt HM
        simp only [List.set_cons_zero, List.set_cons_succ] at HM
        replace HM := Lib.hid HM
        clear hbt
        replace HS := Lib.hid (show Hold.Hld _ [⟨b1, 30, v⟩] _ from Hold.Hld.front (m' := [_, _, _]) HM.out)
        refine ⟨HS.out, ?_⟩
        try simp only [List.getElem_toArray, List.getElem_cons_succ, List.getElem_cons_zero, Act.put, List.setIfInBounds_toArray, List.set_cons_zero, List.set_cons_succ]
        change wpAnyH _ _ _ _ _ (0 + 1) _ _ _
        refine wpAnyH_take (i := 13) (by simp only [List.getElem?_toArray, List.getElem?_cons_succ, List.getElem?_cons_zero]; rfl) (by kernel_rfl) (by kernel_rfl) (by kernel_rfl) (fun _ _ _ h => by exact h) (.inl ⟨by rfl, fun u hu => by go_simp; try with_reducible rfl⟩) HS.out ?_
        try simp only [List.getElem_toArray, List.getElem_cons_succ, List.getElem_cons_zero, Act.put, List.setIfInBounds_toArray, List.set_cons_zero, List.set_cons_succ]
        refine wpAnyH_done (by kernel_rfl) ?_ _
        go_wp2_with ((first
          | (with_reducible refine Hold.load HM.out 0 (cs := v) rfl rfl rfl rfl (Hold.Part.all _) (bkRowOf HLEN.out) ?_)
          | ((with_reducible refine (RC.out _ HM.out.below).mono ?_); rintro e w9 ⟨rfl, hb⟩; replace HM := Lib.hid (HM.out.next hb); clear hb)
          | ((with_reducible refine Hold.store1 HM.out 3 (c := .int .i64 k) (v' := sgV S k) rfl rfl rfl rfl rfl (sg_lt _ _) (sg_set _ _) (Hold.cell_int _ _) Bkr.cellInt ?_); clear HM; intro w HM; simp only [List.set_cons_zero, List.set_cons_succ] at HM; replace HM := Lib.hid HM)
          | (with_reducible refine Hold.load HM.out 3 (cs := sgV S k) rfl rfl rfl rfl (Hold.Part.all _) (sgRow _ _) ?_)
          | ((with_reducible refine Hold.store HM.out 1 (v' := sgV S k) rfl rfl rfl rfl rfl (sg_fits _ _) (sg_laid _ _) (sg_one _ _) (sgRow _ _) ?_); clear HM; intro w HM; simp only [List.set_cons_zero, List.set_cons_succ] at HM; replace HM := Lib.hid HM)))
        exact bodyPost_ret (Hold.results1 HM.out 1 rfl _ rfl rfl (sgRow _ _)) rfl ⟨rfl, HM.out.below⟩
      ·
        refine Hold.op_alloc HM.out (by simp only [List.getElem?_toArray, List.getElem?_cons_succ, List.getElem?_cons_zero]; rfl) rfl rfl zeroSg zero_sg ?_
        clear HM
        intro b5 w5 HM
        simp only [List.cons_append, List.nil_append] at HM
        replace HM := Lib.hid HM
        replace HS := Lib.hid (show Hold.Hld _ [⟨b1, 30, v⟩] _ from Hold.Hld.front (m' := [_, _, _]) HM.out)
        refine ⟨HS.out, ?_⟩
        try simp only [List.getElem_toArray, List.getElem_cons_succ, List.getElem_cons_zero, Act.put, List.setIfInBounds_toArray, List.set_cons_zero, List.set_cons_succ]
        change wpAnyH _ _ _ _ _ (5 + 1) _ _ _
        refine wpAnyH_all (rs := [7]) (by kernel_rfl) (by simp) (fun j hj => ?_)
        obtain rfl : j = 7 := by simpa using hj
        refine Steady.call_any (i := 7) (by simp only [List.getElem?_toArray, List.getElem?_cons_succ, List.getElem?_cons_zero]; rfl) (by kernel_rfl) _ _ (by go_simp) (fun u w' => u = .tuple #[.agg (sgV S 0).toArray, .int .i64 0] ∧ Below _ _ w') ((RM.out _ HM.out.below).mono (fun e w' hh => ⟨_, hh.1, rfl, hh.2⟩)) ?_
        rintro u w7 ⟨rfl, hb⟩
        replace HM := Lib.hid (HM.out.next hb)
        clear hb
        replace HS := Lib.hid (show Hold.Hld _ [⟨b1, 30, v⟩] _ from Hold.Hld.front (m' := [_, _, _]) HM.out)
        refine ⟨HS.out, ?_⟩
        try simp only [List.getElem_toArray, List.getElem_cons_succ, List.getElem_cons_zero, Act.put, List.setIfInBounds_toArray, List.set_cons_zero, List.set_cons_succ]
        change wpAnyH _ _ _ _ _ (4 + 1) _ _ _
        refine wpAnyH_take (i := 8) (by simp only [List.getElem?_toArray, List.getElem?_cons_succ, List.getElem?_cons_zero]; rfl) (by kernel_rfl) (by kernel_rfl) (by kernel_rfl) (fun _ _ _ h => by exact h) (.inl ⟨by rfl, fun u hu => by go_simp; try with_reducible rfl⟩) HS.out ?_
        try simp only [List.getElem_toArray, List.getElem_cons_succ, List.getElem_cons_zero, Act.put, List.setIfInBounds_toArray, List.set_cons_zero, List.set_cons_succ]
        change wpAnyH _ _ _ _ _ (3 + 1) _ _ _
        refine wpAnyH_take (i := 9) (by simp only [List.getElem?_toArray, List.getElem?_cons_succ, List.getElem?_cons_zero]; rfl) (by kernel_rfl) (by kernel_rfl) (by kernel_rfl) (fun _ _ _ h => by exact h) (.inl ⟨by rfl, fun u hu => by go_simp; try with_reducible rfl⟩) HS.out ?_
        try simp only [List.getElem_toArray, List.getElem_cons_succ, List.getElem_cons_zero, Act.put, List.setIfInBounds_toArray, List.set_cons_zero, List.set_cons_succ]
        change wpAnyH _ _ _ _ _ (2 + 1) _ _ _
        refine wpAnyH_take (i := 10) (by simp only [List.getElem?_toArray, List.getElem?_cons_succ, List.getElem?_cons_zero]; rfl) (by kernel_rfl) (by kernel_rfl) (by kernel_rfl) (fun _ _ _ h => by exact h) (.inl ⟨by rfl, fun u hu => by go_simp; try with_reducible rfl⟩) HS.out ?_
        try simp only [List.getElem_toArray, List.getElem_cons_succ, List.getElem_cons_zero, Act.put, List.setIfInBounds_toArray, List.set_cons_zero, List.set_cons_succ]
        change wpAnyH _ _ _ _ _ (1 + 1) _ _ _
        refine wpAnyH_all (rs := [12]) (by kernel_rfl) (by simp) (fun j hj => ?_)
        obtain rfl : j = 12 := by simpa using hj
        refine Hold.op_storeK HM.out 3 (i := 12) (v' := sgV S 0) (by simp only [List.getElem?_toArray, List.getElem?_cons_succ, List.getElem?_cons_zero]; rfl) rfl rfl rfl rfl rfl (sg_fits _ _) (sg_laid _ _) (sg_one _ _) (sgRow _ _) ?_
        clear HM
        intro w8 hbt HM
        simp only [List.set_cons_zero, List.set_cons_succ] at HM
        replace HM := Lib.hid HM
        clear hbt
        replace HS := Lib.hid (show Hold.Hld _ [⟨b1, 30, v⟩] _ from Hold.Hld.front (m' := [_, _, _]) HM.out)
        refine ⟨HS.out, ?_⟩
        try simp only [List.getElem_toArray, List.getElem_cons_succ, List.getElem_cons_zero, Act.put, List.setIfInBounds_toArray, List.set_cons_zero, List.set_cons_succ]
        change wpAnyH _ _ _ _ _ (0 + 1) _ _ _
        refine wpAnyH_take (i := 13) (by simp only [List.getElem?_toArray, List.getElem?_cons_succ, List.getElem?_cons_zero]; rfl) (by kernel_rfl) (by kernel_rfl) (by kernel_rfl) (fun _ _ _ h => by exact h) (.inl ⟨by rfl, fun u hu => by go_simp; try with_reducible rfl⟩) HS.out ?_
        try simp only [List.getElem_toArray, List.getElem_cons_succ, List.getElem_cons_zero, Act.put, List.setIfInBounds_toArray, List.set_cons_zero, List.set_cons_succ]
        refine wpAnyH_done (by kernel_rfl) ?_ _
        go_wp2_with ((first
          | (with_reducible refine Hold.load HM.out 0 (cs := v) rfl rfl rfl rfl (Hold.Part.all _) (bkRowOf HLEN.out) ?_)
          | ((with_reducible refine (RC.out _ HM.out.below).mono ?_); rintro e w9 ⟨rfl, hb⟩; replace HM := Lib.hid (HM.out.next hb); clear hb)
          | ((with_reducible refine Hold.store1 HM.out 3 (c := .int .i64 k) (v' := sgV S k) rfl rfl rfl rfl rfl (sg_lt _ _) (sg_set _ _) (Hold.cell_int _ _) Bkr.cellInt ?_); clear HM; intro w HM; simp only [List.set_cons_zero, List.set_cons_succ] at HM; replace HM := Lib.hid HM)
          | (with_reducible refine Hold.load HM.out 3 (cs := sgV S k) rfl rfl rfl rfl (Hold.Part.all _) (sgRow _ _) ?_)
          | ((with_reducible refine Hold.store HM.out 1 (v' := sgV S k) rfl rfl rfl rfl rfl (sg_fits _ _) (sg_laid _ _) (sg_one _ _) (sgRow _ _) ?_); clear HM; intro w HM; simp only [List.set_cons_zero, List.set_cons_succ] at HM; replace HM := Lib.hid HM)))
        exact bodyPost_ret (Hold.results1 HM.out 1 rfl _ rfl rfl (sgRow _ _)) rfl ⟨rfl, HM.out.below⟩
    ·
      refine Hold.op_alloc HM.out (by simp only [List.getElem?_toArray, List.getElem?_cons_succ, List.getElem?_cons_zero]; rfl) rfl rfl zeroSg zero_sg ?_
      clear HM
      intro b5 w5 HM
      simp only [List.cons_append, List.nil_append] at HM
      replace HM := Lib.hid HM
      replace HS := Lib.hid (show Hold.Hld _ [⟨b1, 30, v⟩] _ from Hold.Hld.front (m' := [_, _, _]) HM.out)
      refine ⟨HS.out, ?_⟩
      try simp only [List.getElem_toArray, List.getElem_cons_succ, List.getElem_cons_zero, Act.put, List.setIfInBounds_toArray, List.set_cons_zero, List.set_cons_succ]
      change wpAnyH _ _ _ _ _ (6 + 1) _ _ _
      refine wpAnyH_all (rs := [6]) (by kernel_rfl) (by simp) (fun j hj => ?_)
      obtain rfl : j = 6 := by simpa using hj
      refine Steady.call_any (i := 6) (by simp only [List.getElem?_toArray, List.getElem?_cons_succ, List.getElem?_cons_zero]; rfl) (by kernel_rfl) _ _ (by go_simp) (fun u w' => u = .string X ∧ Below _ _ w') ((RD.out _ _ (HM.out.at 2 rfl).lt ((HM.out.at 2 rfl).row.cell rfl) ((HM.out.at 2 rfl).row.cell rfl) HM.out.below).mono (fun e w' hh => ⟨_, hh.1, rfl, hh.2⟩)) ?_
      rintro u w6 ⟨rfl, hb⟩
      replace HM := Lib.hid (HM.out.next hb)
      clear hb
      replace HS := Lib.hid (show Hold.Hld _ [⟨b1, 30, v⟩] _ from Hold.Hld.front (m' := [_, _, _]) HM.out)
      refine ⟨HS.out, ?_⟩
      try simp only [List.getElem_toArray, List.getElem_cons_succ, List.getElem_cons_zero, Act.put, List.setIfInBounds_toArray, List.set_cons_zero, List.set_cons_succ]
      change wpAnyH _ _ _ _ _ (5 + 1) _ _ _
      refine wpAnyH_all (rs := [7]) (by kernel_rfl) (by simp) (fun j hj => ?_)
      obtain rfl : j = 7 := by simpa using hj
      refine Steady.call_any (i := 7) (by simp only [List.getElem?_toArray, List.getElem?_cons_succ, List.getElem?_cons_zero]; rfl) (by kernel_rfl) _ _ (by go_simp) (fun u w' => u = .tuple #[.agg (sgV S 0).toArray, .int .i64 0] ∧ Below _ _ w') ((RM.out _ HM.out.below).mono (fun e w' hh => ⟨_, hh.1, rfl, hh.2⟩)) ?_
      rintro u w7 ⟨rfl, hb⟩
      replace HM := Lib.hid (HM.out.next hb)
      clear hb
      replace HS := Lib.hid (show Hold.Hld _ [⟨b1, 30, v⟩] _ from Hold.Hld.front (m' := [_, _, _]) HM.out)
      refine ⟨HS.out, ?_⟩
      try simp only [List.getElem_toArray, List.getElem_cons_succ, List.getElem_cons_zero, Act.put, List.setIfInBounds_toArray, List.set_cons_zero, List.set_cons_succ]
      change wpAnyH _ _ _ _ _ (4 + 1) _ _ _
      refine wpAnyH_take (i := 8) (by simp only [List.getElem?_toArray, List.getElem?_cons_succ, List.getElem?_cons_zero]; rfl) (by kernel_rfl) (by kernel_rfl) (by kernel_rfl) (fun _ _ _ h => by exact h) (.inl ⟨by rfl, fun u hu => by go_simp; try with_reducible rfl⟩) HS.out ?_
      try simp only [List.getElem_toArray, List.getElem_cons_succ, List.getElem_cons_zero, Act.put, List.setIfInBounds_toArray, List.set_cons_zero, List.set_cons_succ]
      change wpAnyH _ _ _ _ _ (3 + 1) _ _ _
      refine wpAnyH_take (i := 9) (by simp only [List.getElem?_toArray, List.getElem?_cons_succ, List.getElem?_cons_zero]; rfl) (by kernel_rfl) (by kernel_rfl) (by kernel_rfl) (fun _ _ _ h => by exact h) (.inl ⟨by rfl, fun u hu => by go_simp; try with_reducible rfl⟩) HS.out ?_
      try simp only [List.getElem_toArray, List.getElem_cons_succ, List.getElem_cons_zero, Act.put, List.setIfInBounds_toArray, List.set_cons_zero, List.set_cons_succ]
      change wpAnyH _ _ _ _ _ (2 + 1) _ _ _
      refine wpAnyH_take (i := 10) (by simp only [List.getElem?_toArray, List.getElem?_cons_succ, List.getElem?_cons_zero]; rfl) (by kernel_rfl) (by kernel_rfl) (by kernel_rfl) (fun _ _ _ h => by exact h) (.inl ⟨by rfl, fun u hu => by go_simp; try with_reducible rfl⟩) HS.out ?_
      try simp only [List.getElem_toArray, List.getElem_cons_succ, List.getElem_cons_zero, Act.put, List.setIfInBounds_toArray, List.set_cons_zero, List.set_cons_succ]
      change wpAnyH _ _ _ _ _ (1 + 1) _ _ _
      refine wpAnyH_all (rs := [12]) (by kernel_rfl) (by simp) (fun j hj => ?_)
      obtain rfl : j = 12 := by simpa using hj
      refine Hold.op_storeK HM.out 3 (i := 12) (v' := sgV S 0) (by simp only [List.getElem?_toArray, List.getElem?_cons_succ, List.getElem?_cons_zero]; rfl) rfl rfl rfl rfl rfl (sg_fits _ _) (sg_laid _ _) (sg_one _ _) (sgRow _ _) ?_
      clear HM
      intro w8 hbt HM
      simp only [List.set_cons_zero, List.set_cons_succ] at HM
      replace HM := Lib.hid HM
      clear hbt
      replace HS := Lib.hid (show Hold.Hld _ [⟨b1, 30, v⟩] _ from Hold.Hld.front (m' := [_, _, _]) HM.out)
      refine ⟨HS.out, ?_⟩
      try simp only [List.getElem_toArray, List.getElem_cons_succ, List.getElem_cons_zero, Act.put, List.setIfInBounds_toArray, List.set_cons_zero, List.set_cons_succ]
      change wpAnyH _ _ _ _ _ (0 + 1) _ _ _
      refine wpAnyH_take (i := 13) (by simp only [List.getElem?_toArray, List.getElem?_cons_succ, List.getElem?_cons_zero]; rfl) (by kernel_rfl) (by kernel_rfl) (by kernel_rfl) (fun _ _ _ h => by exact h) (.inl ⟨by rfl, fun u hu => by go_simp; try with_reducible rfl⟩) HS.out ?_
      try simp only [List.getElem_toArray, List.getElem_cons_succ, List.getElem_cons_zero, Act.put, List.setIfInBounds_toArray, List.set_cons_zero, List.set_cons_succ]
      refine wpAnyH_done (by kernel_rfl) ?_ _
      go_wp2_with ((first
        | (with_reducible refine Hold.load HM.out 0 (cs := v) rfl rfl rfl rfl (Hold.Part.all _) (bkRowOf HLEN.out) ?_)
        | ((with_reducible refine (RC.out _ HM.out.below).mono ?_); rintro e w9 ⟨rfl, hb⟩; replace HM := Lib.hid (HM.out.next hb); clear hb)
        | ((with_reducible refine Hold.store1 HM.out 3 (c := .int .i64 k) (v' := sgV S k) rfl rfl rfl rfl rfl (sg_lt _ _) (sg_set _ _) (Hold.cell_int _ _) Bkr.cellInt ?_); clear HM; intro w HM; simp only [List.set_cons_zero, List.set_cons_succ] at HM; replace HM := Lib.hid HM)
        | (with_reducible refine Hold.load HM.out 3 (cs := sgV S k) rfl rfl rfl rfl (Hold.Part.all _) (sgRow _ _) ?_)
        | ((with_reducible refine Hold.store HM.out 1 (v' := sgV S k) rfl rfl rfl rfl rfl (sg_fits _ _) (sg_laid _ _) (sg_one _ _) (sgRow _ _) ?_); clear HM; intro w HM; simp only [List.set_cons_zero, List.set_cons_succ] at HM; replace HM := Lib.hid HM)))
      exact bodyPost_ret (Hold.results1 HM.out 1 rfl _ rfl rfl (sgRow _ _)) rfl ⟨rfl, HM.out.below⟩
  ·
    refine Hold.op_alloc HM.out (by simp only [List.getElem?_toArray, List.getElem?_cons_succ, List.getElem?_cons_zero]; rfl) rfl rfl zeroSg zero_sg ?_
    clear HM
    intro b5 w5 HM
    simp only [List.cons_append, List.nil_append] at HM
    replace HM := Lib.hid HM
    replace HS := Lib.hid (show Hold.Hld _ [⟨b1, 30, v⟩] _ from Hold.Hld.front (m' := [_, _]) HM.out)
    refine ⟨HS.out, ?_⟩
    try simp only [List.getElem_toArray, List.getElem_cons_succ, List.getElem_cons_zero, Act.put, List.setIfInBounds_toArray, List.set_cons_zero, List.set_cons_succ]
    change wpAnyH _ _ _ _ _ (7 + 1) _ _ _
    refine wpAnyH_all (rs := [5]) (by kernel_rfl) (by simp) (fun j hj => ?_)
    obtain rfl : j = 5 := by simpa using hj
    refine Hold.op_wp (by simp only [List.getElem?_toArray, List.getElem?_cons_succ, List.getElem?_cons_zero]; rfl) (by kernel_rfl) ?_
    go_simp
    replace HM := Lib.hid (HM.out.add 9 (wsV ⟨#[115, 105, 103, 110]⟩ who))
    simp only [List.cons_append, List.nil_append] at HM
    replace HS := Lib.hid (show Hold.Hld _ [⟨b1, 30, v⟩] _ from Hold.Hld.front (m' := [_, _, _]) HM.out)
    refine ⟨HS.out, ?_⟩
    try simp only [List.getElem_toArray, List.getElem_cons_succ, List.getElem_cons_zero, Act.put, List.setIfInBounds_toArray, List.set_cons_zero, List.set_cons_succ]
    change wpAnyH _ _ _ _ _ (6 + 1) _ _ _
    refine wpAnyH_all (rs := [6]) (by kernel_rfl) (by simp) (fun j hj => ?_)
    obtain rfl : j = 6 := by simpa using hj
    refine Steady.call_any (i := 6) (by simp only [List.getElem?_toArray, List.getElem?_cons_succ, List.getElem?_cons_zero]; rfl) (by kernel_rfl) _ _ (by go_simp) (fun u w' => u = .string X ∧ Below _ _ w') ((RD.out _ _ (HM.out.at 3 rfl).lt ((HM.out.at 3 rfl).row.cell rfl) ((HM.out.at 3 rfl).row.cell rfl) HM.out.below).mono (fun e w' hh => ⟨_, hh.1, rfl, hh.2⟩)) ?_
    rintro u w6 ⟨rfl, hb⟩
    replace HM := Lib.hid (HM.out.next hb)
    clear hb
    replace HS := Lib.hid (show Hold.Hld _ [⟨b1, 30, v⟩] _ from Hold.Hld.front (m' := [_, _, _]) HM.out)
    refine ⟨HS.out, ?_⟩
    try simp only [List.getElem_toArray, List.getElem_cons_succ, List.getElem_cons_zero, Act.put, List.setIfInBounds_toArray, List.set_cons_zero, List.set_cons_succ]
    change wpAnyH _ _ _ _ _ (5 + 1) _ _ _
    refine wpAnyH_all (rs := [7]) (by kernel_rfl) (by simp) (fun j hj => ?_)
    obtain rfl : j = 7 := by simpa using hj
    refine Steady.call_any (i := 7) (by simp only [List.getElem?_toArray, List.getElem?_cons_succ, List.getElem?_cons_zero]; rfl) (by kernel_rfl) _ _ (by go_simp) (fun u w' => u = .tuple #[.agg (sgV S 0).toArray, .int .i64 0] ∧ Below _ _ w') ((RM.out _ HM.out.below).mono (fun e w' hh => ⟨_, hh.1, rfl, hh.2⟩)) ?_
    rintro u w7 ⟨rfl, hb⟩
    replace HM := Lib.hid (HM.out.next hb)
    clear hb
    replace HS := Lib.hid (show Hold.Hld _ [⟨b1, 30, v⟩] _ from Hold.Hld.front (m' := [_, _, _]) HM.out)
    refine ⟨HS.out, ?_⟩
    try simp only [List.getElem_toArray, List.getElem_cons_succ, List.getElem_cons_zero, Act.put, List.setIfInBounds_toArray, List.set_cons_zero, List.set_cons_succ]
    change wpAnyH _ _ _ _ _ (4 + 1) _ _ _
    refine wpAnyH_take (i := 8) (by simp only [List.getElem?_toArray, List.getElem?_cons_succ, List.getElem?_cons_zero]; rfl) (by kernel_rfl) (by kernel_rfl) (by kernel_rfl) (fun _ _ _ h => by exact h) (.inl ⟨by rfl, fun u hu => by go_simp; try with_reducible rfl⟩) HS.out ?_
    try simp only [List.getElem_toArray, List.getElem_cons_succ, List.getElem_cons_zero, Act.put, List.setIfInBounds_toArray, List.set_cons_zero, List.set_cons_succ]
    change wpAnyH _ _ _ _ _ (3 + 1) _ _ _
    refine wpAnyH_take (i := 9) (by simp only [List.getElem?_toArray, List.getElem?_cons_succ, List.getElem?_cons_zero]; rfl) (by kernel_rfl) (by kernel_rfl) (by kernel_rfl) (fun _ _ _ h => by exact h) (.inl ⟨by rfl, fun u hu => by go_simp; try with_reducible rfl⟩) HS.out ?_
    try simp only [List.getElem_toArray, List.getElem_cons_succ, List.getElem_cons_zero, Act.put, List.setIfInBounds_toArray, List.set_cons_zero, List.set_cons_succ]
    change wpAnyH _ _ _ _ _ (2 + 1) _ _ _
    refine wpAnyH_take (i := 10) (by simp only [List.getElem?_toArray, List.getElem?_cons_succ, List.getElem?_cons_zero]; rfl) (by kernel_rfl) (by kernel_rfl) (by kernel_rfl) (fun _ _ _ h => by exact h) (.inl ⟨by rfl, fun u hu => by go_simp; try with_reducible rfl⟩) HS.out ?_
    try simp only [List.getElem_toArray, List.getElem_cons_succ, List.getElem_cons_zero, Act.put, List.setIfInBounds_toArray, List.set_cons_zero, List.set_cons_succ]
    change wpAnyH _ _ _ _ _ (1 + 1) _ _ _
    refine wpAnyH_all (rs := [12]) (by kernel_rfl) (by simp) (fun j hj => ?_)
    obtain rfl : j = 12 := by simpa using hj
    refine Hold.op_storeK HM.out 2 (i := 12) (v' := sgV S 0) (by simp only [List.getElem?_toArray, List.getElem?_cons_succ, List.getElem?_cons_zero]; rfl) rfl rfl rfl rfl rfl (sg_fits _ _) (sg_laid _ _) (sg_one _ _) (sgRow _ _) ?_
    clear HM
    intro w8 hbt HM
    simp only [List.set_cons_zero, List.set_cons_succ] at HM
    replace HM := Lib.hid HM
    clear hbt
    replace HS := Lib.hid (show Hold.Hld _ [⟨b1, 30, v⟩] _ from Hold.Hld.front (m' := [_, _, _]) HM.out)
    refine ⟨HS.out, ?_⟩
    try simp only [List.getElem_toArray, List.getElem_cons_succ, List.getElem_cons_zero, Act.put, List.setIfInBounds_toArray, List.set_cons_zero, List.set_cons_succ]
    change wpAnyH _ _ _ _ _ (0 + 1) _ _ _
    refine wpAnyH_take (i := 13) (by simp only [List.getElem?_toArray, List.getElem?_cons_succ, List.getElem?_cons_zero]; rfl) (by kernel_rfl) (by kernel_rfl) (by kernel_rfl) (fun _ _ _ h => by exact h) (.inl ⟨by rfl, fun u hu => by go_simp; try with_reducible rfl⟩) HS.out ?_
    try simp only [List.getElem_toArray, List.getElem_cons_succ, List.getElem_cons_zero, Act.put, List.setIfInBounds_toArray, List.set_cons_zero, List.set_cons_succ]
    refine wpAnyH_done (by kernel_rfl) ?_ _
    go_wp2_with ((first
      | (with_reducible refine Hold.load HM.out 0 (cs := v) rfl rfl rfl rfl (Hold.Part.all _) (bkRowOf HLEN.out) ?_)
      | ((with_reducible refine (RC.out _ HM.out.below).mono ?_); rintro e w9 ⟨rfl, hb⟩; replace HM := Lib.hid (HM.out.next hb); clear hb)
      | ((with_reducible refine Hold.store1 HM.out 2 (c := .int .i64 k) (v' := sgV S k) rfl rfl rfl rfl rfl (sg_lt _ _) (sg_set _ _) (Hold.cell_int _ _) Bkr.cellInt ?_); clear HM; intro w HM; simp only [List.set_cons_zero, List.set_cons_succ] at HM; replace HM := Lib.hid HM)
      | (with_reducible refine Hold.load HM.out 2 (cs := sgV S k) rfl rfl rfl rfl (Hold.Part.all _) (sgRow _ _) ?_)
      | ((with_reducible refine Hold.store HM.out 1 (v' := sgV S k) rfl rfl rfl rfl rfl (sg_fits _ _) (sg_laid _ _) (sg_one _ _) (sgRow _ _) ?_); clear HM; intro w HM; simp only [List.set_cons_zero, List.set_cons_succ] at HM; replace HM := Lib.hid HM)))
    exact bodyPost_ret (Hold.results1 HM.out 1 rfl _ rfl rfl (sgRow _ _)) rfl ⟨rfl, HM.out.below⟩
end Go.Proofs.YtdhipdoaefdfeaaGreatDoor.Bkb
