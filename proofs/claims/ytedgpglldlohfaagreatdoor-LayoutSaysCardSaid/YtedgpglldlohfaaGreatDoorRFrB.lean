/-
  The document's own answer for what is masked by a seed, in layer 18, is what the plain mathematics of the text Frm says; all memory that was there is left as it was. Conditions: a seed of no more than 1000 bytes, a text of no more than 6000.
-/
import Derived.Test.YtedgpglldlohfaaGreatDoorRFrA
import Derived.Test.YtedgpglldlohfaaGreatDoorMRKed
import Derived.Test.YtedgpglldlohfaaGreatDoorMRCha
namespace Go.Proofs.YtedgpglldlohfaaGreatDoor.RFrm
open Go.RowKit Mur Lanes Prt Tap Cel Frm
set_option maxRecDepth 100000
set_option linter.unusedSimpArgs false

theorem op_any {P : Program} {ops : Array Oper} {i : Nat} {o : Oper} {a : Act} {w : World} {K : Act → World → Prop} {Q : Exit → Act → World → Prop} (hi : ops[i]? = some o) (hw : Region.wanted o (yielded ops a.tmps) = true) (h : Oper.wp P o a w K Q) : wpOp P ops Q i K a w := by
  unfold wpOp
  simp only [hi]
  rw [if_pos hw]
  exact .inl h
/-- Derive of one short text that lies in a block. -/
theorem derive_mask (key X : ByteArray) (b : Nat) (w : World) (hkey : key.size ≤ 1000) (hb : b < w.heap.size) (hc : w.cell? ⟨b, 0, none⟩ = some (.string ⟨#[109, 97, 115, 107]⟩)) (hX : X = tx (maskKey key.data.toList)) :
    Calls Tryz.prog 38 #[.string key, .int .i64 32, .slice (some ⟨b, 0, none⟩) 1 1] w fun e w' => e = .returned (.string X) ∧ Below w.heap.size w w' :=
  RefKed.derive_any key 32 [⟨#[109, 97, 115, 107]⟩] X (some ⟨b, 0, none⟩) b 0 1 w (by omega) (fun _ => ⟨rfl, hb⟩) (fun i hi => by match i, hi with | 0, _ => exact hc) (by decide) (by decide) (fun s hs => by obtain rfl := List.mem_singleton.1 hs; decide) (by rw [hX]; rfl)
theorem make12 (u : World) : (Instr.makeSlice 49 (.int .i64 12) (.int .i64 12)).run Tryz.prog u = .ok (.slice (some ⟨u.heap.size, 0, none⟩) 12 12) (u.alloc (.cells (bytesV (zeros 12)).toArray 5)) := by
  have h := Tape.make_bytes u 12 (by decide)
  exact h
theorem tx_len (l : List UInt8) : (tx l).size = l.length := rfl
theorem hid_is (seed s : ByteArray) : Frm.hidB seed.data.toList s = Cha.hidB (tx (maskKey seed.data.toList)) (tx (zeros 12)) s 0 := Eq.refl _

set_option maxHeartbeats 6400000 in
theorem masked_ref (seed s X : ByteArray) (w : World) (hX : X = Frm.hidB seed.data.toList s) (hk : seed.size ≤ 1000) (hs : s.size ≤ 6000) :
    Calls Tryz.prog 30 #[.string seed, .string s] w fun z w' => z = .returned (.string X) ∧ Below w.heap.size w w' := by
  obtain ⟨w0, hw0⟩ : ∃ w0, w0 = w := ⟨w, rfl⟩
  subst hw0
  obtain ⟨K, hK⟩ : ∃ K, K = tx (maskKey seed.data.toList) := ⟨_, rfl⟩
  obtain ⟨Z, hZ⟩ : ∃ Z, Z = tx (zeros 12) := ⟨_, rfl⟩
  have hKs : K.size = 32 := by rw [hK, tx_len, maskKey_length]
  have hZs : Z.size = 12 := by rw [hZ, tx_len]; rfl
  have RD := Lib.hid (fun (q : Nat) (u : World) (hq : q < u.heap.size) (h0 : u.cell? ⟨q, 0, none⟩ = some (.string ⟨#[109, 97, 115, 107]⟩)) => derive_mask seed K q u hk hq h0 hK)
  have RH := Lib.hid (fun u => RefCha.hide_ok K Z s X u ⟨⟨hKs, hZs⟩, hs⟩ (by rw [hX, hid_is, hK, hZ]))
  have HZ := Lib.hid hZ
  have hmk := make12
  have HM := Lib.hid (Hold.Hld.start w0)
  clear hX hk hs hK hZ hKs hZs
  go_enter Tryz.func30, Tryz.ntmps30
  go_upto_region 1 with fail
  have HS := Lib.hid (Hold.Hld.drew (show Hold.Hld _ [] w0 from HM.out))
  replace HM := Lib.hid HM.out.drew
  refine wp_region_held (S := fun u => Hold.Hld w0 [] u) (by kernel_rfl) ?_
  change wpAnyH _ _ _ _ _ _ _ _ w0.drew
  generalize w0.drew = wd at *
  change wpAnyH _ _ _ _ _ (11 + 1) _ _ _
  refine wpAnyH_take (i := 0) (by simp only [List.getElem?_toArray, List.getElem?_cons_succ, List.getElem?_cons_zero]; rfl) (by kernel_rfl) (by kernel_rfl) (by kernel_rfl) (fun _ _ _ h => by exact h) (.inl ⟨by rfl, fun u hu => by go_simp; try with_reducible rfl⟩) HS.out ?_
  try simp only [List.getElem_toArray, List.getElem_cons_succ, List.getElem_cons_zero, Act.put, List.setIfInBounds_toArray, List.set_cons_zero, List.set_cons_succ]
  change wpAnyH _ _ _ _ _ (10 + 1) _ _ _
  refine wpAnyH_take (i := 5) (by simp only [List.getElem?_toArray, List.getElem?_cons_succ, List.getElem?_cons_zero]; rfl) (by kernel_rfl) (by kernel_rfl) (by kernel_rfl) (fun _ _ _ h => by exact h) (.inl ⟨by rfl, fun u hu => by go_simp; try with_reducible rfl⟩) HS.out ?_
  try simp only [List.getElem_toArray, List.getElem_cons_succ, List.getElem_cons_zero, Act.put, List.setIfInBounds_toArray, List.set_cons_zero, List.set_cons_succ]
  change wpAnyH _ _ _ _ _ (9 + 1) _ _ _
  refine wpAnyH_all (rs := [1, 3]) (by kernel_rfl) (by simp) (fun j hj => ?_)
  rcases (by simpa using hj : j = 1 ∨ j = 3) with rfl | rfl
  · refine op_any (by simp only [List.getElem?_toArray, List.getElem?_cons_succ, List.getElem?_cons_zero]; rfl) (by kernel_rfl) ?_
    go_simp
    replace HM := Lib.hid (HM.out.add 9 [.string ⟨#[109, 97, 115, 107]⟩])
    simp only [List.cons_append, List.nil_append] at HM
    generalize wd.alloc (.cells [.string ⟨#[109, 97, 115, 107]⟩].toArray 9) = w7_1 at *
    generalize wd.heap.size = q_1 at *
    replace HS := Lib.hid (show Hold.Hld _ [] _ from Hold.Hld.front (m' := [_]) HM.out)
    refine ⟨HS.out, ?_⟩
    try simp only [List.getElem_toArray, List.getElem_cons_succ, List.getElem_cons_zero, Act.put, List.setIfInBounds_toArray, List.set_cons_zero, List.set_cons_succ]
    change wpAnyH _ _ _ _ _ (8 + 1) _ _ _
    refine wpAnyH_all (rs := [2, 3]) (by kernel_rfl) (by simp) (fun j hj => ?_)
    rcases (by simpa using hj : j = 2 ∨ j = 3) with rfl | rfl
    · refine Steady.call_any (i := 2) (by simp only [List.getElem?_toArray, List.getElem?_cons_succ, List.getElem?_cons_zero]; rfl) (by kernel_rfl) _ _ (by go_simp) (fun u w' => u = .string K ∧ Below _ _ w') ((RD.out _ _ (HM.out.at 0 rfl).lt ((HM.out.at 0 rfl).row.cell rfl)).mono (fun e w' hh => ⟨_, hh.1, rfl, hh.2⟩)) ?_
      rintro u w6_2 ⟨rfl, hb⟩
      replace HM := Lib.hid (HM.out.next hb)
      clear hb
      replace HS := Lib.hid (show Hold.Hld _ [] _ from Hold.Hld.front (m' := [_]) HM.out)
      refine ⟨HS.out, ?_⟩
      try simp only [List.getElem_toArray, List.getElem_cons_succ, List.getElem_cons_zero, Act.put, List.setIfInBounds_toArray, List.set_cons_zero, List.set_cons_succ]
      change wpAnyH _ _ _ _ _ (7 + 1) _ _ _
      refine wpAnyH_all (rs := [3]) (by kernel_rfl) (by simp) (fun j hj => ?_)
      obtain rfl : j = 3 := by simpa using hj
      refine op_any (by simp only [List.getElem?_toArray, List.getElem?_cons_succ, List.getElem?_cons_zero]; rfl) (by kernel_rfl) ?_
      go_simp
      replace HM := Lib.hid (HM.out.add 5 (bytesV (zeros 12)))
      simp only [List.cons_append, List.nil_append] at HM
      generalize w6_2.alloc (.cells (bytesV (zeros 12)).toArray 5) = w7_3 at *
      generalize w6_2.heap.size = q_3 at *
      replace HS := Lib.hid (show Hold.Hld _ [] _ from Hold.Hld.front (m' := [_, _]) HM.out)
      refine ⟨HS.out, ?_⟩
      try simp only [List.getElem_toArray, List.getElem_cons_succ, List.getElem_cons_zero, Act.put, List.setIfInBounds_toArray, List.set_cons_zero, List.set_cons_succ]
      change wpAnyH _ _ _ _ _ (6 + 1) _ _ _
      refine wpAnyH_all (rs := [4]) (by kernel_rfl) (by simp) (fun j hj => ?_)
      obtain rfl : j = 4 := by simpa using hj
      have hcv := (show (convert 49 9 (.slice (some ⟨_, 0, none⟩) 12 12)).run Tryz.prog _ = .ok (.string Z) _ from by rw [HZ.out]; exact string_row (HM.out.at 1 rfl).row 49 5 9 Tryz.underlying49 Tryz.underlying5 Tryz.underlying9 12 12 rfl)
      refine op_any (by simp only [List.getElem?_toArray, List.getElem?_cons_succ, List.getElem?_cons_zero]; rfl) (by kernel_rfl) ?_
      go_simp
      clear hcv
      replace HS := Lib.hid (show Hold.Hld _ [] _ from Hold.Hld.front (m' := [_, _]) HM.out)
      refine ⟨HS.out, ?_⟩
      try simp only [List.getElem_toArray, List.getElem_cons_succ, List.getElem_cons_zero, Act.put, List.setIfInBounds_toArray, List.set_cons_zero, List.set_cons_succ]
      change wpAnyH _ _ _ _ _ (5 + 1) _ _ _
      refine wpAnyH_all (rs := [6]) (by kernel_rfl) (by simp) (fun j hj => ?_)
      obtain rfl : j = 6 := by simpa using hj
      refine Steady.call_any (i := 6) (by simp only [List.getElem?_toArray, List.getElem?_cons_succ, List.getElem?_cons_zero]; rfl) (by kernel_rfl) _ _ (by go_simp) (fun u w' => u = .tuple #[.string X, .int .i64 0] ∧ Below _ _ w') ((RH.out _).mono (fun e w' hh => ⟨_, hh.1, rfl, hh.2⟩)) ?_
      rintro u w6_4 ⟨rfl, hb⟩
      replace HM := Lib.hid (HM.out.next hb)
      clear hb
      replace HS := Lib.hid (show Hold.Hld _ [] _ from Hold.Hld.front (m' := [_, _]) HM.out)
      refine ⟨HS.out, ?_⟩
      try simp only [List.getElem_toArray, List.getElem_cons_succ, List.getElem_cons_zero, Act.put, List.setIfInBounds_toArray, List.set_cons_zero, List.set_cons_succ]
      change wpAnyH _ _ _ _ _ (4 + 1) _ _ _
      refine wpAnyH_take (i := 7) (by simp only [List.getElem?_toArray, List.getElem?_cons_succ, List.getElem?_cons_zero]; rfl) (by kernel_rfl) (by kernel_rfl) (by kernel_rfl) (fun _ _ _ h => by exact h) (.inl ⟨by rfl, fun u hu => by go_simp; try with_reducible rfl⟩) HS.out ?_
      try simp only [List.getElem_toArray, List.getElem_cons_succ, List.getElem_cons_zero, Act.put, List.setIfInBounds_toArray, List.set_cons_zero, List.set_cons_succ]
      change wpAnyH _ _ _ _ _ (3 + 1) _ _ _
      refine wpAnyH_take (i := 8) (by simp only [List.getElem?_toArray, List.getElem?_cons_succ, List.getElem?_cons_zero]; rfl) (by kernel_rfl) (by kernel_rfl) (by kernel_rfl) (fun _ _ _ h => by exact h) (.inl ⟨by rfl, fun u hu => by go_simp; try with_reducible rfl⟩) HS.out ?_
      try simp only [List.getElem_toArray, List.getElem_cons_succ, List.getElem_cons_zero, Act.put, List.setIfInBounds_toArray, List.set_cons_zero, List.set_cons_succ]
      change wpAnyH _ _ _ _ _ (2 + 1) _ _ _
      refine wpAnyH_take (i := 9) (by simp only [List.getElem?_toArray, List.getElem?_cons_succ, List.getElem?_cons_zero]; rfl) (by kernel_rfl) (by kernel_rfl) (by kernel_rfl) (fun _ _ _ h => by exact h) (.inl ⟨by rfl, fun u hu => by go_simp; try with_reducible rfl⟩) HS.out ?_
      try simp only [List.getElem_toArray, List.getElem_cons_succ, List.getElem_cons_zero, Act.put, List.setIfInBounds_toArray, List.set_cons_zero, List.set_cons_succ]
      change wpAnyH _ _ _ _ _ (1 + 1) _ _ _
      refine wpAnyH_take (i := 10) (by simp only [List.getElem?_toArray, List.getElem?_cons_succ, List.getElem?_cons_zero]; rfl) (by kernel_rfl) (by kernel_rfl) (by kernel_rfl) (fun _ _ _ h => by exact h) (.inl ⟨by rfl, fun u hu => by go_simp; try with_reducible rfl⟩) HS.out ?_
      try simp only [List.getElem_toArray, List.getElem_cons_succ, List.getElem_cons_zero, Act.put, List.setIfInBounds_toArray, List.set_cons_zero, List.set_cons_succ]
      change wpAnyH _ _ _ _ _ (0 + 1) _ _ _
      refine wpAnyH_take (i := 11) (by simp only [List.getElem?_toArray, List.getElem?_cons_succ, List.getElem?_cons_zero]; rfl) (by kernel_rfl) (by kernel_rfl) (by kernel_rfl) (fun _ _ _ h => by exact h) (.inl ⟨by rfl, fun u hu => by go_simp; try with_reducible rfl⟩) HS.out ?_
      try simp only [List.getElem_toArray, List.getElem_cons_succ, List.getElem_cons_zero, Act.put, List.setIfInBounds_toArray, List.set_cons_zero, List.set_cons_succ]
      refine wpAnyH_done (by kernel_rfl) ?_ _
      go_wp2
      go_ret
      exact ⟨rfl, HM.out.below⟩
    · refine op_any (by simp only [List.getElem?_toArray, List.getElem?_cons_succ, List.getElem?_cons_zero]; rfl) (by kernel_rfl) ?_
      go_simp
      replace HM := Lib.hid (HM.out.add 5 (bytesV (zeros 12)))
      simp only [List.cons_append, List.nil_append] at HM
      generalize w7_1.alloc (.cells (bytesV (zeros 12)).toArray 5) = w7_5 at *
      generalize w7_1.heap.size = q_5 at *
      replace HS := Lib.hid (show Hold.Hld _ [] _ from Hold.Hld.front (m' := [_, _]) HM.out)
      refine ⟨HS.out, ?_⟩
      try simp only [List.getElem_toArray, List.getElem_cons_succ, List.getElem_cons_zero, Act.put, List.setIfInBounds_toArray, List.set_cons_zero, List.set_cons_succ]
      change wpAnyH _ _ _ _ _ (7 + 1) _ _ _
      refine wpAnyH_all (rs := [2, 4]) (by kernel_rfl) (by simp) (fun j hj => ?_)
      rcases (by simpa using hj : j = 2 ∨ j = 4) with rfl | rfl
      · refine Steady.call_any (i := 2) (by simp only [List.getElem?_toArray, List.getElem?_cons_succ, List.getElem?_cons_zero]; rfl) (by kernel_rfl) _ _ (by go_simp) (fun u w' => u = .string K ∧ Below _ _ w') ((RD.out _ _ (HM.out.at 0 rfl).lt ((HM.out.at 0 rfl).row.cell rfl)).mono (fun e w' hh => ⟨_, hh.1, rfl, hh.2⟩)) ?_
        rintro u w6_6 ⟨rfl, hb⟩
        replace HM := Lib.hid (HM.out.next hb)
        clear hb
        replace HS := Lib.hid (show Hold.Hld _ [] _ from Hold.Hld.front (m' := [_, _]) HM.out)
        refine ⟨HS.out, ?_⟩
        try simp only [List.getElem_toArray, List.getElem_cons_succ, List.getElem_cons_zero, Act.put, List.setIfInBounds_toArray, List.set_cons_zero, List.set_cons_succ]
        change wpAnyH _ _ _ _ _ (6 + 1) _ _ _
        refine wpAnyH_all (rs := [4]) (by kernel_rfl) (by simp) (fun j hj => ?_)
        obtain rfl : j = 4 := by simpa using hj
        have hcv := (show (convert 49 9 (.slice (some ⟨_, 0, none⟩) 12 12)).run Tryz.prog _ = .ok (.string Z) _ from by rw [HZ.out]; exact string_row (HM.out.at 1 rfl).row 49 5 9 Tryz.underlying49 Tryz.underlying5 Tryz.underlying9 12 12 rfl)
        refine op_any (by simp only [List.getElem?_toArray, List.getElem?_cons_succ, List.getElem?_cons_zero]; rfl) (by kernel_rfl) ?_
        go_simp
        clear hcv
        replace HS := Lib.hid (show Hold.Hld _ [] _ from Hold.Hld.front (m' := [_, _]) HM.out)
        refine ⟨HS.out, ?_⟩
        try simp only [List.getElem_toArray, List.getElem_cons_succ, List.getElem_cons_zero, Act.put, List.setIfInBounds_toArray, List.set_cons_zero, List.set_cons_succ]
        change wpAnyH _ _ _ _ _ (5 + 1) _ _ _
        refine wpAnyH_all (rs := [6]) (by kernel_rfl) (by simp) (fun j hj => ?_)
        obtain rfl : j = 6 := by simpa using hj
        refine Steady.call_any (i := 6) (by simp only [List.getElem?_toArray, List.getElem?_cons_succ, List.getElem?_cons_zero]; rfl) (by kernel_rfl) _ _ (by go_simp) (fun u w' => u = .tuple #[.string X, .int .i64 0] ∧ Below _ _ w') ((RH.out _).mono (fun e w' hh => ⟨_, hh.1, rfl, hh.2⟩)) ?_
        rintro u w6_7 ⟨rfl, hb⟩
        replace HM := Lib.hid (HM.out.next hb)
        clear hb
        replace HS := Lib.hid (show Hold.Hld _ [] _ from Hold.Hld.front (m' := [_, _]) HM.out)
        refine ⟨HS.out, ?_⟩
        try simp only [List.getElem_toArray, List.getElem_cons_succ, List.getElem_cons_zero, Act.put, List.setIfInBounds_toArray, List.set_cons_zero, List.set_cons_succ]
        change wpAnyH _ _ _ _ _ (4 + 1) _ _ _
        refine wpAnyH_take (i := 7) (by simp only [List.getElem?_toArray, List.getElem?_cons_succ, List.getElem?_cons_zero]; rfl) (by kernel_rfl) (by kernel_rfl) (by kernel_rfl) (fun _ _ _ h => by exact h) (.inl ⟨by rfl, fun u hu => by go_simp; try with_reducible rfl⟩) HS.out ?_
        try simp only [List.getElem_toArray, List.getElem_cons_succ, List.getElem_cons_zero, Act.put, List.setIfInBounds_toArray, List.set_cons_zero, List.set_cons_succ]
        change wpAnyH _ _ _ _ _ (3 + 1) _ _ _
        refine wpAnyH_take (i := 8) (by simp only [List.getElem?_toArray, List.getElem?_cons_succ, List.getElem?_cons_zero]; rfl) (by kernel_rfl) (by kernel_rfl) (by kernel_rfl) (fun _ _ _ h => by exact h) (.inl ⟨by rfl, fun u hu => by go_simp; try with_reducible rfl⟩) HS.out ?_
        try simp only [List.getElem_toArray, List.getElem_cons_succ, List.getElem_cons_zero, Act.put, List.setIfInBounds_toArray, List.set_cons_zero, List.set_cons_succ]
        change wpAnyH _ _ _ _ _ (2 + 1) _ _ _
        refine wpAnyH_take (i := 9) (by simp only [List.getElem?_toArray, List.getElem?_cons_succ, List.getElem?_cons_zero]; rfl) (by kernel_rfl) (by kernel_rfl) (by kernel_rfl) (fun _ _ _ h => by exact h) (.inl ⟨by rfl, fun u hu => by go_simp; try with_reducible rfl⟩) HS.out ?_
        try simp only [List.getElem_toArray, List.getElem_cons_succ, List.getElem_cons_zero, Act.put, List.setIfInBounds_toArray, List.set_cons_zero, List.set_cons_succ]
        change wpAnyH _ _ _ _ _ (1 + 1) _ _ _
        refine wpAnyH_take (i := 10) (by simp only [List.getElem?_toArray, List.getElem?_cons_succ, List.getElem?_cons_zero]; rfl) (by kernel_rfl) (by kernel_rfl) (by kernel_rfl) (fun _ _ _ h => by exact h) (.inl ⟨by rfl, fun u hu => by go_simp; try with_reducible rfl⟩) HS.out ?_
        try simp only [List.getElem_toArray, List.getElem_cons_succ, List.getElem_cons_zero, Act.put, List.setIfInBounds_toArray, List.set_cons_zero, List.set_cons_succ]
        change wpAnyH _ _ _ _ _ (0 + 1) _ _ _
        refine wpAnyH_take (i := 11) (by simp only [List.getElem?_toArray, List.getElem?_cons_succ, List.getElem?_cons_zero]; rfl) (by kernel_rfl) (by kernel_rfl) (by kernel_rfl) (fun _ _ _ h => by exact h) (.inl ⟨by rfl, fun u hu => by go_simp; try with_reducible rfl⟩) HS.out ?_
        try simp only [List.getElem_toArray, List.getElem_cons_succ, List.getElem_cons_zero, Act.put, List.setIfInBounds_toArray, List.set_cons_zero, List.set_cons_succ]
        refine wpAnyH_done (by kernel_rfl) ?_ _
        go_wp2
        go_ret
        exact ⟨rfl, HM.out.below⟩
      · have hcv := (show (convert 49 9 (.slice (some ⟨_, 0, none⟩) 12 12)).run Tryz.prog _ = .ok (.string Z) _ from by rw [HZ.out]; exact string_row (HM.out.at 1 rfl).row 49 5 9 Tryz.underlying49 Tryz.underlying5 Tryz.underlying9 12 12 rfl)
        refine op_any (by simp only [List.getElem?_toArray, List.getElem?_cons_succ, List.getElem?_cons_zero]; rfl) (by kernel_rfl) ?_
        go_simp
        clear hcv
        replace HS := Lib.hid (show Hold.Hld _ [] _ from Hold.Hld.front (m' := [_, _]) HM.out)
        refine ⟨HS.out, ?_⟩
        try simp only [List.getElem_toArray, List.getElem_cons_succ, List.getElem_cons_zero, Act.put, List.setIfInBounds_toArray, List.set_cons_zero, List.set_cons_succ]
        change wpAnyH _ _ _ _ _ (6 + 1) _ _ _
        refine wpAnyH_all (rs := [2]) (by kernel_rfl) (by simp) (fun j hj => ?_)
        obtain rfl : j = 2 := by simpa using hj
        refine Steady.call_any (i := 2) (by simp only [List.getElem?_toArray, List.getElem?_cons_succ, List.getElem?_cons_zero]; rfl) (by kernel_rfl) _ _ (by go_simp) (fun u w' => u = .string K ∧ Below _ _ w') ((RD.out _ _ (HM.out.at 0 rfl).lt ((HM.out.at 0 rfl).row.cell rfl)).mono (fun e w' hh => ⟨_, hh.1, rfl, hh.2⟩)) ?_
        rintro u w6_8 ⟨rfl, hb⟩
        replace HM := Lib.hid (HM.out.next hb)
        clear hb
        replace HS := Lib.hid (show Hold.Hld _ [] _ from Hold.Hld.front (m' := [_, _]) HM.out)
        refine ⟨HS.out, ?_⟩
        try simp only [List.getElem_toArray, List.getElem_cons_succ, List.getElem_cons_zero, Act.put, List.setIfInBounds_toArray, List.set_cons_zero, List.set_cons_succ]
        change wpAnyH _ _ _ _ _ (5 + 1) _ _ _
        refine wpAnyH_all (rs := [6]) (by kernel_rfl) (by simp) (fun j hj => ?_)
        obtain rfl : j = 6 := by simpa using hj
        refine Steady.call_any (i := 6) (by simp only [List.getElem?_toArray, List.getElem?_cons_succ, List.getElem?_cons_zero]; rfl) (by kernel_rfl) _ _ (by go_simp) (fun u w' => u = .tuple #[.string X, .int .i64 0] ∧ Below _ _ w') ((RH.out _).mono (fun e w' hh => ⟨_, hh.1, rfl, hh.2⟩)) ?_
        rintro u w6_9 ⟨rfl, hb⟩
        replace HM := Lib.hid (HM.out.next hb)
        clear hb
        replace HS := Lib.hid (show Hold.Hld _ [] _ from Hold.Hld.front (m' := [_, _]) HM.out)
        refine ⟨HS.out, ?_⟩
        try simp only [List.getElem_toArray, List.getElem_cons_succ, List.getElem_cons_zero, Act.put, List.setIfInBounds_toArray, List.set_cons_zero, List.set_cons_succ]
        change wpAnyH _ _ _ _ _ (4 + 1) _ _ _
        refine wpAnyH_take (i := 7) (by simp only [List.getElem?_toArray, List.getElem?_cons_succ, List.getElem?_cons_zero]; rfl) (by kernel_rfl) (by kernel_rfl) (by kernel_rfl) (fun _ _ _ h => by exact h) (.inl ⟨by rfl, fun u hu => by go_simp; try with_reducible rfl⟩) HS.out ?_
        try simp only [List.getElem_toArray, List.getElem_cons_succ, List.getElem_cons_zero, Act.put, List.setIfInBounds_toArray, List.set_cons_zero, List.set_cons_succ]
        change wpAnyH _ _ _ _ _ (3 + 1) _ _ _
        refine wpAnyH_take (i := 8) (by simp only [List.getElem?_toArray, List.getElem?_cons_succ, List.getElem?_cons_zero]; rfl) (by kernel_rfl) (by kernel_rfl) (by kernel_rfl) (fun _ _ _ h => by exact h) (.inl ⟨by rfl, fun u hu => by go_simp; try with_reducible rfl⟩) HS.out ?_
        try simp only [List.getElem_toArray, List.getElem_cons_succ, List.getElem_cons_zero, Act.put, List.setIfInBounds_toArray, List.set_cons_zero, List.set_cons_succ]
        change wpAnyH _ _ _ _ _ (2 + 1) _ _ _
        refine wpAnyH_take (i := 9) (by simp only [List.getElem?_toArray, List.getElem?_cons_succ, List.getElem?_cons_zero]; rfl) (by kernel_rfl) (by kernel_rfl) (by kernel_rfl) (fun _ _ _ h => by exact h) (.inl ⟨by rfl, fun u hu => by go_simp; try with_reducible rfl⟩) HS.out ?_
        try simp only [List.getElem_toArray, List.getElem_cons_succ, List.getElem_cons_zero, Act.put, List.setIfInBounds_toArray, List.set_cons_zero, List.set_cons_succ]
        change wpAnyH _ _ _ _ _ (1 + 1) _ _ _
        refine wpAnyH_take (i := 10) (by simp only [List.getElem?_toArray, List.getElem?_cons_succ, List.getElem?_cons_zero]; rfl) (by kernel_rfl) (by kernel_rfl) (by kernel_rfl) (fun _ _ _ h => by exact h) (.inl ⟨by rfl, fun u hu => by go_simp; try with_reducible rfl⟩) HS.out ?_
        try simp only [List.getElem_toArray, List.getElem_cons_succ, List.getElem_cons_zero, Act.put, List.setIfInBounds_toArray, List.set_cons_zero, List.set_cons_succ]
        change wpAnyH _ _ _ _ _ (0 + 1) _ _ _
        refine wpAnyH_take (i := 11) (by simp only [List.getElem?_toArray, List.getElem?_cons_succ, List.getElem?_cons_zero]; rfl) (by kernel_rfl) (by kernel_rfl) (by kernel_rfl) (fun _ _ _ h => by exact h) (.inl ⟨by rfl, fun u hu => by go_simp; try with_reducible rfl⟩) HS.out ?_
        try simp only [List.getElem_toArray, List.getElem_cons_succ, List.getElem_cons_zero, Act.put, List.setIfInBounds_toArray, List.set_cons_zero, List.set_cons_succ]
        refine wpAnyH_done (by kernel_rfl) ?_ _
        go_wp2
        go_ret
        exact ⟨rfl, HM.out.below⟩
  · refine op_any (by simp only [List.getElem?_toArray, List.getElem?_cons_succ, List.getElem?_cons_zero]; rfl) (by kernel_rfl) ?_
    go_simp
    replace HM := Lib.hid (HM.out.add 5 (bytesV (zeros 12)))
    simp only [List.cons_append, List.nil_append] at HM
    generalize wd.alloc (.cells (bytesV (zeros 12)).toArray 5) = w7_10 at *
    generalize wd.heap.size = q_10 at *
    replace HS := Lib.hid (show Hold.Hld _ [] _ from Hold.Hld.front (m' := [_]) HM.out)
    refine ⟨HS.out, ?_⟩
    try simp only [List.getElem_toArray, List.getElem_cons_succ, List.getElem_cons_zero, Act.put, List.setIfInBounds_toArray, List.set_cons_zero, List.set_cons_succ]
    change wpAnyH _ _ _ _ _ (8 + 1) _ _ _
    refine wpAnyH_all (rs := [1, 4]) (by kernel_rfl) (by simp) (fun j hj => ?_)
    rcases (by simpa using hj : j = 1 ∨ j = 4) with rfl | rfl
    · refine op_any (by simp only [List.getElem?_toArray, List.getElem?_cons_succ, List.getElem?_cons_zero]; rfl) (by kernel_rfl) ?_
      go_simp
      replace HM := Lib.hid (HM.out.add 9 [.string ⟨#[109, 97, 115, 107]⟩])
      simp only [List.cons_append, List.nil_append] at HM
      generalize w7_10.alloc (.cells [.string ⟨#[109, 97, 115, 107]⟩].toArray 9) = w7_11 at *
      generalize w7_10.heap.size = q_11 at *
      replace HS := Lib.hid (show Hold.Hld _ [] _ from Hold.Hld.front (m' := [_, _]) HM.out)
      refine ⟨HS.out, ?_⟩
      try simp only [List.getElem_toArray, List.getElem_cons_succ, List.getElem_cons_zero, Act.put, List.setIfInBounds_toArray, List.set_cons_zero, List.set_cons_succ]
      change wpAnyH _ _ _ _ _ (7 + 1) _ _ _
      refine wpAnyH_all (rs := [2, 4]) (by kernel_rfl) (by simp) (fun j hj => ?_)
      rcases (by simpa using hj : j = 2 ∨ j = 4) with rfl | rfl
      · refine Steady.call_any (i := 2) (by simp only [List.getElem?_toArray, List.getElem?_cons_succ, List.getElem?_cons_zero]; rfl) (by kernel_rfl) _ _ (by go_simp) (fun u w' => u = .string K ∧ Below _ _ w') ((RD.out _ _ (HM.out.at 1 rfl).lt ((HM.out.at 1 rfl).row.cell rfl)).mono (fun e w' hh => ⟨_, hh.1, rfl, hh.2⟩)) ?_
        rintro u w6_12 ⟨rfl, hb⟩
        replace HM := Lib.hid (HM.out.next hb)
        clear hb
        replace HS := Lib.hid (show Hold.Hld _ [] _ from Hold.Hld.front (m' := [_, _]) HM.out)
        refine ⟨HS.out, ?_⟩
        try simp only [List.getElem_toArray, List.getElem_cons_succ, List.getElem_cons_zero, Act.put, List.setIfInBounds_toArray, List.set_cons_zero, List.set_cons_succ]
        change wpAnyH _ _ _ _ _ (6 + 1) _ _ _
        refine wpAnyH_all (rs := [4]) (by kernel_rfl) (by simp) (fun j hj => ?_)
        obtain rfl : j = 4 := by simpa using hj
        have hcv := (show (convert 49 9 (.slice (some ⟨_, 0, none⟩) 12 12)).run Tryz.prog _ = .ok (.string Z) _ from by rw [HZ.out]; exact string_row (HM.out.at 0 rfl).row 49 5 9 Tryz.underlying49 Tryz.underlying5 Tryz.underlying9 12 12 rfl)
        refine op_any (by simp only [List.getElem?_toArray, List.getElem?_cons_succ, List.getElem?_cons_zero]; rfl) (by kernel_rfl) ?_
        go_simp
        clear hcv
        replace HS := Lib.hid (show Hold.Hld _ [] _ from Hold.Hld.front (m' := [_, _]) HM.out)
        refine ⟨HS.out, ?_⟩
        try simp only [List.getElem_toArray, List.getElem_cons_succ, List.getElem_cons_zero, Act.put, List.setIfInBounds_toArray, List.set_cons_zero, List.set_cons_succ]
        change wpAnyH _ _ _ _ _ (5 + 1) _ _ _
        refine wpAnyH_all (rs := [6]) (by kernel_rfl) (by simp) (fun j hj => ?_)
        obtain rfl : j = 6 := by simpa using hj
        refine Steady.call_any (i := 6) (by simp only [List.getElem?_toArray, List.getElem?_cons_succ, List.getElem?_cons_zero]; rfl) (by kernel_rfl) _ _ (by go_simp) (fun u w' => u = .tuple #[.string X, .int .i64 0] ∧ Below _ _ w') ((RH.out _).mono (fun e w' hh => ⟨_, hh.1, rfl, hh.2⟩)) ?_
        rintro u w6_13 ⟨rfl, hb⟩
        replace HM := Lib.hid (HM.out.next hb)
        clear hb
        replace HS := Lib.hid (show Hold.Hld _ [] _ from Hold.Hld.front (m' := [_, _]) HM.out)
        refine ⟨HS.out, ?_⟩
        try simp only [List.getElem_toArray, List.getElem_cons_succ, List.getElem_cons_zero, Act.put, List.setIfInBounds_toArray, List.set_cons_zero, List.set_cons_succ]
        change wpAnyH _ _ _ _ _ (4 + 1) _ _ _
        refine wpAnyH_take (i := 7) (by simp only [List.getElem?_toArray, List.getElem?_cons_succ, List.getElem?_cons_zero]; rfl) (by kernel_rfl) (by kernel_rfl) (by kernel_rfl) (fun _ _ _ h => by exact h) (.inl ⟨by rfl, fun u hu => by go_simp; try with_reducible rfl⟩) HS.out ?_
        try simp only [List.getElem_toArray, List.getElem_cons_succ, List.getElem_cons_zero, Act.put, List.setIfInBounds_toArray, List.set_cons_zero, List.set_cons_succ]
        change wpAnyH _ _ _ _ _ (3 + 1) _ _ _
        refine wpAnyH_take (i := 8) (by simp only [List.getElem?_toArray, List.getElem?_cons_succ, List.getElem?_cons_zero]; rfl) (by kernel_rfl) (by kernel_rfl) (by kernel_rfl) (fun _ _ _ h => by exact h) (.inl ⟨by rfl, fun u hu => by go_simp; try with_reducible rfl⟩) HS.out ?_
        try simp only [List.getElem_toArray, List.getElem_cons_succ, List.getElem_cons_zero, Act.put, List.setIfInBounds_toArray, List.set_cons_zero, List.set_cons_succ]
        change wpAnyH _ _ _ _ _ (2 + 1) _ _ _
        refine wpAnyH_take (i := 9) (by simp only [List.getElem?_toArray, List.getElem?_cons_succ, List.getElem?_cons_zero]; rfl) (by kernel_rfl) (by kernel_rfl) (by kernel_rfl) (fun _ _ _ h => by exact h) (.inl ⟨by rfl, fun u hu => by go_simp; try with_reducible rfl⟩) HS.out ?_
        try simp only [List.getElem_toArray, List.getElem_cons_succ, List.getElem_cons_zero, Act.put, List.setIfInBounds_toArray, List.set_cons_zero, List.set_cons_succ]
        change wpAnyH _ _ _ _ _ (1 + 1) _ _ _
        refine wpAnyH_take (i := 10) (by simp only [List.getElem?_toArray, List.getElem?_cons_succ, List.getElem?_cons_zero]; rfl) (by kernel_rfl) (by kernel_rfl) (by kernel_rfl) (fun _ _ _ h => by exact h) (.inl ⟨by rfl, fun u hu => by go_simp; try with_reducible rfl⟩) HS.out ?_
        try simp only [List.getElem_toArray, List.getElem_cons_succ, List.getElem_cons_zero, Act.put, List.setIfInBounds_toArray, List.set_cons_zero, List.set_cons_succ]
        change wpAnyH _ _ _ _ _ (0 + 1) _ _ _
        refine wpAnyH_take (i := 11) (by simp only [List.getElem?_toArray, List.getElem?_cons_succ, List.getElem?_cons_zero]; rfl) (by kernel_rfl) (by kernel_rfl) (by kernel_rfl) (fun _ _ _ h => by exact h) (.inl ⟨by rfl, fun u hu => by go_simp; try with_reducible rfl⟩) HS.out ?_
        try simp only [List.getElem_toArray, List.getElem_cons_succ, List.getElem_cons_zero, Act.put, List.setIfInBounds_toArray, List.set_cons_zero, List.set_cons_succ]
        refine wpAnyH_done (by kernel_rfl) ?_ _
        go_wp2
        go_ret
        exact ⟨rfl, HM.out.below⟩
      · have hcv := (show (convert 49 9 (.slice (some ⟨_, 0, none⟩) 12 12)).run Tryz.prog _ = .ok (.string Z) _ from by rw [HZ.out]; exact string_row (HM.out.at 0 rfl).row 49 5 9 Tryz.underlying49 Tryz.underlying5 Tryz.underlying9 12 12 rfl)
        refine op_any (by simp only [List.getElem?_toArray, List.getElem?_cons_succ, List.getElem?_cons_zero]; rfl) (by kernel_rfl) ?_
        go_simp
        clear hcv
        replace HS := Lib.hid (show Hold.Hld _ [] _ from Hold.Hld.front (m' := [_, _]) HM.out)
        refine ⟨HS.out, ?_⟩
        try simp only [List.getElem_toArray, List.getElem_cons_succ, List.getElem_cons_zero, Act.put, List.setIfInBounds_toArray, List.set_cons_zero, List.set_cons_succ]
        change wpAnyH _ _ _ _ _ (6 + 1) _ _ _
        refine wpAnyH_all (rs := [2]) (by kernel_rfl) (by simp) (fun j hj => ?_)
        obtain rfl : j = 2 := by simpa using hj
        refine Steady.call_any (i := 2) (by simp only [List.getElem?_toArray, List.getElem?_cons_succ, List.getElem?_cons_zero]; rfl) (by kernel_rfl) _ _ (by go_simp) (fun u w' => u = .string K ∧ Below _ _ w') ((RD.out _ _ (HM.out.at 1 rfl).lt ((HM.out.at 1 rfl).row.cell rfl)).mono (fun e w' hh => ⟨_, hh.1, rfl, hh.2⟩)) ?_
        rintro u w6_14 ⟨rfl, hb⟩
        replace HM := Lib.hid (HM.out.next hb)
        clear hb
        replace HS := Lib.hid (show Hold.Hld _ [] _ from Hold.Hld.front (m' := [_, _]) HM.out)
        refine ⟨HS.out, ?_⟩
        try simp only [List.getElem_toArray, List.getElem_cons_succ, List.getElem_cons_zero, Act.put, List.setIfInBounds_toArray, List.set_cons_zero, List.set_cons_succ]
        change wpAnyH _ _ _ _ _ (5 + 1) _ _ _
        refine wpAnyH_all (rs := [6]) (by kernel_rfl) (by simp) (fun j hj => ?_)
        obtain rfl : j = 6 := by simpa using hj
        refine Steady.call_any (i := 6) (by simp only [List.getElem?_toArray, List.getElem?_cons_succ, List.getElem?_cons_zero]; rfl) (by kernel_rfl) _ _ (by go_simp) (fun u w' => u = .tuple #[.string X, .int .i64 0] ∧ Below _ _ w') ((RH.out _).mono (fun e w' hh => ⟨_, hh.1, rfl, hh.2⟩)) ?_
        rintro u w6_15 ⟨rfl, hb⟩
        replace HM := Lib.hid (HM.out.next hb)
        clear hb
        replace HS := Lib.hid (show Hold.Hld _ [] _ from Hold.Hld.front (m' := [_, _]) HM.out)
        refine ⟨HS.out, ?_⟩
        try simp only [List.getElem_toArray, List.getElem_cons_succ, List.getElem_cons_zero, Act.put, List.setIfInBounds_toArray, List.set_cons_zero, List.set_cons_succ]
        change wpAnyH _ _ _ _ _ (4 + 1) _ _ _
        refine wpAnyH_take (i := 7) (by simp only [List.getElem?_toArray, List.getElem?_cons_succ, List.getElem?_cons_zero]; rfl) (by kernel_rfl) (by kernel_rfl) (by kernel_rfl) (fun _ _ _ h => by exact h) (.inl ⟨by rfl, fun u hu => by go_simp; try with_reducible rfl⟩) HS.out ?_
        try simp only [List.getElem_toArray, List.getElem_cons_succ, List.getElem_cons_zero, Act.put, List.setIfInBounds_toArray, List.set_cons_zero, List.set_cons_succ]
        change wpAnyH _ _ _ _ _ (3 + 1) _ _ _
        refine wpAnyH_take (i := 8) (by simp only [List.getElem?_toArray, List.getElem?_cons_succ, List.getElem?_cons_zero]; rfl) (by kernel_rfl) (by kernel_rfl) (by kernel_rfl) (fun _ _ _ h => by exact h) (.inl ⟨by rfl, fun u hu => by go_simp; try with_reducible rfl⟩) HS.out ?_
        try simp only [List.getElem_toArray, List.getElem_cons_succ, List.getElem_cons_zero, Act.put, List.setIfInBounds_toArray, List.set_cons_zero, List.set_cons_succ]
        change wpAnyH _ _ _ _ _ (2 + 1) _ _ _
        refine wpAnyH_take (i := 9) (by simp only [List.getElem?_toArray, List.getElem?_cons_succ, List.getElem?_cons_zero]; rfl) (by kernel_rfl) (by kernel_rfl) (by kernel_rfl) (fun _ _ _ h => by exact h) (.inl ⟨by rfl, fun u hu => by go_simp; try with_reducible rfl⟩) HS.out ?_
        try simp only [List.getElem_toArray, List.getElem_cons_succ, List.getElem_cons_zero, Act.put, List.setIfInBounds_toArray, List.set_cons_zero, List.set_cons_succ]
        change wpAnyH _ _ _ _ _ (1 + 1) _ _ _
        refine wpAnyH_take (i := 10) (by simp only [List.getElem?_toArray, List.getElem?_cons_succ, List.getElem?_cons_zero]; rfl) (by kernel_rfl) (by kernel_rfl) (by kernel_rfl) (fun _ _ _ h => by exact h) (.inl ⟨by rfl, fun u hu => by go_simp; try with_reducible rfl⟩) HS.out ?_
        try simp only [List.getElem_toArray, List.getElem_cons_succ, List.getElem_cons_zero, Act.put, List.setIfInBounds_toArray, List.set_cons_zero, List.set_cons_succ]
        change wpAnyH _ _ _ _ _ (0 + 1) _ _ _
        refine wpAnyH_take (i := 11) (by simp only [List.getElem?_toArray, List.getElem?_cons_succ, List.getElem?_cons_zero]; rfl) (by kernel_rfl) (by kernel_rfl) (by kernel_rfl) (fun _ _ _ h => by exact h) (.inl ⟨by rfl, fun u hu => by go_simp; try with_reducible rfl⟩) HS.out ?_
        try simp only [List.getElem_toArray, List.getElem_cons_succ, List.getElem_cons_zero, Act.put, List.setIfInBounds_toArray, List.set_cons_zero, List.set_cons_succ]
        refine wpAnyH_done (by kernel_rfl) ?_ _
        go_wp2
        go_ret
        exact ⟨rfl, HM.out.below⟩
    · have hcv := (show (convert 49 9 (.slice (some ⟨_, 0, none⟩) 12 12)).run Tryz.prog _ = .ok (.string Z) _ from by rw [HZ.out]; exact string_row (HM.out.at 0 rfl).row 49 5 9 Tryz.underlying49 Tryz.underlying5 Tryz.underlying9 12 12 rfl)
      refine op_any (by simp only [List.getElem?_toArray, List.getElem?_cons_succ, List.getElem?_cons_zero]; rfl) (by kernel_rfl) ?_
      go_simp
      clear hcv
      replace HS := Lib.hid (show Hold.Hld _ [] _ from Hold.Hld.front (m' := [_]) HM.out)
      refine ⟨HS.out, ?_⟩
      try simp only [List.getElem_toArray, List.getElem_cons_succ, List.getElem_cons_zero, Act.put, List.setIfInBounds_toArray, List.set_cons_zero, List.set_cons_succ]
      change wpAnyH _ _ _ _ _ (7 + 1) _ _ _
      refine wpAnyH_all (rs := [1]) (by kernel_rfl) (by simp) (fun j hj => ?_)
      obtain rfl : j = 1 := by simpa using hj
      refine op_any (by simp only [List.getElem?_toArray, List.getElem?_cons_succ, List.getElem?_cons_zero]; rfl) (by kernel_rfl) ?_
      go_simp
      replace HM := Lib.hid (HM.out.add 9 [.string ⟨#[109, 97, 115, 107]⟩])
      simp only [List.cons_append, List.nil_append] at HM
      generalize w7_10.alloc (.cells [.string ⟨#[109, 97, 115, 107]⟩].toArray 9) = w7_16 at *
      generalize w7_10.heap.size = q_16 at *
      replace HS := Lib.hid (show Hold.Hld _ [] _ from Hold.Hld.front (m' := [_, _]) HM.out)
      refine ⟨HS.out, ?_⟩
      try simp only [List.getElem_toArray, List.getElem_cons_succ, List.getElem_cons_zero, Act.put, List.setIfInBounds_toArray, List.set_cons_zero, List.set_cons_succ]
      change wpAnyH _ _ _ _ _ (6 + 1) _ _ _
      refine wpAnyH_all (rs := [2]) (by kernel_rfl) (by simp) (fun j hj => ?_)
      obtain rfl : j = 2 := by simpa using hj
      refine Steady.call_any (i := 2) (by simp only [List.getElem?_toArray, List.getElem?_cons_succ, List.getElem?_cons_zero]; rfl) (by kernel_rfl) _ _ (by go_simp) (fun u w' => u = .string K ∧ Below _ _ w') ((RD.out _ _ (HM.out.at 1 rfl).lt ((HM.out.at 1 rfl).row.cell rfl)).mono (fun e w' hh => ⟨_, hh.1, rfl, hh.2⟩)) ?_
      rintro u w6_17 ⟨rfl, hb⟩
      replace HM := Lib.hid (HM.out.next hb)
      clear hb
      replace HS := Lib.hid (show Hold.Hld _ [] _ from Hold.Hld.front (m' := [_, _]) HM.out)
      refine ⟨HS.out, ?_⟩
      try simp only [List.getElem_toArray, List.getElem_cons_succ, List.getElem_cons_zero, Act.put, List.setIfInBounds_toArray, List.set_cons_zero, List.set_cons_succ]
      change wpAnyH _ _ _ _ _ (5 + 1) _ _ _
      refine wpAnyH_all (rs := [6]) (by kernel_rfl) (by simp) (fun j hj => ?_)
      obtain rfl : j = 6 := by simpa using hj
      refine Steady.call_any (i := 6) (by simp only [List.getElem?_toArray, List.getElem?_cons_succ, List.getElem?_cons_zero]; rfl) (by kernel_rfl) _ _ (by go_simp) (fun u w' => u = .tuple #[.string X, .int .i64 0] ∧ Below _ _ w') ((RH.out _).mono (fun e w' hh => ⟨_, hh.1, rfl, hh.2⟩)) ?_
      rintro u w6_18 ⟨rfl, hb⟩
      replace HM := Lib.hid (HM.out.next hb)
      clear hb
      replace HS := Lib.hid (show Hold.Hld _ [] _ from Hold.Hld.front (m' := [_, _]) HM.out)
      refine ⟨HS.out, ?_⟩
      try simp only [List.getElem_toArray, List.getElem_cons_succ, List.getElem_cons_zero, Act.put, List.setIfInBounds_toArray, List.set_cons_zero, List.set_cons_succ]
      change wpAnyH _ _ _ _ _ (4 + 1) _ _ _
      refine wpAnyH_take (i := 7) (by simp only [List.getElem?_toArray, List.getElem?_cons_succ, List.getElem?_cons_zero]; rfl) (by kernel_rfl) (by kernel_rfl) (by kernel_rfl) (fun _ _ _ h => by exact h) (.inl ⟨by rfl, fun u hu => by go_simp; try with_reducible rfl⟩) HS.out ?_
      try simp only [List.getElem_toArray, List.getElem_cons_succ, List.getElem_cons_zero, Act.put, List.setIfInBounds_toArray, List.set_cons_zero, List.set_cons_succ]
      change wpAnyH _ _ _ _ _ (3 + 1) _ _ _
      refine wpAnyH_take (i := 8) (by simp only [List.getElem?_toArray, List.getElem?_cons_succ, List.getElem?_cons_zero]; rfl) (by kernel_rfl) (by kernel_rfl) (by kernel_rfl) (fun _ _ _ h => by exact h) (.inl ⟨by rfl, fun u hu => by go_simp; try with_reducible rfl⟩) HS.out ?_
      try simp only [List.getElem_toArray, List.getElem_cons_succ, List.getElem_cons_zero, Act.put, List.setIfInBounds_toArray, List.set_cons_zero, List.set_cons_succ]
      change wpAnyH _ _ _ _ _ (2 + 1) _ _ _
      refine wpAnyH_take (i := 9) (by simp only [List.getElem?_toArray, List.getElem?_cons_succ, List.getElem?_cons_zero]; rfl) (by kernel_rfl) (by kernel_rfl) (by kernel_rfl) (fun _ _ _ h => by exact h) (.inl ⟨by rfl, fun u hu => by go_simp; try with_reducible rfl⟩) HS.out ?_
      try simp only [List.getElem_toArray, List.getElem_cons_succ, List.getElem_cons_zero, Act.put, List.setIfInBounds_toArray, List.set_cons_zero, List.set_cons_succ]
      change wpAnyH _ _ _ _ _ (1 + 1) _ _ _
      refine wpAnyH_take (i := 10) (by simp only [List.getElem?_toArray, List.getElem?_cons_succ, List.getElem?_cons_zero]; rfl) (by kernel_rfl) (by kernel_rfl) (by kernel_rfl) (fun _ _ _ h => by exact h) (.inl ⟨by rfl, fun u hu => by go_simp; try with_reducible rfl⟩) HS.out ?_
      try simp only [List.getElem_toArray, List.getElem_cons_succ, List.getElem_cons_zero, Act.put, List.setIfInBounds_toArray, List.set_cons_zero, List.set_cons_succ]
      change wpAnyH _ _ _ _ _ (0 + 1) _ _ _
      refine wpAnyH_take (i := 11) (by simp only [List.getElem?_toArray, List.getElem?_cons_succ, List.getElem?_cons_zero]; rfl) (by kernel_rfl) (by kernel_rfl) (by kernel_rfl) (fun _ _ _ h => by exact h) (.inl ⟨by rfl, fun u hu => by go_simp; try with_reducible rfl⟩) HS.out ?_
      try simp only [List.getElem_toArray, List.getElem_cons_succ, List.getElem_cons_zero, Act.put, List.setIfInBounds_toArray, List.set_cons_zero, List.set_cons_succ]
      refine wpAnyH_done (by kernel_rfl) ?_ _
      go_wp2
      go_ret
      exact ⟨rfl, HM.out.below⟩
end Go.Proofs.YtedgpglldlohfaaGreatDoor.RFrm
