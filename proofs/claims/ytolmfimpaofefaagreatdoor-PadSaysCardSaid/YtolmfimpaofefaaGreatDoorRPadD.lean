/-
  The document's own answers for a first cell of an ideal book and a first pad of a book (Cell of layer 16, Pad of layer 17) are what the plain mathematics of the texts Bkm and Pad says; all memory that was there is left as it was. Conditions: nothing of the book is used yet, and a real book has no cells; few cells, texts of no more than 1000000 bytes.
-/
import Derived.Test.YtolmfimpaofefaaGreatDoorRPadC
namespace Go.Proofs.YtolmfimpaofefaaGreatDoor.RPad
open Go.RowKit Mur Prt Lanes Tap Bkl Bkm Rec Cel Bkr Bkb Pad
set_option maxRecDepth 100000
set_option linter.unusedSimpArgs false

/-- A book's cells of which only lengths of two lists are told. -/
structure Few (v : List Value) (b : Bk) : Prop where
  len : v.length = 11
  one : Hold.Single v
  at4 : ∃ a c, v[4]? = some (.slice a b.cells.length c)
  at5 : ∃ a c, v[5]? = some (.slice a b.used.length c)
theorem get_mem (l : List C) (n s : List UInt8) (h : get l n = some s) : ∃ c ∈ l, c.2 = s := by
  induction l with
  | nil => cases h
  | cons c l ih =>
    rw [RTap.get_cons] at h
    split at h
    · exact ⟨c, by simp, Option.some.inj h⟩
    · obtain ⟨d, hd, he⟩ := ih h
      exact ⟨d, by simp [hd], he⟩
theorem first_cells {b : Bk} (hu : b.used = []) (name : List UInt8) (n : Int) : cellS b name n = freshS b name n ∧ cellB b name n = { b with used := [(name, freshS b name n)] } := by
  unfold cellS cellB
  rw [hu]
  exact ⟨rfl, rfl⟩

set_option maxHeartbeats 1600000 in
theorem cell_ref (A : Nat → Prop) (b : Bk) (v : List Value) (name S : ByteArray) (n : Int) (w : World) (hS : S = tx (cellS b name.data.toList n)) (h : BkR w b v A) (hi : b.ideal = true) (hu : b.used = []) (hc : b.cells.length ≤ 1000) (hz : ∀ c ∈ b.cells, c.2.length ≤ 140737488351232) :
    Calls Tryz.prog 33 #[.agg v.toArray, .string name, .int .i64 n] w fun e w' => ∃ v', e = .returned (.tuple #[.string S, .agg v'.toArray]) ∧ Few v' (cellB b name.data.toList n) ∧ Below w.heap.size w w' := by
  obtain ⟨w0, hw0⟩ : ∃ w0, w0 = w := ⟨w, rfl⟩
  subst hw0
  obtain ⟨a, N, c, h4, hn, -, hR, -⟩ := h.at4.lit
  obtain ⟨a5, N5, c5, h5, hn5, -, hR5, -⟩ := h.at5.lit
  obtain ⟨hf1, hf2⟩ := first_cells hu name.data.toList n
  rw [hu] at hn5 hR5
  obtain rfl : N5 = 0 := hn5.symm
  obtain ⟨G, hG⟩ : ∃ G, G = RTap.gotX (get b.cells name.data.toList) := ⟨_, rfl⟩
  obtain ⟨B, hB⟩ : ∃ B, B = (get b.cells name.data.toList).isSome := ⟨_, rfl⟩
  have hGs : G.size ≤ 140737488351232 := by
    rw [hG]
    cases hg : get b.cells name.data.toList with
    | none => exact Nat.zero_le _
    | some s =>
      obtain ⟨c, hc1, hc2⟩ := get_mem _ _ _ hg
      have := hz c hc1
      rw [hc2] at this
      exact this
  have hSS : S = tx (fit G.data.toList n) := by
    rw [hS, hf1, freshS, if_pos hi, hG]
    cases get b.cells name.data.toList <;> rfl
  have hLL : [(name.data.toList, freshS b name.data.toList n)] = put (toC (ofC [])) name.data.toList S.data.toList := by
    rw [hS, hf1]
    rfl
  have R1 := Lib.hid (fun u => RTap.get_any (ofC []) 0 a5 c5 name ⟨#[]⟩ false u rfl rfl (CelR.none u a5) rfl (by omega))
  have R2 := Lib.hid (fun u (hb : Below w0.heap.size w0 u) => RTap.get_any (ofC b.cells) N a c name G B u (by rw [toC_ofC]; exact hG) (by rw [toC_ofC]; exact hB) (CelR.below hR hb) (by rw [ofC_length]; exact hn) (by omega))
  have R3 := Lib.hid (fun u => RTap.fit_wide G n S u hSS hGs)
  have R4 := Lib.hid (fun u => RTap.put_any (ofC []) 0 a5 c5 name S _ 1 u hLL rfl (CelR.none u a5) rfl (by omega))
  have H0 := Lib.hid h.at0
  rw [hi] at H0
  have H4 := Lib.hid h4
  have H5 := Lib.hid h5
  have HLEN := Lib.hid h.len
  have HONE := Lib.hid h.one
  have HN := Lib.hid hn
  have HF := Lib.hid hf2
  have HM := Lib.hid (Hold.Hld.start w0)
  clear hS h hi hc hz hG hB hGs hSS hLL hu hR hR5 h4 h5 hn hn5 hf1 hf2
  go_enter Tryz.func33, Tryz.ntmps33
  go_upto_region 9 with ((first
    | ((with_reducible refine Hold.box HM.out rfl rfl rfl ?_); clear HM; intro b1 w HM; simp only [List.nil_append, List.cons_append] at HM; replace HM := Lib.hid HM)
    | ((with_reducible refine Hold.alloc HM.out rfl rfl zeroBk zero_bk ?_); clear HM; intro b2 w HM; simp only [List.nil_append, List.cons_append] at HM; replace HM := Lib.hid HM)
    | (with_reducible refine Hold.load1 HM.out 0 (c := .slice a5 0 c5) rfl rfl rfl rfl H5.out cellC ?_)
    | (with_reducible refine Hold.load1 HM.out 0 (c := .slice a N c) rfl rfl rfl rfl H4.out cellC ?_)
    | (with_reducible refine Hold.load1 HM.out 0 (c := .bool true) rfl rfl rfl rfl H0.out cellBool ?_)
    | ((with_reducible refine (R1.out _).mono ?_); rintro e w ⟨rfl, hb⟩; replace HM := Lib.hid (HM.out.next hb); clear hb)
    | ((with_reducible refine (R2.out _ HM.out.below).mono ?_); rintro e w ⟨rfl, hb⟩; replace HM := Lib.hid (HM.out.next hb); clear hb)
    | ((with_reducible refine (R3.out _).mono ?_); rintro e w ⟨rfl, hb⟩; replace HM := Lib.hid (HM.out.next hb); clear hb)
    | ((with_reducible refine (R4.out _).mono ?_); rintro e w2 ⟨ao, co, rfl, hcel, -, hb⟩; have HCO := Lib.hid (show (v.set 5 (Value.slice ao 1 co)).length = 11 from by rw [List.length_set]; exact HLEN.out); have HSO := Lib.hid (Hold.single_set (i := 5) (v := v) (x := .slice ao 1 co) HONE.out rfl); clear hcel; replace HM := Lib.hid (HM.out.next hb); clear hb)
    | ((with_reducible refine Hold.store1 HM.out 0 (c := .slice ao 1 co) (v' := v.set 5 (.slice ao 1 co)) rfl rfl rfl rfl rfl (by rw [HLEN.out]; decide) rfl (Hold.cell_sl _ _ _) cellC ?_); clear HM; intro w HM; simp only [List.set_cons_zero, List.set_cons_succ] at HM; replace HM := Lib.hid HM)))
  refine Steady.region 3 (by kernel_rfl) (by kernel_rfl) (fun u => Below w.heap.size w u) (Below.refl _ _).drew ?_
  simp only [List.take_succ_cons, List.take_zero, List.drop_succ_cons, List.drop_zero]
  refine Steady.take ?_ rfl (by intro u hu; go_simp; with_reducible rfl) ?_
  simp only [Act.put, List.setIfInBounds_toArray, List.set_cons_zero, List.set_cons_succ]
  refine Steady.take (.agg (v.set 5 (.slice ao 1 co)).toArray) rfl (fun u hu => Hold.load_run (HM.out.next hu) 0 rfl rfl rfl (Hold.Part.all _) (bkRowOf HCO.out)) ?_
  simp only [Act.put, List.setIfInBounds_toArray, List.set_cons_zero, List.set_cons_succ]
  refine Steady.take ?_ rfl (by intro u hu; go_simp; with_reducible rfl) ?_
  simp only [Act.put, List.setIfInBounds_toArray, List.set_cons_zero, List.set_cons_succ]
  refine Steady.nil ?_
  intro w1 hb1
  replace HM := Lib.hid (HM.out.next hb1)
  clear hb1
  go_wp2_with ((first
    | ((with_reducible refine Hold.store HM.out 1 (v' := v.set 5 (.slice ao 1 co)) rfl rfl rfl rfl rfl (bkFits HCO.out zero_len) (bkLaid HCO.out zero_len) HSO.out (bkRowOf HCO.out) ?_); clear HM; intro w HM; simp only [List.set_cons_zero, List.set_cons_succ] at HM; replace HM := Lib.hid HM)))
  refine bodyPost_ret (Hold.resultsTC HM.out 1 rfl _ rfl rfl rfl (bkRowOf HCO.out)) rfl ?_
  refine ⟨v.set 5 (.slice ao 1 co), rfl, ⟨HCO.out, HSO.out, ?_, ?_⟩, HM.out.below⟩
  · rw [HF.out]
    exact ⟨a, c, by rw [at_ne _ _ _ (by decide), HN.out]; exact H4.out⟩
  · rw [HF.out]
    exact ⟨ao, co, at_eq HLEN.out 5 (by decide) _⟩
end Go.Proofs.YtolmfimpaofefaaGreatDoor.RPad
