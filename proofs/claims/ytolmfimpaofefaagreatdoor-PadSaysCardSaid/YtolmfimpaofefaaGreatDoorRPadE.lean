/-
  The document's own answer for a first pad of a book (Pad of layer 17) is what the plain mathematics of the text Pad says; all memory that was there is left as it was. Conditions: nothing of the book is used yet, and a real book has no cells; few cells, texts of no more than 140737488351232 bytes.
-/
import Derived.Test.YtolmfimpaofefaaGreatDoorRPadD
namespace Go.Proofs.YtolmfimpaofefaaGreatDoor.RPad
open Go.RowKit Mur Prt Lanes Tap Bkl Bkm Rec Cel Bkr Bkb Pad
set_option maxRecDepth 100000
set_option linter.unusedSimpArgs false

set_option maxHeartbeats 1600000 in
theorem pad_ideal (A : Nat → Prop) (b : Bk) (v : List Value) (c s e r n : Int) (X : ByteArray) (w : World) (hX : X = tx (padS b c s e r n)) (h : BkR w b v A) (hu : b.used = []) (hi : b.ideal = true) (hc : b.cells.length ≤ 1000) (hz : ∀ c ∈ b.cells, c.2.length ≤ 140737488351232) (cl : -9223372036854775808 ≤ c) (ch : c ≤ 9223372036854775807) (sl : -9223372036854775808 ≤ s) (sh : s ≤ 9223372036854775807) (el : -9223372036854775808 ≤ e) (eh : e ≤ 9223372036854775807) (rl : -9223372036854775808 ≤ r) (rh : r ≤ 9223372036854775807) (_nl : -9223372036854775808 ≤ n) (_nh : n ≤ 9223372036854775807) :
    Calls Tryz.prog 9 #[.agg v.toArray, .agg #[.int .i64 c, .int .i64 s], .int .i64 e, .int .i64 r, .int .i64 n] w fun z w' => ∃ v', z = .returned (.tuple #[.string X, .agg v'.toArray]) ∧ Few v' (padB b c s e r n) ∧ Below w.heap.size w w' := by
  obtain ⟨w0, hw0⟩ : ∃ w0, w0 = w := ⟨w, rfl⟩
  subst hw0
  obtain ⟨a5, N5, c5, h5, hn5, -, hR5, -⟩ := h.at5.lit
  rw [hu] at hn5 hR5
  obtain rfl : N5 = 0 := hn5.symm
  obtain ⟨NM, hNM⟩ : ∃ N, N = tx (name c s e r) := ⟨_, rfl⟩
  have hNs : NM.size ≤ 83 := by rw [hNM, tx_long]; exact name_length c s e r ch sh eh rh
  have hNd : NM.data.toList = name c s e r := by rw [hNM]
  have R1 := Lib.hid (fun u => RTap.padName_any c s e r NM u hNM cl ch sl sh el eh rl rh)
  have R2 := Lib.hid (fun u => RTap.get_any (ofC []) 0 a5 c5 NM ⟨#[]⟩ false u rfl rfl (CelR.none u a5) rfl (by omega))
  have HM := Lib.hid (Hold.Hld.start w0)
  have H5 := Lib.hid h5
  have HLEN := Lib.hid h.len
  have HONE := Lib.hid h.one
  have hp : plain b c s e r = true := by unfold plain; rw [hi]; rfl
  have hB : padB b c s e r n = cellB b NM.data.toList n := by unfold padB; rw [if_pos hp, hNd]
  have hX2 : X = tx (cellS b NM.data.toList n) := by rw [hX, padS, if_pos hp, hNd]
  have R3 := Lib.hid (fun u (hb : Below w0.heap.size w0 u) => cell_ref A b v NM X n u hX2 (h.below hb) hi hu hc hz)
  have H0 := Lib.hid h.at0
  rw [hi] at H0
  have HB := Lib.hid hB
  clear hX h hu hi hc hz cl ch sl sh el eh rl rh h5 hn5 hR5 hNM hNs hNd hp hB hX2
  go_enter Tryz.func9, Tryz.ntmps9
  go_upto_region 3 with ((first
    | ((with_reducible refine Hold.box HM.out rfl rfl rfl ?_); clear HM; intro b1 w HM; simp only [List.nil_append, List.cons_append] at HM; replace HM := Lib.hid HM)
    | ((with_reducible refine Hold.box HM.out rfl rfl rfl ?_); clear HM; intro bx w HM; simp only [List.nil_append, List.cons_append] at HM; replace HM := Lib.hid HM)
    | ((with_reducible refine Hold.alloc HM.out rfl rfl zeroBk zero_bk ?_); clear HM; intro b2 w HM; simp only [List.nil_append, List.cons_append] at HM; replace HM := Lib.hid HM)
    | (with_reducible refine Hold.load1 HM.out 1 (c := .int .i64 c) rfl rfl rfl rfl rfl Bkr.cellInt ?_)
    | (with_reducible refine Hold.load1 HM.out 1 (c := .int .i64 s) rfl rfl rfl rfl rfl Bkr.cellInt ?_)
    | (with_reducible refine Hold.load1 HM.out 0 (c := .slice a5 0 c5) rfl rfl rfl rfl H5.out cellC ?_)
    | ((with_reducible refine (R1.out _).mono ?_); rintro e w ⟨rfl, hb⟩; replace HM := Lib.hid (HM.out.next hb); clear hb)
    | ((with_reducible refine (R2.out _).mono ?_); rintro e w ⟨rfl, hb⟩; replace HM := Lib.hid (HM.out.next hb); clear hb)))
  have hf := (HM.out.at 0 rfl).row.cell H0.out
  go_wp2_with ((first
    | (with_reducible refine Hold.load HM.out 0 (cs := v) rfl rfl rfl rfl (Hold.Part.all _) (bkRowOf HLEN.out) ?_)
    | ((with_reducible refine (R3.out _ HM.out.below).mono ?_); rintro e w ⟨v9, rfl, hfe, hb⟩; replace HM := Lib.hid (HM.out.next hb); have HFE := Lib.hid hfe; clear hb hfe hf)
    | ((with_reducible refine Hold.store HM.out 2 (v' := v9) rfl rfl rfl rfl rfl (bkFits HFE.out.len zero_len) (bkLaid HFE.out.len zero_len) HFE.out.one (bkRowOf HFE.out.len) ?_); clear HM; intro w HM; simp only [List.set_cons_zero, List.set_cons_succ] at HM; replace HM := Lib.hid HM)))
  refine bodyPost_ret (Hold.resultsTC HM.out 2 rfl _ rfl rfl rfl (bkRowOf HFE.out.len)) rfl ?_
  refine ⟨v9, rfl, ?_, HM.out.below⟩
  rw [HB.out]
  exact HFE.out

theorem get_nil (n : List UInt8) : get [] n = none := rfl
theorem put_nil (n s : List UInt8) : put [] n s = [(n, s)] := rfl
theorem plain_real (b : Bk) (c s e r : Int) (hi : b.ideal = false) (hu : b.used = []) : plain b c s e r = false := by
  unfold plain
  rw [hi, hu, get_nil]
  rfl
theorem real_first (b : Bk) (c s e r n : Int) (hi : b.ideal = false) (hu : b.used = []) (hc : b.cells = []) : padS b c s e r n = of (shared b.seed c s e).data.toList r n ∧ padB b c s e r n = { b with cells := [(kept c s e r, (shared b.seed c s e).data.toList)], used := [(name c s e r, of (shared b.seed c s e).data.toList r n)] } := by
  have hp := plain_real b c s e r hi hu
  have hs : sharedOf b c s e r = (shared b.seed c s e).data.toList := by
    unfold sharedOf
    rw [hc, get_nil, Option.getD_none]
  have hl : cellsOf b c s e r = [(kept c s e r, (shared b.seed c s e).data.toList)] := by
    unfold cellsOf
    generalize (shared b.seed c s e).data.toList = S
    rw [hc, get_nil]
    exact put_nil _ _
  have hn : ¬ (false = true) := by decide
  unfold padS padB
  rw [hp, hs, hl, hu, put_nil, if_neg hn, if_neg hn]
  exact ⟨Eq.refl _, Eq.refl _⟩

set_option maxHeartbeats 3200000 in
theorem pad_real (A : Nat → Prop) (b : Bk) (v : List Value) (c s e r n : Int) (X : ByteArray) (w : World) (hX : X = tx (padS b c s e r n)) (h : BkR w b v A) (hu : b.used = []) (hi : b.ideal = false) (hc : b.cells = []) (hro : b.seed.length ≤ 1000) (cl : -9223372036854775808 ≤ c) (ch : c ≤ 9223372036854775807) (sl : -9223372036854775808 ≤ s) (sh : s ≤ 9223372036854775807) (el : -9223372036854775808 ≤ e) (eh : e ≤ 9223372036854775807) (rl : -9223372036854775808 ≤ r) (rh : r ≤ 9223372036854775807) (nl : -9223372036854775808 ≤ n) (nh : n ≤ 9223372036854775807) :
    Calls Tryz.prog 9 #[.agg v.toArray, .agg #[.int .i64 c, .int .i64 s], .int .i64 e, .int .i64 r, .int .i64 n] w fun z w' => ∃ v', z = .returned (.tuple #[.string X, .agg v'.toArray]) ∧ Few v' (padB b c s e r n) ∧ Below w.heap.size w w' := by
  obtain ⟨w0, hw0⟩ : ∃ w0, w0 = w := ⟨w, rfl⟩
  subst hw0
  obtain ⟨a5, N5, c5, h5, hn5, -, hR5, -⟩ := h.at5.lit
  rw [hu] at hn5 hR5
  obtain rfl : N5 = 0 := hn5.symm
  obtain ⟨NM, hNM⟩ : ∃ N, N = tx (name c s e r) := ⟨_, rfl⟩
  have hNs : NM.size ≤ 83 := by rw [hNM, tx_long]; exact name_length c s e r ch sh eh rh
  have hNd : NM.data.toList = name c s e r := by rw [hNM]
  have R1 := Lib.hid (fun u => RTap.padName_any c s e r NM u hNM cl ch sl sh el eh rl rh)
  have R2 := Lib.hid (fun u => RTap.get_any (ofC []) 0 a5 c5 NM ⟨#[]⟩ false u rfl rfl (CelR.none u a5) rfl (by omega))
  have HM := Lib.hid (Hold.Hld.start w0)
  have H5 := Lib.hid h5
  have HLEN := Lib.hid h.len
  have HONE := Lib.hid h.one
  obtain ⟨a4, N4, c4, h4, hn4, -, hR4, -⟩ := h.at4.lit
  rw [hc] at hn4 hR4
  obtain rfl : N4 = 0 := hn4.symm
  have hp : plain b c s e r = false := by unfold plain; rw [hi, hu]; rfl
  obtain ⟨KN, hKN⟩ : ∃ K, K = tx (keptD c s e r) := ⟨_, rfl⟩
  obtain ⟨KL, hKL⟩ : ∃ K, K = kept c s e r := ⟨_, rfl⟩
  obtain ⟨SH, hSH⟩ : ∃ S, S = shared b.seed c s e := ⟨_, rfl⟩
  have hSHs : SH.size ≤ 1000 := by have := shared_size b.seed c s e; rw [hSH]; omega
  obtain ⟨hps, hpb⟩ := real_first b c s e r n hi hu hc
  rw [← hSH] at hps hpb
  have hX2 : X = tx (of SH.data.toList r n) := by rw [hX, hps]
  have hXd : X.data.toList = of SH.data.toList r n := by rw [hX2]
  have hB : padB b c s e r n = { b with cells := [(KL, SH.data.toList)], used := [(NM.data.toList, X.data.toList)] } := by rw [hpb, hNd, ← hKL, hXd]
  obtain ⟨DR, hDR⟩ : ∃ D, D = tx (dec r) := ⟨_, rfl⟩
  have hDs : DR.size ≤ NM.size := by rw [hDR, hNM, tx_long, tx_long]; exact dec_name c s e r
  obtain ⟨k, hk⟩ : ∃ k, k = NM.size - DR.size := ⟨_, rfl⟩
  obtain ⟨PR, hPR⟩ : ∃ P, P = tx (NM.data.toList.take k) := ⟨_, rfl⟩
  have hsl : ∀ u, (Instr.slice 9 (.string NM) none (some (.int .i64 (k : Int))) none).run Tryz.prog u = .ok (.string PR) u := fun u => by
    rw [hPR, ← RTap.piece_tx]
    exact run_slice_string_h (P := Tryz.prog) u 9 NM Tryz.underlying9 .i64 (k : Int) (by omega) (by omega)
  have hwr : wrap64 ((NM.size : Int) - (DR.size : Int)) = (k : Int) := by rw [IntWalk.wrap64_in _ (by omega)]; omega
  have hNl : NM.size = (name c s e r).length := by rw [hNM, tx_long]
  have hDl : DR.size = (dec r).length := by rw [hDR, tx_long]
  have hap : (⟨#[115, 104, 97, 114, 101, 100, 32]⟩ : ByteArray) ++ PR = KN := by
    rw [hPR, hKN, hk, hNl, hDl, hNd]
    exact tx_append sharedT _
  have hPs : PR.size ≤ 83 := by rw [hPR, tx_long, List.length_take]; omega
  have hbig : ¬ 9223372036854775807 < (⟨#[115, 104, 97, 114, 101, 100, 32]⟩ : ByteArray).size + PR.size := by
    show ¬ 9223372036854775807 < 7 + PR.size
    omega
  have R3 := Lib.hid (fun u => RTap.dec_any r DR u hDR rl rh)
  have R4 := Lib.hid (fun u => RTap.get_any (ofC []) 0 a4 c4 KN ⟨#[]⟩ false u rfl rfl (CelR.none u a4) rfl (by omega))
  have R5 := Lib.hid (fun u (hb : Below w0.heap.size w0 u) => shared_any A b v c s e SH u hSH (h.below hb) hro cl ch sl sh el eh)
  have R6 := Lib.hid (fun u => RTap.put_any (ofC []) 0 a4 c4 KN SH [(KN.data.toList, SH.data.toList)] 1 u rfl rfl (CelR.none u a4) rfl (by omega))
  have R7 := Lib.hid (fun u => of_any SH X r n u hX2 hSHs rl rh nl nh)
  have R8 := Lib.hid (fun u => RTap.put_any (ofC []) 0 a5 c5 NM X [(NM.data.toList, X.data.toList)] 1 u rfl rfl (CelR.none u a5) rfl (by omega))
  have H0 := Lib.hid h.at0
  rw [hi] at H0
  have H4 := Lib.hid h4
  have HB := Lib.hid hB
  clear hX h hu hi hc hro cl ch sl sh el eh rl rh nl nh h5 hn5 hR5 h4 hn4 hR4 hNM hNs hNd hp hB hX2 hKN hSH hSHs hps hpb hXd hDR hPR hDs hk hNl hDl hPs
  go_enter Tryz.func9, Tryz.ntmps9
  go_upto_region 3 with ((first
    | ((with_reducible refine Hold.box HM.out rfl rfl rfl ?_); clear HM; intro b1 w HM; simp only [List.nil_append, List.cons_append] at HM; replace HM := Lib.hid HM)
    | ((with_reducible refine Hold.box HM.out rfl rfl rfl ?_); clear HM; intro bx w HM; simp only [List.nil_append, List.cons_append] at HM; replace HM := Lib.hid HM)
    | ((with_reducible refine Hold.alloc HM.out rfl rfl zeroBk zero_bk ?_); clear HM; intro b2 w HM; simp only [List.nil_append, List.cons_append] at HM; replace HM := Lib.hid HM)
    | (with_reducible refine Hold.load1 HM.out 1 (c := .int .i64 c) rfl rfl rfl rfl rfl Bkr.cellInt ?_)
    | (with_reducible refine Hold.load1 HM.out 1 (c := .int .i64 s) rfl rfl rfl rfl rfl Bkr.cellInt ?_)
    | (with_reducible refine Hold.load1 HM.out 0 (c := .slice a5 0 c5) rfl rfl rfl rfl H5.out cellC ?_)
    | ((with_reducible refine (R1.out _).mono ?_); rintro e w ⟨rfl, hb⟩; replace HM := Lib.hid (HM.out.next hb); clear hb)
    | ((with_reducible refine (R2.out _).mono ?_); rintro e w ⟨rfl, hb⟩; replace HM := Lib.hid (HM.out.next hb); clear hb)))
  have hf := (HM.out.at 0 rfl).row.cell H0.out
  go_upto_region 12 with ((first
    | ((with_reducible refine (R3.out _).mono ?_); rintro e w ⟨rfl, hb⟩; replace HM := Lib.hid (HM.out.next hb); clear hb; try clear hf)
    | (with_reducible refine Hold.load1 HM.out 0 (c := .slice a4 0 c4) rfl rfl rfl rfl H4.out cellC ?_)
    | ((with_reducible refine (R4.out _).mono ?_); rintro e w ⟨rfl, hb⟩; replace HM := Lib.hid (HM.out.next hb); clear hb)
    | (with_reducible refine Hold.load HM.out 0 (cs := v) rfl rfl rfl rfl (Hold.Part.all _) (bkRowOf HLEN.out) ?_)
    | (with_reducible refine Hold.load1 HM.out 1 (c := .int .i64 c) rfl rfl rfl rfl rfl Bkr.cellInt ?_)
    | (with_reducible refine Hold.load1 HM.out 1 (c := .int .i64 s) rfl rfl rfl rfl rfl Bkr.cellInt ?_)
    | ((with_reducible refine (R5.out _ HM.out.below).mono ?_); rintro e w ⟨rfl, hb⟩; replace HM := Lib.hid (HM.out.next hb); clear hb)
    | ((with_reducible refine (R6.out _).mono ?_); rintro e w2 ⟨a7, c7, rfl, hcel, -, hb⟩; have HL7 := Lib.hid (show (v.set 4 (.slice a7 1 c7)).length = 11 from by rw [List.length_set]; exact HLEN.out); have HS7 := Lib.hid (Hold.single_set (i := 4) (v := v) (x := .slice a7 1 c7) HONE.out rfl); have H57 := Lib.hid (show (v.set 4 (.slice a7 1 c7))[5]? = some (.slice a5 0 c5) from by rw [at_ne _ _ _ (by decide)]; exact H5.out); clear hcel; replace HM := Lib.hid (HM.out.next hb); clear hb)
    | ((with_reducible refine Hold.store1 HM.out 0 (c := .slice a7 1 c7) (v' := v.set 4 (.slice a7 1 c7)) rfl rfl rfl rfl rfl (by rw [HLEN.out]; decide) rfl (Hold.cell_sl _ _ _) cellC ?_); clear HM; intro w HM; simp only [List.set_cons_zero, List.set_cons_succ] at HM; replace HM := Lib.hid HM)
    | ((with_reducible refine (R7.out _).mono ?_); rintro e w ⟨rfl, hb⟩; replace HM := Lib.hid (HM.out.next hb); clear hb)
    | (with_reducible refine Hold.load1 HM.out 0 (c := .slice a5 0 c5) rfl rfl rfl rfl H57.out cellC ?_)
    | ((with_reducible refine (R8.out _).mono ?_); rintro e w2 ⟨a9, c9, rfl, hcel, -, hb⟩; have HL9 := Lib.hid (show ((v.set 4 (.slice a7 1 c7)).set 5 (.slice a9 1 c9)).length = 11 from by rw [List.length_set]; exact HL7.out); have HS9 := Lib.hid (Hold.single_set (i := 5) (x := .slice a9 1 c9) HS7.out rfl); clear hcel; replace HM := Lib.hid (HM.out.next hb); clear hb)
    | ((with_reducible refine Hold.store1 HM.out 0 (c := .slice a9 1 c9) (v' := (v.set 4 (.slice a7 1 c7)).set 5 (.slice a9 1 c9)) rfl rfl rfl rfl rfl (by rw [HL7.out]; decide) rfl (Hold.cell_sl _ _ _) cellC ?_); clear HM; intro w HM; simp only [List.set_cons_zero, List.set_cons_succ] at HM; replace HM := Lib.hid HM)))
  refine Steady.region 3 (by kernel_rfl) (by kernel_rfl) (fun u => Below w.heap.size w u) (Below.refl _ _).drew ?_
  simp only [List.take_succ_cons, List.take_zero, List.drop_succ_cons, List.drop_zero]
  refine Steady.take ?_ rfl (by intro u hu; go_simp; with_reducible rfl) ?_
  simp only [Act.put, List.setIfInBounds_toArray, List.set_cons_zero, List.set_cons_succ]
  refine Steady.take (.agg ((v.set 4 (.slice a7 1 c7)).set 5 (.slice a9 1 c9)).toArray) rfl (fun u hu => Hold.load_run (HM.out.next hu) 0 rfl rfl rfl (Hold.Part.all _) (bkRowOf HL9.out)) ?_
  simp only [Act.put, List.setIfInBounds_toArray, List.set_cons_zero, List.set_cons_succ]
  refine Steady.take ?_ rfl (by intro u hu; go_simp; with_reducible rfl) ?_
  simp only [Act.put, List.setIfInBounds_toArray, List.set_cons_zero, List.set_cons_succ]
  refine Steady.nil ?_
  intro w1 hb1
  replace HM := Lib.hid (HM.out.next hb1)
  clear hb1
  go_wp2_with ((first
    | ((with_reducible refine Hold.store HM.out 2 (v' := (v.set 4 (.slice a7 1 c7)).set 5 (.slice a9 1 c9)) rfl rfl rfl rfl rfl (bkFits HL9.out zero_len) (bkLaid HL9.out zero_len) HS9.out (bkRowOf HL9.out) ?_); clear HM; intro w HM; simp only [List.set_cons_zero, List.set_cons_succ] at HM; replace HM := Lib.hid HM)))
  refine bodyPost_ret (Hold.resultsTC HM.out 2 rfl _ rfl rfl rfl (bkRowOf HL9.out)) rfl ?_
  refine ⟨(v.set 4 (.slice a7 1 c7)).set 5 (.slice a9 1 c9), rfl, ⟨HL9.out, HS9.out, ?_, ?_⟩, HM.out.below⟩
  · rw [HB.out]
    exact ⟨a7, c7, by rw [at_ne _ _ _ (by decide)]; exact at_eq HLEN.out 4 (by decide) _⟩
  · rw [HB.out]
    exact ⟨a9, c9, at_eq HL7.out 5 (by decide) _⟩
end Go.Proofs.YtolmfimpaofefaaGreatDoor.RPad
