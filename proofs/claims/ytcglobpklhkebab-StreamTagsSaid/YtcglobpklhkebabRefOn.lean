/-
  The document's own answer for a quarter on four places of a state is what the plain mathematics of the text Cha says, and all memory that was there stays. Conditions: sixteen words below 2^32, four places below 16.
-/
import Derived.Test.YtcglobpklhkebabChaMix
import Derived.Test.YtcglobpklhkebabRefQ
import Derived.Deep.RegionHeld3
import Derived.Deep.Cut
import Derived.Deep.DeepCutAuto
namespace Go.Proofs.Ytcglobpklhkebab.RefCha
open Go.RowKit Mur Lanes Cha
set_option maxRecDepth 100000

theorem bel_ad (w : World) (o : Obj) : Below w.drew.heap.size w.drew (w.alloc o).drew := (Below.refl w.drew.heap.size w.drew).alloc (Nat.le_refl _) o
theorem bel_adc {w w' : World} {o : Obj} (h : Below (w.alloc o).drew.heap.size (w.alloc o).drew w') : Below w.drew.heap.size w.drew w' :=
  (bel_ad w o).trans (h.mono (by show w.heap.size ≤ (w.alloc o).heap.size; simp))
theorem bel_alloc {w w' : World} (h : Below w.drew.heap.size w.drew w') (o : Obj) : Below w.drew.heap.size w.drew (w'.alloc o) := h.alloc h.size o
theorem bel_set {w w' : World} (h : Below w.drew.heap.size w.drew w') (i : Nat) (v : Value) : Below w.drew.heap.size w.drew (w'.setCell ⟨w.heap.size, i, none⟩ v) := h.setCell (p := ⟨w.heap.size, i, none⟩) (Nat.le_refl _) v
theorem in_new {w w' : World} {o : Obj} (h : Below (w.alloc o).drew.heap.size (w.alloc o).drew w') (i : Nat) : w'.cell? ⟨w.heap.size, i, none⟩ = (w.alloc o).cell? ⟨w.heap.size, i, none⟩ :=
  h.cell (p := ⟨w.heap.size, i, none⟩) (by show w.heap.size < (w.alloc o).heap.size; simp)
theorem in_free {w w' : World} {o : Obj} (h : Below (w.alloc o).drew.heap.size (w.alloc o).drew w') (i : Nat) : w'.frozen? ⟨w.heap.size, i, none⟩ = (w.alloc o).frozen? ⟨w.heap.size, i, none⟩ :=
  h.frozen (p := ⟨w.heap.size, i, none⟩) (by show w.heap.size < (w.alloc o).heap.size; simp)
theorem in_whole {w w' : World} {vs : Array Value} {t : TypeId} (h : Below (w.alloc (.cells vs t)).drew.heap.size (w.alloc (.cells vs t)).drew w') : Whole w' w.heap.size t vs.toList :=
  (Whole.made' w t vs _ rfl).drew.below (by show w.heap.size < (w.alloc _).heap.size; simp) h
theorem set_four {w : World} {n : Nat} {t : TypeId} (h : Whole w n t [.int .u32 0, .int .u32 0, .int .u32 0, .int .u32 0]) (a b c d : Value) : Whole ((((w.setCell ⟨n, 0, none⟩ a).setCell ⟨n, 1, none⟩ b).setCell ⟨n, 2, none⟩ c).setCell ⟨n, 3, none⟩ d) n t [a, b, c, d] :=
  (((h.set 0 a).set 1 b).set 2 c).set 3 d

abbrev HeldA (wx : World) (B i j k l a b c d : Nat) (w : World) : Prop :=
  w.cell? ⟨B, i, none⟩ = some (.int .u32 (a : Int)) ∧ w.cell? ⟨B, j, none⟩ = some (.int .u32 (b : Int)) ∧ w.cell? ⟨B, k, none⟩ = some (.int .u32 (c : Int)) ∧ w.cell? ⟨B, l, none⟩ = some (.int .u32 (d : Int)) ∧ Below wx.drew.heap.size wx.drew w
theorem heldA {wx w : World} {B i j k l a b c d : Nat} (hB : B < wx.heap.size) (ca : wx.cell? ⟨B, i, none⟩ = some (.int .u32 (a : Int))) (cb : wx.cell? ⟨B, j, none⟩ = some (.int .u32 (b : Int))) (cc : wx.cell? ⟨B, k, none⟩ = some (.int .u32 (c : Int))) (cd : wx.cell? ⟨B, l, none⟩ = some (.int .u32 (d : Int)))
    (h : Below wx.drew.heap.size wx.drew w) : HeldA wx B i j k l a b c d w :=
  ⟨(h.cell (p := ⟨B, i, none⟩) hB).trans ca, (h.cell (p := ⟨B, j, none⟩) hB).trans cb, (h.cell (p := ⟨B, k, none⟩) hB).trans cc, (h.cell (p := ⟨B, l, none⟩) hB).trans cd, h⟩

abbrev HeldQ (n : Nat) (V : Q4) (w : World) : Prop :=
  w.cell? ⟨n, 0, none⟩ = some (.int .u32 (V.a : Int)) ∧ w.cell? ⟨n, 1, none⟩ = some (.int .u32 (V.b : Int)) ∧ w.cell? ⟨n, 2, none⟩ = some (.int .u32 (V.c : Int)) ∧ w.cell? ⟨n, 3, none⟩ = some (.int .u32 (V.d : Int))
theorem heldQ_set {w : World} {n B : Nat} {V : Q4} (h : HeldQ n V w.drew) (hn : n ≠ B) (i : Nat) (v : Value) : HeldQ n V (w.setCell ⟨B, i, none⟩ v).drew := by
  have far : ∀ (j : Nat), (w.setCell ⟨B, i, none⟩ v).drew.cell? ⟨n, j, none⟩ = w.drew.cell? ⟨n, j, none⟩ := fun j => World.cell?_setCell_other w ⟨B, i, none⟩ ⟨n, j, none⟩ _ (by intro e; cases e; exact hn rfl)
  exact ⟨(far _).trans h.1, (far _).trans h.2.1, (far _).trans h.2.2.1, (far _).trans h.2.2.2⟩

set_option maxHeartbeats 3200000 in
theorem on_any (s : List Nat) (i j k l : Nat) (M : List Nat) (w : World) (h : Words16 s) (hi : i < 16) (hj : j < 16) (hk : k < 16) (hl : l < 16) (hM : M = on s i j k l) :
    Calls Try.prog 62 #[.agg (wordsV s).toArray, .int .i64 i, .int .i64 j, .int .i64 k, .int .i64 l] w fun e w' => e = .returned (.agg (wordsV M).toArray) ∧ Below w.heap.size w w' := by
  have ok4 := h.at4 i j k l
  unfold at4 at ok4
  obtain ⟨V, hV⟩ : ∃ V, V = quarter (at4 s i j k l) := ⟨_, rfl⟩
  have hM2 : M = put4 s i j k l V := by rw [hM, hV]; rfl
  have hokM : Words16 M := by rw [hM]; exact h.on _ _ _ _
  unfold at4 at hV
  have hst : Two w w.heap.size s ((w.alloc (.cells (wordsV s).toArray 51)).alloc (.cells zeros16.toArray 51)) :=
    ⟨(Whole.made' w _ (wordsV s).toArray _ rfl).alloc _, Whole.made' _ _ zeros16.toArray _ (by simp), ((Below.refl _ _).alloc (Nat.le_refl _) _).alloc (by simp) _⟩
  have HT : Hid (Two w w.heap.size s ((w.alloc (.cells (wordsV s).toArray 51)).alloc (.cells #[.int .u32 0, .int .u32 0, .int .u32 0, .int .u32 0, .int .u32 0, .int .u32 0, .int .u32 0, .int .u32 0, .int .u32 0, .int .u32 0, .int .u32 0, .int .u32 0, .int .u32 0, .int .u32 0, .int .u32 0, .int .u32 0] 51))) := Lib.hid hst
  have HL := Lib.hid h.1
  have HM := Lib.hid hM2
  have HKM := Lib.hid hokM
  clear hst h hM hM2 hokM
  go_enter Try.func62, Try.ntmps62
  go_upto_region 1 with (fail)
  generalize (w.alloc (.cells (wordsV s).toArray 51)).alloc (.cells #[.int .u32 0, .int .u32 0, .int .u32 0, .int .u32 0, .int .u32 0, .int .u32 0, .int .u32 0, .int .u32 0, .int .u32 0, .int .u32 0, .int .u32 0, .int .u32 0, .int .u32 0, .int .u32 0, .int .u32 0, .int .u32 0] 51) = wx at *
  have ca := word_cell HT.out.1 (i := i) (by rw [HL.out]; exact hi)
  have cb := word_cell HT.out.1 (i := j) (by rw [HL.out]; exact hj)
  have cc := word_cell HT.out.1 (i := k) (by rw [HL.out]; exact hk)
  have cd := word_cell HT.out.1 (i := l) (by rw [HL.out]; exact hl)
  have ia : (i : Int) < 16 := by omega
  have ib : (j : Int) < 16 := by omega
  have ic : (k : Int) < 16 := by omega
  have id' : (l : Int) < 16 := by omega
  generalize hy0 : s.getD i 0 = y0 at *
  generalize hy1 : s.getD j 0 = y1 at *
  generalize hy2 : s.getD k 0 = y2 at *
  generalize hy3 : s.getD l 0 = y3 at *
  clear hy0 hy1 hy2 hy3
  have R := Lib.hid (fun u => RefCha.pub_any y0 y1 y2 y3 V u ok4 hV)
  have HH := Lib.hid (fun (u : World) (q : Below wx.drew.heap.size wx.drew u) => heldA HT.out.1.lt ca cb cc cd q)
  clear ok4 hV ca cb cc cd
  go_cut [11] (fun v wc => ∃ nX : Nat, v = .pointer (some ⟨nX, 0, none⟩) ∧ wx.heap.size ≤ nX ∧ Whole wc nX 33 [.int .u32 (V.a : Int), .int .u32 (V.b : Int), .int .u32 (V.c : Int), .int .u32 (V.d : Int)] ∧ Below wx.drew.heap.size wx.drew wc)
  case first =>
    go_region_held3 (fun w' => w'.cell? ⟨w.heap.size, i, none⟩ = some (.int .u32 (y0 : Int)) ∧ w'.cell? ⟨w.heap.size, j, none⟩ = some (.int .u32 (y1 : Int)) ∧ w'.cell? ⟨w.heap.size, k, none⟩ = some (.int .u32 (y2 : Int)) ∧ w'.cell? ⟨w.heap.size, l, none⟩ = some (.int .u32 (y3 : Int)) ∧ Below wx.drew.heap.size wx.drew w')
      (first | (with_reducible exact HH.out _ (Below.refl _ _)) | assumption | (with_reducible exact HH.out _ (bel_ad _ _)) | (with_reducible exact HH.out _ hbv) | (with_reducible exact HH.out _ (bel_adc hbv)) | (with_reducible exact HH.out _ (bel_alloc hbv _)) | (with_reducible exact HH.out _ (bel_set (bel_set (bel_set (bel_set (bel_adc hbv) _ _) _ _) _ _) _ _)))
      (first
        | (go_at_call 68; with_reducible refine Calls.mono (R.out _) ?_; rintro e wv ⟨rfl, hbv⟩; with_reducible have z0 := in_new hbv 0; have z1 := in_new hbv 1; have z2 := in_new hbv 2; have z3 := in_new hbv 3; have f0 := in_free hbv 0; have f1 := in_free hbv 1; have f2 := in_free hbv 2; have f3 := in_free hbv 3; have HWN := Lib.hid (in_whole hbv); simp at z0 z1 z2 z3 f0 f1 f2 f3)
        | (go_at_call 68; with_reducible refine Calls.mono (R.out _) ?_; rintro e wv ⟨rfl, hbv⟩))
    · have HBV := Lib.hid hbv
      clear hbv
      go_wp2_with fail
      go_meet
      exact ⟨_, rfl, HBV.out.size, Whole.made wv _ _, bel_alloc HBV.out _⟩
    · have HBV := Lib.hid hbv
      clear hbv z0 z1 z2 z3 f0 f1 f2 f3
      go_wp2_with fail
      go_meet
      exact ⟨_, rfl, Nat.le_refl _, set_four HWN.out _ _ _ _, bel_set (bel_set (bel_set (bel_set (bel_adc HBV.out) _ _) _ _) _ _) _ _⟩
  case rest =>
    obtain ⟨nX, rfl, hn, hw, hb⟩ := hcut
    rename_i wc
    have hn0 : nX ≠ w.heap.size := by have := HT.out.1.lt; omega
    have h2 : Two w w.heap.size s wc := ⟨HT.out.1.drew.below HT.out.1.lt hb, HT.out.2.1.drew.below HT.out.2.1.lt hb, HT.out.2.2.drew.trans (hb.mono HT.out.2.2.size)⟩
    have s1 := set_word h2.1 i V.a
    have s2 := set_word s1 j V.b
    have s3 := set_word s2 k V.c
    have ca := word_cell h2.1 (i := i) (by rw [HL.out]; exact hi)
    have cb := word_cell s1 (i := j) (by rw [List.length_set, HL.out]; exact hj)
    have cc := word_cell s2 (i := k) (by rw [List.length_set, List.length_set, HL.out]; exact hk)
    have cd := word_cell s3 (i := l) (by rw [List.length_set, List.length_set, List.length_set, HL.out]; exact hl)
    have fa := word_free h2.1 (i := i) (by rw [HL.out]; exact hi)
    have fb := word_free h2.1 (i := j) (by rw [HL.out]; exact hj)
    have fc := word_free h2.1 (i := k) (by rw [HL.out]; exact hk)
    have fd := word_free h2.1 (i := l) (by rw [HL.out]; exact hl)
    have HP := Lib.hid (h2.put (Nat.le_refl _) i j k l V)
    have HQ := Lib.hid (show HeldQ nX V wc.drew from ⟨hw.row.cell rfl, hw.row.cell rfl, hw.row.cell rfl, hw.row.cell rfl⟩)
    have HN := Lib.hid hn0
    rw [← HM.out] at HP
    clear hw hb h2 s1 s2 s3 hn hn0 HT R HH
    go_wp2
    go_region_held3 (fun w' => w'.cell? ⟨nX, 0, none⟩ = some (.int .u32 (V.a : Int)) ∧ w'.cell? ⟨nX, 1, none⟩ = some (.int .u32 (V.b : Int)) ∧ w'.cell? ⟨nX, 2, none⟩ = some (.int .u32 (V.c : Int)) ∧ w'.cell? ⟨nX, 3, none⟩ = some (.int .u32 (V.d : Int)))
      (first | (with_reducible exact HQ.out) | assumption | (with_reducible exact heldQ_set (by assumption) HN.out _ _))
      (fail)
    have HPD := Lib.hid HP.out.drew
    clear HP
    have HIM := Lib.hid (info16 HKM.out.1)
    have HIA := Lib.hid (infoA16 HKM.out.1)
    have HOM := Lib.hid (long16 HKM.out.1)
    have H1M := Lib.hid (one16 M)
    clear ca cb cc cd fa fb fc fd
    have HR := Lib.hid HPD.out.1
    have hz2 := HPD.out.2.1
    unfold Whole at hz2
    have HZ2 := Lib.hid hz2
    clear hz2
    generalize ((((wc.setCell ⟨w.heap.size, i, none⟩ (.int .u32 (V.a : Int))).setCell ⟨w.heap.size, j, none⟩ (.int .u32 (V.b : Int))).setCell ⟨w.heap.size, k, none⟩ (.int .u32 (V.c : Int))).setCell ⟨w.heap.size, l, none⟩ (.int .u32 (V.d : Int))).drew = wu at *
    go_wp2_with ((first
      | (with_reducible refine wpList_load_mid rfl 51 (.tmp 5) rfl w.heap.size 0 rfl (wordsV M) _ HR.out.range Try.underlying51 rfl HIM.out ?_)
      | (with_reducible refine wpList_store_row rfl 51 (.tmp 10) (.tmp 42) rfl (w.heap.size + 1) (wordsV M).toArray rfl rfl 51 zeros16.toArray HZ2.out HIA.out HOM.out H1M.out ?_)))
    refine bodyPost_ret (v := .agg (wordsV M).toArray) ?_ rfl ⟨rfl, below_setRow HPD.out.2.2 (by omega) _⟩
    exact results_whole (ty := 51) Try.results62 _ _ (w.heap.size + 1) 51 (wordsV M) _ (by simp [Act.put]) (HPD.out.2.1.setRow _) Try.underlying51 rfl HIM.out
end Go.Proofs.Ytcglobpklhkebab.RefCha
