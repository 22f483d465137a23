/-
  Several texts as one (RefQ, RefOn, RefMix, RefState, RefBlk, RefStream). The document's own answer for a quarter is what the plain mathematics of the text Cha says, and all memory that was there stays. Conditions: each word is below 2^32. The document's own answer for a quarter on four places of a state is what the plain mathematics of the text Cha says, and all memory that was there stays. Conditions: sixteen words below 2^32, four places below 16. The document's own answers for a mixed state, the state of a key, and a block are what the plain mathematics of the text Cha says, and all memory that was there stays. No condition but those that each theorem names. The document's own answer for the state of a key, a number and a nonce is what the plain mathematics of the text Cha says, and all memory that was there stays. Conditions: the key has 32 bytes, the nonce 12, the number is below 2^32. The document's own answers for a block, a stream and a hidden text are what the plain mathematics of the text Cha says, and all memory that was there stays. No condition but those that each theorem names. The document's own answers for a stream and a hidden text are what the plain mathematics of the text Cha says, and all memory that was there stays. No condition but those that each theorem names.
-/
import Derived.Test.YtedgpglldlohfaaGreatDoorMCha
import Derived.Deep.RegionHeld3
import Derived.Deep.Cut
import Derived.Deep.DeepCutAuto
import Derived.Test.YtedgpglldlohfaaGreatDoorMRef
namespace Go.Proofs.YtedgpglldlohfaaGreatDoor.RefCha
open Go.RowKit Mur Lanes Cha
set_option maxRecDepth 100000

set_option maxHeartbeats 800000 in
theorem spin_any (x n : Nat) (w : World) (hx : x < 4294967296) (h1 : 1 ≤ n) (h2 : n ≤ 31) :
    Calls Tryz.prog 114 #[.int .u32 x, .int .u64 n] w fun e w' => e = .returned (.int .u32 (spin x n : Nat)) ∧ w = w' := by
  go_enter Tryz.func114, Tryz.ntmps114
  go_wp2
  go_ret
  exact ⟨Lanes.ret_int (spin_int x n hx), rfl⟩

set_option maxHeartbeats 800000 in
theorem pub_any (a b c d : Nat) (Q : Q4) (w : World) (h : (⟨a, b, c, d⟩ : Q4).Ok) (hQ : Q = quarter ⟨a, b, c, d⟩) :
    Calls Tryz.prog 105 #[.agg #[.int .u32 a, .int .u32 b, .int .u32 c, .int .u32 d]] w fun e w' => e = .returned (.agg #[.int .u32 (Q.a : Int), .int .u32 (Q.b : Int), .int .u32 (Q.c : Int), .int .u32 (Q.d : Int)]) ∧ Below w.heap.size w w' := by
  obtain ⟨h1, h2, h3, h4⟩ := h
  dsimp only at h1 h2 h3 h4
  obtain ⟨A, hA⟩ : ∃ A, A = (a + b) % 4294967296 := ⟨_, rfl⟩
  have hA' : ((a : Int) + (b : Int)) % 4294967296 = (A : Int) := by omega
  have lA : A < 4294967296 := by omega
  obtain ⟨D, hD⟩ : ∃ D, D = spin (d ^^^ A) 16 := ⟨_, rfl⟩
  have lD : D < 4294967296 := by rw [hD]; exact spin_lt _ _ (xor_lt h4 lA)
  obtain ⟨C, hC⟩ : ∃ C, C = (c + D) % 4294967296 := ⟨_, rfl⟩
  have hC' : ((c : Int) + (D : Int)) % 4294967296 = (C : Int) := by omega
  have lC : C < 4294967296 := by omega
  obtain ⟨B, hB⟩ : ∃ B, B = spin (b ^^^ C) 12 := ⟨_, rfl⟩
  have lB : B < 4294967296 := by rw [hB]; exact spin_lt _ _ (xor_lt h2 lC)
  obtain ⟨A2, hA2⟩ : ∃ A2, A2 = (A + B) % 4294967296 := ⟨_, rfl⟩
  have hA2' : ((A : Int) + (B : Int)) % 4294967296 = (A2 : Int) := by omega
  have lA2 : A2 < 4294967296 := by omega
  obtain ⟨D2, hD2⟩ : ∃ D2, D2 = spin (D ^^^ A2) 8 := ⟨_, rfl⟩
  have lD2 : D2 < 4294967296 := by rw [hD2]; exact spin_lt _ _ (xor_lt lD lA2)
  obtain ⟨C2, hC2⟩ : ∃ C2, C2 = (C + D2) % 4294967296 := ⟨_, rfl⟩
  have hC2' : ((C : Int) + (D2 : Int)) % 4294967296 = (C2 : Int) := by omega
  have lC2 : C2 < 4294967296 := by omega
  obtain ⟨B2, hB2⟩ : ∃ B2, B2 = spin (B ^^^ C2) 7 := ⟨_, rfl⟩
  have x1 : bits .xor .u32 (d : Int) (A : Int) = ((d ^^^ A : Nat) : Int) := u32_xor_nat _ _ h4 lA
  have x2 : bits .xor .u32 (b : Int) (C : Int) = ((b ^^^ C : Nat) : Int) := u32_xor_nat _ _ h2 lC
  have x3 : bits .xor .u32 (D : Int) (A2 : Int) = ((D ^^^ A2 : Nat) : Int) := u32_xor_nat _ _ lD lA2
  have x4 : bits .xor .u32 (B : Int) (C2 : Int) = ((B ^^^ C2 : Nat) : Int) := u32_xor_nat _ _ lB lC2
  have r1 := Lib.hid (fun u => spin_any (d ^^^ A) 16 u (xor_lt h4 lA) (by omega) (by omega))
  have r2 := Lib.hid (fun u => spin_any (b ^^^ C) 12 u (xor_lt h2 lC) (by omega) (by omega))
  have r3 := Lib.hid (fun u => spin_any (D ^^^ A2) 8 u (xor_lt lD lA2) (by omega) (by omega))
  have r4 := Lib.hid (fun u => spin_any (B ^^^ C2) 7 u (xor_lt lB lC2) (by omega) (by omega))
  rw [← hD] at r1
  rw [← hB] at r2
  rw [← hD2] at r3
  rw [← hB2] at r4
  have hE : Q = ⟨A2, B2, C2, D2⟩ := by
    rw [hQ, hB2, hC2, hD2, hA2, hB, hC, hD, hA]
    rfl
  subst hE
  clear hQ hA hD hC hB hA2 hB2 hC2 hD2
  go_enter Tryz.func105, Tryz.ntmps105
  go_wp2
  go_quiet (fail)
  go_wp2_with fail
  refine (r1.out _).mono ?_
  rintro e w' ⟨rfl, rfl⟩
  go_wp2_with fail
  refine (r2.out _).mono ?_
  rintro e w' ⟨rfl, rfl⟩
  go_wp2_with fail
  refine (r3.out _).mono ?_
  rintro e w' ⟨rfl, rfl⟩
  go_wp2_with fail
  refine (r4.out _).mono ?_
  rintro e w' ⟨rfl, rfl⟩
  go_wp2
  refine bodyPost_ret (v := .agg #[.int .u32 (A2 : Int), .int .u32 (B2 : Int), .int .u32 (C2 : Int), .int .u32 (D2 : Int)]) (by simp [results, Tryz.results105, go_sem]) rfl ⟨rfl, ?_⟩
  exact ((((belowN (((Below.refl _ _).alloc (Nat.le_refl _) _).alloc (by simp) _) _).setCell (by simp) _).setCell (by simp) _).setCell (by simp) _).setCell (by simp) _
end Go.Proofs.YtedgpglldlohfaaGreatDoor.RefCha

namespace Go.Proofs.YtedgpglldlohfaaGreatDoor.RefCha
open Go.RowKit Mur Lanes Cha
set_option maxRecDepth 100000

theorem bel_ad (w : World) (o : Obj) : Below w.drew.heap.size w.drew (w.alloc o).drew := (Below.refl w.drew.heap.size w.drew).alloc (Nat.le_refl _) o
theorem bel_adc {w w' : World} {o : Obj} (h : Below (w.alloc o).drew.heap.size (w.alloc o).drew w') : Below w.drew.heap.size w.drew w' :=
  (bel_ad w o).trans (h.mono (by show w.heap.size ≤ (w.alloc o).heap.size; simp))
theorem bel_alloc {w w' : World} (h : Below w.drew.heap.size w.drew w') (o : Obj) : Below w.drew.heap.size w.drew (w'.alloc o) := h.alloc h.size o
theorem bel_set {w w' : World} (h : Below w.drew.heap.size w.drew w') (i : Nat) (v : Value) : Below w.drew.heap.size w.drew (w'.setCell ⟨w.heap.size, i, none⟩ v) := h.setCell (p := ⟨w.heap.size, i, none⟩) (Nat.le_refl _) v
theorem in_new {w w' : World} {o : Obj} (h : Below (w.alloc o).drew.heap.size (w.alloc o).drew w') (i : Nat) : w'.cell? ⟨w.heap.size, i, none⟩ = (w.alloc o).cell? ⟨w.heap.size, i, none⟩ :=
  h.cell (p := ⟨w.heap.size, i, none⟩) (by show w.heap.size < (w.alloc o).heap.size; simp)
theorem in_free {w w' : World} {o : Obj} (h : Below (w.alloc o).drew.heap.size (w.alloc o).drew w') (i : Nat) : w'.frozen? ⟨w.heap.size, i, none⟩ = (w.alloc o).frozen? ⟨w.heap.size, i, none⟩ :=
  h.frozen (p := ⟨w.heap.size, i, none⟩) (by show w.heap.size < (w.alloc o).heap.size; simp)
theorem in_whole {w w' : World} {vs : Array Value} {t : TypeId} (h : Below (w.alloc (.cells vs t)).drew.heap.size (w.alloc (.cells vs t)).drew w') : Whole w' w.heap.size t vs.toList :=
  (Whole.made' w t vs _ rfl).drew.below (by show w.heap.size < (w.alloc _).heap.size; simp) h
theorem set_four {w : World} {n : Nat} {t : TypeId} (h : Whole w n t [.int .u32 0, .int .u32 0, .int .u32 0, .int .u32 0]) (a b c d : Value) : Whole ((((w.setCell ⟨n, 0, none⟩ a).setCell ⟨n, 1, none⟩ b).setCell ⟨n, 2, none⟩ c).setCell ⟨n, 3, none⟩ d) n t [a, b, c, d] :=
  (((h.set 0 a).set 1 b).set 2 c).set 3 d

abbrev HeldA (wx : World) (B i j k l a b c d : Nat) (w : World) : Prop :=
  w.cell? ⟨B, i, none⟩ = some (.int .u32 (a : Int)) ∧ w.cell? ⟨B, j, none⟩ = some (.int .u32 (b : Int)) ∧ w.cell? ⟨B, k, none⟩ = some (.int .u32 (c : Int)) ∧ w.cell? ⟨B, l, none⟩ = some (.int .u32 (d : Int)) ∧ Below wx.drew.heap.size wx.drew w
theorem heldA {wx w : World} {B i j k l a b c d : Nat} (hB : B < wx.heap.size) (ca : wx.cell? ⟨B, i, none⟩ = some (.int .u32 (a : Int))) (cb : wx.cell? ⟨B, j, none⟩ = some (.int .u32 (b : Int))) (cc : wx.cell? ⟨B, k, none⟩ = some (.int .u32 (c : Int))) (cd : wx.cell? ⟨B, l, none⟩ = some (.int .u32 (d : Int)))
    (h : Below wx.drew.heap.size wx.drew w) : HeldA wx B i j k l a b c d w :=
  ⟨(h.cell (p := ⟨B, i, none⟩) hB).trans ca, (h.cell (p := ⟨B, j, none⟩) hB).trans cb, (h.cell (p := ⟨B, k, none⟩) hB).trans cc, (h.cell (p := ⟨B, l, none⟩) hB).trans cd, h⟩

abbrev HeldQ (n : Nat) (V : Q4) (w : World) : Prop :=
  w.cell? ⟨n, 0, none⟩ = some (.int .u32 (V.a : Int)) ∧ w.cell? ⟨n, 1, none⟩ = some (.int .u32 (V.b : Int)) ∧ w.cell? ⟨n, 2, none⟩ = some (.int .u32 (V.c : Int)) ∧ w.cell? ⟨n, 3, none⟩ = some (.int .u32 (V.d : Int))
theorem heldQ_set {w : World} {n B : Nat} {V : Q4} (h : HeldQ n V w.drew) (hn : n ≠ B) (i : Nat) (v : Value) : HeldQ n V (w.setCell ⟨B, i, none⟩ v).drew := by
  have far : ∀ (j : Nat), (w.setCell ⟨B, i, none⟩ v).drew.cell? ⟨n, j, none⟩ = w.drew.cell? ⟨n, j, none⟩ := fun j => World.cell?_setCell_other w ⟨B, i, none⟩ ⟨n, j, none⟩ _ (by intro e; cases e; exact hn rfl)
  exact ⟨(far _).trans h.1, (far _).trans h.2.1, (far _).trans h.2.2.1, (far _).trans h.2.2.2⟩

set_option maxHeartbeats 3200000 in
theorem on_any (s : List Nat) (i j k l : Nat) (M : List Nat) (w : World) (h : Words16 s) (hi : i < 16) (hj : j < 16) (hk : k < 16) (hl : l < 16) (hM : M = on s i j k l) :
    Calls Tryz.prog 95 #[.agg (wordsV s).toArray, .int .i64 i, .int .i64 j, .int .i64 k, .int .i64 l] w fun e w' => e = .returned (.agg (wordsV M).toArray) ∧ Below w.heap.size w w' := by
  have ok4 := h.at4 i j k l
  unfold at4 at ok4
  obtain ⟨V, hV⟩ : ∃ V, V = quarter (at4 s i j k l) := ⟨_, rfl⟩
  have hM2 : M = put4 s i j k l V := by rw [hM, hV]; rfl
  have hokM : Words16 M := by rw [hM]; exact h.on _ _ _ _
  unfold at4 at hV
  have hst : Two w w.heap.size s ((w.alloc (.cells (wordsV s).toArray 85)).alloc (.cells zeros16.toArray 85)) :=
    ⟨(Whole.made' w _ (wordsV s).toArray _ rfl).alloc _, Whole.made' _ _ zeros16.toArray _ (by simp), ((Below.refl _ _).alloc (Nat.le_refl _) _).alloc (by simp) _⟩
  have HT : Hid (Two w w.heap.size s ((w.alloc (.cells (wordsV s).toArray 85)).alloc (.cells #[.int .u32 0, .int .u32 0, .int .u32 0, .int .u32 0, .int .u32 0, .int .u32 0, .int .u32 0, .int .u32 0, .int .u32 0, .int .u32 0, .int .u32 0, .int .u32 0, .int .u32 0, .int .u32 0, .int .u32 0, .int .u32 0] 85))) := Lib.hid hst
  have HL := Lib.hid h.1
  have HM := Lib.hid hM2
  have HKM := Lib.hid hokM
  clear hst h hM hM2 hokM
  go_enter Tryz.func95, Tryz.ntmps95
  go_upto_region 1 with (fail)
  generalize (w.alloc (.cells (wordsV s).toArray 85)).alloc (.cells #[.int .u32 0, .int .u32 0, .int .u32 0, .int .u32 0, .int .u32 0, .int .u32 0, .int .u32 0, .int .u32 0, .int .u32 0, .int .u32 0, .int .u32 0, .int .u32 0, .int .u32 0, .int .u32 0, .int .u32 0, .int .u32 0] 85) = wx at *
  have ca := word_cell HT.out.1 (i := i) (by rw [HL.out]; exact hi)
  have cb := word_cell HT.out.1 (i := j) (by rw [HL.out]; exact hj)
  have cc := word_cell HT.out.1 (i := k) (by rw [HL.out]; exact hk)
  have cd := word_cell HT.out.1 (i := l) (by rw [HL.out]; exact hl)
  have ia : (i : Int) < 16 := by omega
  have ib : (j : Int) < 16 := by omega
  have ic : (k : Int) < 16 := by omega
  have id' : (l : Int) < 16 := by omega
  generalize hy0 : s.getD i 0 = y0 at *
  generalize hy1 : s.getD j 0 = y1 at *
  generalize hy2 : s.getD k 0 = y2 at *
  generalize hy3 : s.getD l 0 = y3 at *
  clear hy0 hy1 hy2 hy3
  have R := Lib.hid (fun u => RefCha.pub_any y0 y1 y2 y3 V u ok4 hV)
  have HH := Lib.hid (fun (u : World) (q : Below wx.drew.heap.size wx.drew u) => heldA HT.out.1.lt ca cb cc cd q)
  clear ok4 hV ca cb cc cd
  go_cut [11] (fun v wc => ∃ nX : Nat, v = .pointer (some ⟨nX, 0, none⟩) ∧ wx.heap.size ≤ nX ∧ Whole wc nX 125 [.int .u32 (V.a : Int), .int .u32 (V.b : Int), .int .u32 (V.c : Int), .int .u32 (V.d : Int)] ∧ Below wx.drew.heap.size wx.drew wc)
  case first =>
    go_region_held3 (fun w' => w'.cell? ⟨w.heap.size, i, none⟩ = some (.int .u32 (y0 : Int)) ∧ w'.cell? ⟨w.heap.size, j, none⟩ = some (.int .u32 (y1 : Int)) ∧ w'.cell? ⟨w.heap.size, k, none⟩ = some (.int .u32 (y2 : Int)) ∧ w'.cell? ⟨w.heap.size, l, none⟩ = some (.int .u32 (y3 : Int)) ∧ Below wx.drew.heap.size wx.drew w')
      (first | (with_reducible exact HH.out _ (Below.refl _ _)) | assumption | (with_reducible exact HH.out _ (bel_ad _ _)) | (with_reducible exact HH.out _ hbv) | (with_reducible exact HH.out _ (bel_adc hbv)) | (with_reducible exact HH.out _ (bel_alloc hbv _)) | (with_reducible exact HH.out _ (bel_set (bel_set (bel_set (bel_set (bel_adc hbv) _ _) _ _) _ _) _ _)))
      (first
        | (go_at_call 105; with_reducible refine Calls.mono (R.out _) ?_; rintro e wv ⟨rfl, hbv⟩; with_reducible have z0 := in_new hbv 0; have z1 := in_new hbv 1; have z2 := in_new hbv 2; have z3 := in_new hbv 3; have f0 := in_free hbv 0; have f1 := in_free hbv 1; have f2 := in_free hbv 2; have f3 := in_free hbv 3; have HWN := Lib.hid (in_whole hbv); simp at z0 z1 z2 z3 f0 f1 f2 f3)
        | (go_at_call 105; with_reducible refine Calls.mono (R.out _) ?_; rintro e wv ⟨rfl, hbv⟩))
    · have HBV := Lib.hid hbv
      clear hbv
      go_wp2_with fail
      go_meet
      exact ⟨_, rfl, HBV.out.size, Whole.made wv _ _, bel_alloc HBV.out _⟩
    · have HBV := Lib.hid hbv
      clear hbv z0 z1 z2 z3 f0 f1 f2 f3
      go_wp2_with fail
      go_meet
      exact ⟨_, rfl, Nat.le_refl _, set_four HWN.out _ _ _ _, bel_set (bel_set (bel_set (bel_set (bel_adc HBV.out) _ _) _ _) _ _) _ _⟩
  case rest =>
    obtain ⟨nX, rfl, hn, hw, hb⟩ := hcut
    rename_i wc
    have hn0 : nX ≠ w.heap.size := by have := HT.out.1.lt; omega
    have h2 : Two w w.heap.size s wc := ⟨HT.out.1.drew.below HT.out.1.lt hb, HT.out.2.1.drew.below HT.out.2.1.lt hb, HT.out.2.2.drew.trans (hb.mono HT.out.2.2.size)⟩
    have s1 := set_word h2.1 i V.a
    have s2 := set_word s1 j V.b
    have s3 := set_word s2 k V.c
    have ca := word_cell h2.1 (i := i) (by rw [HL.out]; exact hi)
    have cb := word_cell s1 (i := j) (by rw [List.length_set, HL.out]; exact hj)
    have cc := word_cell s2 (i := k) (by rw [List.length_set, List.length_set, HL.out]; exact hk)
    have cd := word_cell s3 (i := l) (by rw [List.length_set, List.length_set, List.length_set, HL.out]; exact hl)
    have fa := word_free h2.1 (i := i) (by rw [HL.out]; exact hi)
    have fb := word_free h2.1 (i := j) (by rw [HL.out]; exact hj)
    have fc := word_free h2.1 (i := k) (by rw [HL.out]; exact hk)
    have fd := word_free h2.1 (i := l) (by rw [HL.out]; exact hl)
    have HP := Lib.hid (h2.put (Nat.le_refl _) i j k l V)
    have HQ := Lib.hid (show HeldQ nX V wc.drew from ⟨hw.row.cell rfl, hw.row.cell rfl, hw.row.cell rfl, hw.row.cell rfl⟩)
    have HN := Lib.hid hn0
    rw [← HM.out] at HP
    clear hw hb h2 s1 s2 s3 hn hn0 HT R HH
    go_wp2
    go_region_held3 (fun w' => w'.cell? ⟨nX, 0, none⟩ = some (.int .u32 (V.a : Int)) ∧ w'.cell? ⟨nX, 1, none⟩ = some (.int .u32 (V.b : Int)) ∧ w'.cell? ⟨nX, 2, none⟩ = some (.int .u32 (V.c : Int)) ∧ w'.cell? ⟨nX, 3, none⟩ = some (.int .u32 (V.d : Int)))
      (first | (with_reducible exact HQ.out) | assumption | (with_reducible exact heldQ_set (by assumption) HN.out _ _))
      (fail)
    have HPD := Lib.hid HP.out.drew
    clear HP
    have HIM := Lib.hid (info16 HKM.out.1)
    have HIA := Lib.hid (infoA16 HKM.out.1)
    have HOM := Lib.hid (long16 HKM.out.1)
    have H1M := Lib.hid (one16 M)
    clear ca cb cc cd fa fb fc fd
    have HR := Lib.hid HPD.out.1
    have hz2 := HPD.out.2.1
    unfold Whole at hz2
    have HZ2 := Lib.hid hz2
    clear hz2
    generalize ((((wc.setCell ⟨w.heap.size, i, none⟩ (.int .u32 (V.a : Int))).setCell ⟨w.heap.size, j, none⟩ (.int .u32 (V.b : Int))).setCell ⟨w.heap.size, k, none⟩ (.int .u32 (V.c : Int))).setCell ⟨w.heap.size, l, none⟩ (.int .u32 (V.d : Int))).drew = wu at *
    go_wp2_with ((first
      | (with_reducible refine wpList_load_mid rfl 85 (.tmp 5) rfl w.heap.size 0 rfl (wordsV M) _ HR.out.range Tryz.underlying85 rfl HIM.out ?_)
      | (with_reducible refine wpList_store_row rfl 85 (.tmp 10) (.tmp 42) rfl (w.heap.size + 1) (wordsV M).toArray rfl rfl 85 zeros16.toArray HZ2.out HIA.out HOM.out H1M.out ?_)))
    refine bodyPost_ret (v := .agg (wordsV M).toArray) ?_ rfl ⟨rfl, below_setRow HPD.out.2.2 (by omega) _⟩
    exact results_whole (ty := 85) Tryz.results95 _ _ (w.heap.size + 1) 85 (wordsV M) _ (by simp [Act.put]) (HPD.out.2.1.setRow _) Tryz.underlying85 rfl HIM.out
end Go.Proofs.YtedgpglldlohfaaGreatDoor.RefCha

namespace Go.Proofs.YtedgpglldlohfaaGreatDoor.RefCha
open Go.RowKit Mur Lanes Cha
set_option maxRecDepth 100000

theorem two_row {w0 w : World} {b : Nat} {s : List Nat} (h : Two w0 b s w) (z : List Nat) (hb : w0.heap.size ≤ b := by omega) : Two w0 b z (w.setRow b (wordsV z).toArray) := by
  have o2 : (w.setRow b (wordsV z).toArray).heap[b + 1]? = w.heap[b + 1]? := by
    simp [World.setRow, Array.getElem?_modify]
  exact ⟨h.1.setRow _, o2.trans h.2.1, below_setRow h.2.2 hb _⟩

set_option maxHeartbeats 1600000 in
theorem mixed_any (s M : List Nat) (w : World) (h : Words16 s) (hM : M = mixed s) :
    Calls Tryz.prog 78 #[.agg (wordsV s).toArray] w fun e w' => e = .returned (.agg (wordsV M).toArray) ∧ Below w.heap.size w w' := by
  have HM := Lib.hid hM
  have HS := Lib.hid h
  clear hM h
  have hst : Two w w.heap.size s ((w.alloc (.cells (wordsV s).toArray 85)).alloc (.cells zeros16.toArray 85)) :=
    ⟨(Whole.made' w _ (wordsV s).toArray _ rfl).alloc _, Whole.made' _ _ zeros16.toArray _ (by simp), ((Below.refl _ _).alloc (Nat.le_refl _) _).alloc (by simp) _⟩
  have HT := Lib.hid hst
  clear hst
  go_enter Tryz.func78, Tryz.ntmps78
  go_wp2
  go_loopw [5] (fun i wr => ∃ k : Nat, k ≤ 4 ∧ i = .int .i64 k ∧ Two w w.heap.size (slant s 0 k) wr) (fun i _ => 4 - (intOf i).toNat)
  case atStart => exact ⟨0, by omega, rfl, HT.out⟩
  case round =>
    obtain ⟨k, hk4, rfl, hk⟩ := hrel
    by_cases hlt : k < 4
    · have hd2 : decide ((k : Int) < 4) = true := by simp; omega
      have hok := HS.out.slant 0 k
      have hstep : slant s 0 (k + 1) = on (slant s 0 k) k (4 + k) (8 + k) (12 + k) := by
        show on _ _ (pb 0 k) (pc 0 k) (pd 0 k) = _
        have e1 : pb 0 k = 4 + k := by unfold pb; omega
        have e2 : pc 0 k = 8 + k := by unfold pc; omega
        have e3 : pd 0 k = 12 + k := by unfold pd; omega
        rw [e1, e2, e3]
      generalize slant s 0 k = X at *
      obtain ⟨Z, hZ⟩ : ∃ Z, Z = on X k (4 + k) (8 + k) (12 + k) := ⟨_, rfl⟩
      have hokZ : Words16 Z := by rw [hZ]; exact hok.on _ _ _ _
      rw [← hZ] at hstep
      have R := Lib.hid (show ∀ u, Calls Tryz.prog 95 #[.agg (wordsV X).toArray, .int .i64 (k : Int), .int .i64 (4 + (k : Int)), .int .i64 (8 + (k : Int)), .int .i64 (12 + (k : Int))] u fun e w' => e = .returned (.agg (wordsV Z).toArray) ∧ Below u.heap.size u w' from fun u => on_any X k (4 + k) (8 + k) (12 + k) Z u hok (by omega) (by omega) (by omega) (by omega) hZ)
      have HX1 := Lib.hid hk.1
      have HK := Lib.hid hk
      have HIX := Lib.hid (info16 hok.1)
      have HIM := Lib.hid (infoA16 hokZ.1)
      have HOM := Lib.hid (show (wordsV X).toArray.size = (wordsV Z).toArray.size by simp [wordsV_length, hok.1, hokZ.1])
      have H1M := Lib.hid (one16 Z)
      have HST := Lib.hid hstep
      clear hk hok hokZ hZ hstep HT
      go_wp2_with ((with_reducible refine wpList_load_mid rfl 85 (.tmp 1) rfl w.heap.size 0 rfl (wordsV X) _ HX1.out.range Tryz.underlying85 rfl HIX.out ?_))
      refine (R.out _).mono ?_
      rintro e w1 ⟨rfl, hb1⟩
      have hk2 : Two w w.heap.size X w1 := ⟨HK.out.1.below HK.out.1.lt hb1, HK.out.2.1.below HK.out.2.1.lt hb1, HK.out.2.2.trans (hb1.mono HK.out.2.2.size)⟩
      have hx2 : w1.heap[w.heap.size]? = some (.cells (wordsV X).toArray 85 (0, 0)) := hk2.1
      have HK2 := Lib.hid hk2
      have HX2 := Lib.hid hx2
      clear hb1 hk2 hx2
      go_wp2_with ((with_reducible refine wpList_store_row rfl 85 (.tmp 1) (.tmp 16) rfl w.heap.size (wordsV Z).toArray rfl rfl 85 (wordsV X).toArray HX2.out HIM.out HOM.out H1M.out ?_))
      go_roundw
      case rel => exact ⟨k + 1, by omega, by go_num, by rw [HST.out]; exact two_row HK2.out Z⟩
      case measure => simp [intOf]; omega
    · have hd2 : decide ((k : Int) < 4) = false := by simp; omega
      obtain rfl : k = 4 := by omega
      have hok := HS.out.slant 0 4
      have hM2 : M = slant (slant s 0 4) 1 4 := HM.out
      generalize slant s 0 4 = X at *
      have HX := Lib.hid hok
      have HK := Lib.hid hk
      have HM2 := Lib.hid hM2
      clear hok hk hM2 HM HT hd2
      rw [show ((4 : Nat) : Int) = 4 from rfl]
      go_wp2
      obtain ⟨wo, rfl⟩ : ∃ wo : World, wo = wr := ⟨_, rfl⟩
      go_loopw [18] (fun i wr => ∃ k : Nat, k ≤ 4 ∧ i = .int .i64 k ∧ Two w w.heap.size (slant X 1 k) wr) (fun i _ => 4 - (intOf i).toNat)
      case atStart => exact ⟨0, by omega, rfl, HK.out⟩
      case round =>
        obtain ⟨k, hk4, rfl, hk⟩ := hrel
        by_cases hlt : k < 4
        · have hd2 : decide ((k : Int) < 4) = true := by simp; omega
          have hok := HX.out.slant 1 k
          obtain ⟨b, hb⟩ : ∃ b, b = pb 1 k := ⟨_, rfl⟩
          obtain ⟨c, hc⟩ : ∃ b, b = pc 1 k := ⟨_, rfl⟩
          obtain ⟨d, hd⟩ : ∃ b, b = pd 1 k := ⟨_, rfl⟩
          have hstep : slant X 1 (k + 1) = on (slant X 1 k) k b c d := by rw [hb, hc, hd]; rfl
          generalize slant X 1 k = Y at *
          unfold pb at hb
          unfold pc at hc
          unfold pd at hd
          have qb : (4 : Int) + ((k : Int) + 1) % 4 = (b : Int) := by omega
          have qc : (8 : Int) + ((k : Int) + 2) % 4 = (c : Int) := by omega
          have qd : (12 : Int) + ((k : Int) + 3) % 4 = (d : Int) := by omega
          have lb : b < 16 := by omega
          have lc : c < 16 := by omega
          have ld : d < 16 := by omega
          clear hb hc hd
          obtain ⟨Z, hZ⟩ : ∃ Z, Z = on Y k b c d := ⟨_, rfl⟩
          have hokZ : Words16 Z := by rw [hZ]; exact hok.on _ _ _ _
          rw [← hZ] at hstep
          have R := Lib.hid (fun u => on_any Y k b c d Z u hok (by omega) lb lc ld hZ)
          have HX1 := Lib.hid hk.1
          have HK3 := Lib.hid hk
          have HIX := Lib.hid (info16 hok.1)
          have HIM := Lib.hid (infoA16 hokZ.1)
          have HOM := Lib.hid (show (wordsV Y).toArray.size = (wordsV Z).toArray.size by simp [wordsV_length, hok.1, hokZ.1])
          have H1M := Lib.hid (one16 Z)
          have HST := Lib.hid hstep
          clear hk hok hokZ hZ hstep HK
          go_wp2_with ((with_reducible refine wpList_load_mid rfl 85 (.tmp 1) rfl w.heap.size 0 rfl (wordsV Y) _ HX1.out.range Tryz.underlying85 rfl HIX.out ?_))
          refine (R.out _).mono ?_
          rintro e w1 ⟨rfl, hb1⟩
          have hk2 : Two w w.heap.size Y w1 := ⟨HK3.out.1.below HK3.out.1.lt hb1, HK3.out.2.1.below HK3.out.2.1.lt hb1, HK3.out.2.2.trans (hb1.mono HK3.out.2.2.size)⟩
          have hx2 : w1.heap[w.heap.size]? = some (.cells (wordsV Y).toArray 85 (0, 0)) := hk2.1
          have HK2 := Lib.hid hk2
          have HX2 := Lib.hid hx2
          clear hb1 hk2 hx2
          go_wp2_with ((with_reducible refine wpList_store_row rfl 85 (.tmp 1) (.tmp 35) rfl w.heap.size (wordsV Z).toArray rfl rfl 85 (wordsV Y).toArray HX2.out HIM.out HOM.out H1M.out ?_))
          go_roundw
          case rel => exact ⟨k + 1, by omega, by go_num, by rw [HST.out]; exact two_row HK2.out Z⟩
          case measure => simp [intOf]; omega
        · have hd2 : decide ((k : Int) < 4) = false := by simp; omega
          obtain rfl : k = 4 := by omega
          rw [← HM2.out] at hk
          have hokM : Words16 M := by rw [HM2.out]; exact HX.out.slant 1 4
          have HI := Lib.hid (info16 hokM.1)
          have HA := Lib.hid (infoA16 hokM.1)
          have HO := Lib.hid (long16 hokM.1)
          have H1 := Lib.hid (one16 M)
          have HB := Lib.hid hk
          have HB1 := Lib.hid hk.1
          have hA2 : wr.heap[w.heap.size + 1]? = some (.cells zeros16.toArray 85 (0, 0)) := hk.2.1
          have HA2 := Lib.hid hA2
          clear hk hA2 hokM HK
          go_wp2_with ((first
            | (with_reducible refine wpList_load_mid rfl 85 (.tmp 1) rfl w.heap.size 0 rfl (wordsV M) _ HB1.out.range Tryz.underlying85 rfl HI.out ?_)
            | (with_reducible refine wpList_store_row rfl 85 (.tmp 2) (.tmp 37) rfl (w.heap.size + 1) (wordsV M).toArray rfl rfl 85 zeros16.toArray HA2.out HA.out HO.out H1.out ?_)))
          refine bodyPost_ret (v := .agg (wordsV M).toArray) ?_ rfl ⟨rfl, below_setRow HB.out.2.2 (by omega) _⟩
          exact results_whole (ty := 85) Tryz.results78 _ _ (w.heap.size + 1) 85 (wordsV M) _ (by simp [Act.put]) (HB.out.2.1.setRow _) Tryz.underlying85 rfl HI.out
end Go.Proofs.YtedgpglldlohfaaGreatDoor.RefCha

namespace Go.Proofs.YtedgpglldlohfaaGreatDoor.RefCha
open Go.RowKit Mur Lanes Cha
set_option maxRecDepth 100000

theorem byt_left {a b : List UInt8} {i : Nat} (h : i < a.length) : byt (a ++ b) i = byt a i := by
  rw [byt_get (by rw [List.length_append]; omega), byt_get h, List.getElem_append_left h]
theorem byt_right {a b : List UInt8} {i : Nat} (h : a.length ≤ i) : byt (a ++ b) i = byt b (i - a.length) := by
  unfold byt
  simp only [List.getD, List.getElem?_append_right h]
/-- Words of whole words, one text behind the other. -/
theorem words_append (a b : List UInt8) (c : Nat) (h : a.length = 4 * c) : words (a ++ b) false = words a false ++ words b false := by
  apply List.ext_getElem
  · simp only [words_length, List.length_append]
    omega
  intro i h1 h2
  rw [words_length, List.length_append] at h1
  by_cases hi : i < c
  · rw [List.getElem_append_left (by rw [words_length]; omega)]
    simp only [words, List.getElem_map, List.getElem_range]
    rw [(RefTwo.word_sum _ i).1, (RefTwo.word_sum _ i).1, byt_left (by omega), byt_left (by omega), byt_left (by omega), byt_left (by omega)]
  · rw [List.getElem_append_right (by rw [words_length]; omega)]
    simp only [words, List.getElem_map, List.getElem_range, List.length_map, List.length_range]
    have e : a.length / 4 = c := by omega
    rw [(RefTwo.word_sum _ i).1, (RefTwo.word_sum _ _).1, byt_right (by omega), byt_right (by omega), byt_right (by omega), byt_right (by omega), e]
    have e0 : 4 * i - a.length = 4 * (i - c) := by omega
    have e1 : 4 * i + 1 - a.length = 4 * (i - c) + 1 := by omega
    have e2 : 4 * i + 2 - a.length = 4 * (i - c) + 2 := by omega
    have e3 : 4 * i + 3 - a.length = 4 * (i - c) + 3 := by omega
    rw [e0, e1, e2, e3]
theorem text_one (n : Nat) : text [n] false = [UInt8.ofNat n, UInt8.ofNat (n / 256), UInt8.ofNat (n / 65536), UInt8.ofNat (n / 16777216)] := by
  simp [text, shiftN, List.range_succ]
theorem words_text_one (n : Nat) (hn : n < 4294967296) : words (text [n] false) false = [n] := by
  rw [text_one]
  apply List.ext_getElem (by simp [words_length])
  intro i h1 h2
  obtain rfl : i = 0 := by simpa using h2
  simp only [words, List.getElem_map, List.getElem_range, List.getElem_cons_zero]
  rw [(RefTwo.word_sum _ 0).1]
  simp [byt]
  omega
/-- The number may be laid into the text, or into the words. -/
theorem state_number (key nonce : List UInt8) (n : Nat) (hk : key.length = 32) (hn : n < 4294967296) : stateW key (text [n] false) nonce = (stateZ key nonce).set 12 n := by
  have ha : (markL ++ key).length = 4 * 12 := by simp [markL, hk]
  have hz : words [0, 0, 0, 0] false = [0] := by decide
  unfold stateZ stateW
  rw [List.append_assoc (markL ++ key), List.append_assoc (markL ++ key), words_append _ _ 12 ha, words_append _ _ 12 ha, words_append (text [n] false) _ 1 (by rw [text_length]; rfl), words_append [0, 0, 0, 0] _ 1 rfl, words_text_one n hn, hz]
  have hl : (words (markL ++ key) false).length = 12 := by rw [words_length, ha]
  rw [List.set_append_right _ _ (by omega), hl]
  rfl

/-- The words below i are taken over. -/
def upTo (W : List Nat) (i : Nat) : List Nat := (List.range 16).map fun j => if j < i then W.getD j 0 else 0
theorem upTo_zero (W : List Nat) : wordsV (upTo W 0) = zeros16 := rfl
theorem upTo_length (W : List Nat) (i : Nat) : (upTo W i).length = 16 := by simp [upTo]
theorem upTo_succ (W : List Nat) (i : Nat) : (upTo W i).set i (W.getD i 0) = upTo W (i + 1) := by
  apply List.ext_getElem (by simp [upTo])
  intro j h1 h2
  rw [List.getElem_set]
  by_cases e : i = j
  · subst e; simp [upTo]
  · have e1 : (j < i + 1) = (j < i) := by simp; omega
    simp [upTo, e, e1]
theorem upTo_end {W : List Nat} (h : W.length = 16) : upTo W 16 = W := by
  apply List.ext_getElem (by simp [upTo, h])
  intro j h1 h2
  have hj : j < 16 := by omega
  simp [upTo, hj, List.getD, h2]

/-- What the loop leans on. -/
structure Going (w0 : World) (g : Nat) (W X : List Nat) (w : World) : Prop where
  src : ∀ j (h : j < W.length), w.cell? ⟨g, j, none⟩ = some (.int .u32 (W[j] : Int))
  res : Whole w w0.heap.size 85 zeros16
  s : Whole w (w0.heap.size + 1) 85 (wordsV X)
  below : Below w0.heap.size w0 w
theorem Going.set {w0 w : World} {g : Nat} {W X : List Nat} (h : Going w0 g W X w) (i y : Nat) (hg : g ≠ w0.heap.size + 1) : Going w0 g W (X.set i y) (w.setCell ⟨w0.heap.size + 1, i, none⟩ (.int .u32 (y : Int))) := by
  refine ⟨fun j hj => ?_, h.res.other _ _ _ (by omega), set_word h.s i y, h.below.setCell (p := ⟨w0.heap.size + 1, i, none⟩) (by show _ ≤ w0.heap.size + 1; omega) _⟩
  rw [World.cell?_setCell_other w ⟨w0.heap.size + 1, i, none⟩ ⟨g, j, none⟩ _ (by intro e; cases e; exact hg rfl)]
  exact h.src j hj

set_option maxHeartbeats 1600000 in
theorem state_any (key nonce : ByteArray) (n : Nat) (M : List Nat) (w : World) (hk : key.size = 32) (hn : nonce.size = 12) (hlt : n < 4294967296) (hM : M = (stateZ key.data.toList nonce.data.toList).set 12 n) :
    Calls Tryz.prog 77 #[.string key, .int .u32 n, .string nonce] w fun e w' => e = .returned (.agg (wordsV M).toArray) ∧ Below w.heap.size w w' := by
  obtain ⟨T, hT⟩ : ∃ T : ByteArray, T = ⟨(text [n] false).toArray⟩ := ⟨_, rfl⟩
  have hTs : T.size = 4 := by
    rw [hT]
    show (text [n] false).toArray.size = 4
    simp [text_length]
  obtain ⟨A, hA⟩ : ∃ A : ByteArray, A = (⟨#[101, 120, 112, 97, 110, 100, 32, 51, 50, 45, 98, 121, 116, 101, 32, 107]⟩ : ByteArray) ++ key ++ T ++ nonce := ⟨_, rfl⟩
  have hAs : A.size = 64 := by rw [hA]; simp only [ByteArray.size_append, hk, hn, hTs]; rfl
  have hAe : A.data.toList = markL ++ key.data.toList ++ text [n] false ++ nonce.data.toList := by
    rw [hA, hT]
    simp only [ByteArray.data_append, Array.toList_append]
    rfl
  have hMA : words A.data.toList false = M := by
    rw [hM, hAe, ← state_number _ _ _ hk hlt]
    rfl
  have hokM : Words16 M := by rw [hM]; exact (stateW_ok hk rfl hn : Words16 (stateZ key.data.toList nonce.data.toList)).set 12 n hlt
  have r1 := Lib.hid (show ∀ (u : World) (b : Nat), b < u.heap.size → u.cell? ⟨b, 0, none⟩ = some (.int .u32 (n : Int)) → Calls Tryz.prog 79 #[.slice (some ⟨b, 0, none⟩) 1 1, .bool false] u fun e w' => e = .returned (.string T) ∧ Below u.heap.size u w' from fun u b hb hc => by
    rw [hT]
    exact RefTwo.text_some [n] b 0 1 false u (by show 1 ≤ _; omega) (fun x hx => by rw [List.mem_singleton] at hx; omega) hb (fun i hi => by
      obtain rfl : i = 0 := by have : [n].length = 1 := rfl; omega
      exact hc))
  have r2 := Lib.hid (show ∀ u, Calls Tryz.prog 94 #[.string A, .bool false] u fun e w' => ∃ v, e = .returned v ∧ w'.ownsRow u.heap.size 82 1 v 16 (wordsV M) ∧ Below u.heap.size u w' from fun u => by
    have := RefTwo.words_own A false u (by omega)
    rw [hMA, show A.size / 4 = 16 by omega] at this
    exact this)
  have n1 : ¬ 9223372036854775807 < 16 + key.size := by omega
  have n2 : ¬ 9223372036854775807 < 16 + key.size + T.size := by omega
  have n3 : ¬ 9223372036854775807 < 16 + key.size + T.size + nonce.size := by omega
  have HA := Lib.hid hA
  have HKM := Lib.hid hokM
  clear hA hT hTs hAs hAe hMA hokM hM hk hn
  go_enter Tryz.func77, Tryz.ntmps77
  go_upto_region 2 with (fail)
  have hZa : Whole ((w.alloc (.cells #[.int .u32 0, .int .u32 0, .int .u32 0, .int .u32 0, .int .u32 0, .int .u32 0, .int .u32 0, .int .u32 0, .int .u32 0, .int .u32 0, .int .u32 0, .int .u32 0, .int .u32 0, .int .u32 0, .int .u32 0, .int .u32 0] 85)).alloc (.cells #[.int .u32 0, .int .u32 0, .int .u32 0, .int .u32 0, .int .u32 0, .int .u32 0, .int .u32 0, .int .u32 0, .int .u32 0, .int .u32 0, .int .u32 0, .int .u32 0, .int .u32 0, .int .u32 0, .int .u32 0, .int .u32 0] 85)) w.heap.size 85 zeros16 := (Whole.made' w _ zeros16.toArray _ rfl).alloc _
  have hZb : Whole ((w.alloc (.cells #[.int .u32 0, .int .u32 0, .int .u32 0, .int .u32 0, .int .u32 0, .int .u32 0, .int .u32 0, .int .u32 0, .int .u32 0, .int .u32 0, .int .u32 0, .int .u32 0, .int .u32 0, .int .u32 0, .int .u32 0, .int .u32 0] 85)).alloc (.cells #[.int .u32 0, .int .u32 0, .int .u32 0, .int .u32 0, .int .u32 0, .int .u32 0, .int .u32 0, .int .u32 0, .int .u32 0, .int .u32 0, .int .u32 0, .int .u32 0, .int .u32 0, .int .u32 0, .int .u32 0, .int .u32 0] 85)) (w.heap.size + 1) 85 zeros16 := Whole.made' _ _ zeros16.toArray _ (by simp)
  have hBl : Below w.heap.size w ((w.alloc (.cells #[.int .u32 0, .int .u32 0, .int .u32 0, .int .u32 0, .int .u32 0, .int .u32 0, .int .u32 0, .int .u32 0, .int .u32 0, .int .u32 0, .int .u32 0, .int .u32 0, .int .u32 0, .int .u32 0, .int .u32 0, .int .u32 0] 85)).alloc (.cells #[.int .u32 0, .int .u32 0, .int .u32 0, .int .u32 0, .int .u32 0, .int .u32 0, .int .u32 0, .int .u32 0, .int .u32 0, .int .u32 0, .int .u32 0, .int .u32 0, .int .u32 0, .int .u32 0, .int .u32 0, .int .u32 0] 85)) := ((Below.refl _ _).alloc (Nat.le_refl _) _).alloc (by simp) _
  have HZa := Lib.hid hZa
  have HZb := Lib.hid hZb
  have HBl := Lib.hid hBl
  clear hZa hZb hBl
  generalize (w.alloc (.cells #[.int .u32 0, .int .u32 0, .int .u32 0, .int .u32 0, .int .u32 0, .int .u32 0, .int .u32 0, .int .u32 0, .int .u32 0, .int .u32 0, .int .u32 0, .int .u32 0, .int .u32 0, .int .u32 0, .int .u32 0, .int .u32 0] 85)).alloc (.cells #[.int .u32 0, .int .u32 0, .int .u32 0, .int .u32 0, .int .u32 0, .int .u32 0, .int .u32 0, .int .u32 0, .int .u32 0, .int .u32 0, .int .u32 0, .int .u32 0, .int .u32 0, .int .u32 0, .int .u32 0, .int .u32 0] 85) = wx at *
  go_wp2_with fail
  refine (r1.out _ wx.heap.size (by simp) (by simp [World.cell?_alloc_new])).mono ?_
  rintro e w1 ⟨rfl, hb1⟩
  have HB1 := Lib.hid (show Below wx.heap.size wx w1 from ((Below.refl wx.heap.size wx).alloc (Nat.le_refl _) _).trans (hb1.mono (by simp)))
  clear hb1
  go_wp2_with fail
  rw [← HA.out]
  refine (r2.out _).mono ?_
  rintro e w2 ⟨v, rfl, hown, hb2⟩
  have hB2 : Below wx.heap.size wx w2 := HB1.out.trans (hb2.mono HB1.out.size)
  obtain ⟨g, cap, rfl, hg, hsrc⟩ : ∃ g cap, v = .slice (some ⟨g, 0, none⟩) 16 cap ∧ wx.heap.size ≤ g ∧ ∀ j (h : j < M.length), w2.cell? ⟨g, j, none⟩ = some (.int .u32 (M[j] : Int)) := by
    have hm := HKM.out.1
    rcases hown.2 with ⟨rfl, h0⟩ | ⟨g, cap, cur, rfl, hb, hgc, hnc, hm2, hs, ht⟩
    · omega
    · refine ⟨g, cap, rfl, Nat.le_trans HB1.out.size hb, fun j hj => ?_⟩
      rw [hown.cellAt j (by omega)]
      exact wordsV_at hj
  have hgo : Going w g M (upTo M 0) w2 := ⟨hsrc, HZa.out.below HZa.out.lt hB2, by rw [upTo_zero]; exact HZb.out.below HZb.out.lt hB2, HBl.out.trans (hB2.mono HBl.out.size)⟩
  have hgn : g ≠ w.heap.size + 1 := by have := HZb.out.lt; omega
  have HGO := Lib.hid hgo
  have HGN := Lib.hid hgn
  clear hgo hgn hsrc hown hb2 hB2 HZa HZb HBl HB1 hg
  go_wp2
  go_loopw [19] (fun i wr => ∃ k : Nat, k ≤ 16 ∧ i = .int .i64 k ∧ Going w g M (upTo M k) wr) (fun i _ => 16 - (intOf i).toNat)
  case atStart => exact ⟨0, by omega, rfl, HGO.out⟩
  case round =>
    obtain ⟨k, hk16, rfl, hk⟩ := hrel
    by_cases hlk : k < 16
    · have hd2 : decide ((k : Int) < 16) = true := by simp; omega
      have ik : (k : Int) < 16 := by omega
      have hnext := upTo_succ M k
      have cs := hk.src k (by rw [HKM.out.1]; exact hlk)
      have eM : M[k]'(by rw [HKM.out.1]; exact hlk) = M.getD k 0 := by simp [List.getD, HKM.out.1, hlk]
      rw [eM] at cs
      generalize M.getD k 0 = y at *
      have cx := word_cell hk.s (i := k) (by rw [upTo_length]; exact hlk)
      have fx := word_free hk.s (i := k) (by rw [upTo_length]; exact hlk)
      have HP := Lib.hid (hk.set k y HGN.out)
      have HNX := Lib.hid hnext
      generalize upTo M k = X at *
      clear hk hnext eM HGO
      go_wp2
      go_roundw
      case rel => exact ⟨k + 1, by omega, by go_num, by rw [← HNX.out]; exact HP.out⟩
      case measure => simp [intOf]; omega
    · have hd2 : decide ((k : Int) < 16) = false := by simp; omega
      obtain rfl : k = 16 := by omega
      rw [upTo_end HKM.out.1] at hk
      have HS1 := Lib.hid hk.s
      have hz2 := hk.res
      have HRES := Lib.hid hk.res
      have HBEL := Lib.hid hk.below
      unfold Whole at hz2
      have HZ2 := Lib.hid hz2
      have HIM := Lib.hid (info16 HKM.out.1)
      have HIA := Lib.hid (infoA16 HKM.out.1)
      have HOM := Lib.hid (long16 HKM.out.1)
      have H1M := Lib.hid (one16 M)
      clear hk hz2 HGO
      go_wp2_with ((first
        | (with_reducible refine wpList_load_mid rfl 85 (.tmp 7) rfl (w.heap.size + 1) 0 rfl (wordsV M) _ HS1.out.range Tryz.underlying85 rfl HIM.out ?_)
        | (with_reducible refine wpList_store_row rfl 85 (.tmp 6) (.tmp 33) rfl w.heap.size (wordsV M).toArray rfl rfl 85 zeros16.toArray HZ2.out HIA.out HOM.out H1M.out ?_)))
      refine bodyPost_ret (v := .agg (wordsV M).toArray) ?_ rfl ⟨rfl, below_setRow HBEL.out (Nat.le_refl _) _⟩
      exact results_whole (ty := 85) Tryz.results77 _ _ w.heap.size 85 (wordsV M) _ (by simp [Act.put]) (HRES.out.setRow _) Tryz.underlying85 rfl HIM.out
end Go.Proofs.YtedgpglldlohfaaGreatDoor.RefCha

namespace Go.Proofs.YtedgpglldlohfaaGreatDoor.RefCha
open Go.RowKit Mur Lanes Cha
set_option maxRecDepth 100000

/-- The state and the words under way. -/
def Both (w0 : World) (b c : Nat) (t x : List Nat) (w : World) : Prop := Whole w b 85 (wordsV t) ∧ Whole w c 85 (wordsV x) ∧ Below w0.heap.size w0 w
theorem Both.below {w0 w w' : World} {b c : Nat} {t x : List Nat} (h : Both w0 b c t x w) (k : Below w.heap.size w w') : Both w0 b c t x w' :=
  ⟨h.1.below h.1.lt k, h.2.1.below h.2.1.lt k, h.2.2.trans (k.mono h.2.2.size)⟩
theorem Both.put {w0 w : World} {b c : Nat} {t x : List Nat} (h : Both w0 b c t x w) (y : List Nat) (h1 : b ≠ c) (h3 : w0.heap.size ≤ c) : Both w0 b c t y (w.setRow c (wordsV y).toArray) := by
  have o1 : (w.setRow c (wordsV y).toArray).heap[b]? = w.heap[b]? := by
    simp [World.setRow, Array.getElem?_modify, Ne.symm h1]
  exact ⟨o1.trans h.1, h.2.1.setRow _, below_setRow h.2.2 h3 _⟩
theorem Both.word {w0 w : World} {b c : Nat} {t x : List Nat} (h : Both w0 b c t x w) (i y : Nat) (h1 : b ≠ c) (h3 : w0.heap.size ≤ c) : Both w0 b c t (x.set i y) (w.setCell ⟨c, i, none⟩ (.int .u32 (y : Int))) :=
  ⟨h.1.other _ _ _ h1.symm, set_word h.2.1 i y, h.2.2.setCell (p := ⟨c, i, none⟩) h3 _⟩
theorem Both.drew {w0 w : World} {b c : Nat} {t x : List Nat} (h : Both w0 b c t x w) : Both w0 b c t x w.drew := ⟨h.1, h.2.1, h.2.2.drew⟩

set_option maxHeartbeats 800000 in
theorem block_none (key nonce : ByteArray) (n : Int) (w : World) (h : ¬ (key.size = 32 ∧ nonce.size = 12)) :
    Calls Tryz.prog 63 #[.string key, .int .u32 n, .string nonce] w fun e w' => e = .returned (.tuple #[.string ⟨#[]⟩, .int .i64 1]) ∧ Below w.heap.size w w' := by
  have hd : ((key.size : Int) != 32) = true ∨ (((key.size : Int) != 32) = false ∧ ((nonce.size : Int) != 12) = true) := by
    by_cases e : key.size = 32
    · right
      refine ⟨by simp; omega, by simp; omega⟩
    · left
      simp; omega
  clear h
  rcases hd with h1 | ⟨h1, h2⟩
  all_goals
    go_enter Tryz.func63, Tryz.ntmps63
    go_wp2
    refine bodyPost_ret (v := .tuple #[.string ⟨#[]⟩, .int .i64 1]) (by simp [results, Tryz.results63, go_sem]) rfl ⟨rfl, Below.refl _ _⟩

set_option maxHeartbeats 3200000 in
theorem block_some (key nonce T : ByteArray) (n : Nat) (w : World) (hk : key.size = 32) (hn : nonce.size = 12) (hlt : n < 4294967296) (hT : T = ⟨(blockT (stateZ key.data.toList nonce.data.toList) n).toArray⟩) :
    Calls Tryz.prog 63 #[.string key, .int .u32 n, .string nonce] w fun e w' => e = .returned (.tuple #[.string T, .int .i64 0]) ∧ Below w.heap.size w w' := by
  obtain ⟨t, ht⟩ : ∃ t, t = (stateZ key.data.toList nonce.data.toList).set 12 n := ⟨_, rfl⟩
  have hokt : Words16 t := by rw [ht]; exact (stateW_ok hk rfl hn : Words16 (stateZ key.data.toList nonce.data.toList)).set 12 n hlt
  obtain ⟨B, hB⟩ : ∃ B, B = blockW t := ⟨_, rfl⟩
  have hT2 : T = ⟨(text B false).toArray⟩ := by rw [hT, hB, ht]; rfl
  have r1 := Lib.hid (fun u => state_any key nonce n t u hk hn hlt ht)
  have h1 : ((key.size : Int) != 32) = false := by simp; omega
  have h2 : ((nonce.size : Int) != 12) = false := by simp; omega
  have HT := Lib.hid hokt
  have HB := Lib.hid hB
  have HTX := Lib.hid hT2
  have HI := Lib.hid (info16 hokt.1)
  have HO := Lib.hid (show zeros16.length = (wordsV t).length by rw [wordsV_length, hokt.1]; rfl)
  have H1 := Lib.hid (one16 t)
  clear ht hokt hB hT hT2 hk hn
  go_enter Tryz.func63, Tryz.ntmps63
  go_wp2_with fail
  refine (r1.out _).mono ?_
  rintro e w1 ⟨rfl, hb1⟩
  have HB1 := Lib.hid hb1
  clear hb1
  have HW1 := Lib.hid (Whole.made w1 85 (wordsV t))
  go_upto_region 5 with ((first
    | (with_reducible refine wpList_load_mid rfl 85 (.tmp 8) rfl w1.heap.size 0 rfl (wordsV t) _ HW1.out.range Tryz.underlying85 rfl HI.out ?_)
    | (with_reducible refine wpList_alloc_z rfl 85 rfl zeros16 zero16 ?_)
    | (with_reducible refine wpList_store_new rfl 85 _ _ rfl _ (wordsV t) zeros16 rfl rfl rfl HI.out HO.out H1.out ?_)))
  go_simp
  have h3 : Both w w1.heap.size (w1.heap.size + 1) t t ((w1.alloc (.cells (wordsV t).toArray 85)).alloc (.cells (wordsV t).toArray 85)) :=
    ⟨(Whole.made _ _ _).alloc _, Whole.made' _ _ (wordsV t).toArray _ (by simp), (HB1.out.alloc HB1.out.size _).alloc (by have := HB1.out.size; simp; omega) _⟩
  have hn1 : w.heap.size ≤ w1.heap.size := HB1.out.size
  have H3 := Lib.hid h3
  clear h3 HB1 HW1 HI HO H1 r1
  generalize (w1.alloc (.cells (wordsV t).toArray 85)).alloc (.cells (wordsV t).toArray 85) = wy at *
  generalize w1.heap.size = nS at *
  obtain ⟨nC, hnC⟩ : ∃ nC, nC = nS + 1 := ⟨_, rfl⟩
  rw [← hnC] at H3 ⊢
  have n1 : nS ≠ nC := by omega
  have n3 : w.heap.size ≤ nC := by omega
  have N1 := Lib.hid n1
  clear n1 hnC
  go_wp2
  go_loopw [24] (fun i wr => ∃ k : Nat, k ≤ 10 ∧ i = .int .i64 k ∧ Both w nS nC t (mixes t k) wr) (fun i _ => 10 - (intOf i).toNat)
  case atStart => exact ⟨0, by omega, rfl, H3.out⟩
  case round =>
    obtain ⟨k, hk10, rfl, hk⟩ := hrel
    by_cases hlt : k < 10
    · have hd2 : decide ((k : Int) < 10) = true := by simp; omega
      have hstep : mixes t (k + 1) = mixed (mixes t k) := rfl
      have hok := HT.out.mixes k
      generalize mixes t k = X at *
      obtain ⟨M, hM⟩ : ∃ M, M = mixed X := ⟨_, rfl⟩
      have hokM : Words16 M := by rw [hM]; exact hok.mixed
      rw [← hM] at hstep
      have R := Lib.hid (fun u => RefCha.mixed_any X M u hok hM)
      have HX1 := Lib.hid hk.2.1
      have HK := Lib.hid hk
      have HIX := Lib.hid (info16 hok.1)
      have HIM := Lib.hid (infoA16 hokM.1)
      have HOM := Lib.hid (show (wordsV X).toArray.size = (wordsV M).toArray.size by simp [wordsV_length, hok.1, hokM.1])
      have H1M := Lib.hid (one16 M)
      have HST := Lib.hid hstep
      clear hk hok hokM hM hstep H3
      go_wp2_with ((with_reducible refine wpList_load_mid rfl 85 (.tmp 9) rfl nC 0 rfl (wordsV X) _ HX1.out.range Tryz.underlying85 rfl HIX.out ?_))
      refine (R.out _).mono ?_
      rintro e w1 ⟨rfl, hb1⟩
      have hk2 := HK.out.below hb1
      have hx2 : w1.heap[nC]? = some (.cells (wordsV X).toArray 85 (0, 0)) := hk2.2.1
      have HK2 := Lib.hid hk2
      have HX2 := Lib.hid hx2
      clear hb1 hk2 hx2
      go_wp2_with ((with_reducible refine wpList_store_row rfl 85 (.tmp 9) (.tmp 27) rfl nC (wordsV M).toArray rfl rfl 85 (wordsV X).toArray HX2.out HIM.out HOM.out H1M.out ?_))
      go_roundw
      case rel => exact ⟨k + 1, by omega, by go_num, by rw [HST.out]; exact HK2.out.put M N1.out n3⟩
      case measure => simp [intOf]; omega
    · have hd2 : decide ((k : Int) < 10) = false := by simp; omega
      obtain rfl : k = 10 := by omega
      have hokX := HT.out.mixes 10
      have hB2 : B = sumTo (mixes t 10) t 16 := HB.out
      generalize mixes t 10 = X at *
      have HK := Lib.hid hk
      have HX := Lib.hid hokX
      have HB2 := Lib.hid hB2
      clear hk hokX hB2 HB H3
      go_wp2
      obtain ⟨wo, rfl⟩ : ∃ wo : World, wo = wr := ⟨_, rfl⟩
      go_loopw [29] (fun i wr => ∃ k : Nat, k ≤ 16 ∧ i = .int .i64 k ∧ Both w nS nC t (sumTo X t k) wr) (fun i _ => 16 - (intOf i).toNat)
      case atStart => exact ⟨0, by omega, rfl, by rw [sumTo_zero HX.out.1]; exact HK.out⟩
      case round =>
        obtain ⟨k, hk16, rfl, hk⟩ := hrel
        by_cases hlt : k < 16
        · have hd2 : decide ((k : Int) < 16) = true := by simp; omega
          have hnext := sumTo_succ X t k
          have hat := sumTo_at X t k hlt
          have hlen := sumTo_length X t k
          have hlx := HX.out.at k
          have hlt' := HT.out.at k
          generalize sumTo X t k = Y at *
          have cx := word_cell hk.2.1 (i := k) (by omega)
          have fx := word_free hk.2.1 (i := k) (by omega)
          have ct := word_cell hk.1 (i := k) (by rw [HT.out.1]; omega)
          rw [hat] at cx
          generalize X.getD k 0 = x at *
          generalize t.getD k 0 = y at *
          have HP := Lib.hid (hk.word k ((x + y) % 4294967296) N1.out n3).drew
          have hq : ((x : Int) + (y : Int)) % 4294967296 = (((x + y) % 4294967296 : Nat) : Int) := by omega
          have HQ := Lib.hid hq
          have HNX := Lib.hid hnext
          clear hk hat hnext hq hlen
          go_wp2
          go_region
          all_goals go_wp2
          all_goals go_roundw
          case rel => exact ⟨k + 1, by omega, by go_num, by rw [← HNX.out, HQ.out]; exact HP.out⟩
          case measure => simp [intOf]; omega
        · have hd2 : decide ((k : Int) < 16) = false := by simp; omega
          obtain rfl : k = 16 := by omega
          rw [← HB2.out] at hk
          have hokB : Words16 B := by rw [HB2.out]; exact sumTo_ok HX.out 16
          have r3 := Lib.hid (show ∀ (u : World) (b : Nat), Whole u b 85 (wordsV B) → Calls Tryz.prog 79 #[.slice (some ⟨b, 0, none⟩) 16 16, .bool false] u fun e w' => e = .returned (.string T) ∧ Below u.heap.size u w' from fun u b hb => by
            have := RefTwo.text_some B b 0 16 false u (by rw [hokB.1]; omega) hokB.2 hb.lt (words_cells hb)
            rw [hokB.1, ← HTX.out] at this
            exact this)
          have HBW := Lib.hid hk.2.1
          have HBL := Lib.hid hk.2.2
          clear hk hokB HK HX
          go_wp2_with fail
          refine (r3.out _ _ HBW.out).mono ?_
          rintro e w5 ⟨rfl, hb5⟩
          go_wp2
          refine bodyPost_ret (v := .tuple #[.string T, .int .i64 0]) (by simp [results, Tryz.results63, go_sem]) rfl ⟨rfl, HBL.out.trans (hb5.mono HBL.out.size)⟩
end Go.Proofs.YtedgpglldlohfaaGreatDoor.RefCha

namespace Go.Proofs.YtedgpglldlohfaaGreatDoor.RefCha
open Go.RowKit Mur Lanes Cha
set_option maxRecDepth 100000

theorem bad_either (key nonce : ByteArray) (h : ¬ (key.size = 32 ∧ nonce.size = 12)) : ((key.size : Int) != 32) = true ∨ (((key.size : Int) != 32) = false ∧ ((nonce.size : Int) != 12) = true) := by
  by_cases e : key.size = 32
  · right
    refine ⟨by simp; omega, by simp; omega⟩
  · left
    simp; omega
set_option maxHeartbeats 800000 in
theorem stream_none (key nonce : ByteArray) (n : Int) (w : World) (h : ¬ ((key.size = 32 ∧ nonce.size = 12) ∧ 0 ≤ n ∧ n ≤ 6000)) :
    Calls Tryz.prog 44 #[.string key, .string nonce, .int .i64 n] w fun e w' => e = .returned (.tuple #[.string ⟨#[]⟩, .int .i64 1]) ∧ Below w.heap.size w w' := by
  have hd : ((key.size : Int) != 32) = true ∨ (((key.size : Int) != 32) = false ∧ ((nonce.size : Int) != 12) = true) ∨ (((key.size : Int) != 32) = false ∧ ((nonce.size : Int) != 12) = false ∧ decide (n < 0) = true) ∨ (((key.size : Int) != 32) = false ∧ ((nonce.size : Int) != 12) = false ∧ decide (n < 0) = false ∧ decide (6000 < n) = true) := by
    by_cases h1 : key.size = 32 ∧ nonce.size = 12
    · have k1 : ((key.size : Int) != 32) = false := by simp; omega
      have k2 : ((nonce.size : Int) != 12) = false := by simp; omega
      by_cases h2 : n < 0
      · exact .inr (.inr (.inl ⟨k1, k2, by simpa using h2⟩))
      · exact .inr (.inr (.inr ⟨k1, k2, by simpa using h2, by simp; omega⟩))
    · rcases bad_either key nonce h1 with h | h
      · exact .inl h
      · exact .inr (.inl h)
  clear h
  rcases hd with h1 | ⟨h1, h2⟩ | ⟨h1, h2, h3⟩ | ⟨h1, h2, h3, h4⟩
  all_goals
    go_enter Tryz.func44, Tryz.ntmps44
    go_wp2
    refine bodyPost_ret (v := .tuple #[.string ⟨#[]⟩, .int .i64 1]) (by simp [results, Tryz.results44, go_sem]) rfl ⟨rfl, Below.refl _ _⟩

/-- The bytes of the blocks below i. -/
def bytesTo (s : List Nat) (i : Nat) : List UInt8 := text (streamW s i) false
theorem bytesTo_length (s : List Nat) (i : Nat) : (bytesTo s i).length = 64 * i := by
  unfold bytesTo
  rw [text_length, streamW_length]
  omega
theorem bytesTo_succ (s : List Nat) (i : Nat) : bytesTo s (i + 1) = bytesTo s i ++ blockT s i := text_append _ _ false

set_option maxHeartbeats 1600000 in
theorem stream_some (key nonce T : ByteArray) (n : Nat) (w : World) (hk : key.size = 32) (hn : nonce.size = 12) (hlt : n ≤ 6000) (hT : T = streamB key nonce n) :
    Calls Tryz.prog 44 #[.string key, .string nonce, .int .i64 n] w fun e w' => e = .returned (.tuple #[.string T, .int .i64 0]) ∧ Below w.heap.size w w' := by
  obtain ⟨S, hS⟩ : ∃ S, S = stateZ key.data.toList nonce.data.toList := ⟨_, rfl⟩
  have hokS : Words16 S := by rw [hS]; exact stateW_ok hk rfl hn
  have hT2 : T = ⟨((bytesTo S (blocks n)).take n).toArray⟩ := by rw [hT, hS]; rfl
  have r1 := Lib.hid (fun (u : World) (k : Nat) (hk94 : k < 94) => RefCha.block_some key nonce ⟨(blockT S k).toArray⟩ k u hk hn (by omega) (by rw [hS]))
  have h1 : ((key.size : Int) != 32) = false := by simp; omega
  have h2 : ((nonce.size : Int) != 12) = false := by simp; omega
  have h3 : decide ((n : Int) < 0) = false := by simp
  have h4 : decide (6000 < (n : Int)) = false := by simp; omega
  have HT := Lib.hid hT2
  have HK := Lib.hid hokS
  clear hS hokS hT hT2 hk hn
  go_enter Tryz.func44, Tryz.ntmps44
  go_wp2
  clear h1 h2 h3 h4
  go_loopw [8, 9] (fun v i wr => ∃ (k : Nat) (X : ByteArray), k ≤ blocks n ∧ X.data.toList = bytesTo S k ∧ v = .string X ∧ i = .int .u32 k ∧ Below w.heap.size w wr) (fun _ i _ => blocks n - (intOf i).toNat)
  case atStart => exact ⟨0, ⟨#[]⟩, by omega, rfl, rfl, rfl, Below.refl _ _⟩
  case round =>
    obtain ⟨k, X, hkb, hX, rfl, rfl, hbel⟩ := hrel
    have hXs : X.size = 64 * k := by
      have : X.data.toList.length = 64 * k := by rw [hX, bytesTo_length]
      exact this
    have hb94 : blocks n ≤ 94 := by unfold blocks; omega
    by_cases hlk : k < blocks n
    · have hd : decide (X.size < n) = true := by
        unfold blocks at hlk
        simp
        omega
      obtain ⟨B, hB⟩ : ∃ B : ByteArray, B = ⟨(blockT S k).toArray⟩ := ⟨_, rfl⟩
      have hBs : B.size = 64 := by rw [hB]; exact blockT_length HK.out k (by omega)
      have hXB : (X ++ B).data.toList = bytesTo S (k + 1) := by
        rw [bytesTo_succ, ByteArray.data_append, Array.toList_append, hX, hB]
      have r := r1.out
      have R := Lib.hid (show ∀ u, Calls Tryz.prog 63 #[.string key, .int .u32 k, .string nonce] u fun e w' => e = .returned (.tuple #[.string B, .int .i64 0]) ∧ Below u.heap.size u w' from fun u => by rw [hB]; exact r u k (by omega))
      have n1 : ¬ 9223372036854775807 < X.size + B.size := by omega
      have k1 : k < 94 := by omega
      have HXB := Lib.hid hXB
      have HBEL := Lib.hid hbel
      clear hX hXs hB hBs hXB r hbel
      go_wp2_with fail
      refine (R.out _).mono ?_
      rintro e w1 ⟨rfl, hb1⟩
      have HB1 := Lib.hid (HBEL.out.trans (hb1.mono HBEL.out.size))
      clear hb1
      go_wp2
      go_roundw
      case rel => exact ⟨k + 1, X ++ B, by omega, HXB.out, rfl, by go_num, HB1.out⟩
      case measure => simp [intOf]; omega
    · obtain rfl : k = blocks n := by omega
      have hnX : n ≤ X.size := by rw [hXs]; unfold blocks; omega
      have hd : decide (X.size < n) = false := by simp; omega
      have hi1 : (n : Int) ≤ (X.size : Int) := by omega
      have hi0 : (0 : Int) ≤ (n : Int) := by omega
      have hTX : T = X.extract 0 n := by
        rw [HT.out]
        apply ByteArray.ext
        apply Array.toList_inj.1
        rw [extract_take, hX]
      have HTX := Lib.hid hTX
      have HBEL := Lib.hid hbel
      clear hX hXs hnX hTX hbel HT
      go_wp2
      rw [HTX.out]
      refine bodyPost_ret (v := .tuple #[.string (X.extract 0 n), .int .i64 0]) (by simp [results, Tryz.results44, go_sem]) rfl ⟨rfl, HBEL.out⟩

set_option maxHeartbeats 800000 in
theorem hide_err (key nonce s : ByteArray) (w : World) (h : ¬ Cha.Good key nonce s.size) :
    Calls Tryz.prog 37 #[.string key, .string nonce, .string s] w fun e w' => e = .returned (.tuple #[.string ⟨#[]⟩, .int .i64 1]) ∧ Below w.heap.size w w' := by
  have r1 := Lib.hid (fun u => RefCha.stream_none key nonce (s.size : Int) u (fun ⟨h1, h2, h3⟩ => h ⟨h1, by omega⟩))
  clear h
  go_enter Tryz.func37, Tryz.ntmps37
  go_wp2_with fail
  refine (r1.out _).mono ?_
  rintro e w1 ⟨rfl, hb1⟩
  go_wp2
  refine bodyPost_ret (v := .tuple #[.string ⟨#[]⟩, .int .i64 1]) (by simp [results, Tryz.results37, go_sem]) rfl ⟨rfl, hb1⟩
theorem hidB_zero (key nonce s : ByteArray) : hidB key nonce s 0 = LanesXor.xorS s (streamB key nonce s.size) := by
  unfold hidB
  have e : (streamB key nonce (0 + s.size)).extract 0 (0 + s.size) = streamB key nonce s.size := by
    rw [Nat.zero_add]
    exact streamB_take key nonce s.size s.size (Nat.le_refl _)
  rw [e]
set_option maxHeartbeats 800000 in
theorem hide_ok (key nonce s T : ByteArray) (w : World) (h : Cha.Good key nonce s.size) (hT : T = hidB key nonce s 0) :
    Calls Tryz.prog 37 #[.string key, .string nonce, .string s] w fun e w' => e = .returned (.tuple #[.string T, .int .i64 0]) ∧ Below w.heap.size w w' := by
  obtain ⟨X, hX⟩ : ∃ X, X = streamB key nonce s.size := ⟨_, rfl⟩
  have hXs : X.size = s.size := by rw [hX, streamB_size]
  have hs : s.size ≤ 6000 := h.2
  have hT2 : LanesXor.xorS s X = T := by rw [hT, hidB_zero, hX]
  have r1 := Lib.hid (fun u => RefCha.stream_some key nonce X s.size u h.1.1 h.1.2 h.2 hX)
  have r2 := Lib.hid (fun u => RefXor.refxor_any s X u (by omega) (by omega))
  rw [hT2] at r2
  clear hX hXs hT hT2 h
  go_enter Tryz.func37, Tryz.ntmps37
  go_wp2_with fail
  refine (r1.out _).mono ?_
  rintro e w1 ⟨rfl, hb1⟩
  have HB1 := Lib.hid hb1
  clear hb1
  go_wp2_with fail
  refine (r2.out _).mono ?_
  rintro e w2 ⟨rfl, hb2⟩
  go_wp2
  refine bodyPost_ret (v := .tuple #[.string T, .int .i64 0]) (by simp [results, Tryz.results37, go_sem]) rfl ⟨rfl, HB1.out.trans (hb2.mono HB1.out.size)⟩
end Go.Proofs.YtedgpglldlohfaaGreatDoor.RefCha
