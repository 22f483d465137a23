/-
  What bytes say (ReadCast, ReadList, ReadShare, ReadCert, ReadOut) of package letter is what the plain mathematics of the text Let says; all memory that was there is left as it was; lists that are answered lie in memory that was made. Conditions: the text has no more than 10^9 bytes.
-/
import Derived.Test.YtlinpbmglcjkkaaDoorRdp
namespace Go.Proofs.YtlinpbmglcjkkaaDoor.LetA
open Go.RowKit Mur Prt Lanes Cod Let Rdr
open RLet (okB okL okN)
set_option maxRecDepth 100000
set_option linter.unusedSimpArgs false

set_option maxHeartbeats 3200000 in
theorem readCast_any (s : ByteArray) (V0 : ByteArray) (E : Int) (w : World) (h0 : V0 = okB (fun x => x) (readCast s.data.toList)) (hE : E = errV (readCast s.data.toList)) (hs : s.size ≤ 1000000000) :
    Calls Tryd.prog 15 #[.string s] w fun e w' => e = .returned (.tuple #[.agg #[.string V0], .int .i64 E]) ∧ Below w.heap.size w w' := by
  obtain ⟨X0, hX0⟩ : ∃ X, X = strV (readStr s.data.toList 0) := ⟨_, rfl⟩
  obtain ⟨P0, hP0⟩ : ∃ P, P = posV (readStr s.data.toList 0) := ⟨_, rfl⟩
  obtain ⟨E0, hE0⟩ : ∃ E, E = errV (readStr s.data.toList 0) := ⟨_, rfl⟩
  have p0 := pos_range (readStr s.data.toList 0) s.size (fun x q h => (strC.rl s.data.toList 0 q x (by rw [Int.natCast_zero]; exact h)).2.2)
  rw [← hP0] at p0
  have N0 := Lib.hid (fun (w0 w : World) (m : List Hold.Blk) (b : Nat) (h : Hold.Hld w0 m w) (hi : m[1]? = some ⟨b, 68, [.string s, .int .i64 0, .int .i64 0]⟩) => nextStr_any s 0 X0 P0 E0 (fun u => Prt.readStr_any s 0 u X0 P0 E0 hX0 hP0 hE0 (by omega) (by omega) hs) w0 w m 1 b h hi)
  obtain ⟨F, hF⟩ : ∃ F, F = if E0 = 0 then (if P0 < (s.size : Int) then 3 else 0) else E0 := ⟨_, rfl⟩
  replace hX0 := Lib.hid hX0
  replace hP0 := Lib.hid hP0
  replace hE0 := Lib.hid hE0
  have HFF := Lib.hid hF
  have HE := Lib.hid hE
  have HV0 := Lib.hid h0
  have HP := Lib.hid p0
  have HM := Lib.hid (Hold.Hld.start w)
  clear hF hE hs h0 p0
  go_enter Tryd.func15, Tryd.ntmps15
  go_wp2_with ((first
    | (with_reducible refine Hold.alloc HM.out rfl rfl zCast zero_zCast ?_; clear HM; intro b0 w HM; simp only [List.nil_append] at HM; replace HM := Lib.hid HM)
    | (with_reducible refine Hold.build (t := 68) (cs := [.string s, .int .i64 0, .int .i64 0]) rfl rfl (by kernel_rfl) ?_)
    | (with_reducible refine Hold.box HM.out rfl rfl rfl ?_; clear HM; intro b1 w HM; simp only [List.nil_append, List.cons_append] at HM; replace HM := Lib.hid HM)
    | (with_reducible (refine (N0.out _ _ _ _ HM.out rfl).mono ?_; rintro e w ⟨rfl, hk, hm⟩; clear HM; simp only [List.set_cons_zero, List.set_cons_succ] at hm; replace HM := Lib.hid hm; clear hm; clear hk))
    | (obtain ⟨Z, hZ⟩ : ∃ Z, Z = (if E0 = 0 ∧ ¬ P0 < (s.size : Int) then [.string X0] else zCast) := ⟨_, rfl⟩; have q1 := HM.out.at 1 (x := ⟨b1, 68, [.string s, .int .i64 P0, .int .i64 E0]⟩) rfl; have q2 : w.cell? ⟨b1, 0, none⟩ = some (.string s) := q1.row.cell rfl; have q3 : w.cell? ⟨b1, 1, none⟩ = some (.int .i64 P0) := q1.row.cell rfl; have q4 : w.cell? ⟨b1, 2, none⟩ = some (.int .i64 E0) := q1.row.cell rfl; have HW := Lib.hid (wholeCast_any s P0 E0 F [.string X0] Z b1 w q1.lt q2 q3 q4 rfl (by simp [Hold.Single, Value.oneCell']) hZ HFF.out); clear q1 q2 q3 q4; (with_reducible refine HW.out.mono ?_); clear HW; rintro e w ⟨rfl, hb⟩; replace HM := Lib.hid (HM.out.next hb); clear hb; have HZL := Lib.hid (show Z.length = 1 from by rw [hZ]; split <;> rfl); have HZ1 := Lib.hid (show Hold.Single Z from by rw [hZ]; split; (simp [Hold.Single, Value.oneCell']); exact zCast_one); have HZ := Lib.hid hZ; clear hZ)
    | (with_reducible refine Hold.store HM.out 0 (v' := Z) rfl rfl rfl rfl rfl (by rw [HZL.out, zCast_len]; exact Nat.le_refl _) (Hold.lay_all (by rw [HZL.out, zCast_len])) HZ1.out (by rw [HZL.out]; exact row_zCast) ?_; clear HM; intro w HM; simp only [List.set_cons_zero] at HM; replace HM := Lib.hid HM)))
  refine bodyPost_ret (Hold.resultsCT HM.out 0 rfl _ rfl rfl rfl (by rw [HZL.out]; exact row_zCast)) rfl ?_
  have hpe : P0 = posV (readStr s.data.toList 0) ∧ E0 = errV (readStr s.data.toList 0) := ⟨hP0.out, hE0.out⟩
  have hrr : readCast s.data.toList = ends s.data.toList (readStr s.data.toList 0) := rfl
  by_cases hok : E0 = 0 ∧ ¬ P0 < (s.size : Int)
  · obtain ⟨x, hx, hend⟩ := ends_yes s.data.toList (readStr s.data.toList 0) P0 E0 hpe.1 hpe.2 (readStr_errs s.data.toList 0) (fun x q h => (strC.rl s.data.toList 0 q x (by rw [Int.natCast_zero]; exact h)).2.2) hok.1 hok.2
    have k0 := hx
    have g0 : X0 = tx (x) := by rw [hX0.out, k0]; rfl
    obtain rfl : V0 = X0 := by rw [HV0.out, hrr, hend, g0]; rfl
    obtain rfl : E = F := by rw [HE.out, hrr, hend, ends_f s.data.toList P0 E0 F hok.1 hok.2 HFF.out]; rfl
    obtain rfl : Z = [.string V0] := by rw [HZ.out, if_pos (by omega)]
    exact ⟨rfl, HM.out.below⟩
  · obtain ⟨y, hend, rfl⟩ := ends_no s.data.toList (readStr s.data.toList 0) P0 E0 F hpe.1 hpe.2 (readStr_errs s.data.toList 0) hok HFF.out
    obtain rfl : V0 = ⟨#[]⟩ := by rw [HV0.out, hrr, hend]; rfl
    obtain rfl : E = (y : Int) := by rw [HE.out, hrr, hend]; rfl
    obtain rfl : Z = zCast := by rw [HZ.out, if_neg (by omega)]
    exact ⟨rfl, HM.out.below⟩

set_option maxHeartbeats 3200000 in
theorem readList_any (s : ByteArray) (V0 : List Nat) (V1 : Int) (E : Int) (w : World) (h0 : V0 = okL (fun x => x.1) (readList s.data.toList)) (h1 : V1 = okN (fun x => x.2) (readList s.data.toList)) (hE : E = errV (readList s.data.toList)) (hs : s.size ≤ 1000000000) :
    Calls Tryd.prog 12 #[.string s] w fun e w' => ∃ ao c, e = .returned (.tuple #[.agg #[.slice ao V0.length c, .int .i64 V1], .int .i64 E]) ∧ IntsR w' ao (zl V0) ∧ (∀ q, ao = some q → w.heap.size ≤ q.block) ∧ Below w.heap.size w w' := by
  obtain ⟨X0, hX0⟩ : ∃ X, X = listV ((readAll readNum) s.data.toList 0) := ⟨_, rfl⟩
  obtain ⟨P0, hP0⟩ : ∃ P, P = posV ((readAll readNum) s.data.toList 0) := ⟨_, rfl⟩
  obtain ⟨E0, hE0⟩ : ∃ E, E = errV ((readAll readNum) s.data.toList 0) := ⟨_, rfl⟩
  have p0 := pos_range ((readAll readNum) s.data.toList 0) s.size (fun x q h => ((listC natC).rl s.data.toList 0 q x (by rw [Int.natCast_zero]; exact h)).2.2)
  rw [← hP0] at p0
  obtain ⟨X1, hX1⟩ : ∃ X, X = if E0 = 0 then numV (readNum s.data.toList P0) else 0 := ⟨_, rfl⟩
  obtain ⟨P1, hP1⟩ : ∃ P, P = if E0 = 0 then posV (readNum s.data.toList P0) else P0 := ⟨_, rfl⟩
  obtain ⟨E1, hE1⟩ : ∃ E, E = if E0 = 0 then errV (readNum s.data.toList P0) else E0 := ⟨_, rfl⟩
  have p1 : 0 ≤ P1 ∧ P1 ≤ (s.size : Int) := by
    rw [hP1]
    split
    · exact pos_range _ s.size (fun x q h => (natC.rl s.data.toList P0.toNat q x (by rw [Int.toNat_of_nonneg p0.1]; exact h)).2.2)
    · exact p0
  obtain ⟨M, hM⟩ : ∃ M, M = X0.length := ⟨_, rfl⟩
  have N0 := Lib.hid (fun (w0 w : World) (m : List Hold.Blk) (b : Nat) (h : Hold.Hld w0 m w) (hi : m[1]? = some ⟨b, 68, [.string s, .int .i64 0, .int .i64 0]⟩) => nextNums_any s 0 X0 M P0 E0 (fun u => by rw [hM]; exact Prt.readnums_any s 0 u X0 P0 E0 hX0 hP0 hE0 (by omega) (by omega) hs) w0 w m 1 b h hi)
  have N1 := Lib.hid (fun (w0 w : World) (m : List Hold.Blk) (b : Nat) (h : Hold.Hld w0 m w) (hi : m[1]? = some ⟨b, 68, [.string s, .int .i64 P0, .int .i64 E0]⟩) => nextNum_both s P0 E0 X1 P1 E1 (fun h0 u => Prt.readNum_any s P0 u X1 P1 E1 (by rw [hX1, if_pos h0]) (by rw [hP1, if_pos h0]) (by rw [hE1, if_pos h0]) (by omega) (by omega) hs) (fun h0 => ⟨by rw [hX1, if_neg h0], by rw [hP1, if_neg h0], by rw [hE1, if_neg h0]⟩) w0 w m 1 b h hi)
  obtain ⟨F, hF⟩ : ∃ F, F = if E1 = 0 then (if P1 < (s.size : Int) then 3 else 0) else E1 := ⟨_, rfl⟩
  replace hX0 := Lib.hid hX0
  replace hP0 := Lib.hid hP0
  replace hE0 := Lib.hid hE0
  replace hX1 := Lib.hid hX1
  replace hP1 := Lib.hid hP1
  replace hE1 := Lib.hid hE1
  replace hM := Lib.hid hM
  have HFF := Lib.hid hF
  have HE := Lib.hid hE
  have HV0 := Lib.hid h0
  have HV1 := Lib.hid h1
  have HP := Lib.hid p1
  have HM := Lib.hid (Hold.Hld.start w)
  clear hF hE hs h0 h1 p0 p1
  go_enter Tryd.func12, Tryd.ntmps12
  go_wp2_with ((first
    | (with_reducible refine Hold.alloc HM.out rfl rfl zListing zero_zListing ?_; clear HM; intro b0 w HM; simp only [List.nil_append] at HM; replace HM := Lib.hid HM)
    | (with_reducible refine Hold.build (t := 68) (cs := [.string s, .int .i64 0, .int .i64 0]) rfl rfl (by kernel_rfl) ?_)
    | (with_reducible refine Hold.box HM.out rfl rfl rfl ?_; clear HM; intro b1 w HM; simp only [List.nil_append, List.cons_append] at HM; replace HM := Lib.hid HM)
    | (with_reducible (refine (N0.out _ _ _ _ HM.out rfl).mono ?_; rintro e w ⟨ao, c, rfl, hi, hf, hm⟩; have HF0 := Lib.hid (fun (q : Addr) (hq : ao = some q) => Nat.lt_of_lt_of_le (HM.out.at 0 rfl).lt (hf q hq)); have HF1 := Lib.hid (fun (q : Addr) (hq : ao = some q) => Nat.lt_of_lt_of_le (HM.out.at 1 rfl).lt (hf q hq)); have HL := Lib.hid (HM.out.old _ (List.mem_of_getElem? (i := 0) rfl)); clear HM hf; simp only [List.set_cons_zero, List.set_cons_succ] at hm; replace HM := Lib.hid hm; clear hm; have HI := Lib.hid hi; clear hi))
    | (with_reducible (refine (N1.out _ _ _ _ HM.out rfl).mono ?_; rintro e w ⟨rfl, hk, hm⟩; clear HM; simp only [List.set_cons_zero, List.set_cons_succ] at hm; replace HM := Lib.hid hm; clear hm; replace HI := Lib.hid (hk _ _ HI.out (fun q hq => Nat.ne_of_gt (HF1.out q hq))); clear hk))
    | (obtain ⟨Z, hZ⟩ : ∃ Z, Z = (if E1 = 0 ∧ ¬ P1 < (s.size : Int) then [.slice ao M c, .int .i64 X1] else zListing) := ⟨_, rfl⟩; have q1 := HM.out.at 1 (x := ⟨b1, 68, [.string s, .int .i64 P1, .int .i64 E1]⟩) rfl; have q2 : w.cell? ⟨b1, 0, none⟩ = some (.string s) := q1.row.cell rfl; have q3 : w.cell? ⟨b1, 1, none⟩ = some (.int .i64 P1) := q1.row.cell rfl; have q4 : w.cell? ⟨b1, 2, none⟩ = some (.int .i64 E1) := q1.row.cell rfl; have HW := Lib.hid (wholeListing_any s P1 E1 F [.slice ao M c, .int .i64 X1] Z b1 w q1.lt q2 q3 q4 rfl (by simp [Hold.Single, Value.oneCell']) hZ HFF.out); clear q1 q2 q3 q4; (with_reducible refine HW.out.mono ?_); clear HW; rintro e w ⟨rfl, hb⟩; replace HM := Lib.hid (HM.out.next hb); replace HI := Lib.hid (HI.out.below hb); clear hb; have HZL := Lib.hid (show Z.length = 2 from by rw [hZ]; split <;> rfl); have HZ1 := Lib.hid (show Hold.Single Z from by rw [hZ]; split; (simp [Hold.Single, Value.oneCell']); exact zListing_one); have HZ := Lib.hid hZ; clear hZ)
    | (with_reducible refine Hold.store_k HM.out 0 (v' := Z) rfl rfl rfl rfl rfl (by rw [HZL.out, zListing_len]; exact Nat.le_refl _) (Hold.lay_all (by rw [HZL.out, zListing_len])) HZ1.out (by rw [HZL.out]; exact row_zListing) ?_; clear HM; intro wn hw HM; simp only [List.set_cons_zero] at HM; replace HM := Lib.hid HM; have HI2 := Lib.hid (show IntsR wn ao (zl X0) from by rw [hw]; exact Hold.ints_sets HI.out _ b0 0 (fun q hq => Nat.ne_of_gt (HF0.out q hq))); clear hw HI)))
  refine bodyPost_ret (Hold.resultsCT HM.out 0 rfl _ rfl rfl rfl (by rw [HZL.out]; exact row_zListing)) rfl ?_
  have hpe : P1 = posV (readP (readAll readNum) readNum s.data.toList 0) ∧ E1 = errV (readP (readAll readNum) readNum s.data.toList 0) := two_pos s.data.toList 0 P0 E0 P1 E1 hP0.out hE0.out ((readAll_errs _ readNum_errs) s.data.toList 0) hP1.out hE1.out
  have hrr : readList s.data.toList = ends s.data.toList (readP (readAll readNum) readNum s.data.toList 0) := rfl
  by_cases hok : E1 = 0 ∧ ¬ P1 < (s.size : Int)
  · obtain ⟨x, hx, hend⟩ := ends_yes s.data.toList (readP (readAll readNum) readNum s.data.toList 0) P1 E1 hpe.1 hpe.2 (readP_errs _ _ (readAll_errs _ readNum_errs) readNum_errs s.data.toList 0) (fun x q h => ((pairC (listC natC) natC).rl s.data.toList 0 q x (by rw [Int.natCast_zero]; exact h)).2.2) hok.1 hok.2
    obtain ⟨q0, k0, k1⟩ := readP_parts _ _ _ _ hx
    have g0 : X0 = x.1 := by rw [hX0.out, k0]; rfl
    have e0 : E0 = 0 := by rw [hE0.out, k0]; rfl
    have o0 : P0 = (q0 : Int) := by rw [hP0.out, k0]; rfl
    have g1 : X1 = ((x.2 : Nat) : Int) := by rw [hX1.out, if_pos e0, o0, k1]; rfl
    obtain rfl : V0 = X0 := by rw [HV0.out, hrr, hend, g0]; rfl
    obtain rfl : V1 = X1 := by rw [HV1.out, hrr, hend, g1]; rfl
    obtain rfl : E = F := by rw [HE.out, hrr, hend, ends_f s.data.toList P1 E1 F hok.1 hok.2 HFF.out]; rfl
    obtain rfl : Z = [.slice ao M c, .int .i64 V1] := by rw [HZ.out, if_pos (by omega)]
    exact ⟨ao, c, by rw [hM.out]; rfl, HI2.out, (fun q hq => Nat.le_trans HL.out (Nat.le_of_lt (HF0.out q hq))), HM.out.below⟩
  · obtain ⟨y, hend, rfl⟩ := ends_no s.data.toList (readP (readAll readNum) readNum s.data.toList 0) P1 E1 F hpe.1 hpe.2 (readP_errs _ _ (readAll_errs _ readNum_errs) readNum_errs s.data.toList 0) hok HFF.out
    obtain rfl : V0 = [] := by rw [HV0.out, hrr, hend]; rfl
    obtain rfl : V1 = 0 := by rw [HV1.out, hrr, hend]; rfl
    obtain rfl : E = (y : Int) := by rw [HE.out, hrr, hend]; rfl
    obtain rfl : Z = zListing := by rw [HZ.out, if_neg (by omega)]
    exact ⟨none, 0, rfl, fun h => absurd rfl h, (fun q hq => by cases hq), HM.out.below⟩

set_option maxHeartbeats 3200000 in
theorem readShare_any (s : ByteArray) (V0 : ByteArray) (V1 : List (List UInt8)) (E : Int) (w : World) (h0 : V0 = okB (fun x => x.1) (readShare s.data.toList)) (h1 : V1 = okL (fun x => x.2) (readShare s.data.toList)) (hE : E = errV (readShare s.data.toList)) (hs : s.size ≤ 1000000000) :
    Calls Tryd.prog 17 #[.string s] w fun e w' => ∃ ao c, e = .returned (.tuple #[.agg #[.string V0, .slice ao V1.length c], .int .i64 E]) ∧ StrsR w' ao (tl V1) ∧ (∀ q, ao = some q → w.heap.size ≤ q.block) ∧ Below w.heap.size w w' := by
  obtain ⟨X0, hX0⟩ : ∃ X, X = strV (readStr s.data.toList 0) := ⟨_, rfl⟩
  obtain ⟨P0, hP0⟩ : ∃ P, P = posV (readStr s.data.toList 0) := ⟨_, rfl⟩
  obtain ⟨E0, hE0⟩ : ∃ E, E = errV (readStr s.data.toList 0) := ⟨_, rfl⟩
  have p0 := pos_range (readStr s.data.toList 0) s.size (fun x q h => (strC.rl s.data.toList 0 q x (by rw [Int.natCast_zero]; exact h)).2.2)
  rw [← hP0] at p0
  obtain ⟨X1, hX1⟩ : ∃ X, X = if E0 = 0 then listV ((readAll readStr) s.data.toList P0) else [] := ⟨_, rfl⟩
  obtain ⟨P1, hP1⟩ : ∃ P, P = if E0 = 0 then posV ((readAll readStr) s.data.toList P0) else P0 := ⟨_, rfl⟩
  obtain ⟨E1, hE1⟩ : ∃ E, E = if E0 = 0 then errV ((readAll readStr) s.data.toList P0) else E0 := ⟨_, rfl⟩
  have p1 : 0 ≤ P1 ∧ P1 ≤ (s.size : Int) := by
    rw [hP1]
    split
    · exact pos_range _ s.size (fun x q h => ((listC strC).rl s.data.toList P0.toNat q x (by rw [Int.toNat_of_nonneg p0.1]; exact h)).2.2)
    · exact p0
  obtain ⟨M, hM⟩ : ∃ M, M = X1.length := ⟨_, rfl⟩
  have N0 := Lib.hid (fun (w0 w : World) (m : List Hold.Blk) (b : Nat) (h : Hold.Hld w0 m w) (hi : m[1]? = some ⟨b, 68, [.string s, .int .i64 0, .int .i64 0]⟩) => nextStr_any s 0 X0 P0 E0 (fun u => Prt.readStr_any s 0 u X0 P0 E0 hX0 hP0 hE0 (by omega) (by omega) hs) w0 w m 1 b h hi)
  have N1 := Lib.hid (fun (w0 w : World) (m : List Hold.Blk) (b : Nat) (h : Hold.Hld w0 m w) (hi : m[1]? = some ⟨b, 68, [.string s, .int .i64 P0, .int .i64 E0]⟩) => nextStrs_both s P0 E0 X1 M P1 E1 (fun h0 u => by rw [hM]; exact Prt.readstrs_any s P0 u X1 P1 E1 (by rw [hX1, if_pos h0]) (by rw [hP1, if_pos h0]) (by rw [hE1, if_pos h0]) (by omega) (by omega) hs) (fun h0 => ⟨by rw [hX1, if_neg h0], by rw [hM, hX1, if_neg h0]; rfl, by rw [hP1, if_neg h0], by rw [hE1, if_neg h0]⟩) w0 w m 1 b h hi)
  obtain ⟨F, hF⟩ : ∃ F, F = if E1 = 0 then (if P1 < (s.size : Int) then 3 else 0) else E1 := ⟨_, rfl⟩
  replace hX0 := Lib.hid hX0
  replace hP0 := Lib.hid hP0
  replace hE0 := Lib.hid hE0
  replace hX1 := Lib.hid hX1
  replace hP1 := Lib.hid hP1
  replace hE1 := Lib.hid hE1
  replace hM := Lib.hid hM
  have HFF := Lib.hid hF
  have HE := Lib.hid hE
  have HV0 := Lib.hid h0
  have HV1 := Lib.hid h1
  have HP := Lib.hid p1
  have HM := Lib.hid (Hold.Hld.start w)
  clear hF hE hs h0 h1 p0 p1
  go_enter Tryd.func17, Tryd.ntmps17
  go_wp2_with ((first
    | (with_reducible refine Hold.alloc HM.out rfl rfl zShare zero_zShare ?_; clear HM; intro b0 w HM; simp only [List.nil_append] at HM; replace HM := Lib.hid HM)
    | (with_reducible refine Hold.build (t := 68) (cs := [.string s, .int .i64 0, .int .i64 0]) rfl rfl (by kernel_rfl) ?_)
    | (with_reducible refine Hold.box HM.out rfl rfl rfl ?_; clear HM; intro b1 w HM; simp only [List.nil_append, List.cons_append] at HM; replace HM := Lib.hid HM)
    | (with_reducible (refine (N0.out _ _ _ _ HM.out rfl).mono ?_; rintro e w ⟨rfl, hk, hm⟩; clear HM; simp only [List.set_cons_zero, List.set_cons_succ] at hm; replace HM := Lib.hid hm; clear hm; clear hk))
    | (with_reducible (refine (N1.out _ _ _ _ HM.out rfl).mono ?_; rintro e w ⟨ao, c, rfl, hi, hf, hm⟩; have HF0 := Lib.hid (fun (q : Addr) (hq : ao = some q) => Nat.lt_of_lt_of_le (HM.out.at 0 rfl).lt (hf q hq)); have HF1 := Lib.hid (fun (q : Addr) (hq : ao = some q) => Nat.lt_of_lt_of_le (HM.out.at 1 rfl).lt (hf q hq)); have HL := Lib.hid (HM.out.old _ (List.mem_of_getElem? (i := 0) rfl)); clear HM hf; simp only [List.set_cons_zero, List.set_cons_succ] at hm; replace HM := Lib.hid hm; clear hm; have HI := Lib.hid hi; clear hi))
    | (obtain ⟨Z, hZ⟩ : ∃ Z, Z = (if E1 = 0 ∧ ¬ P1 < (s.size : Int) then [.string X0, .slice ao M c] else zShare) := ⟨_, rfl⟩; have q1 := HM.out.at 1 (x := ⟨b1, 68, [.string s, .int .i64 P1, .int .i64 E1]⟩) rfl; have q2 : w.cell? ⟨b1, 0, none⟩ = some (.string s) := q1.row.cell rfl; have q3 : w.cell? ⟨b1, 1, none⟩ = some (.int .i64 P1) := q1.row.cell rfl; have q4 : w.cell? ⟨b1, 2, none⟩ = some (.int .i64 E1) := q1.row.cell rfl; have HW := Lib.hid (wholeShare_any s P1 E1 F [.string X0, .slice ao M c] Z b1 w q1.lt q2 q3 q4 rfl (by simp [Hold.Single, Value.oneCell']) hZ HFF.out); clear q1 q2 q3 q4; (with_reducible refine HW.out.mono ?_); clear HW; rintro e w ⟨rfl, hb⟩; replace HM := Lib.hid (HM.out.next hb); replace HI := Lib.hid (HI.out.below hb); clear hb; have HZL := Lib.hid (show Z.length = 2 from by rw [hZ]; split <;> rfl); have HZ1 := Lib.hid (show Hold.Single Z from by rw [hZ]; split; (simp [Hold.Single, Value.oneCell']); exact zShare_one); have HZ := Lib.hid hZ; clear hZ)
    | (with_reducible refine Hold.store_k HM.out 0 (v' := Z) rfl rfl rfl rfl rfl (by rw [HZL.out, zShare_len]; exact Nat.le_refl _) (Hold.lay_all (by rw [HZL.out, zShare_len])) HZ1.out (by rw [HZL.out]; exact row_zShare) ?_; clear HM; intro wn hw HM; simp only [List.set_cons_zero] at HM; replace HM := Lib.hid HM; have HI2 := Lib.hid (show StrsR wn ao (tl X1) from by rw [hw]; exact Hold.strs_sets HI.out _ b0 0 (fun q hq => Nat.ne_of_gt (HF0.out q hq))); clear hw HI)))
  refine bodyPost_ret (Hold.resultsCT HM.out 0 rfl _ rfl rfl rfl (by rw [HZL.out]; exact row_zShare)) rfl ?_
  have hpe : P1 = posV (readP readStr (readAll readStr) s.data.toList 0) ∧ E1 = errV (readP readStr (readAll readStr) s.data.toList 0) := two_pos s.data.toList 0 P0 E0 P1 E1 hP0.out hE0.out (readStr_errs s.data.toList 0) hP1.out hE1.out
  have hrr : readShare s.data.toList = ends s.data.toList (readP readStr (readAll readStr) s.data.toList 0) := rfl
  by_cases hok : E1 = 0 ∧ ¬ P1 < (s.size : Int)
  · obtain ⟨x, hx, hend⟩ := ends_yes s.data.toList (readP readStr (readAll readStr) s.data.toList 0) P1 E1 hpe.1 hpe.2 (readP_errs _ _ readStr_errs (readAll_errs _ readStr_errs) s.data.toList 0) (fun x q h => ((pairC strC (listC strC)).rl s.data.toList 0 q x (by rw [Int.natCast_zero]; exact h)).2.2) hok.1 hok.2
    obtain ⟨q0, k0, k1⟩ := readP_parts _ _ _ _ hx
    have g0 : X0 = tx (x.1) := by rw [hX0.out, k0]; rfl
    have e0 : E0 = 0 := by rw [hE0.out, k0]; rfl
    have o0 : P0 = (q0 : Int) := by rw [hP0.out, k0]; rfl
    have g1 : X1 = x.2 := by rw [hX1.out, if_pos e0, o0, k1]; rfl
    obtain rfl : V0 = X0 := by rw [HV0.out, hrr, hend, g0]; rfl
    obtain rfl : V1 = X1 := by rw [HV1.out, hrr, hend, g1]; rfl
    obtain rfl : E = F := by rw [HE.out, hrr, hend, ends_f s.data.toList P1 E1 F hok.1 hok.2 HFF.out]; rfl
    obtain rfl : Z = [.string V0, .slice ao M c] := by rw [HZ.out, if_pos (by omega)]
    exact ⟨ao, c, by rw [hM.out]; rfl, HI2.out, (fun q hq => Nat.le_trans HL.out (Nat.le_of_lt (HF0.out q hq))), HM.out.below⟩
  · obtain ⟨y, hend, rfl⟩ := ends_no s.data.toList (readP readStr (readAll readStr) s.data.toList 0) P1 E1 F hpe.1 hpe.2 (readP_errs _ _ readStr_errs (readAll_errs _ readStr_errs) s.data.toList 0) hok HFF.out
    obtain rfl : V0 = ⟨#[]⟩ := by rw [HV0.out, hrr, hend]; rfl
    obtain rfl : V1 = [] := by rw [HV1.out, hrr, hend]; rfl
    obtain rfl : E = (y : Int) := by rw [HE.out, hrr, hend]; rfl
    obtain rfl : Z = zShare := by rw [HZ.out, if_neg (by omega)]
    exact ⟨none, 0, rfl, fun h => absurd rfl h, (fun q hq => by cases hq), HM.out.below⟩

set_option maxHeartbeats 3200000 in
theorem readCert_any (s : ByteArray) (V0 : ByteArray) (V1 : List Nat) (V2 : Int) (E : Int) (w : World) (h0 : V0 = okB (fun x => x.1.1) (readCert s.data.toList)) (h1 : V1 = okL (fun x => x.1.2) (readCert s.data.toList)) (h2 : V2 = okN (fun x => x.2) (readCert s.data.toList)) (hE : E = errV (readCert s.data.toList)) (hs : s.size ≤ 1000000000) :
    Calls Tryd.prog 18 #[.string s] w fun e w' => ∃ ao c, e = .returned (.tuple #[.agg #[.string V0, .slice ao V1.length c, .int .i64 V2], .int .i64 E]) ∧ IntsR w' ao (zl V1) ∧ (∀ q, ao = some q → w.heap.size ≤ q.block) ∧ Below w.heap.size w w' := by
  obtain ⟨X0, hX0⟩ : ∃ X, X = strV (readStr s.data.toList 0) := ⟨_, rfl⟩
  obtain ⟨P0, hP0⟩ : ∃ P, P = posV (readStr s.data.toList 0) := ⟨_, rfl⟩
  obtain ⟨E0, hE0⟩ : ∃ E, E = errV (readStr s.data.toList 0) := ⟨_, rfl⟩
  have p0 := pos_range (readStr s.data.toList 0) s.size (fun x q h => (strC.rl s.data.toList 0 q x (by rw [Int.natCast_zero]; exact h)).2.2)
  rw [← hP0] at p0
  obtain ⟨X1, hX1⟩ : ∃ X, X = if E0 = 0 then listV ((readAll readNum) s.data.toList P0) else [] := ⟨_, rfl⟩
  obtain ⟨P1, hP1⟩ : ∃ P, P = if E0 = 0 then posV ((readAll readNum) s.data.toList P0) else P0 := ⟨_, rfl⟩
  obtain ⟨E1, hE1⟩ : ∃ E, E = if E0 = 0 then errV ((readAll readNum) s.data.toList P0) else E0 := ⟨_, rfl⟩
  have p1 : 0 ≤ P1 ∧ P1 ≤ (s.size : Int) := by
    rw [hP1]
    split
    · exact pos_range _ s.size (fun x q h => ((listC natC).rl s.data.toList P0.toNat q x (by rw [Int.toNat_of_nonneg p0.1]; exact h)).2.2)
    · exact p0
  obtain ⟨X2, hX2⟩ : ∃ X, X = if E1 = 0 then numV (readNum s.data.toList P1) else 0 := ⟨_, rfl⟩
  obtain ⟨P2, hP2⟩ : ∃ P, P = if E1 = 0 then posV (readNum s.data.toList P1) else P1 := ⟨_, rfl⟩
  obtain ⟨E2, hE2⟩ : ∃ E, E = if E1 = 0 then errV (readNum s.data.toList P1) else E1 := ⟨_, rfl⟩
  have p2 : 0 ≤ P2 ∧ P2 ≤ (s.size : Int) := by
    rw [hP2]
    split
    · exact pos_range _ s.size (fun x q h => (natC.rl s.data.toList P1.toNat q x (by rw [Int.toNat_of_nonneg p1.1]; exact h)).2.2)
    · exact p1
  obtain ⟨M, hM⟩ : ∃ M, M = X1.length := ⟨_, rfl⟩
  have N0 := Lib.hid (fun (w0 w : World) (m : List Hold.Blk) (b : Nat) (h : Hold.Hld w0 m w) (hi : m[1]? = some ⟨b, 68, [.string s, .int .i64 0, .int .i64 0]⟩) => nextStr_any s 0 X0 P0 E0 (fun u => Prt.readStr_any s 0 u X0 P0 E0 hX0 hP0 hE0 (by omega) (by omega) hs) w0 w m 1 b h hi)
  have N1 := Lib.hid (fun (w0 w : World) (m : List Hold.Blk) (b : Nat) (h : Hold.Hld w0 m w) (hi : m[1]? = some ⟨b, 68, [.string s, .int .i64 P0, .int .i64 E0]⟩) => nextNums_both s P0 E0 X1 M P1 E1 (fun h0 u => by rw [hM]; exact Prt.readnums_any s P0 u X1 P1 E1 (by rw [hX1, if_pos h0]) (by rw [hP1, if_pos h0]) (by rw [hE1, if_pos h0]) (by omega) (by omega) hs) (fun h0 => ⟨by rw [hX1, if_neg h0], by rw [hM, hX1, if_neg h0]; rfl, by rw [hP1, if_neg h0], by rw [hE1, if_neg h0]⟩) w0 w m 1 b h hi)
  have N2 := Lib.hid (fun (w0 w : World) (m : List Hold.Blk) (b : Nat) (h : Hold.Hld w0 m w) (hi : m[1]? = some ⟨b, 68, [.string s, .int .i64 P1, .int .i64 E1]⟩) => nextNum_both s P1 E1 X2 P2 E2 (fun h0 u => Prt.readNum_any s P1 u X2 P2 E2 (by rw [hX2, if_pos h0]) (by rw [hP2, if_pos h0]) (by rw [hE2, if_pos h0]) (by omega) (by omega) hs) (fun h0 => ⟨by rw [hX2, if_neg h0], by rw [hP2, if_neg h0], by rw [hE2, if_neg h0]⟩) w0 w m 1 b h hi)
  obtain ⟨F, hF⟩ : ∃ F, F = if E2 = 0 then (if P2 < (s.size : Int) then 3 else 0) else E2 := ⟨_, rfl⟩
  replace hX0 := Lib.hid hX0
  replace hP0 := Lib.hid hP0
  replace hE0 := Lib.hid hE0
  replace hX1 := Lib.hid hX1
  replace hP1 := Lib.hid hP1
  replace hE1 := Lib.hid hE1
  replace hX2 := Lib.hid hX2
  replace hP2 := Lib.hid hP2
  replace hE2 := Lib.hid hE2
  replace hM := Lib.hid hM
  have HFF := Lib.hid hF
  have HE := Lib.hid hE
  have HV0 := Lib.hid h0
  have HV1 := Lib.hid h1
  have HV2 := Lib.hid h2
  have HP := Lib.hid p2
  have HM := Lib.hid (Hold.Hld.start w)
  clear hF hE hs h0 h1 h2 p0 p1 p2
  go_enter Tryd.func18, Tryd.ntmps18
  go_wp2_with ((first
    | (with_reducible refine Hold.alloc HM.out rfl rfl zCert zero_zCert ?_; clear HM; intro b0 w HM; simp only [List.nil_append] at HM; replace HM := Lib.hid HM)
    | (with_reducible refine Hold.build (t := 68) (cs := [.string s, .int .i64 0, .int .i64 0]) rfl rfl (by kernel_rfl) ?_)
    | (with_reducible refine Hold.box HM.out rfl rfl rfl ?_; clear HM; intro b1 w HM; simp only [List.nil_append, List.cons_append] at HM; replace HM := Lib.hid HM)
    | (with_reducible (refine (N0.out _ _ _ _ HM.out rfl).mono ?_; rintro e w ⟨rfl, hk, hm⟩; clear HM; simp only [List.set_cons_zero, List.set_cons_succ] at hm; replace HM := Lib.hid hm; clear hm; clear hk))
    | (with_reducible (refine (N1.out _ _ _ _ HM.out rfl).mono ?_; rintro e w ⟨ao, c, rfl, hi, hf, hm⟩; have HF0 := Lib.hid (fun (q : Addr) (hq : ao = some q) => Nat.lt_of_lt_of_le (HM.out.at 0 rfl).lt (hf q hq)); have HF1 := Lib.hid (fun (q : Addr) (hq : ao = some q) => Nat.lt_of_lt_of_le (HM.out.at 1 rfl).lt (hf q hq)); have HL := Lib.hid (HM.out.old _ (List.mem_of_getElem? (i := 0) rfl)); clear HM hf; simp only [List.set_cons_zero, List.set_cons_succ] at hm; replace HM := Lib.hid hm; clear hm; have HI := Lib.hid hi; clear hi))
    | (with_reducible (refine (N2.out _ _ _ _ HM.out rfl).mono ?_; rintro e w ⟨rfl, hk, hm⟩; clear HM; simp only [List.set_cons_zero, List.set_cons_succ] at hm; replace HM := Lib.hid hm; clear hm; replace HI := Lib.hid (hk _ _ HI.out (fun q hq => Nat.ne_of_gt (HF1.out q hq))); clear hk))
    | (obtain ⟨Z, hZ⟩ : ∃ Z, Z = (if E2 = 0 ∧ ¬ P2 < (s.size : Int) then [.string X0, .slice ao M c, .int .i64 X2] else zCert) := ⟨_, rfl⟩; have q1 := HM.out.at 1 (x := ⟨b1, 68, [.string s, .int .i64 P2, .int .i64 E2]⟩) rfl; have q2 : w.cell? ⟨b1, 0, none⟩ = some (.string s) := q1.row.cell rfl; have q3 : w.cell? ⟨b1, 1, none⟩ = some (.int .i64 P2) := q1.row.cell rfl; have q4 : w.cell? ⟨b1, 2, none⟩ = some (.int .i64 E2) := q1.row.cell rfl; have HW := Lib.hid (wholeCert_any s P2 E2 F [.string X0, .slice ao M c, .int .i64 X2] Z b1 w q1.lt q2 q3 q4 rfl (by simp [Hold.Single, Value.oneCell']) hZ HFF.out); clear q1 q2 q3 q4; (with_reducible refine HW.out.mono ?_); clear HW; rintro e w ⟨rfl, hb⟩; replace HM := Lib.hid (HM.out.next hb); replace HI := Lib.hid (HI.out.below hb); clear hb; have HZL := Lib.hid (show Z.length = 3 from by rw [hZ]; split <;> rfl); have HZ1 := Lib.hid (show Hold.Single Z from by rw [hZ]; split; (simp [Hold.Single, Value.oneCell']); exact zCert_one); have HZ := Lib.hid hZ; clear hZ)
    | (with_reducible refine Hold.store_k HM.out 0 (v' := Z) rfl rfl rfl rfl rfl (by rw [HZL.out, zCert_len]; exact Nat.le_refl _) (Hold.lay_all (by rw [HZL.out, zCert_len])) HZ1.out (by rw [HZL.out]; exact row_zCert) ?_; clear HM; intro wn hw HM; simp only [List.set_cons_zero] at HM; replace HM := Lib.hid HM; have HI2 := Lib.hid (show IntsR wn ao (zl X1) from by rw [hw]; exact Hold.ints_sets HI.out _ b0 0 (fun q hq => Nat.ne_of_gt (HF0.out q hq))); clear hw HI)))
  refine bodyPost_ret (Hold.resultsCT HM.out 0 rfl _ rfl rfl rfl (by rw [HZL.out]; exact row_zCert)) rfl ?_
  have hpe : P2 = posV (readP (readP readStr (readAll readNum)) readNum s.data.toList 0) ∧ E2 = errV (readP (readP readStr (readAll readNum)) readNum s.data.toList 0) := by
    have h01 := two_pos s.data.toList 0 P0 E0 P1 E1 hP0.out hE0.out (readStr_errs s.data.toList 0) hP1.out hE1.out
    exact two_pos s.data.toList 0 P1 E1 P2 E2 h01.1 h01.2 (readP_errs _ _ readStr_errs (readAll_errs _ readNum_errs) s.data.toList 0) hP2.out hE2.out
  have hrr : readCert s.data.toList = ends s.data.toList (readP (readP readStr (readAll readNum)) readNum s.data.toList 0) := rfl
  by_cases hok : E2 = 0 ∧ ¬ P2 < (s.size : Int)
  · obtain ⟨x, hx, hend⟩ := ends_yes s.data.toList (readP (readP readStr (readAll readNum)) readNum s.data.toList 0) P2 E2 hpe.1 hpe.2 (readP_errs _ _ (readP_errs _ _ readStr_errs (readAll_errs _ readNum_errs)) readNum_errs s.data.toList 0) (fun x q h => ((pairC (pairC strC (listC natC)) natC).rl s.data.toList 0 q x (by rw [Int.natCast_zero]; exact h)).2.2) hok.1 hok.2
    obtain ⟨q1, k01, k2⟩ := readP_parts _ _ _ _ hx
    obtain ⟨q0, k0, k1⟩ := readP_parts _ _ _ _ k01
    have g0 : X0 = tx (x.1.1) := by rw [hX0.out, k0]; rfl
    have e0 : E0 = 0 := by rw [hE0.out, k0]; rfl
    have o0 : P0 = (q0 : Int) := by rw [hP0.out, k0]; rfl
    have g1 : X1 = x.1.2 := by rw [hX1.out, if_pos e0, o0, k1]; rfl
    have e1 : E1 = 0 := by rw [hE1.out, if_pos e0, o0, k1]; rfl
    have o1 : P1 = (q1 : Int) := by rw [hP1.out, if_pos e0, o0, k1]; rfl
    have g2 : X2 = ((x.2 : Nat) : Int) := by rw [hX2.out, if_pos e1, o1, k2]; rfl
    obtain rfl : V0 = X0 := by rw [HV0.out, hrr, hend, g0]; rfl
    obtain rfl : V1 = X1 := by rw [HV1.out, hrr, hend, g1]; rfl
    obtain rfl : V2 = X2 := by rw [HV2.out, hrr, hend, g2]; rfl
    obtain rfl : E = F := by rw [HE.out, hrr, hend, ends_f s.data.toList P2 E2 F hok.1 hok.2 HFF.out]; rfl
    obtain rfl : Z = [.string V0, .slice ao M c, .int .i64 V2] := by rw [HZ.out, if_pos (by omega)]
    exact ⟨ao, c, by rw [hM.out]; rfl, HI2.out, (fun q hq => Nat.le_trans HL.out (Nat.le_of_lt (HF0.out q hq))), HM.out.below⟩
  · obtain ⟨y, hend, rfl⟩ := ends_no s.data.toList (readP (readP readStr (readAll readNum)) readNum s.data.toList 0) P2 E2 F hpe.1 hpe.2 (readP_errs _ _ (readP_errs _ _ readStr_errs (readAll_errs _ readNum_errs)) readNum_errs s.data.toList 0) hok HFF.out
    obtain rfl : V0 = ⟨#[]⟩ := by rw [HV0.out, hrr, hend]; rfl
    obtain rfl : V1 = [] := by rw [HV1.out, hrr, hend]; rfl
    obtain rfl : V2 = 0 := by rw [HV2.out, hrr, hend]; rfl
    obtain rfl : E = (y : Int) := by rw [HE.out, hrr, hend]; rfl
    obtain rfl : Z = zCert := by rw [HZ.out, if_neg (by omega)]
    exact ⟨none, 0, rfl, fun h => absurd rfl h, (fun q hq => by cases hq), HM.out.below⟩

set_option maxHeartbeats 3200000 in
theorem readOut_any (s : ByteArray) (V0 : List (List UInt8)) (E : Int) (w : World) (h0 : V0 = okL (fun x => x) (readOut s.data.toList)) (hE : E = errV (readOut s.data.toList)) (hs : s.size ≤ 1000000000) :
    Calls Tryd.prog 19 #[.string s] w fun e w' => ∃ ao c, e = .returned (.tuple #[.agg #[.slice ao V0.length c], .int .i64 E]) ∧ StrsR w' ao (tl V0) ∧ (∀ q, ao = some q → w.heap.size ≤ q.block) ∧ Below w.heap.size w w' := by
  obtain ⟨X0, hX0⟩ : ∃ X, X = listV ((readAll readStr) s.data.toList 0) := ⟨_, rfl⟩
  obtain ⟨P0, hP0⟩ : ∃ P, P = posV ((readAll readStr) s.data.toList 0) := ⟨_, rfl⟩
  obtain ⟨E0, hE0⟩ : ∃ E, E = errV ((readAll readStr) s.data.toList 0) := ⟨_, rfl⟩
  have p0 := pos_range ((readAll readStr) s.data.toList 0) s.size (fun x q h => ((listC strC).rl s.data.toList 0 q x (by rw [Int.natCast_zero]; exact h)).2.2)
  rw [← hP0] at p0
  obtain ⟨M, hM⟩ : ∃ M, M = X0.length := ⟨_, rfl⟩
  have N0 := Lib.hid (fun (w0 w : World) (m : List Hold.Blk) (b : Nat) (h : Hold.Hld w0 m w) (hi : m[1]? = some ⟨b, 68, [.string s, .int .i64 0, .int .i64 0]⟩) => nextStrs_any s 0 X0 M P0 E0 (fun u => by rw [hM]; exact Prt.readstrs_any s 0 u X0 P0 E0 hX0 hP0 hE0 (by omega) (by omega) hs) w0 w m 1 b h hi)
  obtain ⟨F, hF⟩ : ∃ F, F = if E0 = 0 then (if P0 < (s.size : Int) then 3 else 0) else E0 := ⟨_, rfl⟩
  replace hX0 := Lib.hid hX0
  replace hP0 := Lib.hid hP0
  replace hE0 := Lib.hid hE0
  replace hM := Lib.hid hM
  have HFF := Lib.hid hF
  have HE := Lib.hid hE
  have HV0 := Lib.hid h0
  have HP := Lib.hid p0
  have HM := Lib.hid (Hold.Hld.start w)
  clear hF hE hs h0 p0
  go_enter Tryd.func19, Tryd.ntmps19
  go_wp2_with ((first
    | (with_reducible refine Hold.alloc HM.out rfl rfl zOut zero_zOut ?_; clear HM; intro b0 w HM; simp only [List.nil_append] at HM; replace HM := Lib.hid HM)
    | (with_reducible refine Hold.build (t := 68) (cs := [.string s, .int .i64 0, .int .i64 0]) rfl rfl (by kernel_rfl) ?_)
    | (with_reducible refine Hold.box HM.out rfl rfl rfl ?_; clear HM; intro b1 w HM; simp only [List.nil_append, List.cons_append] at HM; replace HM := Lib.hid HM)
    | (with_reducible (refine (N0.out _ _ _ _ HM.out rfl).mono ?_; rintro e w ⟨ao, c, rfl, hi, hf, hm⟩; have HF0 := Lib.hid (fun (q : Addr) (hq : ao = some q) => Nat.lt_of_lt_of_le (HM.out.at 0 rfl).lt (hf q hq)); have HF1 := Lib.hid (fun (q : Addr) (hq : ao = some q) => Nat.lt_of_lt_of_le (HM.out.at 1 rfl).lt (hf q hq)); have HL := Lib.hid (HM.out.old _ (List.mem_of_getElem? (i := 0) rfl)); clear HM hf; simp only [List.set_cons_zero, List.set_cons_succ] at hm; replace HM := Lib.hid hm; clear hm; have HI := Lib.hid hi; clear hi))
    | (obtain ⟨Z, hZ⟩ : ∃ Z, Z = (if E0 = 0 ∧ ¬ P0 < (s.size : Int) then [.slice ao M c] else zOut) := ⟨_, rfl⟩; have q1 := HM.out.at 1 (x := ⟨b1, 68, [.string s, .int .i64 P0, .int .i64 E0]⟩) rfl; have q2 : w.cell? ⟨b1, 0, none⟩ = some (.string s) := q1.row.cell rfl; have q3 : w.cell? ⟨b1, 1, none⟩ = some (.int .i64 P0) := q1.row.cell rfl; have q4 : w.cell? ⟨b1, 2, none⟩ = some (.int .i64 E0) := q1.row.cell rfl; have HW := Lib.hid (wholeOut_any s P0 E0 F [.slice ao M c] Z b1 w q1.lt q2 q3 q4 rfl (by simp [Hold.Single, Value.oneCell']) hZ HFF.out); clear q1 q2 q3 q4; (with_reducible refine HW.out.mono ?_); clear HW; rintro e w ⟨rfl, hb⟩; replace HM := Lib.hid (HM.out.next hb); replace HI := Lib.hid (HI.out.below hb); clear hb; have HZL := Lib.hid (show Z.length = 1 from by rw [hZ]; split <;> rfl); have HZ1 := Lib.hid (show Hold.Single Z from by rw [hZ]; split; (simp [Hold.Single, Value.oneCell']); exact zOut_one); have HZ := Lib.hid hZ; clear hZ)
    | (with_reducible refine Hold.store_k HM.out 0 (v' := Z) rfl rfl rfl rfl rfl (by rw [HZL.out, zOut_len]; exact Nat.le_refl _) (Hold.lay_all (by rw [HZL.out, zOut_len])) HZ1.out (by rw [HZL.out]; exact row_zOut) ?_; clear HM; intro wn hw HM; simp only [List.set_cons_zero] at HM; replace HM := Lib.hid HM; have HI2 := Lib.hid (show StrsR wn ao (tl X0) from by rw [hw]; exact Hold.strs_sets HI.out _ b0 0 (fun q hq => Nat.ne_of_gt (HF0.out q hq))); clear hw HI)))
  refine bodyPost_ret (Hold.resultsCT HM.out 0 rfl _ rfl rfl rfl (by rw [HZL.out]; exact row_zOut)) rfl ?_
  have hpe : P0 = posV ((readAll readStr) s.data.toList 0) ∧ E0 = errV ((readAll readStr) s.data.toList 0) := ⟨hP0.out, hE0.out⟩
  have hrr : readOut s.data.toList = ends s.data.toList ((readAll readStr) s.data.toList 0) := rfl
  by_cases hok : E0 = 0 ∧ ¬ P0 < (s.size : Int)
  · obtain ⟨x, hx, hend⟩ := ends_yes s.data.toList ((readAll readStr) s.data.toList 0) P0 E0 hpe.1 hpe.2 ((readAll_errs _ readStr_errs) s.data.toList 0) (fun x q h => ((listC strC).rl s.data.toList 0 q x (by rw [Int.natCast_zero]; exact h)).2.2) hok.1 hok.2
    have k0 := hx
    have g0 : X0 = x := by rw [hX0.out, k0]; rfl
    obtain rfl : V0 = X0 := by rw [HV0.out, hrr, hend, g0]; rfl
    obtain rfl : E = F := by rw [HE.out, hrr, hend, ends_f s.data.toList P0 E0 F hok.1 hok.2 HFF.out]; rfl
    obtain rfl : Z = [.slice ao M c] := by rw [HZ.out, if_pos (by omega)]
    exact ⟨ao, c, by rw [hM.out]; rfl, HI2.out, (fun q hq => Nat.le_trans HL.out (Nat.le_of_lt (HF0.out q hq))), HM.out.below⟩
  · obtain ⟨y, hend, rfl⟩ := ends_no s.data.toList ((readAll readStr) s.data.toList 0) P0 E0 F hpe.1 hpe.2 ((readAll_errs _ readStr_errs) s.data.toList 0) hok HFF.out
    obtain rfl : V0 = [] := by rw [HV0.out, hrr, hend]; rfl
    obtain rfl : E = (y : Int) := by rw [HE.out, hrr, hend]; rfl
    obtain rfl : Z = zOut := by rw [HZ.out, if_neg (by omega)]
    exact ⟨none, 0, rfl, fun h => absurd rfl h, (fun q hq => by cases hq), HM.out.below⟩

end Go.Proofs.YtlinpbmglcjkkaaDoor.LetA
