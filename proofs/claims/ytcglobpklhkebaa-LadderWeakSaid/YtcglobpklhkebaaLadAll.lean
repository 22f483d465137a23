/-
  All of package ladder, and the document's All and Weak of layer 6, answer what the plain ladder says, and leave all memory that was there as it was. Conditions: no more than a million keys lie in a row.
-/
import Derived.Test.YtcglobpklhkebaaRLadEnds
import Derived.Test.YtcglobpklhkebaaStrA
namespace Go.Proofs.Ytcglobpklhkebaa.LadAll
open Go.RowKit Mur Lanes Limb Hold Lad LadC RefLimb RefLad
set_option maxRecDepth 100000

/-- What is shared with one key, and the error. -/
def sT (s p : ByteArray) : ByteArray := if s.size = 32 ∧ p.size = 32 then (if (shareT s p).data.toList = (numT 0).data.toList then ⟨#[]⟩ else shareT s p) else ⟨#[]⟩
def sE (s p : ByteArray) : Int := if s.size = 32 ∧ p.size = 32 then (if (shareT s p).data.toList = (numT 0).data.toList then 5 else 0) else 1
theorem sharedV_eq (s p : ByteArray) : sharedV s p = .tuple #[.string (sT s p), .int .i64 (sE s p)] := by
  unfold sharedV sT sE
  split
  · split <;> rfl
  · rfl
/-- The first error, and what is shared with each key. -/
def errs (s : ByteArray) : List ByteArray → Int
  | [] => 0
  | p :: l => if sE s p = 0 then errs s l else sE s p
def alls (s : ByteArray) (ls : List ByteArray) : List ByteArray := if errs s ls = 0 then ls.map (sT s) else []
theorem errs_append (s : ByteArray) (l m : List ByteArray) (h : errs s l = 0) : errs s (l ++ m) = errs s m := by
  induction l with
  | nil => rfl
  | cons p l ih =>
    rw [List.cons_append, errs]
    rw [errs] at h
    by_cases hp : sE s p = 0
    · rw [if_pos hp] at h ⊢
      exact ih h
    · rw [if_neg hp] at h
      exact absurd h hp
theorem errs_at (s : ByteArray) (ls : List ByteArray) (k : Nat) (hk : k < ls.length) (h : errs s (ls.take k) = 0) : errs s ls = (if sE s ls[k] = 0 then errs s (ls.drop (k + 1)) else sE s ls[k]) := by
  conv => lhs; rw [← List.take_append_drop k ls, errs_append s _ _ h, List.drop_eq_getElem_cons hk, errs]
theorem errs_next (s : ByteArray) (ls : List ByteArray) (k : Nat) (hk : k < ls.length) (h : errs s (ls.take k) = 0) (he : sE s ls[k] = 0) : errs s (ls.take (k + 1)) = 0 := by
  rw [List.take_succ_eq_append_getElem hk, errs_append s _ _ h, errs, if_pos he, errs]
/-- What is shared with the first k. -/
def outs (s : ByteArray) (ls : List ByteArray) (k : Nat) : List ByteArray := (ls.take k).map (sT s)
theorem outs_next (s : ByteArray) (ls : List ByteArray) (k : Nat) (h : k < ls.length) : outs s ls (k + 1) = outs s ls k ++ [sT s ls[k]] := by
  rw [outs, List.take_succ_eq_append_getElem h, List.map_append]
  rfl
theorem outs_all (s : ByteArray) (ls : List ByteArray) : outs s ls ls.length = ls.map (sT s) := by rw [outs, List.take_length]
theorem alls_none (s : ByteArray) (ls : List ByteArray) (h : errs s ls ≠ 0) : alls s ls = [] := if_neg h
theorem alls_all (s : ByteArray) (ls : List ByteArray) (h : errs s ls = 0) : alls s ls = ls.map (sT s) := if_pos h

set_option maxHeartbeats 1600000 in
theorem all_any (s : ByteArray) (ls : List ByteArray) (a : Option Addr) (b o cap : Nat) (w : World) (ha : ls.length ≠ 0 → a = some ⟨b, o, none⟩ ∧ b < w.heap.size) (hcell : ∀ i (h : i < ls.length), w.cell? ⟨b, o + i, none⟩ = some (.string ls[i])) (hn : ls.length ≤ 1000000) :
    Calls Try.prog 45 #[.string s, .slice a ls.length cap] w fun e w' => ∃ v, e = .returned (.tuple #[v, .int .i64 (errs s ls)]) ∧ w'.ownsRow w.heap.size 9 1 v (alls s ls).length (Strs.strsV (alls s ls)) ∧ Below w.heap.size w w' := by
  have hmk := fun u => Strs.make_room u ls.length (by omega)
  have HA := Lib.hid ha
  have HCL := Lib.hid hcell
  clear ha hcell
  go_enter Try.func45, Try.ntmps45
  go_wp2_with fail
  have hown0 := World.ownsRow_made (base := w.heap.size) (e := 9) (size := 1) w (madeCells #[.string ⟨#[]⟩] ls.length) ls.length (Nat.le_refl _) (by unfold maxLen; omega) (by simp [madeCells])
  have HB0 := Lib.hid ((Below.refl w.heap.size w).alloc (Nat.le_refl _) (.cells (madeCells #[.string ⟨#[]⟩] ls.length) 9))
  have HOWN0 := Lib.hid hown0
  clear hown0 hmk
  go_loopw [6, 8, 9, 10, 16] (fun v _ _ _ i wr => ∃ k : Nat, k ≤ ls.length ∧ i = .int .i64 k ∧ errs s (ls.take k) = 0 ∧ wr.ownsRow w.heap.size 9 1 v k (Strs.strsV (outs s ls k)) ∧ Below w.heap.size w wr) (fun _ _ _ _ i _ => ls.length - (intOf i).toNat)
  case atStart => exact ⟨0, by omega, rfl, rfl, HOWN0.out, HB0.out⟩
  case round =>
    clear HOWN0 HB0
    obtain ⟨k, hk, rfl, hz, hown, hbel⟩ := hrel
    by_cases hlt : k < ls.length
    · obtain ⟨rfl, hbb⟩ := HA.out (by omega)
      have hcc := (hbel.cell (p := ⟨b, o + k, none⟩) hbb).trans (HCL.out k hlt)
      have hstep := outs_next s ls k hlt
      have hz1 : sE s ls[k] ≠ 0 → errs s ls = sE s ls[k] := fun h => by rw [errs_at s ls k hlt hz, if_neg h]
      have hz2 := errs_next s ls k hlt hz
      have r1 := fun u => LadC.shared_any s ls[k] u
      rw [sharedV_eq] at r1
      generalize ls[k] = x at *
      generalize sT s x = T at *
      generalize sE s x = E at *
      have R1 := Lib.hid r1
      have HS := Lib.hid hstep
      have HOWN := Lib.hid hown
      have HW := Lib.hid hbel
      have HZ1 := Lib.hid hz1
      have HZ2 := Lib.hid hz2
      clear r1 hstep hown hbel hz1 hz2 hz
      by_cases hE : E = 0
      · subst hE
        go_wp2_with fail
        refine (R1.out _).mono ?_
        rintro e w2 ⟨rfl, hb2⟩
        have HOWN2 := Lib.hid (Strs.own_below HOWN.out hb2)
        have HW2 := Lib.hid (HW.out.trans (hb2.mono HW.out.size))
        clear hb2 HOWN HW hcc
        go_wp2_with (at_builtin; refine Strs.append_strs rfl _ _ rfl w.heap.size k _ (outs s ls k) rfl (HOWN2.out.alloc _) w2.heap.size 1 1 [T] rfl rfl (Strs.new_one _ _ _) (by omega) (Nat.le_trans HW2.out.size (by simp)) ?_)
        intro v' w3 hown3 hgrow3
        have HW3 := Lib.hid ((HW2.out.alloc HW2.out.size (.cells #[.string T] 9)).grown hgrow3 (Nat.le_trans HW2.out.size (by simp)) (fun j hj => (HOWN2.out.lt j hj).1))
        rw [← HS.out] at hown3
        have HOWN3 := Lib.hid hown3
        clear hown3 hgrow3 HOWN2 HW2
        go_wp2
        go_roundw
        case rel => exact ⟨k + 1, by omega, by go_num, HZ2.out (by trivial), HOWN3.out, HW3.out⟩
        case measure => simp [intOf]; omega
      · have hd : ((E : Int) != 0) = true := by simp [hE]
        have hd2 : decide (E = 0) = false := by simp [hE]
        go_wp2_with fail
        refine (R1.out _).mono ?_
        rintro e w2 ⟨rfl, hb2⟩
        have HW2 := Lib.hid (HW.out.trans (hb2.mono HW.out.size))
        clear hb2 HOWN HW hcc
        go_wp2
        have hl := alls_none s ls (by rw [HZ1.out hE]; exact hE)
        rw [HZ1.out hE, hl]
        refine bodyPost_ret (v := .tuple #[.slice none 0 0, .int .i64 E]) (by simp [results, Try.results45, go_sem]) rfl ⟨_, rfl, ⟨rfl, .inl ⟨rfl, rfl⟩⟩, HW2.out⟩
    · obtain rfl : k = ls.length := by omega
      rw [List.take_length] at hz
      rw [outs_all] at hown
      have HOWN := Lib.hid hown
      have HW := Lib.hid hbel
      have HZ := Lib.hid hz
      clear hown hbel hz
      go_wp2
      rw [HZ.out, alls_all s ls HZ.out, List.length_map]
      refine bodyPost_ret (v := .tuple #[u6, .int .i64 0]) (by simp [results, Try.results45, go_sem]) rfl ⟨_, rfl, HOWN.out, HW.out⟩

set_option maxHeartbeats 1600000 in
theorem all_ref (s : ByteArray) (ls : List ByteArray) (a : Option Addr) (b o cap : Nat) (w : World) (ha : ls.length ≠ 0 → a = some ⟨b, o, none⟩ ∧ b < w.heap.size) (hcell : ∀ i (h : i < ls.length), w.cell? ⟨b, o + i, none⟩ = some (.string ls[i])) (hn : ls.length ≤ 1000000) :
    Calls Try.prog 46 #[.string s, .slice a ls.length cap] w fun e w' => ∃ v, e = .returned (.tuple #[v, .int .i64 (errs s ls)]) ∧ w'.ownsRow w.heap.size 9 1 v (alls s ls).length (Strs.strsV (alls s ls)) ∧ Below w.heap.size w w' := by
  have hmk := fun u => Strs.make_room u ls.length (by omega)
  have HA := Lib.hid ha
  have HCL := Lib.hid hcell
  clear ha hcell
  go_enter Try.func46, Try.ntmps46
  go_wp2_with fail
  have hown0 : w.ownsRow w.heap.size 9 1 (.slice none 0 0) 0 [] := ⟨by simp, .inl ⟨rfl, rfl⟩⟩
  have HB0 := Lib.hid (Below.refl w.heap.size w)
  have HOWN0 := Lib.hid hown0
  clear hown0 hmk
  go_loopw [6, 8, 9, 10, 13] (fun v _ _ _ i wr => ∃ k : Nat, k ≤ ls.length ∧ i = .int .i64 k ∧ errs s (ls.take k) = 0 ∧ wr.ownsRow w.heap.size 9 1 v k (Strs.strsV (outs s ls k)) ∧ Below w.heap.size w wr) (fun _ _ _ _ i _ => ls.length - (intOf i).toNat)
  case atStart => exact ⟨0, by omega, rfl, rfl, HOWN0.out, HB0.out⟩
  case round =>
    clear HOWN0 HB0
    obtain ⟨k, hk, rfl, hz, hown, hbel⟩ := hrel
    by_cases hlt : k < ls.length
    · obtain ⟨rfl, hbb⟩ := HA.out (by omega)
      have hcc := (hbel.cell (p := ⟨b, o + k, none⟩) hbb).trans (HCL.out k hlt)
      have hstep := outs_next s ls k hlt
      have hz1 : sE s ls[k] ≠ 0 → errs s ls = sE s ls[k] := fun h => by rw [errs_at s ls k hlt hz, if_neg h]
      have hz2 := errs_next s ls k hlt hz
      have r1 := fun u => RefLad.shared_ref s ls[k] u
      rw [sharedV_eq] at r1
      generalize ls[k] = x at *
      generalize sT s x = T at *
      generalize sE s x = E at *
      have R1 := Lib.hid r1
      have HS := Lib.hid hstep
      have HOWN := Lib.hid hown
      have HW := Lib.hid hbel
      have HZ1 := Lib.hid hz1
      have HZ2 := Lib.hid hz2
      clear r1 hstep hown hbel hz1 hz2 hz
      by_cases hE : E = 0
      · subst hE
        go_wp2_with fail
        refine (R1.out _).mono ?_
        rintro e w2 ⟨rfl, hb2⟩
        have HOWN2 := Lib.hid (Strs.own_below HOWN.out hb2)
        have HW2 := Lib.hid (HW.out.trans (hb2.mono HW.out.size))
        clear hb2 HOWN HW hcc
        go_wp2_with (at_builtin; refine Strs.append_strs rfl _ _ rfl w.heap.size k _ (outs s ls k) rfl (HOWN2.out.alloc _) w2.heap.size 1 1 [T] rfl rfl (Strs.new_one _ _ _) (by omega) (Nat.le_trans HW2.out.size (by simp)) ?_)
        intro v' w3 hown3 hgrow3
        have HW3 := Lib.hid ((HW2.out.alloc HW2.out.size (.cells #[.string T] 9)).grown hgrow3 (Nat.le_trans HW2.out.size (by simp)) (fun j hj => (HOWN2.out.lt j hj).1))
        rw [← HS.out] at hown3
        have HOWN3 := Lib.hid hown3
        clear hown3 hgrow3 HOWN2 HW2
        go_wp2
        go_roundw
        case rel => exact ⟨k + 1, by omega, by go_num, HZ2.out (by trivial), HOWN3.out, HW3.out⟩
        case measure => simp [intOf]; omega
      · have hd : ((E : Int) != 0) = true := by simp [hE]
        have hd2 : decide (E = 0) = false := by simp [hE]
        go_wp2_with fail
        refine (R1.out _).mono ?_
        rintro e w2 ⟨rfl, hb2⟩
        have HW2 := Lib.hid (HW.out.trans (hb2.mono HW.out.size))
        clear hb2 HOWN HW hcc
        go_wp2
        have hl := alls_none s ls (by rw [HZ1.out hE]; exact hE)
        rw [HZ1.out hE, hl]
        refine bodyPost_ret (v := .tuple #[.slice none 0 0, .int .i64 E]) (by simp [results, Try.results46, go_sem]) rfl ⟨_, rfl, ⟨rfl, .inl ⟨rfl, rfl⟩⟩, HW2.out⟩
    · obtain rfl : k = ls.length := by omega
      rw [List.take_length] at hz
      rw [outs_all] at hown
      have HOWN := Lib.hid hown
      have HW := Lib.hid hbel
      have HZ := Lib.hid hz
      clear hown hbel hz
      go_wp2
      rw [HZ.out, alls_all s ls HZ.out, List.length_map]
      refine bodyPost_ret (v := .tuple #[u6, .int .i64 0]) (by simp [results, Try.results46, go_sem]) rfl ⟨_, rfl, HOWN.out, HW.out⟩

set_option maxHeartbeats 1600000 in
theorem weak_ref (p : ByteArray) (w0 : World) :
    Calls Try.prog 48 #[.string p] w0 fun r w' => r = .returned (.bool (weakB p)) ∧ Below w0.heap.size w0 w' := by
  have RT := fun u => RefLad.times_any zeroT p u
  have hmk := fun u => zeroT_make u
  have hcv := fun u => zeroT_conv u
  have hTs := shareT_size zeroT p
  have r3 := fun u => alike_zero (shareT zeroT p) u hTs
  have hzs : zeroT.size = 32 := rfl
  unfold timesV at RT
  unfold weakB
  rw [← zero_num]
  obtain ⟨D, hD⟩ : ∃ D, D = decide ((shareT zeroT p).data.toList = zeroT.data.toList) := ⟨_, rfl⟩
  rw [← zero_num, ← hD] at r3
  rw [← hD]
  clear hD hTs
  obtain ⟨T, hT⟩ : ∃ T, T = shareT zeroT p := ⟨_, rfl⟩
  rw [← hT] at RT r3
  clear hT
  obtain ⟨Z, hZ⟩ : ∃ Z, Z = zeroT := ⟨_, rfl⟩
  rw [← hZ] at hcv RT r3 hzs
  clear hZ
  by_cases h : p.size = 32
  · rw [if_pos ⟨hzs, h⟩] at RT
    rw [show decide (¬ p.size = 32) = false by simp [h], Bool.false_or]
    have R1 := Lib.hid RT
    have R3 := Lib.hid r3
    clear r3 RT hzs h
    go_enter Try.func48, Try.ntmps48
    go_wp2_with fail
    refine (R1.out _).mono ?_
    rintro e w1 ⟨rfl, hb⟩
    have HB1 := Lib.hid (show Below w0.heap.size _ _ from hb.mono (by simp))
    have HB2 := Lib.hid ((((Below.refl w0.heap.size w0).alloc (Nat.le_refl _) (.cells (zeroV 32).toArray 5)).trans HB1.out).alloc (Nat.le_trans (by simp) hb.size) (.cells (zeroV 32).toArray 5))
    clear hb HB1
    go_wp2_with fail
    refine (R3.out _).mono ?_
    rintro e w3 ⟨rfl, hb⟩
    have HB3 := Lib.hid (HB2.out.trans (hb.mono HB2.out.size))
    clear hb HB2 hmk hcv
    go_wp2
    refine bodyPost_ret (v := .bool D) (by simp [results, Try.results48, go_sem]) rfl ⟨rfl, HB3.out⟩
  · rw [if_neg (fun h' => h h'.2)] at RT
    rw [show decide (¬ p.size = 32) = true by simp [h], Bool.true_or]
    have R1 := Lib.hid RT
    clear r3 RT hzs h
    go_enter Try.func48, Try.ntmps48
    go_wp2_with fail
    refine (R1.out _).mono ?_
    rintro e w1 ⟨rfl, hb⟩
    have HB1 := Lib.hid (((Below.refl w0.heap.size w0).alloc (Nat.le_refl _) (.cells (zeroV 32).toArray 5)).trans (show Below w0.heap.size _ _ from hb.mono (by simp)))
    clear hb hmk hcv
    go_wp2
    refine bodyPost_ret (v := .bool true) (by simp [results, Try.results48, go_sem]) rfl ⟨rfl, HB1.out⟩
end Go.Proofs.Ytcglobpklhkebaa.LadAll
