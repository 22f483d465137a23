/-
  The document's own answers for Parts of layer 2, and for Block of a text that is no block, answer what the plain mathematics of the text Sha says. Conditions: Parts' texts have together no more than a million bytes.
-/
import Derived.Test.YtlecmpmfgeneoaaDoorRefOf
import Derived.Test.YtlecmpmfgeneoaaDoorDigAwake
namespace Go.Proofs.YtlecmpmfgeneoaaDoor.RefSha
open Go.RowKit Mur Sha

set_option maxHeartbeats 400000 in
theorem block_other (h : S8) (b : ByteArray) (w : World) (hs : b.size ≤ 140737488351232) (hb : ¬ b.size = 64) :
    Calls Tryd.prog 13 #[h.val, .string b] w fun e w' => e = .returned h.val ∧ Below w.heap.size w w' := by
  obtain ⟨a0, a1, a2, a3, a4, a5, a6, a7⟩ := h
  simp only [S8.val, S8.cells]
  have hd : ((b.size : Int) != 64) = true := by simp; omega
  have hd' : ((b.size : Int) == 64) = false := by simp; omega
  have HWC := Lib.hid (fun u => RefTwo.words_own b true u hs)
  clear hb
  go_enter Tryd.func13, Tryd.ntmps13
  go_wp2_with fail
  refine (HWC.out _).mono ?_
  rintro e w1 ⟨v, rfl, _, hb1⟩
  have hA : Whole w1 w.heap.size 23 (⟨a0, a1, a2, a3, a4, a5, a6, a7⟩ : S8).cells.toList := ((Whole.made' w _ (⟨a0, a1, a2, a3, a4, a5, a6, a7⟩ : S8).cells _ rfl).alloc (.cells zeros8.toArray 23)).below (by simp <;> omega) hb1
  have hZ : Whole w1 (w.heap.size + 1) 23 zeros8 := (show Whole ((w.alloc (.cells (⟨a0, a1, a2, a3, a4, a5, a6, a7⟩ : S8).cells 23)).alloc (.cells zeros8.toArray 23)) (w.heap.size + 1) 23 zeros8 from Whole.made' _ _ zeros8.toArray _ (by simp)).below (by simp <;> omega) hb1
  have hbel : Below w.heap.size w w1 := (((Below.refl _ _).alloc (Nat.le_refl _) _).alloc (by simp) _).trans (hb1.mono (by simp <;> omega))
  obtain ⟨c0, c1, c2, c3, c4, c5, c6, c7⟩ := whole_cells hA
  have HZ2 := Lib.hid (show w1.heap[w.heap.size + 1]? = some (.cells zeros8.toArray 23 (0, 0)) from hZ)
  have HZ := Lib.hid hZ
  have HB := Lib.hid hbel
  clear hA hZ hbel hb1
  dsimp only at c0 c1 c2 c3 c4 c5 c6 c7
  go_wp2_with ((with_reducible refine wpList_store_row rfl 23 (.tmp 4) (.tmp 17) rfl (w.heap.size + 1) #[.int .u32 (a0 : Int), .int .u32 (a1 : Int), .int .u32 (a2 : Int), .int .u32 (a3 : Int), .int .u32 (a4 : Int), .int .u32 (a5 : Int), .int .u32 (a6 : Int), .int .u32 (a7 : Int)] rfl rfl 23 zeros8.toArray HZ2.out (lit8 _ _ _ _ _ _ _ _).1 (lit8 _ _ _ _ _ _ _ _).2.1 (lit8 _ _ _ _ _ _ _ _).2.2 ?_))
  refine bodyPost_ret (v := .agg #[.int .u32 (a0 : Int), .int .u32 (a1 : Int), .int .u32 (a2 : Int), .int .u32 (a3 : Int), .int .u32 (a4 : Int), .int .u32 (a5 : Int), .int .u32 (a6 : Int), .int .u32 (a7 : Int)]) ?_ rfl ⟨rfl, below_setRow HB.out (by omega) _⟩
  exact results_whole (ty := 23) Tryd.results13 _ _ (w.heap.size + 1) 23 [.int .u32 (a0 : Int), .int .u32 (a1 : Int), .int .u32 (a2 : Int), .int .u32 (a3 : Int), .int .u32 (a4 : Int), .int .u32 (a5 : Int), .int .u32 (a6 : Int), .int .u32 (a7 : Int)] _ (by simp [Act.put]) (Whole.setRow HZ.out _) Tryd.underlying23 rfl (lit8 _ _ _ _ _ _ _ _).1

set_option maxHeartbeats 800000 in
theorem parts_ref (ls : List ByteArray) (b o cap : Nat) (w : World) (hb : b < w.heap.size) (hn : ls.length ≤ 1000000) (hcell : ∀ i (h : i < ls.length), w.cell? ⟨b, o + i, none⟩ = some (.string ls[i])) (hsum : partLong ls ls.length ≤ 1000000) :
    Calls Tryd.prog 17 #[.slice (some ⟨b, o, none⟩) ls.length cap] w fun e w' => e = .returned (.string ⟨(sha (parts (ls.map fun s => s.data.toList))).toArray⟩) ∧ Below w.heap.size w w' := by
  obtain ⟨PT, hPT⟩ : ∃ PT, PT = parts (ls.map fun s => s.data.toList) := ⟨_, rfl⟩
  rw [← hPT]
  have hall : partText ls ls.length = PT := by rw [partText_all, hPT]
  have hmono := fun k (h : k ≤ ls.length) => partLong_mono ls k ls.length h
  have HALL := Lib.hid hall
  have hC := Lib.hid hcell
  have HM := Lib.hid hmono
  have HB := Lib.hid hb
  clear hall hPT hcell hmono hb
  go_enter Tryd.func17, Tryd.ntmps17
  go_wp2
  go_loopw [3, 8] (fun v i wr => ∃ (k : Nat) (t : ByteArray), k ≤ ls.length ∧ i = .int .i64 k ∧ v = .string t ∧ t.data.toList = partText ls k ∧ Below w.heap.size w wr) (fun _ i _ => ls.length - (intOf i).toNat)
  case atStart => exact ⟨0, ⟨#[]⟩, by omega, rfl, rfl, rfl, Below.refl _ _⟩
  case round =>
    obtain ⟨k, t, hk, rfl, rfl, ht, hbel⟩ := hrel
    have hts : t.size = partLong ls k := by rw [← partText_length, ← ht]; rfl
    by_cases hlt : k < ls.length
    · have hc := (hbel.cell (p := ⟨b, o + k, none⟩) HB.out).trans (hC.out k hlt)
      have hm := HM.out (k + 1) hlt
      have hg : ls.getD k ByteArray.empty = ls[k] := by simp [List.getD, hlt]
      rw [partLong, hg] at hm
      have hstep : partText ls (k + 1) = (partText ls k ++ Lanes.high ls[k].size 4) ++ ls[k].data.toList := by rw [partText, hg]
      generalize ls[k] = x at *
      obtain ⟨H, hH⟩ : ∃ H : ByteArray, H = ⟨(Lanes.high x.size (Lanes.widthOf 4)).toArray⟩ := ⟨_, rfl⟩
      have hHs : H.size = 4 := by rw [hH]; show (Lanes.high x.size (Lanes.widthOf 4)).length = 4; simp only [Lanes.high, List.length_map, List.length_range]; rfl
      have hcH : ∀ u, Calls Tryd.prog 30 #[.int .u64 (x.size : Int), .int .i64 4] u fun e w' => e = .returned (.string H) ∧ Below u.heap.size u w' := fun u => by
        rw [hH]; exact RefOne.high_any x.size 4 u (by omega) (by omega) (by omega)
      have hnew : (t ++ (H ++ x)).data.toList = partText ls (k + 1) := by
        rw [hstep, ← ht]
        simp only [ByteArray.data_append, Array.toList_append, hH, List.append_assoc]
        rfl
      have hw1 : IntKind.u64.wrap (x.size : Int) = (x.size : Int) := by rw [IntKind.wrap_u64]; omega
      have n1 : ¬ 9223372036854775807 < H.size + x.size := by omega
      have n2 : ¬ 9223372036854775807 < t.size + (H.size + x.size) := by omega
      have n3 : (H ++ x).size = H.size + x.size := ByteArray.size_append
      have HCH := Lib.hid hcH
      have HNEW := Lib.hid hnew
      have HW := Lib.hid hbel
      clear hcH hnew hbel hstep hg hH hHs ht hts hm
      go_wp2_with fail
      refine (HCH.out _).mono ?_
      rintro e w2 ⟨rfl, hb2⟩
      have HB2 := Lib.hid (HW.out.trans (hb2.mono HW.out.size))
      clear hb2
      go_wp2
      go_roundw
      case rel => exact ⟨k + 1, _, by omega, by go_num, rfl, HNEW.out, HB2.out⟩
      case measure => simp [intOf]; omega
    · obtain rfl : k = ls.length := by omega
      have hof : Calls Tryd.prog 15 #[.string t] wr fun e w' => e = .returned (.string ⟨(sha PT).toArray⟩) ∧ Below wr.heap.size wr w' := by
        rw [← HALL.out, ← ht]
        exact of_any t wr (by omega)
      have HOF := Lib.hid hof
      have HW := Lib.hid hbel
      clear hof hbel ht hts
      go_wp2_with fail
      refine HOF.out.mono ?_
      rintro e w2 ⟨rfl, hb2⟩
      go_wp2
      go_ret
      exact ⟨rfl, HW.out.trans (hb2.mono HW.out.size)⟩

theorem parts_two (A B : ByteArray) (b : Nat) (w : World) (hs : A.size + B.size ≤ 3000) (hb : b < w.heap.size) (h0 : w.cell? ⟨b, 0, none⟩ = some (.string A)) (h1 : w.cell? ⟨b, 1, none⟩ = some (.string B)) :
    Calls Tryd.prog 17 #[.slice (some ⟨b, 0, none⟩) 2 2] w fun e w' => e = .returned (.string ⟨(sha (parts [A.data.toList, B.data.toList])).toArray⟩) ∧ Below w.heap.size w w' :=
  parts_ref [A, B] b 0 2 w hb (by show 2 ≤ _; omega) (fun i hi => by
    obtain rfl | rfl : i = 0 ∨ i = 1 := by have : [A, B].length = 2 := rfl; omega
    · exact h0
    · exact h1) (by show 0 + (4 + A.size) + (4 + B.size) ≤ _; omega)
end Go.Proofs.YtlecmpmfgeneoaaDoor.RefSha
