/-
  The function Parts of package digest answers what the plain mathematics of the text Sha says, and leaves all memory that was there as it was. Conditions: the texts together take no more than the reach of the form, the constant table lies as the program's text lays it.
-/
import Derived.Test.YtncafbejgidliaaDoorDigOf
import Derived.Test.YtncafbejgidliaaDoorUseKeep
namespace Go.Proofs.YtncafbejgidliaaDoor.Sha
open Go.RowKit Mur
set_option maxRecDepth 100000

/-- The texts one behind the other, each with its length ahead, as far as k; how many bytes that are. -/
def partLong (ls : List ByteArray) : Nat → Nat
  | 0 => 0
  | k + 1 => partLong ls k + (4 + (ls.getD k ByteArray.empty).size)
def partText (ls : List ByteArray) : Nat → List UInt8
  | 0 => []
  | k + 1 => (partText ls k ++ Lanes.high (ls.getD k ByteArray.empty).size 4) ++ (ls.getD k ByteArray.empty).data.toList
theorem partText_length (ls : List ByteArray) (k : Nat) : (partText ls k).length = partLong ls k := by
  induction k with
  | zero => rfl
  | succ k ih =>
    have e : (ls.getD k ByteArray.empty).data.toList.length = (ls.getD k ByteArray.empty).size := rfl
    simp only [partText, partLong, List.length_append, ih, Lanes.high, List.length_map, List.length_range, e]
    omega
theorem partLong_mono (ls : List ByteArray) (k n : Nat) (h : k ≤ n) : partLong ls k ≤ partLong ls n := by
  induction n with
  | zero => have : k = 0 := by omega
            subst this; exact Nat.le_refl _
  | succ n ih =>
    by_cases e : k = n + 1
    · subst e; exact Nat.le_refl _
    · exact Nat.le_trans (ih (by omega)) (by rw [partLong]; omega)
theorem partText_take (ls : List ByteArray) (k : Nat) (h : k ≤ ls.length) : partText ls k = parts ((ls.take k).map fun s => s.data.toList) := by
  induction k with
  | zero => rfl
  | succ k ih =>
    have hk : k < ls.length := by omega
    have e : ls.getD k ByteArray.empty = ls[k] := by simp [List.getD, hk]
    rw [partText, ih (by omega), List.take_succ_eq_append_getElem hk, e]
    have e2 : ls[k].data.toList.length = ls[k].size := rfl
    simp only [parts, List.map_append, List.map_cons, List.map_nil, List.flatten_append, List.flatten_cons, List.flatten_nil, List.append_nil, List.append_assoc, e2]
theorem partText_all (ls : List ByteArray) : partText ls ls.length = parts (ls.map fun s => s.data.toList) := by
  rw [partText_take ls _ (Nat.le_refl _), List.take_length]

set_option maxHeartbeats 1600000 in
theorem parts_any (ls : List ByteArray) (b o cap : Nat) (w : World) (hb : b < w.heap.size) (hn : ls.length ≤ 140737488351232) (hcell : ∀ i (h : i < ls.length), w.cell? ⟨b, o + i, none⟩ = some (.string ls[i])) (hsum : partLong ls ls.length ≤ 140737488351232) (hk : Consts w) :
    Calls Tryd.prog 46 #[.slice (some ⟨b, o, none⟩) ls.length cap] w fun e w' => e = .returned (.string ⟨(sha (parts (ls.map fun s => s.data.toList))).toArray⟩) ∧ Below w.heap.size w w' := by
  obtain ⟨PT, hPT⟩ : ∃ PT, PT = parts (ls.map fun s => s.data.toList) := ⟨_, rfl⟩
  rw [← hPT]
  have hall : partText ls ls.length = PT := by rw [partText_all, hPT]
  have hPl : (⟨PT.toArray⟩ : ByteArray).size ≤ 140737488351232 := by
    show PT.length ≤ _
    rw [← hall, partText_length]; exact hsum
  have HPL0 := Lib.hid hPl
  have HALL := Lib.hid hall
  clear hall hPT hPl
  have hmono := fun k (h : k ≤ ls.length) => partLong_mono ls k ls.length h
  have hC := Lib.hid hcell
  have HK := Lib.hid hk
  have HM := Lib.hid hmono
  have HB := Lib.hid hb
  clear hcell hk hmono hb
  go_enter Tryd.func46, Tryd.ntmps46
  go_wp2
  go_loop [3, 5, 11] (fun n _ i => ∃ k : Nat, k ≤ ls.length ∧ i = .int .i64 k ∧ n = .int .i64 (partLong ls k)) (fun _ _ i => ls.length - (intOf i).toNat)
  case atStart => exact ⟨0, by omega, rfl, rfl⟩
  case round =>
    obtain ⟨k, hk, rfl, rfl⟩ := hrel
    by_cases hlt : k < ls.length
    · have hc := hC.out k hlt
      have hm := HM.out (k + 1) hlt
      have hg : ls.getD k ByteArray.empty = ls[k] := by simp [List.getD, hlt]
      rw [partLong, hg] at hm
      have hstep : partLong ls (k + 1) = partLong ls k + (4 + ls[k].size) := by rw [partLong, hg]
      have HS := Lib.hid hstep
      clear hstep hg
      generalize ls[k] = x at *
      go_wp2
      go_round
      case rel => exact ⟨k + 1, by omega, by go_num, by rw [HS.out]; go_num⟩
      case measure => simp [intOf]; omega
    · obtain rfl : k = ls.length := by omega
      go_wp2_with fail
      refine (Use.grow_any w.heap.size w.heap.size (partLong ls ls.length) _ (Nat.le_refl _) (_root_.Go.heap_alloc_new w _) (by simp) (by omega)).mono ?_
      rintro e w1 ⟨rfl, hbu, hb1⟩
      have hbel : Below w.heap.size w w1 := ((Below.refl _ _).alloc (Nat.le_refl _) _).trans hb1
      have HBU := Lib.hid hbu
      have HW := Lib.hid hbel
      clear hbu hb1 hbel
      go_wp2_with fail
      go_loopw [8, 26] (fun _ i wr => ∃ k : Nat, k ≤ ls.length ∧ i = .int .i64 k ∧ Lib.IsBuilder 49 5 w.heap.size w.heap.size (Lib.byteCells (partText ls k)) wr ∧ Below w.heap.size w wr) (fun _ i _ => ls.length - (intOf i).toNat)
      case atStart => exact ⟨0, by omega, rfl, HBU.out, HW.out⟩
      case round =>
        clear HBU HW
        obtain ⟨k, hk, rfl, hbu, hbel⟩ := hrel
        by_cases hlt : k < ls.length
        · have hc := (hbel.cell (p := ⟨b, o + k, none⟩) HB.out).trans (hC.out k hlt)
          have hm := HM.out (k + 1) hlt
          have hg : ls.getD k ByteArray.empty = ls[k] := by simp [List.getD, hlt]
          rw [partLong, hg] at hm
          have hstep : partText ls (k + 1) = (partText ls k ++ Lanes.high ls[k].size 4) ++ ls[k].data.toList := by rw [partText, hg]
          have hpl := partText_length ls k
          have HS := Lib.hid hstep
          have HPL := Lib.hid hpl
          have HBU := Lib.hid hbu
          have HW := Lib.hid hbel
          clear hstep hg hpl hbu hbel
          generalize ls[k] = x at *
          have hx0 : 0 ≤ (x.size : Int) := by omega
          have hxs : x.size < 18446744073709551616 := by omega
          go_wp2_with fail
          refine (Lanes.high_any x.size 4 _ hxs (by omega) (by omega)).mono ?_
          rintro e w2 ⟨rfl, hb2⟩
          have hbu2 := isBuilder_below HBU.out hb2
          have hbel2 := HW.out.trans (hb2.mono HW.out.size)
          have HBU2 := Lib.hid hbu2
          have HW2 := Lib.hid hbel2
          clear hb2 hbu2 hbel2 HBU HW
          go_wp2_with fail
          refine (Use.write_any w.heap.size w.heap.size (partText ls k) _ _ HBU2.out (by rw [HPL.out]; show _ + (Lanes.high x.size (Lanes.widthOf 4)).length ≤ _; simp only [Lanes.high, List.length_map, List.length_range]; show _ + 4 ≤ _; omega) HW2.out.size).mono ?_
          rintro e w3 ⟨rfl, hbu3, hb3⟩
          have hbel3 := HW2.out.trans hb3
          have HBU3 := Lib.hid hbu3
          have HW3 := Lib.hid hbel3
          clear hb3 hbu3 hbel3 HBU2 HW2
          go_wp2_with fail
          refine (Use.write_any w.heap.size w.heap.size (partText ls k ++ Lanes.high x.size 4) _ _ HBU3.out (by rw [List.length_append, HPL.out]; simp only [Lanes.high, List.length_map, List.length_range]; omega) HW3.out.size).mono ?_
          rintro e w4 ⟨rfl, hbu4, hb4⟩
          have hbel4 := HW3.out.trans hb4
          rw [← HS.out] at hbu4
          have HBU4 := Lib.hid hbu4
          have HW4 := Lib.hid hbel4
          clear hb4 hbu4 hbel4 HBU3 HW3
          go_wp2
          go_roundw
          case rel => exact ⟨k + 1, by omega, by go_num, HBU4.out, HW4.out⟩
          case measure => simp [intOf]; omega
        · obtain rfl : k = ls.length := by omega
          rw [HALL.out] at hbu
          have HBU := Lib.hid hbu
          have HW := Lib.hid hbel
          clear hbu hbel
          go_wp2_with fail
          refine (Use.string_any w.heap.size w.heap.size _ _ HBU.out HW.out.size).mono ?_
          rintro e w2 ⟨rfl, hb2⟩
          have hbel2 := HW.out.trans hb2
          have HW2 := Lib.hid hbel2
          clear hb2 hbel2 HW HBU
          go_wp2_with fail
          refine (of_any ⟨PT.toArray⟩ _ HPL0.out (HK.out.below HK.out.1 HW2.out)).mono ?_
          rintro e w3 ⟨rfl, hb3⟩
          go_wp2
          go_ret
          exact ⟨rfl, HW2.out.trans (hb3.mono HW2.out.size)⟩
end Go.Proofs.YtncafbejgidliaaDoor.Sha
