/-
  The document's own answer for Parts of layer 2 answers what the plain mathematics of the text Sha says (XRefParts' part that calls no Block). Conditions: the texts have together no more than a million bytes.
-/
import Derived.Test.YtncafbejgidliaaDoorRefOf
import Derived.Test.YtncafbejgidliaaDoorDigParts
namespace Go.Proofs.YtncafbejgidliaaDoor.RefSha
open Go.RowKit Mur Sha
set_option maxRecDepth 100000

set_option maxHeartbeats 800000 in
theorem parts_ref (ls : List ByteArray) (b o cap : Nat) (w : World) (hb : b < w.heap.size) (hn : ls.length ≤ 1000000) (hcell : ∀ i (h : i < ls.length), w.cell? ⟨b, o + i, none⟩ = some (.string ls[i])) (hsum : partLong ls ls.length ≤ 1000000) :
    Calls Tryd.prog 42 #[.slice (some ⟨b, o, none⟩) ls.length cap] w fun e w' => e = .returned (.string ⟨(sha (parts (ls.map fun s => s.data.toList))).toArray⟩) ∧ Below w.heap.size w w' := by
  obtain ⟨PT, hPT⟩ : ∃ PT, PT = parts (ls.map fun s => s.data.toList) := ⟨_, rfl⟩
  rw [← hPT]
  have hall : partText ls ls.length = PT := by rw [partText_all, hPT]
  have hmono := fun k (h : k ≤ ls.length) => partLong_mono ls k ls.length h
  have HALL := Lib.hid hall
  have hC := Lib.hid hcell
  have HM := Lib.hid hmono
  have HB := Lib.hid hb
  clear hall hPT hcell hmono hb
  go_enter Tryd.func42, Tryd.ntmps42
  go_wp2
  go_loopw [3, 8] (fun v i wr => ∃ (k : Nat) (t : ByteArray), k ≤ ls.length ∧ i = .int .i64 k ∧ v = .string t ∧ t.data.toList = partText ls k ∧ Below w.heap.size w wr) (fun _ i _ => ls.length - (intOf i).toNat)
  case atStart => exact ⟨0, ⟨#[]⟩, by omega, rfl, rfl, rfl, Below.refl _ _⟩
  case round =>
    obtain ⟨k, t, hk, rfl, rfl, ht, hbel⟩ := hrel
    have hts : t.size = partLong ls k := by rw [← partText_length, ← ht]; rfl
    by_cases hlt : k < ls.length
    · have hc := (hbel.cell (p := ⟨b, o + k, none⟩) HB.out).trans (hC.out k hlt)
      have hm := HM.out (k + 1) hlt
      have hg : ls.getD k ByteArray.empty = ls[k] := by simp [List.getD, hlt]
      rw [partLong, hg] at hm
      have hstep : partText ls (k + 1) = (partText ls k ++ Lanes.high ls[k].size 4) ++ ls[k].data.toList := by rw [partText, hg]
      generalize ls[k] = x at *
      obtain ⟨H, hH⟩ : ∃ H : ByteArray, H = ⟨(Lanes.high x.size (Lanes.widthOf 4)).toArray⟩ := ⟨_, rfl⟩
      have hHs : H.size = 4 := by rw [hH]; show (Lanes.high x.size (Lanes.widthOf 4)).length = 4; simp only [Lanes.high, List.length_map, List.length_range]; rfl
      have hcH : ∀ u, Calls Tryd.prog 43 #[.int .u64 (x.size : Int), .int .i64 4] u fun e w' => e = .returned (.string H) ∧ Below u.heap.size u w' := fun u => by
        rw [hH]; exact RefOne.high_any x.size 4 u (by omega) (by omega) (by omega)
      have hnew : (t ++ (H ++ x)).data.toList = partText ls (k + 1) := by
        rw [hstep, ← ht]
        simp only [ByteArray.data_append, Array.toList_append, hH, List.append_assoc]
        rfl
      have hw1 : IntKind.u64.wrap (x.size : Int) = (x.size : Int) := by rw [IntKind.wrap_u64]; omega
      have n1 : ¬ 9223372036854775807 < H.size + x.size := by omega
      have n2 : ¬ 9223372036854775807 < t.size + (H.size + x.size) := by omega
      have n3 : (H ++ x).size = H.size + x.size := ByteArray.size_append
      have HCH := Lib.hid hcH
      have HNEW := Lib.hid hnew
      have HW := Lib.hid hbel
      clear hcH hnew hbel hstep hg hH hHs ht hts hm
      go_wp2_with fail
      refine (HCH.out _).mono ?_
      rintro e w2 ⟨rfl, hb2⟩
      have HB2 := Lib.hid (HW.out.trans (hb2.mono HW.out.size))
      clear hb2
      go_wp2
      go_roundw
      case rel => exact ⟨k + 1, _, by omega, by go_num, rfl, HNEW.out, HB2.out⟩
      case measure => simp [intOf]; omega
    · obtain rfl : k = ls.length := by omega
      have hof : Calls Tryd.prog 53 #[.string t] wr fun e w' => e = .returned (.string ⟨(sha PT).toArray⟩) ∧ Below wr.heap.size wr w' := by
        rw [← HALL.out, ← ht]
        exact of_any t wr (by omega)
      have HOF := Lib.hid hof
      have HW := Lib.hid hbel
      clear hof hbel ht hts
      go_wp2_with fail
      refine HOF.out.mono ?_
      rintro e w2 ⟨rfl, hb2⟩
      go_wp2
      go_ret
      exact ⟨rfl, HW.out.trans (hb2.mono HW.out.size)⟩
end Go.Proofs.YtncafbejgidliaaDoor.RefSha
