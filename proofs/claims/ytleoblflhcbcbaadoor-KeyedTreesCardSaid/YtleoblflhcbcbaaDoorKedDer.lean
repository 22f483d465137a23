/-
  The function Derive of package keyed answers what the plain mathematics of the text Ked says, and leaves all memory that was there as it was. Conditions: the key has no more than 2^45 bytes, the parts together, with two bytes for each, no more than 2^45, the constant table of package digest lies as the program's text lays it.
-/
import Derived.Test.YtleoblflhcbcbaaDoorKedExp
import Derived.Test.YtleoblflhcbcbaaDoorStrs
namespace Go.Proofs.YtleoblflhcbcbaaDoor.Ked
open Go.RowKit Mur Sha

/-- The parts and their lengths, as far as k. -/
def pieces (ls : List ByteArray) : Nat → List ByteArray
  | 0 => []
  | k + 1 => pieces ls k ++ [tx (Lanes.high (ls.getD k ByteArray.empty).size 2), ls.getD k ByteArray.empty]
theorem pieces_length (ls : List ByteArray) (k : Nat) : (pieces ls k).length = 2 * k := by
  induction k with
  | zero => rfl
  | succ k ih => rw [pieces, List.length_append, ih]; simp; omega
theorem pieces_text (ls : List ByteArray) (k : Nat) (h : k ≤ ls.length) : ((pieces ls k).map (·.data.toList)).flatten = infoOf ((ls.take k).map (·.data.toList)) := by
  induction k with
  | zero => rfl
  | succ k ih =>
    have hk : k < ls.length := by omega
    have e : ls.getD k ByteArray.empty = ls[k] := by simp [List.getD, hk]
    have e2 : ls[k].data.toList.length = ls[k].size := rfl
    rw [pieces, e, List.map_append, List.flatten_append, ih (by omega), List.take_succ_eq_append_getElem hk]
    simp only [infoOf, List.map_append, List.map_cons, List.map_nil, List.flatten_append, List.flatten_cons, List.flatten_nil, List.append_nil, e2]

set_option maxHeartbeats 1600000 in
theorem derive_any (key : ByteArray) (n : Int) (ls : List ByteArray) (X : ByteArray) (a : Option Addr) (b o cap : Nat) (w : World) (hkey : key.size ≤ 35184372088832) (ha : ls.length ≠ 0 → a = some ⟨b, o, none⟩ ∧ b < w.heap.size) (hcell : ∀ i (h : i < ls.length), w.cell? ⟨b, o + i, none⟩ = some (.string ls[i]))
    (hn : ls.length ≤ 1000000000) (hsum : (infoOf (ls.map (·.data.toList))).length ≤ 35184372088832) (hsz : ∀ s ∈ ls, s.size ≤ 35184372088832) (hX : X = tx (derive key.data.toList (many n) (ls.map (·.data.toList)))) (hc : Consts w) :
    Calls Tryd.prog 14 #[.string key, .int .i64 n, .slice a ls.length cap] w fun e w' => e = .returned (.string X) ∧ Below w.heap.size w w' := by
  obtain ⟨F, hF⟩ : ∃ F, F = infoOf (ls.map (·.data.toList)) := ⟨_, rfl⟩
  obtain ⟨E, hE⟩ : ∃ E, E = tx (mac salt key.data.toList) := ⟨_, rfl⟩
  have hEs : E.size ≤ 35184372088832 := by rw [hE]; show (mac _ _).length ≤ _; rw [mac_length]; omega
  have hFs : (tx F).size ≤ 35184372088832 := by rw [hF]; exact hsum
  have hext : ∀ u, Consts u → Calls Tryd.prog 10 #[.string ⟨#[109, 117, 114, 109, 117, 114]⟩, .string key] u fun e w' => e = .returned (.string E) ∧ Below u.heap.size u w' := fun u hu => extract_any ⟨#[109, 117, 114, 109, 117, 114]⟩ key E u (by decide) (by omega) hE hu
  have hexp : ∀ u, Consts u → Calls Tryd.prog 12 #[.string E, .string (tx F), .int .i64 n] u fun e w' => e = .returned (.string X) ∧ Below u.heap.size u w' := fun u hu => expand_any E (tx F) X n u hEs hFs (by rw [hX, hE, hF]; rfl) hu
  have hpc : F = ((pieces ls ls.length).map (·.data.toList)).flatten := by rw [pieces_text ls _ (Nat.le_refl _), List.take_length, hF]
  have hFl : F.length ≤ 140737488355328 := by have : (tx F).size = F.length := rfl; omega
  have HEXT := Lib.hid hext
  have HEXP := Lib.hid hexp
  have HPC := Lib.hid hpc
  have HC := Lib.hid hc
  have HA := Lib.hid ha
  have HCL := Lib.hid hcell
  have HSZ := Lib.hid hsz
  clear hext hexp hpc hc ha hcell hX hE hEs hFs hF hsum hsz
  go_enter Tryd.func14, Tryd.ntmps14
  go_wp2_with fail
  have hown0 := World.ownsRow_made (base := w.heap.size) (e := 9) (size := 1) w #[] 0 (Nat.le_refl _) (Nat.zero_le _) rfl
  have HOWN0 := Lib.hid hown0
  clear hown0
  go_loopw [7, 13] (fun v i wr => ∃ k : Nat, k ≤ ls.length ∧ i = .int .i64 k ∧ wr.ownsRow w.heap.size 9 1 v (2 * k) (Strs.strsV (pieces ls k)) ∧ Below w.heap.size w wr) (fun _ i _ => ls.length - (intOf i).toNat)
  case atStart => exact ⟨0, by omega, rfl, HOWN0.out, (Below.refl _ _).alloc (Nat.le_refl _) _⟩
  case round =>
    clear HOWN0
    obtain ⟨k, hk, rfl, hown, hbel⟩ := hrel
    by_cases hlt : k < ls.length
    · obtain ⟨rfl, hbb⟩ := HA.out (by omega)
      have hcc := (hbel.cell (p := ⟨b, o + k, none⟩) hbb).trans (HCL.out k hlt)
      have hx := HSZ.out ls[k] (List.getElem_mem hlt)
      have hg : ls.getD k ByteArray.empty = ls[k] := by simp [List.getD, hlt]
      have hstep : pieces ls (k + 1) = pieces ls k ++ [tx (Lanes.high ls[k].size 2), ls[k]] := by rw [pieces, hg]
      generalize ls[k] = x at *
      obtain ⟨H, hH⟩ : ∃ H : ByteArray, H = tx (Lanes.high x.size 2) := ⟨_, rfl⟩
      rw [← hH] at hstep
      have hh : ∀ u, Calls Tryd.prog 32 #[.int .u64 (x.size : Int), .int .i64 2] u fun e w' => e = .returned (.string H) ∧ Below u.heap.size u w' := fun u => by
        have := Lanes.high_any x.size 2 u (by omega) (by omega) (by omega)
        rw [hH]; exact this
      have HH := Lib.hid hh
      have HS := Lib.hid hstep
      have HOWN := Lib.hid hown
      have HW := Lib.hid hbel
      have hx0 : 0 ≤ (x.size : Int) := by omega
      clear hh hstep hg hH hown hbel
      go_wp2_with fail
      refine (HH.out _).mono ?_
      rintro e w2 ⟨rfl, hb2⟩
      have HOWN2 := Lib.hid (Strs.own_below HOWN.out hb2)
      have HW2 := Lib.hid (HW.out.trans (hb2.mono HW.out.size))
      clear hb2 HOWN HW hcc
      go_wp2_with (at_builtin; refine Strs.append_strs rfl _ _ rfl w.heap.size (2 * k) _ (pieces ls k) rfl (HOWN2.out.alloc _) w2.heap.size 2 2 [H, x] rfl rfl (Strs.new_two _ _ _ _) (by omega) (Nat.le_trans HW2.out.size (by simp)) ?_)
      intro v' w3 hown3 hgrow3
      have HW3 := Lib.hid ((HW2.out.alloc HW2.out.size (.cells #[.string H, .string x] 9)).grown hgrow3 (Nat.le_trans HW2.out.size (by simp)) (fun j hj => (HOWN2.out.lt j hj).1))
      rw [← HS.out] at hown3
      have HOWN3 := Lib.hid hown3
      clear hown3 hgrow3 HOWN2 HW2
      go_wp2
      go_roundw
      case rel => exact ⟨k + 1, by omega, by go_num, HOWN3.out, HW3.out⟩
      case measure => simp [intOf]; omega
    · obtain rfl : k = ls.length := by omega
      have HOWN := Lib.hid hown
      have HW := Lib.hid hbel
      clear hown hbel
      go_wp2_with fail
      refine (HEXT.out _ (HC.out.below HC.out.1 HW.out)).mono ?_
      rintro e w2 ⟨rfl, hb2⟩
      have HOWN2 := Lib.hid (Strs.own_below HOWN.out hb2)
      have HW2 := Lib.hid (HW.out.trans (hb2.mono HW.out.size))
      clear hb2 HOWN HW
      go_wp2_with fail
      refine (Strs.join_own w.heap.size (2 * ls.length) _ (pieces ls ls.length) F _ HOWN2.out HPC.out (by omega) hFl).mono ?_
      rintro e w3 ⟨rfl, hb3⟩
      have HW3 := Lib.hid (HW2.out.trans (hb3.mono HW2.out.size))
      clear hb3 HOWN2 HW2
      go_wp2_with fail
      refine (HEXP.out _ (HC.out.below HC.out.1 HW3.out)).mono ?_
      rintro e w4 ⟨rfl, hb4⟩
      go_wp2
      go_ret
      exact ⟨rfl, HW3.out.trans (hb4.mono HW3.out.size)⟩
end Go.Proofs.YtleoblflhcbcbaaDoor.Ked
