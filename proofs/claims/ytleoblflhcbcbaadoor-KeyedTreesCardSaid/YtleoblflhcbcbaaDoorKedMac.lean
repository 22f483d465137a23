/-
  The functions Mac and Extract of package keyed answer what the plain mathematics of the text Ked says, and leave all memory that was there as it was. Conditions: key and text have no more than 2^46 bytes, the constant table of package digest lies as the program's text lays it.
-/
import Derived.Test.YtleoblflhcbcbaaDoorKed
import Derived.Test.YtleoblflhcbcbaaDoorUseMore
import Derived.Test.YtleoblflhcbcbaaDoorDigOf
namespace Go.Proofs.YtleoblflhcbcbaaDoor.Ked
open Go.RowKit Mur Sha

/-- A text as a value. -/
abbrev tx (l : List UInt8) : ByteArray := ⟨l.toArray⟩
theorem tx_list (l : List UInt8) : (tx l).data.toList = l := rfl
theorem tx_size (l : List UInt8) : (tx l).size = l.length := rfl

set_option maxHeartbeats 800000 in
theorem digestOf_two (a b : ByteArray) (bk : Nat) (D : ByteArray) (w : World) (hbk : bk < w.heap.size) (h0 : w.cell? ⟨bk, 0, none⟩ = some (.string a)) (h1 : w.cell? ⟨bk, 1, none⟩ = some (.string b)) (hs : a.size + b.size ≤ 140737488351232) (hD : D = tx (sha (a.data.toList ++ b.data.toList))) (hk : Consts w) :
    Calls Tryd.prog 26 #[.slice (some ⟨bk, 0, none⟩) 2 2] w fun e w' => e = .returned (.string D) ∧ Below w.heap.size w w' := by
  have hl : ((tx (a.data.toList ++ b.data.toList)).size : Nat) = a.size + b.size := by
    show (a.data.toList ++ b.data.toList).length = _
    rw [List.length_append]; rfl
  obtain ⟨F, hF⟩ : ∃ F, F = a.data.toList ++ b.data.toList := ⟨_, rfl⟩
  rw [← hF] at hl hD
  have hj : ∀ u : World, u = w → Calls Tryd.prog 35 #[.slice (some ⟨bk, 0, none⟩) 2 2, .string ⟨#[]⟩] u fun e w' => e = .returned (.string (tx F)) ∧ Below w.heap.size u w' := fun u hu => by
    subst hu
    exact Use.join_any bk 0 2 [a, b] F u (fun j x hx => by
      match j, hx with
      | 0, hx => cases hx; exact h0
      | 1, hx => cases hx; exact h1) hbk (by simp) (by simp) (by rw [hF]; simp) (by have : F.length = (tx F).size := rfl; omega)
  have HJ := Lib.hid hj
  have HK := Lib.hid hk
  have hsz : (tx F).size ≤ 140737488351232 := by omega
  have HD := Lib.hid hD
  clear hj hk hF hD hl h0 h1
  go_enter Tryd.func26, Tryd.ntmps26
  go_wp2_with fail
  refine (HJ.out _ rfl).mono ?_
  rintro e w1 ⟨rfl, hb1⟩
  have HB1 := Lib.hid hb1
  clear hb1
  go_wp2_with fail
  refine (of_any (tx F) _ hsz (HK.out.below HK.out.1 HB1.out)).mono ?_
  rintro e w2 ⟨rfl, hb2⟩
  go_wp2
  go_ret
  exact ⟨by rw [HD.out]; rfl, HB1.out.trans (hb2.mono HB1.out.size)⟩

theorem repeat_one (x : UInt8) (n : Nat) : Lib.repeatL [x] n = List.replicate n x := by
  induction n with
  | zero => rfl
  | succ n ih =>
    show [x] ++ Lib.repeatL [x] n = _
    rw [ih]; rfl

set_option maxHeartbeats 800000 in
theorem keyBlock_any (k : ByteArray) (x : UInt8) (P : ByteArray) (w : World) (hk : k.size ≤ 64) (hP : P = tx (pad k.data.toList x)) :
    Calls Tryd.prog 27 #[.string k, .string ⟨#[x]⟩] w fun e w' => e = .returned (.string P) ∧ Below w.heap.size w w' := by
  have hr : ∀ u, Calls Tryd.prog 42 #[.string ⟨#[x]⟩, .int .i64 64] u fun e w' => e = .returned (.string (tx (List.replicate 64 x))) ∧ Below u.heap.size u w' := fun u => by
    have := Use.repeat_any ⟨#[x]⟩ 64 u (by omega) (by show 1 * 64 ≤ _; omega)
    have e : Lib.repeatL (⟨#[x]⟩ : ByteArray).data.toList 64 = List.replicate 64 x := repeat_one x 64
    rw [e] at this
    exact this
  have hx : ∀ u, Calls Tryd.prog 41 #[.string (tx (List.replicate 64 x)), .string k] u fun e w' => e = .returned (.string P) ∧ Below u.heap.size u w' := fun u => by
    have := LanesXor.xor_any (tx (List.replicate 64 x)) k u (by show (List.replicate 64 x).length ≤ _; simp) (by omega)
    have e : LanesXor.xorS (tx (List.replicate 64 x)) k = P := by
      rw [hP, pad, short_of_le _ hk]; rfl
    rw [e] at this
    exact this
  have HR := Lib.hid hr
  have HX := Lib.hid hx
  clear hr hx hP
  generalize tx (List.replicate 64 x) = R at *
  go_enter Tryd.func27, Tryd.ntmps27
  go_wp2_with fail
  refine (HR.out _).mono ?_
  rintro e w1 ⟨rfl, hb1⟩
  have HB1 := Lib.hid hb1
  clear hb1
  go_wp2_with fail
  refine (HX.out _).mono ?_
  rintro e w2 ⟨rfl, hb2⟩
  go_wp2
  go_ret
  exact ⟨rfl, HB1.out.trans (hb2.mono HB1.out.size)⟩

set_option maxHeartbeats 1600000 in
theorem mac_any (k s M : ByteArray) (w : World) (hk : k.size ≤ 70368744177664) (hs : s.size ≤ 70368744177664) (hM : M = tx (mac k.data.toList s.data.toList)) (hc : Consts w) :
    Calls Tryd.prog 8 #[.string k, .string s] w fun e w' => e = .returned (.string M) ∧ Below w.heap.size w w' := by
  obtain ⟨K, hK⟩ : ∃ K, K = tx (short k.data.toList) := ⟨_, rfl⟩
  have hKs : K.size ≤ 64 := by rw [hK]; exact short_length _
  obtain ⟨P, hP⟩ : ∃ P, P = tx (pad K.data.toList 92) := ⟨_, rfl⟩
  obtain ⟨R, hR⟩ : ∃ R, R = tx (pad K.data.toList 54) := ⟨_, rfl⟩
  obtain ⟨D, hD⟩ : ∃ D, D = tx (sha (R.data.toList ++ s.data.toList)) := ⟨_, rfl⟩
  have hPs : P.size = 64 := by rw [hP]; exact pad_length _ _
  have hRs : R.size = 64 := by rw [hR]; exact pad_length _ _
  have hDs : D.size = 32 := by rw [hD]; exact sha_length _
  have hM2 : M = tx (sha (P.data.toList ++ D.data.toList)) := by
    rw [hM, ← mac_short, mac, hP, hD, hR, hK]
  have hp : ∀ u, Calls Tryd.prog 27 #[.string K, .string ⟨#[92]⟩] u fun e w' => e = .returned (.string P) ∧ Below u.heap.size u w' := fun u => keyBlock_any K 92 P u hKs hP
  have hq : ∀ u, Calls Tryd.prog 27 #[.string K, .string ⟨#[54]⟩] u fun e w' => e = .returned (.string R) ∧ Below u.heap.size u w' := fun u => keyBlock_any K 54 R u hKs hR
  have hi : ∀ (u : World) (bk : Nat), bk < u.heap.size → u.cell? ⟨bk, 0, none⟩ = some (.string R) → u.cell? ⟨bk, 1, none⟩ = some (.string s) → Consts u → Calls Tryd.prog 26 #[.slice (some ⟨bk, 0, none⟩) 2 2] u fun e w' => e = .returned (.string D) ∧ Below u.heap.size u w' := fun u bk hb h0 h1 hc => digestOf_two R s bk D u hb h0 h1 (by omega) hD hc
  have ho : ∀ (u : World) (bk : Nat), bk < u.heap.size → u.cell? ⟨bk, 0, none⟩ = some (.string P) → u.cell? ⟨bk, 1, none⟩ = some (.string D) → Consts u → Calls Tryd.prog 26 #[.slice (some ⟨bk, 0, none⟩) 2 2] u fun e w' => e = .returned (.string M) ∧ Below u.heap.size u w' := fun u bk hb h0 h1 hc => digestOf_two P D bk M u hb h0 h1 (by omega) hM2 hc
  have hdig : 64 < k.size → ∀ u, Consts u → Calls Tryd.prog 16 #[.string k] u fun e w' => e = .returned (.string K) ∧ Below u.heap.size u w' := fun h u hu => by
    have := of_any k u (by omega) hu
    have e : K = tx (sha k.data.toList) := by rw [hK, short, if_pos (by exact h)]
    rw [e]; exact this
  have hsame : ¬ 64 < k.size → k = K := fun h => by rw [hK, short_of_le _ (by have : k.data.toList.length = k.size := rfl; omega)]
  have HP := Lib.hid hp
  have HQ := Lib.hid hq
  have HI := Lib.hid hi
  have HO := Lib.hid ho
  have HC := Lib.hid hc
  clear hp hq hi ho hc hM hM2 hD hP hR hPs hRs hDs hK
  by_cases hlt : 64 < k.size
  · have hd : decide (64 < (k.size : Int)) = true := by simp; omega
    have HDG := Lib.hid (hdig hlt)
    clear hdig hsame
    go_enter Tryd.func8, Tryd.ntmps8
    go_wp2_with fail
    refine (HDG.out _ HC.out).mono ?_
    rintro e w1 ⟨rfl, hb1⟩
    have HB1 := Lib.hid hb1
    clear hb1
    go_wp2_with fail
    refine (HP.out _).mono ?_
    rintro e w2 ⟨rfl, hb2⟩
    have HB2 := Lib.hid (HB1.out.trans (hb2.mono HB1.out.size))
    clear hb2 HB1
    go_wp2_with fail
    refine (HQ.out _).mono ?_
    rintro e w3 ⟨rfl, hb3⟩
    have HB3 := Lib.hid (HB2.out.trans (hb3.mono HB2.out.size))
    clear hb3 HB2
    go_wp2_with fail
    refine (HI.out _ w3.heap.size (by simp) (by simp [World.cell?_alloc_new]) (by simp [World.cell?_alloc_new]) (HC.out.below HC.out.1 (HB3.out.alloc HB3.out.size _))).mono ?_
    rintro e w4 ⟨rfl, hb4⟩
    have HB4 := Lib.hid ((HB3.out.alloc HB3.out.size _).trans (hb4.mono (HB3.out.alloc HB3.out.size _).size))
    clear hb4 HB3
    go_wp2_with fail
    refine (HO.out _ w4.heap.size (by simp) (by simp [World.cell?_alloc_new]) (by simp [World.cell?_alloc_new]) (HC.out.below HC.out.1 (HB4.out.alloc HB4.out.size _))).mono ?_
    rintro e w5 ⟨rfl, hb5⟩
    have HB5 := Lib.hid ((HB4.out.alloc HB4.out.size _).trans (hb5.mono (HB4.out.alloc HB4.out.size _).size))
    clear hb5 HB4
    go_wp2
    go_ret
    exact ⟨rfl, HB5.out⟩
  · have hd : decide (64 < (k.size : Int)) = false := by simp; omega
    obtain rfl := hsame hlt
    clear hdig hsame
    go_enter Tryd.func8, Tryd.ntmps8
    go_wp2_with fail
    refine (HP.out _).mono ?_
    rintro e w2 ⟨rfl, hb2⟩
    have HB2 := Lib.hid hb2
    clear hb2
    go_wp2_with fail
    refine (HQ.out _).mono ?_
    rintro e w3 ⟨rfl, hb3⟩
    have HB3 := Lib.hid (HB2.out.trans (hb3.mono HB2.out.size))
    clear hb3 HB2
    go_wp2_with fail
    refine (HI.out _ w3.heap.size (by simp) (by simp [World.cell?_alloc_new]) (by simp [World.cell?_alloc_new]) (HC.out.below HC.out.1 (HB3.out.alloc HB3.out.size _))).mono ?_
    rintro e w4 ⟨rfl, hb4⟩
    have HB4 := Lib.hid ((HB3.out.alloc HB3.out.size _).trans (hb4.mono (HB3.out.alloc HB3.out.size _).size))
    clear hb4 HB3
    go_wp2_with fail
    refine (HO.out _ w4.heap.size (by simp) (by simp [World.cell?_alloc_new]) (by simp [World.cell?_alloc_new]) (HC.out.below HC.out.1 (HB4.out.alloc HB4.out.size _))).mono ?_
    rintro e w5 ⟨rfl, hb5⟩
    have HB5 := Lib.hid ((HB4.out.alloc HB4.out.size _).trans (hb5.mono (HB4.out.alloc HB4.out.size _).size))
    clear hb5 HB4
    go_wp2
    go_ret
    exact ⟨rfl, HB5.out⟩

set_option maxHeartbeats 400000 in
theorem extract_any (k s M : ByteArray) (w : World) (hk : k.size ≤ 70368744177664) (hs : s.size ≤ 70368744177664) (hM : M = tx (mac k.data.toList s.data.toList)) (hc : Consts w) :
    Calls Tryd.prog 10 #[.string k, .string s] w fun e w' => e = .returned (.string M) ∧ Below w.heap.size w w' := by
  have HM := Lib.hid (fun u hu => mac_any k s M u hk hs hM hu)
  have HC := Lib.hid hc
  clear hM hc
  go_enter Tryd.func10, Tryd.ntmps10
  go_wp2_with fail
  refine (HM.out _ HC.out).mono ?_
  rintro e w1 ⟨rfl, hb1⟩
  go_wp2
  go_ret
  exact ⟨rfl, hb1⟩
end Go.Proofs.YtleoblflhcbcbaaDoor.Ked
