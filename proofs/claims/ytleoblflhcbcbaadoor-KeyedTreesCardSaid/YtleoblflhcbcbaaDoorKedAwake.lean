/-
  The example of layer 3's statements answers true, and leaves all memory that was there as it was. Condition: the constant table of package digest lies as the program's text lays it.
-/
import Derived.Test.YtleoblflhcbcbaaDoorKedDer
namespace Go.Proofs.YtleoblflhcbcbaaDoor.Ked
open Go.RowKit Mur Sha

def foxT : List UInt8 := [84, 104, 101, 32, 113, 117, 105, 99, 107, 32, 98, 114, 111, 119, 110, 32, 102, 111, 120, 32, 106, 117, 109, 112, 115, 32, 111, 118, 101, 114, 32, 116, 104, 101, 32, 108, 97, 122, 121, 32, 100, 111, 103]
set_option maxRecDepth 100000
theorem mac_fox : (mac [107, 101, 121] foxT).take 4 = [247, 188, 131, 244] := by decide +kernel
theorem derive_unlike : ((all (mac salt [107]) (infoOf [[97], [98]]) 1).take 5 == (all (mac salt [107]) (infoOf [[97, 98]]) 1).take 5) = false := by decide +kernel
theorem derive_short (k : List UInt8) (l : List (List UInt8)) : derive k 5 l = (all (mac salt k) (infoOf l) 1).take 5 := expand_of _ _ 1 5 (by omega) (by omega)

set_option maxHeartbeats 1600000 in
theorem awake_any (w : World) (hk : Consts w) :
    Calls Tryd.prog 7 #[] w fun e w' => e = .returned (.bool true) ∧ Below w.heap.size w w' := by
  have HK := Lib.hid hk
  clear hk
  obtain ⟨M0, hM0⟩ : ∃ M : ByteArray, M = tx (mac [107, 101, 121] []) := ⟨_, rfl⟩
  obtain ⟨M1, hM1⟩ : ∃ M : ByteArray, M = tx (mac [107, 101, 121] foxT) := ⟨_, rfl⟩
  obtain ⟨X, hX⟩ : ∃ M : ByteArray, M = tx (expand [107] [105] (many 70)) := ⟨_, rfl⟩
  obtain ⟨M2, hM2⟩ : ∃ M : ByteArray, M = tx (mac [97] [98]) := ⟨_, rfl⟩
  obtain ⟨D1, hD1⟩ : ∃ M : ByteArray, M = tx (derive [107] (many 5) [[97], [98]]) := ⟨_, rfl⟩
  obtain ⟨D2, hD2⟩ : ∃ M : ByteArray, M = tx (derive [107] (many 5) [[97, 98]]) := ⟨_, rfl⟩
  have h0 := Lib.hid (fun u hu => mac_any ⟨#[107, 101, 121]⟩ ⟨#[]⟩ M0 u (by decide) (by decide) hM0 hu)
  have h1 := Lib.hid (fun u hu => mac_any ⟨#[107, 101, 121]⟩ ⟨#[84, 104, 101, 32, 113, 117, 105, 99, 107, 32, 98, 114, 111, 119, 110, 32, 102, 111, 120, 32, 106, 117, 109, 112, 115, 32, 111, 118, 101, 114, 32, 116, 104, 101, 32, 108, 97, 122, 121, 32, 100, 111, 103]⟩ M1 u (by decide) (by decide) hM1 hu)
  have h2 := Lib.hid (fun u hu => expand_any ⟨#[107]⟩ ⟨#[105]⟩ X 70 u (by decide) (by decide) hX hu)
  have h3 := Lib.hid (fun u hu => extract_any ⟨#[97]⟩ ⟨#[98]⟩ M2 u (by decide) (by decide) hM2 hu)
  have h4 := Lib.hid (fun u hu => mac_any ⟨#[97]⟩ ⟨#[98]⟩ M2 u (by decide) (by decide) hM2 hu)
  have h5 : ∀ u b, b < u.heap.size → u.cell? ⟨b, 0, none⟩ = some (.string ⟨#[97]⟩) → u.cell? ⟨b, 1, none⟩ = some (.string ⟨#[98]⟩) → Consts u → Calls Tryd.prog 14 #[.string ⟨#[107]⟩, .int .i64 5, .slice (some ⟨b, 0, none⟩) 2 2] u fun e w' => e = .returned (.string D1) ∧ Below u.heap.size u w' := fun u b hb c0 c1 hu =>
    derive_any ⟨#[107]⟩ 5 [⟨#[97]⟩, ⟨#[98]⟩] D1 (some ⟨b, 0, none⟩) b 0 2 u (by decide) (fun _ => ⟨rfl, hb⟩) (fun i hi => by
      match i, hi with
      | 0, _ => exact c0
      | 1, _ => exact c1) (by decide) (by decide) (fun s hs => by
      rcases List.mem_cons.1 hs with rfl | hs
      · decide
      · rcases List.mem_cons.1 hs with rfl | hs
        · decide
        · cases hs) hD1 hu
  have h6 : ∀ u b, b < u.heap.size → u.cell? ⟨b, 0, none⟩ = some (.string ⟨#[97, 98]⟩) → Consts u → Calls Tryd.prog 14 #[.string ⟨#[107]⟩, .int .i64 5, .slice (some ⟨b, 0, none⟩) 1 1] u fun e w' => e = .returned (.string D2) ∧ Below u.heap.size u w' := fun u b hb c0 hu =>
    derive_any ⟨#[107]⟩ 5 [⟨#[97, 98]⟩] D2 (some ⟨b, 0, none⟩) b 0 1 u (by decide) (fun _ => ⟨rfl, hb⟩) (fun i hi => by
      match i, hi with
      | 0, _ => exact c0) (by decide) (by decide) (fun s hs => by
      rcases List.mem_cons.1 hs with rfl | hs
      · decide
      · cases hs) hD2 hu
  have H5 := Lib.hid h5
  have H6 := Lib.hid h6
  have hs0 : M0.size = 32 := by rw [hM0]; exact mac_length _ _
  have hs1 : M1.size = 32 := by rw [hM1]; exact mac_length _ _
  have hsX : X.size = 70 := by rw [hX]; exact expand_length _ _ _ (by decide)
  have t0 : ((M0.size : Int) == 32) = true := by rw [hs0]; rfl
  have t1 : (4 : Int) ≤ (M1.size : Int) := by omega
  have t2 : ((M1.extract 0 4).toList == [247, 188, 131, 244]) = true := by
    rw [ByteArray.toList_eq, extract_take, hM1]
    show ((mac [107, 101, 121] foxT).take 4 == _) = true
    rw [mac_fox]
    rfl
  have t3 : ((X.size : Int) == 70) = true := by rw [hsX]; rfl
  have t4 : (M2.toList == M2.toList) = true := by simp
  have t5 : (D1.toList == D2.toList) = false := by
    rw [ByteArray.toList_eq, ByteArray.toList_eq, hD1, hD2]
    show (derive [107] 5 [[97], [98]] == derive [107] 5 [[97, 98]]) = false
    rw [derive_short, derive_short]
    exact derive_unlike
  have t6 : (!(D1.toList == D2.toList)) = true := by rw [t5]; rfl
  clear hM0 hM1 hX hM2 hD1 hD2 hs0 hs1 hsX h5 h6
  go_enter Tryd.func7, Tryd.ntmps7
  go_wp2_with fail
  refine (h0.out _ HK.out).mono ?_
  rintro e w1 ⟨rfl, hb1⟩
  have HB1 := Lib.hid hb1
  clear hb1
  go_wp2_with fail
  refine (h1.out _ (HK.out.below HK.out.1 HB1.out)).mono ?_
  rintro e w2 ⟨rfl, hb2⟩
  have HB2 := Lib.hid (HB1.out.trans (hb2.mono HB1.out.size))
  clear hb2 HB1
  go_wp2_with fail
  refine (h2.out _ (HK.out.below HK.out.1 HB2.out)).mono ?_
  rintro e w3 ⟨rfl, hb3⟩
  have HB3 := Lib.hid (HB2.out.trans (hb3.mono HB2.out.size))
  clear hb3 HB2
  go_wp2_with fail
  refine (h3.out _ (HK.out.below HK.out.1 HB3.out)).mono ?_
  rintro e w4 ⟨rfl, hb4⟩
  have HB4 := Lib.hid (HB3.out.trans (hb4.mono HB3.out.size))
  clear hb4 HB3
  go_wp2_with fail
  refine (h4.out _ (HK.out.below HK.out.1 HB4.out)).mono ?_
  rintro e w5 ⟨rfl, hb5⟩
  have HB5 := Lib.hid (HB4.out.trans (hb5.mono HB4.out.size))
  clear hb5 HB4
  go_wp2_with fail
  refine (H5.out _ w5.heap.size (by simp) (by simp [World.cell?_alloc_new]) (by simp [World.cell?_alloc_new]) (HK.out.below HK.out.1 (HB5.out.alloc HB5.out.size _))).mono ?_
  rintro e w6 ⟨rfl, hb6⟩
  have HB6 := Lib.hid ((HB5.out.alloc HB5.out.size _).trans (hb6.mono (HB5.out.alloc HB5.out.size _).size))
  clear hb6 HB5
  go_wp2_with fail
  refine (H6.out _ w6.heap.size (by simp) (by simp [World.cell?_alloc_new]) (HK.out.below HK.out.1 (HB6.out.alloc HB6.out.size _))).mono ?_
  rintro e w7 ⟨rfl, hb7⟩
  have HB7 := Lib.hid ((HB6.out.alloc HB6.out.size _).trans (hb7.mono (HB6.out.alloc HB6.out.size _).size))
  clear hb7 HB6
  go_wp2
  go_ret
  exact ⟨rfl, HB7.out⟩
end Go.Proofs.YtleoblflhcbcbaaDoor.Ked
