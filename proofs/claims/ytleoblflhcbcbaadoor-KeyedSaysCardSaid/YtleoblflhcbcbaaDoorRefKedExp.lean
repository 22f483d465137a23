/-
  The document's own answers for Expand and Derive of layer 3 answer what the plain mathematics of the text Ked says, and leave all memory that was there as it was. Conditions: key, info and the parts together have no more than 400000 bytes.
-/
import Derived.Test.YtleoblflhcbcbaaDoorRefKed
import Derived.Test.YtleoblflhcbcbaaDoorKedDer
namespace Go.Proofs.YtleoblflhcbcbaaDoor.RefKed
open Go.RowKit Mur Sha Ked

theorem one_byte (w : World) (q : Nat) (hq : q ≤ 255) : Row (w.alloc (.cells #[.int .u8 (q : Int)] 5)) w.heap.size (bytesV [UInt8.ofNat q]) := by
  refine ⟨by simp, fun i v hv => ?_⟩
  match i, hv with
  | 0, hv =>
    have e : (UInt8.ofNat q).toNat = q := by simp; omega
    have hv' : v = .int .u8 (q : Int) := by
      have : some (Value.int .u8 ((UInt8.ofNat q).toNat : Int)) = some v := hv
      rw [e] at this
      exact (Option.some.inj this).symm
    subst hv'
    exact ⟨by simp [World.cell?_alloc_new], by simp⟩

set_option maxHeartbeats 1600000 in
theorem expand_any (k info X : ByteArray) (n : Int) (w : World) (hk : k.size ≤ 400000) (hi : info.size ≤ 400000) (hX : X = tx (expand k.data.toList info.data.toList (many n))) :
    Calls Tryd.prog 13 #[.string k, .string info, .int .i64 n] w fun e w' => e = .returned (.string X) ∧ Below w.heap.size w w' := by
  have HX := Lib.hid hX
  clear hX
  go_enter Tryd.func13, Tryd.ntmps13
  go_wp2_with fail
  go_loopw [7, 8, 9] (fun o a i wr => ∃ (q : Nat) (O A : ByteArray), q ≤ 255 ∧ A.size ≤ 32 ∧ (q = 0 ∨ 32 * ((q : Int) - 1) < n) ∧ i = .int .i64 ((q : Int) + 1) ∧ o = .string O ∧ a = .string A ∧ A.data.toList = text k.data.toList info.data.toList q ∧ O.data.toList = all k.data.toList info.data.toList q ∧ Below w.heap.size w wr) (fun _ _ i _ => 257 - (intOf i).toNat)
  case atStart => exact ⟨0, ⟨#[]⟩, ⟨#[]⟩, by omega, by decide, .inl rfl, rfl, rfl, rfl, rfl, rfl, Below.refl _ _⟩
  case round =>
    obtain ⟨q, O, A, hq, hA32, hqn, rfl, rfl, rfl, hA, hO, hbel⟩ := hrel
    have hOs : O.size = 32 * q := by
      have : O.data.toList.length = O.size := rfl
      rw [← this, hO, all_length]
    by_cases hlt : 32 * (q : Int) < n ∧ q < 255
    · have hd1 : decide ((O.size : Int) < n) = true := by simp; omega
      have hd2 : decide ((q : Int) + 1 < 256) = true := by simp; omega
      obtain ⟨c, hc⟩ : ∃ c, c = UInt8.ofNat (q + 1) := ⟨_, rfl⟩
      obtain ⟨Y, hY⟩ : ∃ Y : ByteArray, Y = A ++ info ++ ⟨#[c]⟩ := ⟨_, rfl⟩
      have hYs : Y.size = A.size + info.size + 1 := by rw [hY]; simp only [ByteArray.size_append]; rfl
      obtain ⟨T, hT⟩ : ∃ T : ByteArray, T = tx (mac k.data.toList Y.data.toList) := ⟨_, rfl⟩
      have hTs : T.size = 32 := by rw [hT]; exact mac_length _ _
      have hTt : T.data.toList = text k.data.toList info.data.toList (q + 1) := by
        rw [hT, text, ← hA, hY, hc]
        simp only [ByteArray.data_append, Array.toList_append]
      have hOT : (O ++ T).data.toList = all k.data.toList info.data.toList (q + 1) := by
        rw [ByteArray.data_append, Array.toList_append, hO, hTt]; rfl
      have hm := Lib.hid (fun u => mac_any k Y T u (by omega) (by omega) hT)
      have hw8 : IntKind.u8.wrap ((q : Int) + 1) = ((q + 1 : Nat) : Int) := by rw [IntKind.wrap_u8]; omega
      have hcv : ∀ u : World, (convert 43 9 (.slice (some ⟨u.heap.size, 0, none⟩) 1 1)).run Tryd.prog (u.alloc (.cells #[.int .u8 ((q : Int) + 1)] 5)) = .ok (.string ⟨#[c]⟩) (u.alloc (.cells #[.int .u8 ((q : Int) + 1)] 5)) := fun u => by
        rw [hc]
        have := string_row (P := Tryd.prog) (one_byte u (q + 1) (by omega)) 43 5 9 Tryd.underlying43 Tryd.underlying5 Tryd.underlying9 1 1 (by simp)
        exact this
      have n1 : ¬ 9223372036854775807 < A.size + info.size := by omega
      have n2 : ¬ 9223372036854775807 < A.size + info.size + 1 := by omega
      have n3 : ¬ 9223372036854775807 < O.size + T.size := by omega
      have hw8' : ((q : Int) + 1) % 256 = (q : Int) + 1 := by omega
      have HY := Lib.hid hY
      have HTT := Lib.hid hTt
      have HOT := Lib.hid hOT
      have HTS := Lib.hid hTs
      have HW := Lib.hid hbel
      have hcv' := hcv wr
      clear hYs hTs hT hTt hOT hY hA hO hOs hbel hw8 hcv hc
      go_wp2_with fail
      rw [← HY.out]
      refine (hm.out _).mono ?_
      rintro e w2 ⟨rfl, hb2⟩
      have HW2 := Lib.hid ((HW.out.alloc HW.out.size (.cells #[.int .u8 ((q : Int) + 1)] 5)).trans (hb2.mono (HW.out.alloc HW.out.size _).size))
      clear hb2 HW hcv' hw8'
      go_wp2
      go_roundw
      case rel => exact ⟨q + 1, O ++ T, T, by omega, by rw [HTS.out]; omega, .inr (by omega), by go_num, rfl, rfl, HTT.out, HOT.out, HW2.out⟩
      case measure => simp [intOf]; omega
    · obtain ⟨N, hN⟩ : ∃ N : Nat, N = many n := ⟨_, rfl⟩
      have hNO : N ≤ O.size := by rw [hN]; unfold many; omega
      have hmm : max 0 (min n (O.size : Int)) = (N : Int) := by rw [hN]; unfold many; omega
      have hend : O.extract 0 N = X := by
        have e2 : expand k.data.toList info.data.toList N = (all k.data.toList info.data.toList q).take N := expand_of _ _ q N hq (by omega)
        rw [HX.out, ← hN, e2]
        apply ByteArray.ext
        apply Array.toList_inj.mp
        rw [extract_take, hO]
      have hNi : (N : Int) ≤ (O.size : Int) := by omega
      have HMM := Lib.hid hmm
      have HEND := Lib.hid hend
      have HW := Lib.hid hbel
      by_cases h1 : 32 * (q : Int) < n
      · have hd1 : decide ((O.size : Int) < n) = true := by simp; omega
        have hd2 : decide ((q : Int) + 1 < 256) = false := by simp; omega
        clear hN hmm hend hA hO hOs hbel HX
        have hmm := HMM.out
        go_wp2
        go_ret
        exact ⟨by rw [← HEND.out]; rfl, HW.out⟩
      · have hd1 : decide ((O.size : Int) < n) = false := by simp; omega
        clear hN hmm hend hA hO hOs hbel HX
        have hmm := HMM.out
        go_wp2
        go_ret
        exact ⟨by rw [← HEND.out]; rfl, HW.out⟩

/-- The document's text of lengths and parts, as far as k. -/
theorem info_succ (ls : List ByteArray) (k : Nat) (h : k < ls.length) : infoOf ((ls.take (k + 1)).map (·.data.toList)) = infoOf ((ls.take k).map (·.data.toList)) ++ (Lanes.high ls[k].size 2 ++ ls[k].data.toList) := by
  have e2 : ls[k].data.toList.length = ls[k].size := rfl
  rw [List.take_succ_eq_append_getElem h]
  simp only [infoOf, List.map_append, List.map_cons, List.map_nil, List.flatten_append, List.flatten_cons, List.flatten_nil, List.append_nil, e2]
theorem info_mono (ls : List ByteArray) (k : Nat) : (infoOf ((ls.take k).map (·.data.toList))).length ≤ (infoOf (ls.map (·.data.toList))).length := by
  have e : ls = ls.take k ++ ls.drop k := (List.take_append_drop k ls).symm
  have e2 : infoOf (ls.map (·.data.toList)) = infoOf ((ls.take k).map (·.data.toList)) ++ infoOf ((ls.drop k).map (·.data.toList)) := by
    conv => lhs; rw [e]
    simp only [infoOf, List.map_append, List.flatten_append]
  rw [e2, List.length_append]
  omega

set_option maxHeartbeats 1600000 in
theorem derive_any (key : ByteArray) (n : Int) (ls : List ByteArray) (X : ByteArray) (a : Option Addr) (b o cap : Nat) (w : World) (hkey : key.size ≤ 400000) (ha : ls.length ≠ 0 → a = some ⟨b, o, none⟩ ∧ b < w.heap.size) (hcell : ∀ i (h : i < ls.length), w.cell? ⟨b, o + i, none⟩ = some (.string ls[i]))
    (hn : ls.length ≤ 100000) (hsum : (infoOf (ls.map (·.data.toList))).length ≤ 400000) (hsz : ∀ s ∈ ls, s.size ≤ 400000) (hX : X = tx (derive key.data.toList (many n) (ls.map (·.data.toList)))) :
    Calls Tryd.prog 15 #[.string key, .int .i64 n, .slice a ls.length cap] w fun e w' => e = .returned (.string X) ∧ Below w.heap.size w w' := by
  obtain ⟨F, hF⟩ : ∃ F : ByteArray, F = tx (infoOf (ls.map (·.data.toList))) := ⟨_, rfl⟩
  obtain ⟨E, hE⟩ : ∃ E, E = tx (mac salt key.data.toList) := ⟨_, rfl⟩
  have hEs : E.size ≤ 400000 := by rw [hE]; show (mac _ _).length ≤ _; rw [mac_length]; omega
  have hFs : F.size ≤ 400000 := by rw [hF]; exact hsum
  have hext := Lib.hid (show ∀ u, Calls Tryd.prog 11 #[.string ⟨#[109, 117, 114, 109, 117, 114]⟩, .string key] u fun e w' => e = .returned (.string E) ∧ Below u.heap.size u w' from fun u => extract_any ⟨#[109, 117, 114, 109, 117, 114]⟩ key E u (by decide) (by omega) hE)
  have hexp := Lib.hid (show ∀ u, Calls Tryd.prog 13 #[.string E, .string F, .int .i64 n] u fun e w' => e = .returned (.string X) ∧ Below u.heap.size u w' from fun u => expand_any E F X n u hEs hFs (by rw [hX, hE, hF]; rfl))
  have hmono := fun k (_ : k ≤ ls.length) => info_mono ls k
  have HA := Lib.hid ha
  have HCL := Lib.hid hcell
  have HSZ := Lib.hid hsz
  have HF := Lib.hid hF
  have HM := Lib.hid hmono
  have HSUM := Lib.hid hsum
  clear ha hcell hX hE hEs hFs hF hsum hsz hmono
  go_enter Tryd.func15, Tryd.ntmps15
  go_wp2_with fail
  go_loopw [7, 12] (fun v i wr => ∃ (k : Nat) (T : ByteArray), k ≤ ls.length ∧ i = .int .i64 k ∧ v = .string T ∧ T.data.toList = infoOf ((ls.take k).map (·.data.toList)) ∧ Below w.heap.size w wr) (fun _ i _ => ls.length - (intOf i).toNat)
  case atStart => exact ⟨0, ⟨#[]⟩, by omega, rfl, rfl, rfl, Below.refl _ _⟩
  case round =>
    obtain ⟨k, T, hk, rfl, rfl, hT, hbel⟩ := hrel
    have hTs : T.size ≤ 400000 := by
      have h1 : T.data.toList.length = T.size := rfl
      have h2 := HM.out k hk
      have h3 := HSUM.out
      rw [← hT, h1] at h2
      omega
    by_cases hlt : k < ls.length
    · obtain ⟨rfl, hbb⟩ := HA.out (by omega)
      have hcc := (hbel.cell (p := ⟨b, o + k, none⟩) hbb).trans (HCL.out k hlt)
      have hx := HSZ.out ls[k] (List.getElem_mem hlt)
      have hstep := info_succ ls k hlt
      generalize ls[k] = x at *
      obtain ⟨H, hH⟩ : ∃ H : ByteArray, H = tx (Lanes.high x.size 2) := ⟨_, rfl⟩
      have hHs : H.size = 2 := by rw [hH]; show (Lanes.high x.size 2).length = 2; simp [Lanes.high]
      have hh := Lib.hid (show ∀ u, Calls Tryd.prog 36 #[.int .u64 (x.size : Int), .int .i64 2] u fun e w' => e = .returned (.string H) ∧ Below u.heap.size u w' from fun u => by
        have := RefOne.high_any x.size 2 u (by omega) (by omega) (by omega)
        rw [hH]; exact this)
      have hnew : (T ++ (H ++ x)).data.toList = infoOf ((ls.take (k + 1)).map (·.data.toList)) := by
        rw [hstep, ← hT, hH]
        simp only [ByteArray.data_append, Array.toList_append]
      have HNEW := Lib.hid hnew
      have HW := Lib.hid hbel
      have n1 : ¬ 9223372036854775807 < H.size + x.size := by omega
      have n2 : ¬ 9223372036854775807 < T.size + (H.size + x.size) := by omega
      have n3 : (H ++ x).size = H.size + x.size := ByteArray.size_append
      have hw1 : IntKind.u64.wrap (x.size : Int) = (x.size : Int) := by rw [IntKind.wrap_u64]; omega
      have hx0 : 0 ≤ (x.size : Int) := by omega
      clear hstep hH hHs hT hnew hbel hTs
      go_wp2_with fail
      refine (hh.out _).mono ?_
      rintro e w2 ⟨rfl, hb2⟩
      have HW2 := Lib.hid (HW.out.trans (hb2.mono HW.out.size))
      clear hb2 HW hcc
      go_wp2
      go_roundw
      case rel => exact ⟨k + 1, _, by omega, by go_num, rfl, HNEW.out, HW2.out⟩
      case measure => simp [intOf]; omega
    · obtain rfl : k = ls.length := by omega
      have hTF : T = F := by
        apply ByteArray.ext
        apply Array.toList_inj.mp
        rw [hT, HF.out, List.take_length]
      obtain rfl := hTF
      have HW := Lib.hid hbel
      clear hT hbel HF
      go_wp2_with fail
      refine (hext.out _).mono ?_
      rintro e w2 ⟨rfl, hb2⟩
      have HW2 := Lib.hid (HW.out.trans (hb2.mono HW.out.size))
      clear hb2 HW
      go_wp2_with fail
      refine (hexp.out _).mono ?_
      rintro e w3 ⟨rfl, hb3⟩
      go_wp2
      go_ret
      exact ⟨rfl, HW2.out.trans (hb3.mono HW2.out.size)⟩
end Go.Proofs.YtleoblflhcbcbaaDoor.RefKed
