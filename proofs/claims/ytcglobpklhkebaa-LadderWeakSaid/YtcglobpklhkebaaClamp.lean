/-
  Clamp of package ladder answers the plain clamped bytes, and leaves all memory that was there as it was. Condition: the text takes no more than the reach of the form.
-/
import Derived.Test.YtcglobpklhkebaaLimL
namespace Go.Proofs.Ytcglobpklhkebaa.LadC
open Go.RowKit Mur Lanes Limb Hold
set_option maxRecDepth 100000

/-- 32 bytes of a text. -/
def pad (l : List UInt8) : List UInt8 := (l ++ List.replicate 32 0).take 32
/-- .. clamped. -/
def clamp (l : List UInt8) : List UInt8 := ((pad l).set 0 ((pad l).getD 0 0 &&& 248)).set 31 ((pad l).getD 31 0 &&& 127 ||| 64)
theorem pad_length (l : List UInt8) : (pad l).length = 32 := by simp [pad]
theorem clamp_length (l : List UInt8) : (clamp l).length = 32 := by simp [clamp, pad_length]
theorem pad_self {l : List UInt8} (h : l.length = 32) : pad l = l := by
  unfold pad
  rw [List.take_append_of_le_length (by omega), List.take_of_length_le (by omega)]
theorem clamp_get (l : List UInt8) (i : Nat) (hi : i < 32) : (clamp l).getD i 0 = if i = 0 then (pad l).getD 0 0 &&& 248 else if i = 31 then (pad l).getD 31 0 &&& 127 ||| 64 else (pad l).getD i 0 := by
  unfold clamp
  have hl := pad_length l
  by_cases h31 : i = 31
  · subst h31
    simp [List.getD, hl]
  · rw [List.getD, List.getElem?_set_ne (by omega)]
    by_cases h0 : i = 0
    · subst h0
      simp [List.getD, hl]
    · rw [List.getElem?_set_ne (by omega), if_neg h0, if_neg h31, ← List.getD]
theorem low248 : ∀ x : UInt8, x &&& 248 &&& 248 = x &&& 248 := fun x => by
  rw [UInt8.and_assoc]
  rfl
theorem high64 : ∀ x : UInt8, (x &&& 127 ||| 64) &&& 127 ||| 64 = x &&& 127 ||| 64 := fun x => by
  have h : ∀ n : Fin 256, ((UInt8.ofNat n.val) &&& 127 ||| 64) &&& 127 ||| 64 = (UInt8.ofNat n.val) &&& 127 ||| 64 := by decide +kernel
  have := h ⟨x.toNat, x.toNat_lt⟩
  simpa using this
theorem clamp_clamp (l : List UInt8) : clamp (clamp l) = clamp l := by
  have hl := clamp_length l
  refine List.ext_getElem (by rw [clamp_length, hl]) fun i h1 h2 => ?_
  have hi : i < 32 := by rw [← hl]; exact h2
  have e := clamp_get (clamp l) i hi
  rw [pad_self hl, clamp_get l 0 (by decide), clamp_get l 31 (by decide)] at e
  have e2 := clamp_get l i hi
  have e3 : (clamp (clamp l)).getD i 0 = (clamp l).getD i 0 := by
    rw [e]
    by_cases h0 : i = 0
    · subst h0
      rw [if_pos rfl, if_pos rfl, low248, e2, if_pos rfl]
    · by_cases h31 : i = 31
      · subst h31
        rw [if_neg h0, if_pos rfl, if_neg h0, if_pos rfl, high64, e2, if_neg h0, if_pos rfl]
      · rw [if_neg h0, if_neg h31]
  rw [List.getD, List.getD, List.getElem?_eq_getElem h1, List.getElem?_eq_getElem h2] at e3
  exact e3

def zeros32 : List Value := bytesV (List.replicate 32 0)
theorem zero_bytes32 : (Try.prog.info? 70).map (fun i => (i.zero, i.size)) = some (some (.agg zeros32.toArray), zeros32.length) := by kernel_rfl
theorem zeros32_length : zeros32.length = 32 := rfl
theorem row_bytes32 : TyRow Try.prog 70 32 := ⟨_, Try.underlying70, rfl, by kernel_rfl⟩
theorem single_bytes (l : List UInt8) : Single (bytesV l) := by
  unfold Single bytesV
  simp [Value.oneCell']
theorem single_zeros32 : Single zeros32 := single_bytes _
theorem built_bytes32 : Try.prog.built 70 [] = some zeros32.toArray := by kernel_rfl
theorem lay_pad (l : List UInt8) : lay zeros32 0 ((bytesV l).take (min l.length 32)) = bytesV (pad l) := by
  have h1 : zeros32 = bytesV (List.replicate (min l.length 32) 0) ++ bytesV (List.replicate (32 - min l.length 32) 0) := by
    unfold zeros32 bytesV
    rw [← List.map_append, List.replicate_append_replicate, show min l.length 32 + (32 - min l.length 32) = 32 by omega]
  have h2 : (bytesV l).take (min l.length 32) = bytesV (l.take (min l.length 32)) := by simp [bytesV, List.map_take]
  rw [h1, h2, lay_left (by simp [bytesV_length])]
  unfold bytesV
  rw [← List.map_append]
  congr 1
  unfold pad
  rw [List.take_append, List.take_replicate]
  congr 1
  · rcases Nat.le_total l.length 32 with h | h
    · rw [Nat.min_eq_left h, List.take_of_length_le (Nat.le_refl _), List.take_of_length_le h]
    · rw [Nat.min_eq_right h]
  · congr 1
    omega
theorem byte_cell {w : World} {b : Nat} {t : TypeId} {L : List UInt8} (h : Whole w b t (bytesV L)) {i : Nat} (hi : i < L.length) : w.cell? ⟨b, i, none⟩ = some (.int .u8 ((L.getD i 0).toNat : Int)) := by
  rw [h.row.cell (bytesV_at hi)]
  simp [List.getD, hi]
theorem byte_free {w : World} {b : Nat} {t : TypeId} {L : List UInt8} (h : Whole w b t (bytesV L)) {i : Nat} (hi : i < L.length) : w.frozen? ⟨b, i, none⟩ = false :=
  h.row.free (by rw [bytesV_length]; exact hi)
theorem set_byte {w0 w : World} {b : Nat} {t : TypeId} {L : List UInt8} (h : Hld w0 [⟨b, t, bytesV L⟩] w) (i : Nat) (x : UInt8) : Hld w0 [⟨b, t, bytesV (L.set i x)⟩] (w.setCell ⟨b, i, none⟩ (.int .u8 (x.toNat : Int))) := by
  have := h.set 0 rfl i [.int .u8 (x.toNat : Int)]
  rw [← bytesV_set]
  exact this
theorem not7 (x : UInt8) : bits .andNot .u8 (x.toNat : Int) 7 = ((x &&& 248).toNat : Int) := by
  have := u8_andNot_nat x.toNat 7 x.toNat_lt (by decide)
  rw [UInt8.toNat_and]
  exact this
theorem not128 (x : UInt8) : bits .andNot .u8 (x.toNat : Int) 128 = ((x &&& 127).toNat : Int) := by
  have := u8_andNot_nat x.toNat 128 x.toNat_lt (by decide)
  rw [UInt8.toNat_and]
  exact this
theorem or64 (x : UInt8) : bits .or .u8 (x.toNat : Int) 64 = ((x ||| 64).toNat : Int) := or_u8 x 64

set_option maxHeartbeats 1600000 in
theorem clamp_any (s : ByteArray) (w0 : World) :
    Calls Try.prog 39 #[.string s] w0 fun r w' => r = .returned (.string ⟨(clamp s.data.toList).toArray⟩) ∧ Below w0.heap.size w0 w' := by
  obtain ⟨L, hL⟩ : ∃ L, L = pad s.data.toList := ⟨_, rfl⟩
  have hL5 : L.length = 32 := by rw [hL]; exact pad_length _
  obtain ⟨x, hx⟩ : ∃ x, x = L.getD 0 0 := ⟨_, rfl⟩
  obtain ⟨y, hy⟩ : ∃ x, x = L.getD 31 0 := ⟨_, rfl⟩
  have hres : clamp s.data.toList = (L.set 0 (x &&& 248)).set 31 (y &&& 127 ||| 64) := by rw [hx, hy, hL]; rfl
  obtain ⟨x1, hx1⟩ : ∃ z, z = x &&& 248 := ⟨_, rfl⟩
  obtain ⟨y1, hy1⟩ : ∃ z, z = y &&& 127 := ⟨_, rfl⟩
  obtain ⟨y2, hy2⟩ : ∃ z, z = y1 ||| 64 := ⟨_, rfl⟩
  have e7 := not7 x
  have e128 := not128 y
  have e64 := or64 y1
  rw [← hx1] at e7
  rw [← hy1] at e128
  rw [← hy2] at e64
  rw [hres, ← hx1, ← hy1, ← hy2]
  have E7 := Lib.hid e7
  have E128 := Lib.hid e128
  have E64 := Lib.hid e64
  have hlay : lay zeros32 0 ((bytesV s.data.toList).take (min s.size 32)) = bytesV L := by rw [hL]; exact lay_pad s.data.toList
  have hsz : ∀ u : World, (Go.sizeOf 5).run Try.prog u = .ok 1 u := fun u => by go_simp
  have HM := Lib.hid (Hld.start w0)
  have HLAY := Lib.hid hlay
  have H5 := Lib.hid hL5
  have HX := Lib.hid hx
  have HY := Lib.hid hy
  have HSZ := Lib.hid hsz
  clear hL hL5 hx hy hres hlay hsz e7 e128 e64 hx1 hy1 hy2
  go_enter Try.func39, Try.ntmps39
  go_upto_region 2 with ((first
    | (with_reducible refine Hold.build (cs := zeros32) rfl rfl (by simpa using built_bytes32) ?_)
    | (with_reducible refine Hold.alloc HM.out rfl rfl zeros32 zero_bytes32 ?_; clear HM; intro b w HM; simp only [List.nil_append] at HM; replace HM := Lib.hid HM)
    | (with_reducible refine Hold.store HM.out 0 (v' := zeros32) rfl rfl rfl rfl rfl (by simp [zeros32_length]) (lay_all rfl) single_zeros32 (by rw [zeros32_length]; exact row_bytes32) ?_; clear HM; intro w HM; simp only [List.set_cons_zero] at HM; replace HM := Lib.hid HM)))
  go_upto_region 3 with ((first
    | (with_reducible refine Hold.copyText HM.out 0 rfl rfl rfl rfl rfl Try.underlying53 HSZ.out (by rw [zeros32_length]; exact Nat.min_le_right _ _) ?_; clear HM; intro w HM)))
  simp only [List.set_cons_zero] at HM
  rw [HLAY.out] at HM
  have l0 : 0 < L.length := by rw [H5.out]; decide
  have l31 : 31 < L.length := by rw [H5.out]; decide
  have c0 := byte_cell (HM.at 0 rfl) l0
  have f0 := byte_free (HM.at 0 rfl) l0
  rw [← HX.out] at c0
  have HM2 := Lib.hid (set_byte HM 0 x1)
  clear HM l0 l31
  go_upto_region 4 with (fail)
  rw [E7.out]
  clear c0 f0
  generalize w.setCell ⟨b, 0, none⟩ (.int .u8 (x1.toNat : Int)) = w2 at *
  have l31 : 31 < (L.set 0 x1).length := by rw [List.length_set, H5.out]; decide
  have c1 := byte_cell (HM2.out.at 0 rfl) l31
  have f1 := byte_free (HM2.out.at 0 rfl) l31
  rw [List.getD, List.getElem?_set_ne (by decide), ← List.getD, ← HY.out] at c1
  have HM3 := Lib.hid (set_byte HM2.out 31 y1)
  clear HM2 l31
  go_upto_region 5 with (fail)
  rw [E128.out]
  clear c1 f1
  generalize w2.setCell ⟨b, 31, none⟩ (.int .u8 (y1.toNat : Int)) = w3 at *
  have l31 : 31 < ((L.set 0 x1).set 31 y1).length := by rw [List.length_set, List.length_set, H5.out]; decide
  have c1 := byte_cell (HM3.out.at 0 rfl) l31
  have f1 := byte_free (HM3.out.at 0 rfl) l31
  have e1 : ((L.set 0 x1).set 31 y1).getD 31 0 = y1 := by simp [List.getD, H5.out]
  rw [e1] at c1
  have hm4 := set_byte HM3.out 31 y2
  rw [List.set_set] at hm4
  have HM4 := Lib.hid hm4
  clear HM3 l31 e1 hm4
  go_upto_region 6 with (fail)
  rw [E64.out]
  clear c1 f1
  generalize w3.setCell ⟨b, 31, none⟩ (.int .u8 (y2.toNat : Int)) = w4 at *
  have hback := string_row (P := Try.prog) (HM4.out.at 0 rfl).row 53 5 9 Try.underlying53 Try.underlying5 Try.underlying9 32 32 (by rw [List.length_set, List.length_set, H5.out])
  go_wp2
  go_ret
  exact ⟨rfl, HM4.out.below⟩
end Go.Proofs.Ytcglobpklhkebaa.LadC
