/-
  Fold of package phrase answers what the plain mathematics of the text PhrB says, and leaves all memory that was there as it was. Conditions: that lengths fit.
-/
import Derived.Test.YthlhhmhldpmpiaaDoorPhrF
import Derived.Test.YthlhhmhldpmpiaaDoorUseR
namespace Go.Proofs.YthlhhmhldpmpiaaDoor.Phr
open Go.RowKit Mur
set_option maxRecDepth 100000

theorem small_lt (c : Nat) (h : may c = true) : small c < 0x800 := (may_lt (may_small c h)).2.1

set_option maxHeartbeats 3200000 in
theorem fold_any (s : ByteArray) (X : ByteArray) (w : World) (hX : X = tx (foldB s.data.toList)) (hs : s.size ≤ 70368744177664) :
    Calls Tryd.prog 16 #[.string s] w fun e w' => e = .returned (.string X) ∧ Below w.heap.size w w' := by
  obtain ⟨S, hS⟩ : ∃ S, S = tx (sd s.data.toList) := ⟨_, rfl⟩
  obtain ⟨l, hl⟩ : ∃ l, l = rs s.data.toList := ⟨_, rfl⟩
  have R1 := Lib.hid (fun u => said_any s S u hS)
  have hSs : S.size ≤ 70368744177664 := by rw [hS, tx_size]; exact Nat.le_trans (sd_length _) hs
  have HRS := Lib.hid (show runes S.data.toList = some l by rw [hS, hl]; exact sd_runes _)
  have HX := Lib.hid (show X = tx (text (l.map small)) by rw [hX, hl]; rfl)
  clear hS hl hX hs
  go_enter Tryd.func16, Tryd.ntmps16
  go_wp2_with fail
  refine (R1.out _).mono ?_
  rintro e w1 ⟨rfl, hb1⟩
  have HW1 := Lib.hid hb1
  clear hb1
  go_wp2_with fail
  have hbb := HW1.out.size
  refine (Use.grow_any w1.heap.size w1.heap.size S.size _ (Nat.le_refl _) (_root_.Go.heap_alloc_new w1 (.cells #[.pointer none, .slice none 0 0] 45)) (by simp) (by omega)).mono ?_
  rintro e w3 ⟨rfl, hbu3, hb3⟩
  have HBU := Lib.hid (Lib.IsBuilderF.of hbu3)
  have HW3 := Lib.hid ((HW1.out.alloc HW1.out.size (.cells #[.pointer none, .slice none 0 0] 45)).trans (hb3.mono hbb))
  have hlt3 : w1.heap.size < w3.heap.size := by
    have := hb3.size
    simp at this
    omega
  clear hbu3 hb3
  generalize w1.heap.size = b at *
  go_wp2
  go_loopg [] l.length (fun gk wx => ∃ (pos : Nat) (r : List Nat) (acc : List UInt8), wx.heap[w3.heap.size]? = some (.stringIter S pos) ∧ pos ≤ S.size ∧ runes (S.data.toList.drop pos) = some r ∧ r.length = gk ∧ acc ++ text (r.map small) = text (l.map small) ∧ Lib.IsBuilderF 45 5 b b (Lib.byteCells acc) wx ∧ Below w.heap.size w wx ∧ b < wx.heap.size)
  case atStart => exact ⟨0, l, [], World.iter_heap w3 S 0, by omega, by rw [List.drop_zero]; exact HRS.out, rfl, rfl, HBU.out.alloc _, HW3.out.alloc HW3.out.size _, by show b < (w3.heap.push _).size; rw [Array.size_push]; omega⟩
  case round =>
    have hlen : (text (l.map small)).length = S.size := by
      rw [width_small]
      exact congrArg List.length (text_of_runes HRS.out).1
    have HLEN := Lib.hid hlen
    clear HRS HBU HW3 hlen
    obtain ⟨pos, r, acc, hit, hps, hrs, hgk, hacc, hbu, hbel, hbs⟩ := hrel
    have hal : acc.length ≤ S.size := by
      have := congrArg List.length hacc
      rw [List.length_append, HLEN.out] at this
      omega
    have HACC := Lib.hid hacc
    have HGK := Lib.hid hgk
    have HBU := Lib.hid hbu
    have HW := Lib.hid hbel
    have HAL := Lib.hid hal
    clear hacc hgk hbu hbel hal HLEN
    rcases at_place S pos r hrs hps with ⟨rfl, hend⟩ | ⟨c, r', rfl, hlt, hd1, hmay, hd2, hrs2, hle⟩
    · have hnx : ∀ ty, (Instr.next (.pointer (some ⟨w3.heap.size, 0, none⟩)) true ty).run Tryd.prog wr = _ := fun ty => Lib.run_next_end_at wr w3.heap.size S pos ty hit (by omega)
      have hXa : X = tx acc := by rw [HX.out, ← HACC.out]; simp [text]
      subst hXa
      clear hrs hend hit
      go_wp2_with fail
      refine (Use.string_f b b acc _ HBU.out (by omega)).mono ?_
      rintro e w4 ⟨rfl, _, hb4⟩
      have HW4 := Lib.hid (HW.out.trans (hb4.mono hbb))
      clear hb4
      go_wp2
      go_ret
      exact ⟨rfl, HW4.out⟩
    · have hnx : ∀ ty, (Instr.next (.pointer (some ⟨w3.heap.size, 0, none⟩)) true ty).run Tryd.prog wr = _ := fun ty => Lib.run_next_any_at wr w3.heap.size S pos ty hit hlt
      rw [hd1, hd2] at hnx
      have hit2 := Lib.iterAt_heap wr w3.heap.size S pos (pos + (enc c).length) hit
      have HBU2 := Lib.hid (HBU.out.iterAt hit (pos + (enc c).length))
      have HW2 := Lib.hid (Lib.below_iterAt HW.out (k := w3.heap.size) (by omega) S (pos + (enc c).length))
      have hbs2 : b < (wr.iterAt w3.heap.size S (pos + (enc c).length)).heap.size := by rw [Lib.iterAt_size]; exact hbs
      have HIT := Lib.hid hit2
      have HR := Lib.hid hrs2
      have HLE := Lib.hid hle
      have HC := Lib.hid (show (c : Int) + 32 < 2147483648 ∧ c < 0x800 by have := may_lt hmay; omega)
      have HS := Lib.hid (small_lt c hmay)
      clear hrs hrs2 hd1 hd2 hmay hle hit hit2 HBU HW
      obtain ⟨W, hW⟩ : ∃ W, wr.iterAt w3.heap.size S (pos + (enc c).length) = W := ⟨_, rfl⟩
      rw [hW] at hnx HBU2 HW2 hbs2 HIT
      clear hW
      cases hc : capital c with
      | true =>
        have R2 := Lib.hid (fun u => capital_any c u true hc)
        have hsm : small c = c + 32 := by rw [small_capital, hc]; rfl
        have hwr : IntKind.i32.wrap ((c : Int) + 32) = ((small c : Nat) : Int) := by rw [hsm, IntKind.wrap_i32]; have := HC.out; omega
        clear hc hsm
        go_wp2_with fail
        refine (R2.out _).mono ?_
        rintro e w4 ⟨rfl, rfl⟩
        go_wp2_with fail
        refine (Use.rune_k b b acc (small c) _ HBU2.out HS.out (by have := HAL.out; omega) (by omega)).mono ?_
        rintro e w5 ⟨rfl, hbu5, hb5, hk5⟩
        have HBU5 := Lib.hid hbu5
        have HW5 := Lib.hid (HW2.out.trans (hb5.mono hbb))
        have HIT5 := Lib.hid (hk5.iter HIT.out (by omega))
        have hbs5 : b < w5.heap.size := by have := hb5.size; omega
        clear hbu5 hb5 hk5
        go_wp2
        go_roundg r'.length
        case measure => have := HGK.out; simp at this; omega
        case rel => exact ⟨pos + (enc c).length, r', acc ++ enc (small c), HIT5.out, HLE.out, HR.out, rfl, by rw [← HACC.out, List.map_cons, text_cons, List.append_assoc], HBU5.out, HW5.out, hbs5⟩
      | false =>
        have R2 := Lib.hid (fun u => capital_any c u false hc)
        have hsm : small c = c := by rw [small_capital, hc]; rfl
        have HSM := Lib.hid hsm
        clear hc hsm
        go_wp2_with fail
        refine (R2.out _).mono ?_
        rintro e w4 ⟨rfl, rfl⟩
        go_wp2_with fail
        refine (Use.rune_k b b acc c _ HBU2.out HC.out.2 (by have := HAL.out; omega) (by omega)).mono ?_
        rintro e w5 ⟨rfl, hbu5, hb5, hk5⟩
        have HBU5 := Lib.hid hbu5
        have HW5 := Lib.hid (HW2.out.trans (hb5.mono hbb))
        have HIT5 := Lib.hid (hk5.iter HIT.out (by omega))
        have hbs5 : b < w5.heap.size := by have := hb5.size; omega
        clear hbu5 hb5 hk5
        go_wp2
        go_roundg r'.length
        case measure => have := HGK.out; simp at this; omega
        case rel => exact ⟨pos + (enc c).length, r', acc ++ enc c, HIT5.out, HLE.out, HR.out, rfl, by rw [← HACC.out, List.map_cons, text_cons, HSM.out, List.append_assoc], HBU5.out, HW5.out, hbs5⟩
end Go.Proofs.YthlhhmhldpmpiaaDoor.Phr
