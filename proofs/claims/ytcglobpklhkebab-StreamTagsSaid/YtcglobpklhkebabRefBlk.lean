/-
  The document's own answers for a block, a stream and a hidden text are what the plain mathematics of the text Cha says, and all memory that was there stays. No condition but those that each theorem names.
-/
import Derived.Test.YtcglobpklhkebabRefMix
import Derived.Test.YtcglobpklhkebabRefState
namespace Go.Proofs.Ytcglobpklhkebab.RefCha
open Go.RowKit Mur Lanes Cha
set_option maxRecDepth 100000

/-- The state and the words under way. -/
def Both (w0 : World) (b c : Nat) (t x : List Nat) (w : World) : Prop := Whole w b 51 (wordsV t) ∧ Whole w c 51 (wordsV x) ∧ Below w0.heap.size w0 w
theorem Both.below {w0 w w' : World} {b c : Nat} {t x : List Nat} (h : Both w0 b c t x w) (k : Below w.heap.size w w') : Both w0 b c t x w' :=
  ⟨h.1.below h.1.lt k, h.2.1.below h.2.1.lt k, h.2.2.trans (k.mono h.2.2.size)⟩
theorem Both.put {w0 w : World} {b c : Nat} {t x : List Nat} (h : Both w0 b c t x w) (y : List Nat) (h1 : b ≠ c) (h3 : w0.heap.size ≤ c) : Both w0 b c t y (w.setRow c (wordsV y).toArray) := by
  have o1 : (w.setRow c (wordsV y).toArray).heap[b]? = w.heap[b]? := by
    simp [World.setRow, Array.getElem?_modify, Ne.symm h1]
  exact ⟨o1.trans h.1, h.2.1.setRow _, below_setRow h.2.2 h3 _⟩
theorem Both.word {w0 w : World} {b c : Nat} {t x : List Nat} (h : Both w0 b c t x w) (i y : Nat) (h1 : b ≠ c) (h3 : w0.heap.size ≤ c) : Both w0 b c t (x.set i y) (w.setCell ⟨c, i, none⟩ (.int .u32 (y : Int))) :=
  ⟨h.1.other _ _ _ h1.symm, set_word h.2.1 i y, h.2.2.setCell (p := ⟨c, i, none⟩) h3 _⟩
theorem Both.drew {w0 w : World} {b c : Nat} {t x : List Nat} (h : Both w0 b c t x w) : Both w0 b c t x w.drew := ⟨h.1, h.2.1, h.2.2.drew⟩

set_option maxHeartbeats 800000 in
theorem block_none (key nonce : ByteArray) (n : Int) (w : World) (h : ¬ (key.size = 32 ∧ nonce.size = 12)) :
    Calls Try.prog 44 #[.string key, .int .u32 n, .string nonce] w fun e w' => e = .returned (.tuple #[.string ⟨#[]⟩, .int .i64 1]) ∧ Below w.heap.size w w' := by
  have hd : ((key.size : Int) != 32) = true ∨ (((key.size : Int) != 32) = false ∧ ((nonce.size : Int) != 12) = true) := by
    by_cases e : key.size = 32
    · right
      refine ⟨by simp; omega, by simp; omega⟩
    · left
      simp; omega
  clear h
  rcases hd with h1 | ⟨h1, h2⟩
  all_goals
    go_enter Try.func44, Try.ntmps44
    go_wp2
    refine bodyPost_ret (v := .tuple #[.string ⟨#[]⟩, .int .i64 1]) (by simp [results, Try.results44, go_sem]) rfl ⟨rfl, Below.refl _ _⟩

set_option maxHeartbeats 3200000 in
theorem block_some (key nonce T : ByteArray) (n : Nat) (w : World) (hk : key.size = 32) (hn : nonce.size = 12) (hlt : n < 4294967296) (hT : T = ⟨(blockT (stateZ key.data.toList nonce.data.toList) n).toArray⟩) :
    Calls Try.prog 44 #[.string key, .int .u32 n, .string nonce] w fun e w' => e = .returned (.tuple #[.string T, .int .i64 0]) ∧ Below w.heap.size w w' := by
  obtain ⟨t, ht⟩ : ∃ t, t = (stateZ key.data.toList nonce.data.toList).set 12 n := ⟨_, rfl⟩
  have hokt : Words16 t := by rw [ht]; exact (stateW_ok hk rfl hn : Words16 (stateZ key.data.toList nonce.data.toList)).set 12 n hlt
  obtain ⟨B, hB⟩ : ∃ B, B = blockW t := ⟨_, rfl⟩
  have hT2 : T = ⟨(text B false).toArray⟩ := by rw [hT, hB, ht]; rfl
  have r1 := Lib.hid (fun u => state_any key nonce n t u hk hn hlt ht)
  have h1 : ((key.size : Int) != 32) = false := by simp; omega
  have h2 : ((nonce.size : Int) != 12) = false := by simp; omega
  have HT := Lib.hid hokt
  have HB := Lib.hid hB
  have HTX := Lib.hid hT2
  have HI := Lib.hid (info16 hokt.1)
  have HO := Lib.hid (show zeros16.length = (wordsV t).length by rw [wordsV_length, hokt.1]; rfl)
  have H1 := Lib.hid (one16 t)
  clear ht hokt hB hT hT2 hk hn
  go_enter Try.func44, Try.ntmps44
  go_wp2_with fail
  refine (r1.out _).mono ?_
  rintro e w1 ⟨rfl, hb1⟩
  have HB1 := Lib.hid hb1
  clear hb1
  have HW1 := Lib.hid (Whole.made w1 51 (wordsV t))
  go_upto_region 5 with ((first
    | (with_reducible refine wpList_load_mid rfl 51 (.tmp 8) rfl w1.heap.size 0 rfl (wordsV t) _ HW1.out.range Try.underlying51 rfl HI.out ?_)
    | (with_reducible refine wpList_alloc_z rfl 51 rfl zeros16 zero16 ?_)
    | (with_reducible refine wpList_store_new rfl 51 _ _ rfl _ (wordsV t) zeros16 rfl rfl rfl HI.out HO.out H1.out ?_)))
  go_simp
  have h3 : Both w w1.heap.size (w1.heap.size + 1) t t ((w1.alloc (.cells (wordsV t).toArray 51)).alloc (.cells (wordsV t).toArray 51)) :=
    ⟨(Whole.made _ _ _).alloc _, Whole.made' _ _ (wordsV t).toArray _ (by simp), (HB1.out.alloc HB1.out.size _).alloc (by have := HB1.out.size; simp; omega) _⟩
  have hn1 : w.heap.size ≤ w1.heap.size := HB1.out.size
  have H3 := Lib.hid h3
  clear h3 HB1 HW1 HI HO H1 r1
  generalize (w1.alloc (.cells (wordsV t).toArray 51)).alloc (.cells (wordsV t).toArray 51) = wy at *
  generalize w1.heap.size = nS at *
  obtain ⟨nC, hnC⟩ : ∃ nC, nC = nS + 1 := ⟨_, rfl⟩
  rw [← hnC] at H3 ⊢
  have n1 : nS ≠ nC := by omega
  have n3 : w.heap.size ≤ nC := by omega
  have N1 := Lib.hid n1
  clear n1 hnC
  go_wp2
  go_loopw [24] (fun i wr => ∃ k : Nat, k ≤ 10 ∧ i = .int .i64 k ∧ Both w nS nC t (mixes t k) wr) (fun i _ => 10 - (intOf i).toNat)
  case atStart => exact ⟨0, by omega, rfl, H3.out⟩
  case round =>
    obtain ⟨k, hk10, rfl, hk⟩ := hrel
    by_cases hlt : k < 10
    · have hd2 : decide ((k : Int) < 10) = true := by simp; omega
      have hstep : mixes t (k + 1) = mixed (mixes t k) := rfl
      have hok := HT.out.mixes k
      generalize mixes t k = X at *
      obtain ⟨M, hM⟩ : ∃ M, M = mixed X := ⟨_, rfl⟩
      have hokM : Words16 M := by rw [hM]; exact hok.mixed
      rw [← hM] at hstep
      have R := Lib.hid (fun u => RefCha.mixed_any X M u hok hM)
      have HX1 := Lib.hid hk.2.1
      have HK := Lib.hid hk
      have HIX := Lib.hid (info16 hok.1)
      have HIM := Lib.hid (infoA16 hokM.1)
      have HOM := Lib.hid (show (wordsV X).toArray.size = (wordsV M).toArray.size by simp [wordsV_length, hok.1, hokM.1])
      have H1M := Lib.hid (one16 M)
      have HST := Lib.hid hstep
      clear hk hok hokM hM hstep H3
      go_wp2_with ((with_reducible refine wpList_load_mid rfl 51 (.tmp 9) rfl nC 0 rfl (wordsV X) _ HX1.out.range Try.underlying51 rfl HIX.out ?_))
      refine (R.out _).mono ?_
      rintro e w1 ⟨rfl, hb1⟩
      have hk2 := HK.out.below hb1
      have hx2 : w1.heap[nC]? = some (.cells (wordsV X).toArray 51 (0, 0)) := hk2.2.1
      have HK2 := Lib.hid hk2
      have HX2 := Lib.hid hx2
      clear hb1 hk2 hx2
      go_wp2_with ((with_reducible refine wpList_store_row rfl 51 (.tmp 9) (.tmp 27) rfl nC (wordsV M).toArray rfl rfl 51 (wordsV X).toArray HX2.out HIM.out HOM.out H1M.out ?_))
      go_roundw
      case rel => exact ⟨k + 1, by omega, by go_num, by rw [HST.out]; exact HK2.out.put M N1.out n3⟩
      case measure => simp [intOf]; omega
    · have hd2 : decide ((k : Int) < 10) = false := by simp; omega
      obtain rfl : k = 10 := by omega
      have hokX := HT.out.mixes 10
      have hB2 : B = sumTo (mixes t 10) t 16 := HB.out
      generalize mixes t 10 = X at *
      have HK := Lib.hid hk
      have HX := Lib.hid hokX
      have HB2 := Lib.hid hB2
      clear hk hokX hB2 HB H3
      go_wp2
      obtain ⟨wo, rfl⟩ : ∃ wo : World, wo = wr := ⟨_, rfl⟩
      go_loopw [29] (fun i wr => ∃ k : Nat, k ≤ 16 ∧ i = .int .i64 k ∧ Both w nS nC t (sumTo X t k) wr) (fun i _ => 16 - (intOf i).toNat)
      case atStart => exact ⟨0, by omega, rfl, by rw [sumTo_zero HX.out.1]; exact HK.out⟩
      case round =>
        obtain ⟨k, hk16, rfl, hk⟩ := hrel
        by_cases hlt : k < 16
        · have hd2 : decide ((k : Int) < 16) = true := by simp; omega
          have hnext := sumTo_succ X t k
          have hat := sumTo_at X t k hlt
          have hlen := sumTo_length X t k
          have hlx := HX.out.at k
          have hlt' := HT.out.at k
          generalize sumTo X t k = Y at *
          have cx := word_cell hk.2.1 (i := k) (by omega)
          have fx := word_free hk.2.1 (i := k) (by omega)
          have ct := word_cell hk.1 (i := k) (by rw [HT.out.1]; omega)
          rw [hat] at cx
          generalize X.getD k 0 = x at *
          generalize t.getD k 0 = y at *
          have HP := Lib.hid (hk.word k ((x + y) % 4294967296) N1.out n3).drew
          have hq : ((x : Int) + (y : Int)) % 4294967296 = (((x + y) % 4294967296 : Nat) : Int) := by omega
          have HQ := Lib.hid hq
          have HNX := Lib.hid hnext
          clear hk hat hnext hq hlen
          go_wp2
          go_region
          all_goals go_wp2
          all_goals go_roundw
          case rel => exact ⟨k + 1, by omega, by go_num, by rw [← HNX.out, HQ.out]; exact HP.out⟩
          case measure => simp [intOf]; omega
        · have hd2 : decide ((k : Int) < 16) = false := by simp; omega
          obtain rfl : k = 16 := by omega
          rw [← HB2.out] at hk
          have hokB : Words16 B := by rw [HB2.out]; exact sumTo_ok HX.out 16
          have r3 := Lib.hid (show ∀ (u : World) (b : Nat), Whole u b 51 (wordsV B) → Calls Try.prog 45 #[.slice (some ⟨b, 0, none⟩) 16 16, .bool false] u fun e w' => e = .returned (.string T) ∧ Below u.heap.size u w' from fun u b hb => by
            have := RefTwo.text_some B b 0 16 false u (by rw [hokB.1]; omega) hokB.2 hb.lt (words_cells hb)
            rw [hokB.1, ← HTX.out] at this
            exact this)
          have HBW := Lib.hid hk.2.1
          have HBL := Lib.hid hk.2.2
          clear hk hokB HK HX
          go_wp2_with fail
          refine (r3.out _ _ HBW.out).mono ?_
          rintro e w5 ⟨rfl, hb5⟩
          go_wp2
          refine bodyPost_ret (v := .tuple #[.string T, .int .i64 0]) (by simp [results, Try.results44, go_sem]) rfl ⟨rfl, HBL.out.trans (hb5.mono HBL.out.size)⟩
end Go.Proofs.Ytcglobpklhkebab.RefCha
