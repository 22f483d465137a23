/-
  The document's own answers for a mixed state, the state of a key, and a block are what the plain mathematics of the text Cha says, and all memory that was there stays. No condition but those that each theorem names.
-/
import Derived.Test.YtcglobpklhkebabRefOn
import Derived.Test.YtcglobpklhkebabChaLong
import Derived.Test.YtcglobpklhkebabRefWords
namespace Go.Proofs.Ytcglobpklhkebab.RefCha
open Go.RowKit Mur Lanes Cha
set_option maxRecDepth 100000

theorem two_row {w0 w : World} {b : Nat} {s : List Nat} (h : Two w0 b s w) (z : List Nat) (hb : w0.heap.size ≤ b := by omega) : Two w0 b z (w.setRow b (wordsV z).toArray) := by
  have o2 : (w.setRow b (wordsV z).toArray).heap[b + 1]? = w.heap[b + 1]? := by
    simp [World.setRow, Array.getElem?_modify]
  exact ⟨h.1.setRow _, o2.trans h.2.1, below_setRow h.2.2 hb _⟩

set_option maxHeartbeats 1600000 in
theorem mixed_any (s M : List Nat) (w : World) (h : Words16 s) (hM : M = mixed s) :
    Calls Try.prog 53 #[.agg (wordsV s).toArray] w fun e w' => e = .returned (.agg (wordsV M).toArray) ∧ Below w.heap.size w w' := by
  have HM := Lib.hid hM
  have HS := Lib.hid h
  clear hM h
  have hst : Two w w.heap.size s ((w.alloc (.cells (wordsV s).toArray 51)).alloc (.cells zeros16.toArray 51)) :=
    ⟨(Whole.made' w _ (wordsV s).toArray _ rfl).alloc _, Whole.made' _ _ zeros16.toArray _ (by simp), ((Below.refl _ _).alloc (Nat.le_refl _) _).alloc (by simp) _⟩
  have HT := Lib.hid hst
  clear hst
  go_enter Try.func53, Try.ntmps53
  go_wp2
  go_loopw [5] (fun i wr => ∃ k : Nat, k ≤ 4 ∧ i = .int .i64 k ∧ Two w w.heap.size (slant s 0 k) wr) (fun i _ => 4 - (intOf i).toNat)
  case atStart => exact ⟨0, by omega, rfl, HT.out⟩
  case round =>
    obtain ⟨k, hk4, rfl, hk⟩ := hrel
    by_cases hlt : k < 4
    · have hd2 : decide ((k : Int) < 4) = true := by simp; omega
      have hok := HS.out.slant 0 k
      have hstep : slant s 0 (k + 1) = on (slant s 0 k) k (4 + k) (8 + k) (12 + k) := by
        show on _ _ (pb 0 k) (pc 0 k) (pd 0 k) = _
        have e1 : pb 0 k = 4 + k := by unfold pb; omega
        have e2 : pc 0 k = 8 + k := by unfold pc; omega
        have e3 : pd 0 k = 12 + k := by unfold pd; omega
        rw [e1, e2, e3]
      generalize slant s 0 k = X at *
      obtain ⟨Z, hZ⟩ : ∃ Z, Z = on X k (4 + k) (8 + k) (12 + k) := ⟨_, rfl⟩
      have hokZ : Words16 Z := by rw [hZ]; exact hok.on _ _ _ _
      rw [← hZ] at hstep
      have R := Lib.hid (show ∀ u, Calls Try.prog 62 #[.agg (wordsV X).toArray, .int .i64 (k : Int), .int .i64 (4 + (k : Int)), .int .i64 (8 + (k : Int)), .int .i64 (12 + (k : Int))] u fun e w' => e = .returned (.agg (wordsV Z).toArray) ∧ Below u.heap.size u w' from fun u => on_any X k (4 + k) (8 + k) (12 + k) Z u hok (by omega) (by omega) (by omega) (by omega) hZ)
      have HX1 := Lib.hid hk.1
      have HK := Lib.hid hk
      have HIX := Lib.hid (info16 hok.1)
      have HIM := Lib.hid (infoA16 hokZ.1)
      have HOM := Lib.hid (show (wordsV X).toArray.size = (wordsV Z).toArray.size by simp [wordsV_length, hok.1, hokZ.1])
      have H1M := Lib.hid (one16 Z)
      have HST := Lib.hid hstep
      clear hk hok hokZ hZ hstep HT
      go_wp2_with ((with_reducible refine wpList_load_mid rfl 51 (.tmp 1) rfl w.heap.size 0 rfl (wordsV X) _ HX1.out.range Try.underlying51 rfl HIX.out ?_))
      refine (R.out _).mono ?_
      rintro e w1 ⟨rfl, hb1⟩
      have hk2 : Two w w.heap.size X w1 := ⟨HK.out.1.below HK.out.1.lt hb1, HK.out.2.1.below HK.out.2.1.lt hb1, HK.out.2.2.trans (hb1.mono HK.out.2.2.size)⟩
      have hx2 : w1.heap[w.heap.size]? = some (.cells (wordsV X).toArray 51 (0, 0)) := hk2.1
      have HK2 := Lib.hid hk2
      have HX2 := Lib.hid hx2
      clear hb1 hk2 hx2
      go_wp2_with ((with_reducible refine wpList_store_row rfl 51 (.tmp 1) (.tmp 16) rfl w.heap.size (wordsV Z).toArray rfl rfl 51 (wordsV X).toArray HX2.out HIM.out HOM.out H1M.out ?_))
      go_roundw
      case rel => exact ⟨k + 1, by omega, by go_num, by rw [HST.out]; exact two_row HK2.out Z⟩
      case measure => simp [intOf]; omega
    · have hd2 : decide ((k : Int) < 4) = false := by simp; omega
      obtain rfl : k = 4 := by omega
      have hok := HS.out.slant 0 4
      have hM2 : M = slant (slant s 0 4) 1 4 := HM.out
      generalize slant s 0 4 = X at *
      have HX := Lib.hid hok
      have HK := Lib.hid hk
      have HM2 := Lib.hid hM2
      clear hok hk hM2 HM HT hd2
      rw [show ((4 : Nat) : Int) = 4 from rfl]
      go_wp2
      obtain ⟨wo, rfl⟩ : ∃ wo : World, wo = wr := ⟨_, rfl⟩
      go_loopw [18] (fun i wr => ∃ k : Nat, k ≤ 4 ∧ i = .int .i64 k ∧ Two w w.heap.size (slant X 1 k) wr) (fun i _ => 4 - (intOf i).toNat)
      case atStart => exact ⟨0, by omega, rfl, HK.out⟩
      case round =>
        obtain ⟨k, hk4, rfl, hk⟩ := hrel
        by_cases hlt : k < 4
        · have hd2 : decide ((k : Int) < 4) = true := by simp; omega
          have hok := HX.out.slant 1 k
          obtain ⟨b, hb⟩ : ∃ b, b = pb 1 k := ⟨_, rfl⟩
          obtain ⟨c, hc⟩ : ∃ b, b = pc 1 k := ⟨_, rfl⟩
          obtain ⟨d, hd⟩ : ∃ b, b = pd 1 k := ⟨_, rfl⟩
          have hstep : slant X 1 (k + 1) = on (slant X 1 k) k b c d := by rw [hb, hc, hd]; rfl
          generalize slant X 1 k = Y at *
          unfold pb at hb
          unfold pc at hc
          unfold pd at hd
          have qb : (4 : Int) + ((k : Int) + 1) % 4 = (b : Int) := by omega
          have qc : (8 : Int) + ((k : Int) + 2) % 4 = (c : Int) := by omega
          have qd : (12 : Int) + ((k : Int) + 3) % 4 = (d : Int) := by omega
          have lb : b < 16 := by omega
          have lc : c < 16 := by omega
          have ld : d < 16 := by omega
          clear hb hc hd
          obtain ⟨Z, hZ⟩ : ∃ Z, Z = on Y k b c d := ⟨_, rfl⟩
          have hokZ : Words16 Z := by rw [hZ]; exact hok.on _ _ _ _
          rw [← hZ] at hstep
          have R := Lib.hid (fun u => on_any Y k b c d Z u hok (by omega) lb lc ld hZ)
          have HX1 := Lib.hid hk.1
          have HK3 := Lib.hid hk
          have HIX := Lib.hid (info16 hok.1)
          have HIM := Lib.hid (infoA16 hokZ.1)
          have HOM := Lib.hid (show (wordsV Y).toArray.size = (wordsV Z).toArray.size by simp [wordsV_length, hok.1, hokZ.1])
          have H1M := Lib.hid (one16 Z)
          have HST := Lib.hid hstep
          clear hk hok hokZ hZ hstep HK
          go_wp2_with ((with_reducible refine wpList_load_mid rfl 51 (.tmp 1) rfl w.heap.size 0 rfl (wordsV Y) _ HX1.out.range Try.underlying51 rfl HIX.out ?_))
          refine (R.out _).mono ?_
          rintro e w1 ⟨rfl, hb1⟩
          have hk2 : Two w w.heap.size Y w1 := ⟨HK3.out.1.below HK3.out.1.lt hb1, HK3.out.2.1.below HK3.out.2.1.lt hb1, HK3.out.2.2.trans (hb1.mono HK3.out.2.2.size)⟩
          have hx2 : w1.heap[w.heap.size]? = some (.cells (wordsV Y).toArray 51 (0, 0)) := hk2.1
          have HK2 := Lib.hid hk2
          have HX2 := Lib.hid hx2
          clear hb1 hk2 hx2
          go_wp2_with ((with_reducible refine wpList_store_row rfl 51 (.tmp 1) (.tmp 35) rfl w.heap.size (wordsV Z).toArray rfl rfl 51 (wordsV Y).toArray HX2.out HIM.out HOM.out H1M.out ?_))
          go_roundw
          case rel => exact ⟨k + 1, by omega, by go_num, by rw [HST.out]; exact two_row HK2.out Z⟩
          case measure => simp [intOf]; omega
        · have hd2 : decide ((k : Int) < 4) = false := by simp; omega
          obtain rfl : k = 4 := by omega
          rw [← HM2.out] at hk
          have hokM : Words16 M := by rw [HM2.out]; exact HX.out.slant 1 4
          have HI := Lib.hid (info16 hokM.1)
          have HA := Lib.hid (infoA16 hokM.1)
          have HO := Lib.hid (long16 hokM.1)
          have H1 := Lib.hid (one16 M)
          have HB := Lib.hid hk
          have HB1 := Lib.hid hk.1
          have hA2 : wr.heap[w.heap.size + 1]? = some (.cells zeros16.toArray 51 (0, 0)) := hk.2.1
          have HA2 := Lib.hid hA2
          clear hk hA2 hokM HK
          go_wp2_with ((first
            | (with_reducible refine wpList_load_mid rfl 51 (.tmp 1) rfl w.heap.size 0 rfl (wordsV M) _ HB1.out.range Try.underlying51 rfl HI.out ?_)
            | (with_reducible refine wpList_store_row rfl 51 (.tmp 2) (.tmp 37) rfl (w.heap.size + 1) (wordsV M).toArray rfl rfl 51 zeros16.toArray HA2.out HA.out HO.out H1.out ?_)))
          refine bodyPost_ret (v := .agg (wordsV M).toArray) ?_ rfl ⟨rfl, below_setRow HB.out.2.2 (by omega) _⟩
          exact results_whole (ty := 51) Try.results53 _ _ (w.heap.size + 1) 51 (wordsV M) _ (by simp [Act.put]) (HB.out.2.1.setRow _) Try.underlying51 rfl HI.out
end Go.Proofs.Ytcglobpklhkebab.RefCha
