/-
  stream.Stream answers the first bytes of the blocks from 0 on as the plain mathematics of the text Cha has them, or ErrArg, and leaves all memory that was there as it was. No condition but those that each theorem names.
-/
import Derived.Test.YtcglobpklhkebabChaBlock
import Derived.Test.YtcglobpklhkebabRefWords
namespace Go.Proofs.Ytcglobpklhkebab.Cha
open Go.RowKit Mur Lanes
set_option maxRecDepth 100000

/-- The words of the blocks below i. -/
def streamW (s : List Nat) : Nat → List Nat
  | 0 => []
  | i + 1 => streamW s i ++ blockW (s.set 12 i)
theorem streamW_length {s : List Nat} (c : Nat) : (streamW s c).length = 16 * c := by
  induction c with
  | zero => rfl
  | succ c ih =>
    rw [streamW, List.length_append, ih]
    show 16 * c + (sumTo _ _ 16).length = _
    rw [sumTo_length]
    omega
theorem streamW_lt {s : List Nat} (h : Words16 s) (c : Nat) (hc : c ≤ 4294967296) : ∀ x ∈ streamW s c, x < 4294967296 := by
  induction c with
  | zero => intro x hx; cases hx
  | succ c ih =>
    intro x hx
    rw [streamW, List.mem_append] at hx
    rcases hx with hx | hx
    · exact ih (by omega) x hx
    · exact (blockW_ok (h.set 12 c (by omega))).2 x hx
def blocks (n : Nat) : Nat := (n + 63) / 64
/-- The first n bytes of the stream of a state. -/
def streamT (s : List Nat) (n : Nat) : List UInt8 := (text (streamW s (blocks n)) false).take n
theorem streamT_length (s : List Nat) (n : Nat) : (streamT s n).length = n := by
  unfold streamT
  rw [List.length_take, text_length, streamW_length]
  unfold blocks
  omega

/-- A slice of its own stays what it is where nothing older is touched. -/
theorem own_keep {w w' : World} {base n size : Nat} {e : TypeId} {v : Value} {xs : List Value} (h : w.ownsRow base e size v n xs) (k : Below w.heap.size w w') : w'.ownsRow base e size v n xs := by
  refine ⟨h.1, ?_⟩
  rcases h.2 with h | ⟨g, cap, cur, h1, h2, h3, h4⟩
  · exact .inl h
  · refine .inr ⟨g, cap, cur, h1, h2, ?_, h4⟩
    rw [k.block g (Array.getElem?_eq_some_iff.1 h3).1]
    exact h3
theorem new_words (w : World) (B : List Nat) (t : TypeId) : ∀ (j : Nat) (u : Value), (wordsV B)[j]? = some u → (w.alloc (.cells (wordsV B).toArray t)).cell? ((⟨w.heap.size, 0, none⟩ : Addr).add j) = some u := fun j u hj => by
  rw [Addr.add_mid, Nat.zero_add]
  exact (Whole.made w t (wordsV B)).row.cell hj
theorem words_one (B : List Nat) : ∀ u ∈ wordsV B, u.oneCell' = true := fun v hv => by
  simp only [wordsV, List.mem_map] at hv
  obtain ⟨n, _, rfl⟩ := hv
  rfl

set_option maxHeartbeats 800000 in
theorem stream_none (key nonce : ByteArray) (n : Int) (w : World) (h : ¬ (key.size = 32 ∧ nonce.size = 12)) :
    Calls Try.prog 13 #[.string key, .string nonce, .int .i64 n] w fun e w' => e = .returned (.tuple #[.string ⟨#[]⟩, .int .i64 1]) ∧ Below w.heap.size w w' := by
  have r1 := Lib.hid (fun u => state_none key nonce u h)
  have HIM := Lib.hid info_z16
  have HO := Lib.hid (show zeros16.length = zeros16.length from rfl)
  have H1 := Lib.hid one_z16
  clear h
  go_enter Try.func13, Try.ntmps13
  go_wp2_with fail
  refine (r1.out _).mono ?_
  rintro e w1 ⟨rfl, hb1⟩
  go_wp2_with ((first
    | (with_reducible refine wpList_alloc_z rfl 51 rfl zeros16 zero16 ?_)
    | (with_reducible refine wpList_store_new rfl 51 _ _ rfl _ zeros16 zeros16 rfl rfl rfl HIM.out HO.out H1.out ?_)))
  refine bodyPost_ret (v := .tuple #[.string ⟨#[]⟩, .int .i64 1]) (by simp [results, Try.results13, go_sem]) rfl ⟨rfl, ?_⟩
  exact hb1.alloc hb1.size _

set_option maxHeartbeats 800000 in
theorem stream_far (key nonce : ByteArray) (n : Int) (w : World) (hk : key.size = 32) (hn : nonce.size = 12) (h : n < 0 ∨ 6000 < n) :
    Calls Try.prog 13 #[.string key, .string nonce, .int .i64 n] w fun e w' => e = .returned (.tuple #[.string ⟨#[]⟩, .int .i64 1]) ∧ Below w.heap.size w w' := by
  obtain ⟨S, hS⟩ : ∃ S, S = stateZ key.data.toList nonce.data.toList := ⟨_, rfl⟩
  have hokS : Words16 S := by rw [hS]; exact stateW_ok hk rfl hn
  have r1 := Lib.hid (fun u => state_some key nonce S u hk hn hS)
  have HIS := Lib.hid (info16 hokS.1)
  have HOS := Lib.hid (show zeros16.length = (wordsV S).length by rw [wordsV_length, hokS.1]; rfl)
  have H1S := Lib.hid (one16 S)
  clear hS hokS hk hn
  have hd : decide (n < 0) = true ∨ (decide (n < 0) = false ∧ decide (6000 < n) = true) := by
    by_cases e : n < 0
    · left; simpa using e
    · right; exact ⟨by simpa using e, by simp; omega⟩
  clear h
  rcases hd with h1 | ⟨h1, h2⟩
  all_goals
    go_enter Try.func13, Try.ntmps13
    go_wp2_with fail
    refine (r1.out _).mono ?_
    rintro e w1 ⟨rfl, hb1⟩
    go_wp2_with ((first
      | (with_reducible refine wpList_alloc_z rfl 51 rfl zeros16 zero16 ?_)
      | (with_reducible refine wpList_store_new rfl 51 _ _ rfl _ (wordsV S) zeros16 rfl rfl rfl HIS.out HOS.out H1S.out ?_)))
    refine bodyPost_ret (v := .tuple #[.string ⟨#[]⟩, .int .i64 1]) (by simp [results, Try.results13, go_sem]) rfl ⟨rfl, ?_⟩
    exact hb1.alloc hb1.size _

set_option maxHeartbeats 1600000 in
theorem stream_some (key nonce T : ByteArray) (n : Nat) (w : World) (hk : key.size = 32) (hn : nonce.size = 12) (hlt : n ≤ 6000) (hT : T = ⟨(streamT (stateZ key.data.toList nonce.data.toList) n).toArray⟩) :
    Calls Try.prog 13 #[.string key, .string nonce, .int .i64 n] w fun e w' => e = .returned (.tuple #[.string T, .int .i64 0]) ∧ Below w.heap.size w w' := by
  obtain ⟨S, hS⟩ : ∃ S, S = stateZ key.data.toList nonce.data.toList := ⟨_, rfl⟩
  have hokS : Words16 S := by rw [hS]; exact stateW_ok hk rfl hn
  rw [← hS] at hT
  obtain ⟨c, hc⟩ : ∃ c, c = blocks n := ⟨_, rfl⟩
  have hci : ((n : Int) + 64 - 1) / 64 = (c : Int) := by rw [hc]; unfold blocks; omega
  have hc94 : c ≤ 94 := by rw [hc]; unfold blocks; omega
  have hcn : n ≤ 64 * c := by rw [hc]; unfold blocks; omega
  have hTl : T = ⟨((text (streamW S c) false).take n).toArray⟩ := by rw [hT, hc]; rfl
  have r1 := Lib.hid (fun u => state_some key nonce S u hk hn hS)
  have HK := Lib.hid hokS
  have HT := Lib.hid hTl
  have HIS := Lib.hid (info16 hokS.1)
  have HOS := Lib.hid (show zeros16.length = (wordsV S).length by rw [wordsV_length, hokS.1]; rfl)
  have H1S := Lib.hid (one16 S)
  clear hS hokS hT hc hTl hk hn
  have hd1 : decide ((n : Int) < 0) = false := by simp
  have hd2 : decide (6000 < (n : Int)) = false := by simp; omega
  go_enter Try.func13, Try.ntmps13
  go_wp2_with fail
  refine (r1.out _).mono ?_
  rintro e w1 ⟨rfl, hb1⟩
  have HB1 := Lib.hid hb1
  clear hb1
  go_upto_region 6 with ((first
    | (with_reducible refine wpList_alloc_z rfl 51 rfl zeros16 zero16 ?_)
    | (with_reducible refine wpList_store_new rfl 51 _ _ rfl _ (wordsV S) zeros16 rfl rfl rfl HIS.out HOS.out H1S.out ?_)))
  have HW1 := Lib.hid (Whole.made w1 51 (wordsV S))
  have HB2 := Lib.hid (HB1.out.alloc HB1.out.size (.cells (wordsV S).toArray 51))
  have hn1 : w.heap.size ≤ w1.heap.size := HB1.out.size
  go_simp
  generalize w1.alloc (.cells (wordsV S).toArray 51) = w2 at *
  generalize w1.heap.size = nS at *
  clear hd1 hd2 r1 HIS HOS H1S HB1
  go_wp2
  simp only [hci]
  clear hci
  have hown : (w2.alloc (.cells #[] 31)).ownsRow w2.heap.size 31 1 (.slice (some ⟨w2.heap.size, 0, none⟩) 0 0) 0 (wordsV []) :=
    ⟨rfl, .inr ⟨w2.heap.size, 0, #[], rfl, Nat.le_refl _, _root_.Go.heap_alloc_new w2 _, Nat.le_refl _, by unfold maxLen; omega, rfl, rfl⟩⟩
  have hbel0 : Below w2.heap.size w2 (w2.alloc (.cells #[] 31)) := (Below.refl _ _).alloc (Nat.le_refl _) _
  have HOWN := Lib.hid hown
  have HBEL := Lib.hid hbel0
  clear hown hbel0
  obtain ⟨i0, hi, hz0, hz1, hz2⟩ := info_parts info_u32
  go_loopw [10, 33] (fun v i wr => ∃ k : Nat, k ≤ c ∧ i = .int .i64 k ∧ wr.ownsRow w2.heap.size 31 1 v (16 * k) (wordsV (streamW S k)) ∧ Below w2.heap.size w2 wr) (fun _ i _ => c - (intOf i).toNat)
  case atStart => exact ⟨0, by omega, rfl, HOWN.out, HBEL.out⟩
  case round =>
    obtain ⟨k, hkc, rfl, hown, hbel⟩ := hrel
    by_cases hlt2 : k < c
    · have hd3 : decide ((k : Int) < (c : Int)) = true := by simp; omega
      obtain ⟨B, hB⟩ : ∃ B, B = blockW (S.set 12 k) := ⟨_, rfl⟩
      have hokB : Words16 B := by rw [hB]; exact blockW_ok (HK.out.set 12 k (by omega))
      have hstep : streamW S (k + 1) = streamW S k ++ B := by rw [hB]; rfl
      have hws : wordsV (streamW S (k + 1)) = wordsV (streamW S k) ++ wordsV B := by rw [hstep]; simp [wordsV]
      have r2 := Lib.hid (fun u => blockOf_any S B k u HK.out (by omega) hB)
      have hwS := HW1.out.below HW1.out.lt hbel
      have HWS := Lib.hid hwS
      have HIS := Lib.hid (info16 HK.out.1)
      have HIB := Lib.hid (info16 hokB.1)
      have HOB := Lib.hid (show zeros16.length = (wordsV B).length by rw [wordsV_length, hokB.1]; rfl)
      have H1B := Lib.hid (one16 B)
      have HNB := Lib.hid (show (wordsV B).length = 16 * 1 by rw [wordsV_length, hokB.1])
      have HWV := Lib.hid hws
      have HOW := Lib.hid hown
      have HBL := Lib.hid hbel
      have nb1 : 16 * (k + 1) ≤ 1504 := by omega
      clear hB hokB hstep hws hwS hown hbel HOWN HBEL
      go_wp2_with ((with_reducible refine wpList_load_mid rfl 51 (.tmp 8) rfl nS 0 rfl (wordsV S) _ HWS.out.range Try.underlying51 rfl HIS.out ?_))
      refine (r2.out _).mono ?_
      rintro e w3 ⟨rfl, hb3⟩
      have HOW3 := Lib.hid (own_keep HOW.out hb3)
      have HBL3 := Lib.hid (HBL.out.trans (hb3.mono HBL.out.size))
      have HNW := Lib.hid (new_words w3 B 51)
      have HOB1 := Lib.hid (words_one B)
      clear hb3
      go_upto_region 11 with ((first
        | (with_reducible refine wpList_alloc_z rfl 51 rfl zeros16 zero16 ?_)
        | (with_reducible refine wpList_store_new rfl 51 _ _ rfl _ (wordsV B) zeros16 rfl rfl rfl HIB.out HOB.out H1B.out ?_)))
      go_simp
      go_wp2_with (at_builtin; refine wpList_append_own _ rfl _ _ 56 rfl w2.heap.size 31 i0 (.int .u32 0) 1 4 Try.underlying56 hi hz0 hz1 hz2 rfl (by decide) _ _ _ rfl (HOW3.out.alloc _) ⟨w3.heap.size, 0, none⟩ 16 16 (wordsV B) rfl HNB.out HNW.out HOB1.out ?c3 ?c4 ?c5 ?_)
      case c3 => unfold maxLen; omega
      case c4 => omega
      case c5 => exact Nat.le_trans HBL3.out.size (by simp)
      intro v' w4 hown4 hgrow4 _
      have hlast : w4.ownsRow w2.heap.size 31 1 v' (16 * (k + 1)) (wordsV (streamW S (k + 1))) := by
        rw [HWV.out]
        exact hown4
      have hbl4 := (HBL3.out.alloc HBL3.out.size (.cells (wordsV B).toArray 51)).grown hgrow4 (Nat.le_trans HBL3.out.size (by simp)) (fun j hj => (HOW3.out.lt j hj).1)
      have HL := Lib.hid hlast
      have HBF := Lib.hid hbl4
      clear hown4 hgrow4 hlast hbl4
      go_wp2
      go_roundw
      case rel => exact ⟨k + 1, by omega, by go_num, HL.out, HBF.out⟩
      case measure => simp [intOf]; omega
    · have hd3 : decide ((k : Int) < (c : Int)) = false := by simp; omega
      obtain rfl : k = c := by omega
      have hw32 := RefTwo.owns_words hown (streamW_lt HK.out k (by omega))
      obtain ⟨X, hX⟩ : ∃ X : ByteArray, X = ⟨(text (streamW S k) false).toArray⟩ := ⟨_, rfl⟩
      have hXs : X.size = 64 * k := by
        rw [hX]
        show (text (streamW S k) false).length = _
        rw [text_length, streamW_length]
        omega
      have r3 := Lib.hid (fun (u : World) (v : Value) (hu : Words32 u v (streamW S k)) => text_any (streamW S k) v false u (by rw [streamW_length]; omega) hu)
      rw [← hX] at r3
      have hTX : T = X.extract 0 n := by
        rw [HT.out, hX]
        apply ByteArray.ext
        simp [ByteArray.data_extract]
      have hxi : (n : Int) ≤ (X.size : Int) := by omega
      have hxi0 : (0 : Int) ≤ (n : Int) := by omega
      have HTX := Lib.hid hTX
      have HW32 := Lib.hid hw32
      have HBL := Lib.hid hbel
      have HBB := Lib.hid (HB2.out.trans (hbel.mono HB2.out.size))
      clear hX hXs hTX hw32 hbel hown HOWN HBEL HT
      go_wp2_with fail
      refine (r3.out _ _ HW32.out).mono ?_
      rintro e w3 ⟨rfl, hb3⟩
      have HFIN := Lib.hid (HBB.out.trans (hb3.mono HBB.out.size))
      clear hb3
      go_wp2
      rw [HTX.out]
      refine bodyPost_ret (v := .tuple #[.string (X.extract 0 n), .int .i64 0]) (by simp [results, Try.results13, go_sem]) rfl ⟨rfl, HFIN.out⟩
end Go.Proofs.Ytcglobpklhkebab.Cha
