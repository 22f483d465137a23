/-
  stream.stateOf answers the sixteen words that the plain mathematics of the text Cha has of a key and a nonce, with no error, or sixteen words 0 and ErrArg; and it leaves all memory that was there as it was. Conditions: the key and the nonce take no more than the reach of the form.
-/
import Derived.Test.YtcglobpklhkebabChaBlk
import Derived.Test.YtcglobpklhkebabLnWords
import Derived.Deep.RegionLaw
import Derived.Deep.Cut
import Derived.Deep.DeepCutAuto
namespace Go.Proofs.Ytcglobpklhkebab.Cha
open Go.RowKit Mur Lanes
set_option maxRecDepth 100000

def markL : List UInt8 := [101, 120, 112, 97, 110, 100, 32, 51, 50, 45, 98, 121, 116, 101, 32, 107]
/-- The words of a key and a nonce, the number being z. -/
def stateW (key z nonce : List UInt8) : List Nat := words (markL ++ key ++ z ++ nonce) false
theorem stateW_ok {key z nonce : List UInt8} (hk : key.length = 32) (hz : z.length = 4) (hn : nonce.length = 12) : Words16 (stateW key z nonce) := by
  refine ⟨?_, words_lt _ _⟩
  unfold stateW
  rw [words_length]
  simp [markL, hk, hz, hn]

theorem results_row_tmp {P : Program} {fn : Func} {p q : Tmp} {ty : TypeId} (h : fn.results = #[.cell p ty, .tmp q]) (tmps : Array Value) (w : World) (b : Nat) (t : TypeId) (vs : List Value) (x : Value) (d : TypeDesc)
    (hp : tmps.getD p undef = .pointer (some ⟨b, 0, none⟩)) (hq : tmps.getD q undef = x) (hg : Whole w b t vs) (hu : P.underlying ty = some d) (hd : (match d with | .struct _ | .array _ _ => true | _ => false) = true) (hi : (P.info? ty).map (·.size) = some vs.length) :
    (results fn tmps).run P w = .ok (.tuple #[.agg vs.toArray, x]) w := by
  have hp' : tmps[p]?.getD undef = .pointer (some ⟨b, 0, none⟩) := by simpa using hp
  have hq' : tmps[q]?.getD undef = x := by simpa using hq
  simp [results, h, hp', hq', asAddr, run_loadVar_row w b t ty vs.toArray (0, 0) d hg hu hd (by simpa using hi)]

def zerosN : List Nat := List.replicate 16 0
theorem zerosN_eq : wordsV zerosN = zeros16 := rfl
theorem info_z16 : (Try.prog.info? 51).map (·.size) = some zeros16.length := by kernel_rfl
theorem infoA_z16 : (Try.prog.info? 51).map (·.size) = some zeros16.toArray.size := by kernel_rfl
theorem one_z16 : zeros16.toArray.all (·.oneCell') = true := by kernel_rfl

set_option maxHeartbeats 800000 in
theorem state_none (key nonce : ByteArray) (w : World) (h : ¬ (key.size = 32 ∧ nonce.size = 12)) :
    Calls Try.prog 32 #[.string key, .string nonce] w fun e w' => e = .returned (.tuple #[.agg zeros16.toArray, .int .i64 1]) ∧ Below w.heap.size w w' := by
  have hd : ((key.size : Int) != 32) = true ∨ (((key.size : Int) != 32) = false ∧ ((nonce.size : Int) != 12) = true) := by
    by_cases e : key.size = 32
    · right
      refine ⟨by simp; omega, by simp; omega⟩
    · left
      simp; omega
  clear h
  rcases hd with h1 | ⟨h1, h2⟩
  all_goals
    go_enter Try.func32, Try.ntmps32
    go_upto_region 3 with (fail)
    have hZa : Whole ((w.alloc (.cells #[.int .u32 0, .int .u32 0, .int .u32 0, .int .u32 0, .int .u32 0, .int .u32 0, .int .u32 0, .int .u32 0, .int .u32 0, .int .u32 0, .int .u32 0, .int .u32 0, .int .u32 0, .int .u32 0, .int .u32 0, .int .u32 0] 51)).alloc (.cells #[.int .u32 0, .int .u32 0, .int .u32 0, .int .u32 0, .int .u32 0, .int .u32 0, .int .u32 0, .int .u32 0, .int .u32 0, .int .u32 0, .int .u32 0, .int .u32 0, .int .u32 0, .int .u32 0, .int .u32 0, .int .u32 0] 51)) w.heap.size 51 zeros16 := (Whole.made' w _ zeros16.toArray _ rfl).alloc _
    have hZb : Whole ((w.alloc (.cells #[.int .u32 0, .int .u32 0, .int .u32 0, .int .u32 0, .int .u32 0, .int .u32 0, .int .u32 0, .int .u32 0, .int .u32 0, .int .u32 0, .int .u32 0, .int .u32 0, .int .u32 0, .int .u32 0, .int .u32 0, .int .u32 0] 51)).alloc (.cells #[.int .u32 0, .int .u32 0, .int .u32 0, .int .u32 0, .int .u32 0, .int .u32 0, .int .u32 0, .int .u32 0, .int .u32 0, .int .u32 0, .int .u32 0, .int .u32 0, .int .u32 0, .int .u32 0, .int .u32 0, .int .u32 0] 51)) (w.heap.size + 1) 51 zeros16 := Whole.made' _ _ zeros16.toArray _ (by simp)
    have hBl : Below w.heap.size w ((w.alloc (.cells #[.int .u32 0, .int .u32 0, .int .u32 0, .int .u32 0, .int .u32 0, .int .u32 0, .int .u32 0, .int .u32 0, .int .u32 0, .int .u32 0, .int .u32 0, .int .u32 0, .int .u32 0, .int .u32 0, .int .u32 0, .int .u32 0] 51)).alloc (.cells #[.int .u32 0, .int .u32 0, .int .u32 0, .int .u32 0, .int .u32 0, .int .u32 0, .int .u32 0, .int .u32 0, .int .u32 0, .int .u32 0, .int .u32 0, .int .u32 0, .int .u32 0, .int .u32 0, .int .u32 0, .int .u32 0] 51)) := ((Below.refl _ _).alloc (Nat.le_refl _) _).alloc (by simp) _
    have HZa := Lib.hid hZa
    have HZb := Lib.hid hZb
    have HBl := Lib.hid hBl
    have hza2 : ((w.alloc (.cells #[.int .u32 0, .int .u32 0, .int .u32 0, .int .u32 0, .int .u32 0, .int .u32 0, .int .u32 0, .int .u32 0, .int .u32 0, .int .u32 0, .int .u32 0, .int .u32 0, .int .u32 0, .int .u32 0, .int .u32 0, .int .u32 0] 51)).alloc (.cells #[.int .u32 0, .int .u32 0, .int .u32 0, .int .u32 0, .int .u32 0, .int .u32 0, .int .u32 0, .int .u32 0, .int .u32 0, .int .u32 0, .int .u32 0, .int .u32 0, .int .u32 0, .int .u32 0, .int .u32 0, .int .u32 0] 51)).heap[w.heap.size]? = some (.cells zeros16.toArray 51 (0, 0)) := hZa
    have HZ2 := Lib.hid hza2
    clear hZa hZb hBl hza2
    generalize (w.alloc (.cells #[.int .u32 0, .int .u32 0, .int .u32 0, .int .u32 0, .int .u32 0, .int .u32 0, .int .u32 0, .int .u32 0, .int .u32 0, .int .u32 0, .int .u32 0, .int .u32 0, .int .u32 0, .int .u32 0, .int .u32 0, .int .u32 0] 51)).alloc (.cells #[.int .u32 0, .int .u32 0, .int .u32 0, .int .u32 0, .int .u32 0, .int .u32 0, .int .u32 0, .int .u32 0, .int .u32 0, .int .u32 0, .int .u32 0, .int .u32 0, .int .u32 0, .int .u32 0, .int .u32 0, .int .u32 0] 51) = wx at *
    have HIM := Lib.hid info_z16
    have HIA := Lib.hid infoA_z16
    have H1M := Lib.hid one_z16
    go_wp2_with ((first
      | (with_reducible refine wpList_load_mid rfl 51 (.tmp 6) rfl (w.heap.size + 1) 0 rfl zeros16 _ HZb.out.range Try.underlying51 rfl HIM.out ?_)
      | (with_reducible refine wpList_store_row rfl 51 (.tmp 4) (.tmp 16) rfl w.heap.size zeros16.toArray rfl rfl 51 zeros16.toArray HZ2.out HIA.out rfl H1M.out ?_)))
    refine bodyPost_ret (v := .tuple #[.agg zeros16.toArray, .int .i64 1]) ?_ rfl ⟨rfl, below_setRow HBl.out (Nat.le_refl _) _⟩
    exact results_row_tmp (ty := 51) Try.results32 _ _ w.heap.size 51 zeros16 _ _ (by simp) (by simp) (HZa.out.setRow _) Try.underlying51 rfl HIM.out

theorem splice_whole {S : List Nat} (h : S.length = 16) : splice zeros16 0 (wordsV S) = wordsV S := by
  have hl : (wordsV S).length = 16 := by rw [wordsV_length, h]
  unfold splice
  rw [hl]
  simp

set_option maxHeartbeats 1600000 in
theorem state_some (key nonce : ByteArray) (S : List Nat) (w : World) (hk : key.size = 32) (hn : nonce.size = 12) (hS : S = stateW key.data.toList [0, 0, 0, 0] nonce.data.toList) :
    Calls Try.prog 32 #[.string key, .string nonce] w fun e w' => e = .returned (.tuple #[.agg (wordsV S).toArray, .int .i64 0]) ∧ Below w.heap.size w w' := by
  obtain ⟨A, hA⟩ : ∃ A : ByteArray, A = (⟨#[101, 120, 112, 97, 110, 100, 32, 51, 50, 45, 98, 121, 116, 101, 32, 107]⟩ : ByteArray) ++ key ++ (⟨#[0, 0, 0, 0]⟩ : ByteArray) ++ nonce := ⟨_, rfl⟩
  have hAs : A.size = 64 := by rw [hA]; simp only [ByteArray.size_append, hk, hn]; rfl
  have hAe : A.data.toList = markL ++ key.data.toList ++ [0, 0, 0, 0] ++ nonce.data.toList := by
    rw [hA]
    simp only [ByteArray.data_append, Array.toList_append]
    rfl
  have hAl : words A.data.toList false = S := by
    rw [hS, hAe]
    rfl
  have hok : Words16 S := by rw [hS]; exact stateW_ok hk rfl hn
  have d1 : ((key.size : Int) != 32) = false := by simp; omega
  have d2 : ((nonce.size : Int) != 12) = false := by simp; omega
  have n1 : ¬ 9223372036854775807 < 16 + key.size := by omega
  have n2 : ¬ 9223372036854775807 < 16 + key.size + 4 := by omega
  have n3 : ¬ 9223372036854775807 < 16 + key.size + 4 + nonce.size := by omega
  have HA := Lib.hid hA
  have HAs := Lib.hid hAs
  have HAl := Lib.hid hAl
  have HK := Lib.hid hok
  clear hA hAs hAe hAl hok hk hn hS
  go_enter Try.func32, Try.ntmps32
  go_upto_region 4 with (fail)
  have hZa : Whole ((w.alloc (.cells #[.int .u32 0, .int .u32 0, .int .u32 0, .int .u32 0, .int .u32 0, .int .u32 0, .int .u32 0, .int .u32 0, .int .u32 0, .int .u32 0, .int .u32 0, .int .u32 0, .int .u32 0, .int .u32 0, .int .u32 0, .int .u32 0] 51)).alloc (.cells #[.int .u32 0, .int .u32 0, .int .u32 0, .int .u32 0, .int .u32 0, .int .u32 0, .int .u32 0, .int .u32 0, .int .u32 0, .int .u32 0, .int .u32 0, .int .u32 0, .int .u32 0, .int .u32 0, .int .u32 0, .int .u32 0] 51)) w.heap.size 51 zeros16 := (Whole.made' w _ zeros16.toArray _ rfl).alloc _
  have hZb : Whole ((w.alloc (.cells #[.int .u32 0, .int .u32 0, .int .u32 0, .int .u32 0, .int .u32 0, .int .u32 0, .int .u32 0, .int .u32 0, .int .u32 0, .int .u32 0, .int .u32 0, .int .u32 0, .int .u32 0, .int .u32 0, .int .u32 0, .int .u32 0] 51)).alloc (.cells #[.int .u32 0, .int .u32 0, .int .u32 0, .int .u32 0, .int .u32 0, .int .u32 0, .int .u32 0, .int .u32 0, .int .u32 0, .int .u32 0, .int .u32 0, .int .u32 0, .int .u32 0, .int .u32 0, .int .u32 0, .int .u32 0] 51)) (w.heap.size + 1) 51 zeros16 := Whole.made' _ _ zeros16.toArray _ (by simp)
  have hBl : Below w.heap.size w ((w.alloc (.cells #[.int .u32 0, .int .u32 0, .int .u32 0, .int .u32 0, .int .u32 0, .int .u32 0, .int .u32 0, .int .u32 0, .int .u32 0, .int .u32 0, .int .u32 0, .int .u32 0, .int .u32 0, .int .u32 0, .int .u32 0, .int .u32 0] 51)).alloc (.cells #[.int .u32 0, .int .u32 0, .int .u32 0, .int .u32 0, .int .u32 0, .int .u32 0, .int .u32 0, .int .u32 0, .int .u32 0, .int .u32 0, .int .u32 0, .int .u32 0, .int .u32 0, .int .u32 0, .int .u32 0, .int .u32 0] 51)) := ((Below.refl _ _).alloc (Nat.le_refl _) _).alloc (by simp) _
  have HZa := Lib.hid hZa
  have HZb := Lib.hid hZb
  have HBl := Lib.hid hBl
  clear hZa hZb hBl d1 d2
  generalize (w.alloc (.cells #[.int .u32 0, .int .u32 0, .int .u32 0, .int .u32 0, .int .u32 0, .int .u32 0, .int .u32 0, .int .u32 0, .int .u32 0, .int .u32 0, .int .u32 0, .int .u32 0, .int .u32 0, .int .u32 0, .int .u32 0, .int .u32 0] 51)).alloc (.cells #[.int .u32 0, .int .u32 0, .int .u32 0, .int .u32 0, .int .u32 0, .int .u32 0, .int .u32 0, .int .u32 0, .int .u32 0, .int .u32 0, .int .u32 0, .int .u32 0, .int .u32 0, .int .u32 0, .int .u32 0, .int .u32 0] 51) = wx at *
  have hAl2 : A.size ≤ 140737488351232 := by rw [HAs.out]; omega
  have hq : A.size / 4 = 16 := by rw [HAs.out]
  have HW := Lib.hid (show ∀ u, Calls Try.prog 47 #[.string A, .bool false] u fun e w' => e = .returned (.slice (some ⟨u.heap.size, 0, none⟩) 16 16) ∧ Row w' u.heap.size (wordsV S) ∧ Below u.heap.size u w' from fun u => by
    have := words_any A false u hAl2
    rw [hq, HAl.out] at this
    exact this)
  have hlen : (wordsV S).length = 16 := by rw [wordsV_length, HK.out.1]
  have HM := Lib.hid (show (wordsV S).length = Nat.min 16 16 by rw [hlen]; rfl)
  have HF := Lib.hid (show 0 + (wordsV S).length ≤ zeros16.length by rw [hlen]; decide)
  have HO := Lib.hid (show ∀ v ∈ wordsV S, v.oneCell' = true from fun v hv => by
    simp only [wordsV, List.mem_map] at hv
    obtain ⟨n, _, rfl⟩ := hv
    rfl)
  clear hAl2 hq hlen
  go_region_law ((first
    | (refine step_call rfl 47 Try.call47 #[.tmp 22, .const (.bool false)] #[9, 4] rfl #[.string A, .bool false] (by rw [HA.out]; simp [Act.eval, Act.put]) _ _ (HW.out _) ?_; rintro w1 ⟨hr1, hb1⟩; have HR1 := Lib.hid hr1; have HB1 := Lib.hid hb1; clear hr1 hb1)
    | (refine step_copy_splice rfl (.tmp 17) (.tmp 23) 56 56 rfl 31 Try.underlying56 (by kernel_rfl) (some ⟨w.heap.size + 1, 0, none⟩) (some ⟨wx.heap.size, 0, none⟩) 16 16 16 16 (by simp [Act.eval]) (by simp [Act.eval]) (w.heap.size + 1) 0 zeros16 51 (HZb.out.drew.below HZb.out.lt HB1.out) (wordsV S) HM.out (fun _ => ⟨rfl, _, rfl, fun j v hv => by rw [Addr.add_mid, Nat.zero_add]; exact HR1.out.cell hv⟩) HF.out HO.out (w.heap.size + 1) w1 (Below.refl _ _) (Nat.le_refl _) ?_; intro w2 hg2 hb2; have HG2 := hg2; have HB2 := Lib.hid hb2; clear hg2 hb2)))
  have hz3 : w2.heap[w.heap.size + 1]? = some (.cells (wordsV S).toArray 51 (0, 0)) := by
    have := HG2.out
    rwa [splice_whole HK.out.1] at this
  have ha2 : Whole w2 w.heap.size 51 zeros16 := (HZa.out.drew.below HZa.out.lt HB1.out).below (by have := HZa.out.lt; omega) HB2.out
  have HSr := Lib.hid (show Whole w2 (w.heap.size + 1) 51 (wordsV S) from hz3)
  have HSa := Lib.hid ha2
  have haa : w2.heap[w.heap.size]? = some (.cells zeros16.toArray 51 (0, 0)) := ha2
  have HSA := Lib.hid haa
  have HSB := Lib.hid (HBl.out.drew.trans ((HB1.out.mono (by have := HBl.out.size; simp; omega)).trans (HB2.out.mono (by omega))))
  have HIM := Lib.hid (info16 HK.out.1)
  have HIA := Lib.hid (infoA16 HK.out.1)
  have HOM := Lib.hid (long16 HK.out.1)
  have H1M := Lib.hid (one16 S)
  clear hz3 ha2 haa
  go_wp2_with ((first
    | (with_reducible refine wpList_load_mid rfl 51 (.tmp 6) rfl (w.heap.size + 1) 0 rfl (wordsV S) _ HSr.out.range Try.underlying51 rfl HIM.out ?_)
    | (with_reducible refine wpList_store_row rfl 51 (.tmp 4) (.tmp 25) rfl w.heap.size (wordsV S).toArray rfl rfl 51 zeros16.toArray HSA.out HIA.out HOM.out H1M.out ?_)))
  refine bodyPost_ret (v := .tuple #[.agg (wordsV S).toArray, .int .i64 0]) ?_ rfl ⟨rfl, below_setRow HSB.out (Nat.le_refl _) _⟩
  exact results_row_tmp (ty := 51) Try.results32 _ _ w.heap.size 51 (wordsV S) _ _ (by simp) (by simp) (HSa.out.setRow _) Try.underlying51 rfl HIM.out
end Go.Proofs.Ytcglobpklhkebab.Cha
