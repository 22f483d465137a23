/-
  DigestFeeds: fed piece by piece a text has the digest that it has in one: for every input, the law answers true and changes nothing that was there. Condition: the constant table lies as the program's text lays it (the card ties it).
-/
import Derived.Test.YtlecmpmfgeneoaaDoorDigFrame
import Derived.Test.YtlecmpmfgeneoaaDoorDigFeed
import Derived.Test.YtlecmpmfgeneoaaDoorCards
import Derived.Test.YtlecmpmfgeneoaaDoorTie
import Derived.SevenTiedAt
import Derived.SliceStrings
import Derived.ChangeOld
import Derived.Below
namespace Go.Proofs.YtlecmpmfgeneoaaDoor.LawFeeds
open Go.ChangeShapes Go.WideShapes Go.ChangeAt Go.RowKit Mur Sha

/-- The words and the rest of a feeder that was fed the text A. -/
def wA (A : ByteArray) : S8 := blocksOf Sha.start A.data.toList (A.size / 64)
def rA (A : ByteArray) : ByteArray := ⟨(A.data.toList.drop (64 * (A.size / 64))).toArray⟩
theorem wA_ok (A : ByteArray) : (wA A).Ok := blocksOf_ok _ start_ok _ _
theorem size_list (A : ByteArray) : A.data.toList.length = A.size := rfl
theorem rA_size (A : ByteArray) : (rA A).size = A.size % 64 := by
  show (List.drop _ A.data.toList).length = _
  rw [List.length_drop, size_list]
  omega
theorem next_size (A s : ByteArray) : (rA A ++ s).size / 64 + A.size / 64 = (A ++ s).size / 64 := by
  rw [ByteArray.size_append, ByteArray.size_append, rA_size]
  omega
theorem next_words (A s : ByteArray) : wA (A ++ s) = blocksOf (wA A) (rA A ++ s).data.toList ((rA A ++ s).size / 64) := by
  have h := blocksOf_split Sha.start A.data.toList s.data.toList (A.size / 64) ((rA A ++ s).size / 64) (by rw [size_list]; omega)
  unfold wA
  rw [← next_size, Nat.add_comm, ByteArray.data_append, Array.toList_append, h]
  simp [rA, ByteArray.data_append]
theorem next_rest (A s : ByteArray) : rA (A ++ s) = ⟨((rA A ++ s).data.toList.drop (64 * ((rA A ++ s).size / 64))).toArray⟩ := by
  have e : (rA A ++ s).data.toList = (A.data.toList ++ s.data.toList).drop (64 * (A.size / 64)) := by
    rw [List.drop_append_of_le_length (by rw [size_list]; omega)]
    simp [rA, ByteArray.data_append]
  have e2 : rA (A ++ s) = ⟨((A.data.toList ++ s.data.toList).drop (64 * ((A ++ s).size / 64))).toArray⟩ := by
    simp [rA, ByteArray.data_append]
  rw [e2, e, List.drop_drop, ← next_size]
  have e3 : 64 * ((rA A ++ s).size / 64 + A.size / 64) = 64 * (A.size / 64) + 64 * ((rA A ++ s).size / 64) := by omega
  rw [e3]
theorem end_all (A : ByteArray) : finish (wA A) (rA A).data.toList A.size = sha A.data.toList := by
  have h1 : (rA A).data.toList.length = A.size % 64 := rA_size A
  have h2 : (rA A).data.toList = A.data.toList.drop (64 * (A.size / 64)) := by simp [rA]
  unfold sha finish
  rw [h1, size_list]
  have e0 : A.size % 64 / 64 = 0 := by omega
  have e1 : A.size % 64 % 64 = A.size % 64 := by omega
  rw [e0, e1, h2]
  rfl

theorem feed_call (A x R R2 : ByteArray) (V V2 : S8) (u : World) (hV : V = wA A) (hR : R = rA A) (hV2 : V2 = wA (A ++ x)) (hR2 : R2 = rA (A ++ x)) (hA : A.size ≤ 6000) (hx : x.size ≤ 300) (hk : Consts u) :
    Calls Tryd.prog 21 #[.agg #[.int .u32 (V.a : Int), .int .u32 (V.b : Int), .int .u32 (V.c : Int), .int .u32 (V.d : Int), .int .u32 (V.e : Int), .int .u32 (V.f : Int), .int .u32 (V.g : Int), .int .u32 (V.h : Int), .string R, .int .i64 (A.size : Int)], .string x] u fun e w' => e = .returned (.agg #[.int .u32 (V2.a : Int), .int .u32 (V2.b : Int), .int .u32 (V2.c : Int), .int .u32 (V2.d : Int), .int .u32 (V2.e : Int), .int .u32 (V2.f : Int), .int .u32 (V2.g : Int), .int .u32 (V2.h : Int), .string R2, .int .i64 ((A.size : Int) + (x.size : Int))]) ∧ Below u.heap.size u w' := by
  subst hV hR
  exact feed_any (wA A) V2 (rA A) x R2 A.size u (wA_ok A) (by rw [rA_size]; omega) (by omega) (by omega) hk (by rw [hV2]; exact next_words A x) (by rw [hR2]; exact next_rest A x)
theorem end_call (A R O : ByteArray) (V : S8) (n : Int) (u : World) (hV : V = wA A) (hR : R = rA A) (hn : n = (A.size : Int)) (hO : O = ⟨(sha A.data.toList).toArray⟩) (hA : A.size ≤ 7000) (hk : Consts u) :
    Calls Tryd.prog 22 #[.agg #[.int .u32 (V.a : Int), .int .u32 (V.b : Int), .int .u32 (V.c : Int), .int .u32 (V.d : Int), .int .u32 (V.e : Int), .int .u32 (V.f : Int), .int .u32 (V.g : Int), .int .u32 (V.h : Int), .string R, .int .i64 n]] u fun e w' => e = .returned (.string O) ∧ Below u.heap.size u w' := by
  subst hV hR hn hO
  rw [← end_all]
  exact end_any (wA A) (rA A) A.size u (wA_ok A) (by rw [rA_size]; omega) (by omega) hk

theorem zeroF_info : (Tryd.prog.info? 42).map (fun i => (i.zero, i.size)) = some (some (.agg (feedC S8.zero ⟨#[]⟩ 0).toArray), (feedC S8.zero ⟨#[]⟩ 0).length) := by kernel_rfl
theorem startF_info : (Tryd.prog.info? 42).map (·.size) = some (feedC Sha.start ⟨#[]⟩ 0).length := (feed_info _ _ _).1
theorem startF_one : (feedC Sha.start ⟨#[]⟩ 0).toArray.all (·.oneCell') = true := (feed_info _ _ _).2.2
theorem startF_long : (feedC S8.zero ⟨#[]⟩ 0).length = (feedC Sha.start ⟨#[]⟩ 0).length := rfl

set_option maxHeartbeats 1600000 in
theorem law_small (ls : List ByteArray) (a : Option Addr) (b o cap : Nat) (w : World) (ha : ls.length ≠ 0 → a = some ⟨b, o, none⟩ ∧ b < w.heap.size) (hn : ls.length ≤ 20) (hcell : ∀ i (h : i < ls.length), w.cell? ⟨b, o + i, none⟩ = some (.string ls[i])) (hreach : ∀ s ∈ ls, s.size ≤ 9223372036854775807) (hk : Consts w) :
    Calls Tryd.prog 6 #[.slice a ls.length cap] w fun e w' => e = .returned (.bool true) ∧ Below w.heap.size w w' := by
  have hd1 : decide (20 < (ls.length : Int)) = false := by simp; omega
  have HCL := Lib.hid hcell
  have HRE := Lib.hid hreach
  have HK := Lib.hid hk
  have HAA := Lib.hid ha
  clear hcell hreach hk ha
  go_enter Tryd.func6, Tryd.ntmps6
  go_wp2_with fail
  refine (begin_any _).mono ?_
  rintro e w1 ⟨rfl, hb1⟩
  have HB1 := Lib.hid hb1
  clear hb1 hd1
  go_upto_region 4 with ((first
    | (with_reducible refine wpList_alloc_z rfl 42 rfl (feedC S8.zero ⟨#[]⟩ 0) zeroF_info ?_)
    | (with_reducible refine wpList_store_new rfl 42 _ _ rfl _ (feedC Sha.start ⟨#[]⟩ 0) (feedC S8.zero ⟨#[]⟩ 0) rfl rfl rfl startF_info startF_long startF_one ?_)))
  go_simp
  have hF : Whole (w1.alloc (.cells (feedC Sha.start ⟨#[]⟩ 0).toArray 42)) w1.heap.size 42 (feedC Sha.start ⟨#[]⟩ 0) := Whole.made _ _ _
  have hbel := HB1.out.alloc HB1.out.size (.cells (feedC Sha.start ⟨#[]⟩ 0).toArray 42)
  have hfb : w.heap.size ≤ w1.heap.size := HB1.out.size
  have HF := Lib.hid hF
  have HB2 := Lib.hid hbel
  clear hF hbel HB1
  generalize w1.alloc (.cells (feedC Sha.start ⟨#[]⟩ 0).toArray 42) = wx at *
  generalize w1.heap.size = fb at *
  generalize (feedC Sha.start ⟨#[]⟩ 0).toArray = E00
  go_wp2_with fail
  go_loopw [4, 6, 14] (fun al _ i wr => ∃ (k : Nat) (A : ByteArray), k ≤ ls.length ∧ i = .int .i64 k ∧ al = .string A ∧ A.size ≤ 300 * k ∧ Whole wr fb 42 (feedC (wA A) (rA A) (A.size : Int)) ∧ Below w.heap.size w wr) (fun _ _ i _ => ls.length - (intOf i).toNat)
  case atStart => exact ⟨0, ⟨#[]⟩, by omega, rfl, rfl, by decide, HF.out, HB2.out⟩
  case round =>
    clear HF HB2
    obtain ⟨k, A, hk, rfl, rfl, hA, hW, hB⟩ := hrel
    have HW := Lib.hid hW
    have HB := Lib.hid hB
    clear hW hB
    by_cases hlt : k < ls.length
    · obtain ⟨rfl, hbb⟩ := HAA.out (by omega)
      have hc := (HB.out.cell (p := ⟨b, o + k, none⟩) hbb).trans (HCL.out k hlt)
      have hx := HRE.out ls[k] (List.getElem_mem hlt)
      generalize ls[k] = x at *
      by_cases hgt : x.size ≤ 300
      · have hd2 : decide (300 < (x.size : Int)) = false := by simp; omega
        have n1 : ¬ 9223372036854775807 < A.size + x.size := by omega
        have hA6 : A.size ≤ 6000 := by omega
        have hAX : (A ++ x).size = A.size + x.size := ByteArray.size_append
        have hAX2 : A.size + x.size ≤ 300 * (k + 1) := by omega
        obtain ⟨V, hV⟩ : ∃ V, V = wA A := ⟨_, rfl⟩
        obtain ⟨R, hR⟩ : ∃ R, R = rA A := ⟨_, rfl⟩
        obtain ⟨V2, hV2⟩ : ∃ V, V = wA (A ++ x) := ⟨_, rfl⟩
        obtain ⟨R2, hR2⟩ : ∃ R, R = rA (A ++ x) := ⟨_, rfl⟩
        obtain ⟨O, hO⟩ : ∃ O : ByteArray, O = ⟨(sha (A ++ x).data.toList).toArray⟩ := ⟨_, rfl⟩
        have hR2s : R2.size ≤ 63 := by rw [hR2, rA_size]; omega
        have hd3 : decide (63 < (R2.size : Int)) = false := by simp; omega
        have hfeed := fun u hk => feed_call A x R R2 V V2 u hV hR hV2 hR2 hA6 hgt hk
        have hend := fun u hk => end_call (A ++ x) R2 O V2 ((A.size : Int) + (x.size : Int)) u hV2 hR2 (by rw [hAX]; rfl) hO (by rw [hAX]; omega) hk
        have hof : ∀ u, Consts u → Calls Tryd.prog 14 #[.string (A ++ x)] u fun e w' => e = .returned (.string O) ∧ Below u.heap.size u w' := fun u hu => by
          rw [hO]; exact of_any (A ++ x) u (by rw [hAX]; omega) hu
        have hW2 : Whole wr fb 42 (feedC V R (A.size : Int)) := by rw [hV, hR]; exact HW.out
        have hfin : feedC V2 R2 ((A.size : Int) + (x.size : Int)) = feedC (wA (A ++ x)) (rA (A ++ x)) ((A ++ x).size : Int) := by rw [hV2, hR2, hAX]; rfl
        obtain ⟨c0, c1, c2, c3, c4, c5, c6, c7, c8, c9⟩ := feed_cells hW2
        have hS1 : (O.toList == O.toList) = true := by simp
        have hS2 : (!(O.toList == O.toList)) = false := by rw [hS1]; rfl
        have HFE := Lib.hid hfeed
        have HEN := Lib.hid hend
        have HOF := Lib.hid hof
        have HW2 := Lib.hid hW2
        have HFI := Lib.hid hfin
        have HAX := Lib.hid hAX
        have HAX2 := Lib.hid hAX2
        clear hV hR hV2 hR2 hO hR2s hfeed hend hof hW2 hfin hAX hAX2 HW hx
        go_wp2_with fail
        refine (HFE.out _ (HK.out.below HK.out.1 HB.out)).mono ?_
        rintro e w2 ⟨rfl, hb2⟩
        have hW3 := HW2.out.below HW2.out.lt hb2
        have hW4 : w2.heap[fb]? = some (.cells (feedC V R (A.size : Int)).toArray 42 (0, 0)) := hW3
        have hB2 := HB.out.trans (hb2.mono HB.out.size)
        have hi : (Tryd.prog.info? 42).map (·.size) = some (#[.int .u32 (V2.a : Int), .int .u32 (V2.b : Int), .int .u32 (V2.c : Int), .int .u32 (V2.d : Int), .int .u32 (V2.e : Int), .int .u32 (V2.f : Int), .int .u32 (V2.g : Int), .int .u32 (V2.h : Int), .string R2, .int .i64 ((A.size : Int) + (x.size : Int))] : Array Value).size := (feed_info V2 R2 ((A.size : Int) + (x.size : Int))).2.1
        have ho : (feedC V R (A.size : Int)).toArray.size = (#[.int .u32 (V2.a : Int), .int .u32 (V2.b : Int), .int .u32 (V2.c : Int), .int .u32 (V2.d : Int), .int .u32 (V2.e : Int), .int .u32 (V2.f : Int), .int .u32 (V2.g : Int), .int .u32 (V2.h : Int), .string R2, .int .i64 ((A.size : Int) + (x.size : Int))] : Array Value).size := rfl
        have h1 : (#[.int .u32 (V2.a : Int), .int .u32 (V2.b : Int), .int .u32 (V2.c : Int), .int .u32 (V2.d : Int), .int .u32 (V2.e : Int), .int .u32 (V2.f : Int), .int .u32 (V2.g : Int), .int .u32 (V2.h : Int), .string R2, .int .i64 ((A.size : Int) + (x.size : Int))] : Array Value).all (·.oneCell') = true := (feed_info V2 R2 ((A.size : Int) + (x.size : Int))).2.2
        have HW3 := Lib.hid hW3
        have HW4 := Lib.hid hW4
        have HB2 := Lib.hid hB2
        have HI := Lib.hid hi
        have HO := Lib.hid ho
        have H1 := Lib.hid h1
        clear c0 c1 c2 c3 c4 c5 c6 c7 c8 c9 hb2 hW3 hW4 hB2 hi ho h1 HB HW2
        go_upto_region 12 with ((with_reducible refine wpList_store_row rfl 42 (.tmp 3) (.tmp 27) rfl fb #[.int .u32 (V2.a : Int), .int .u32 (V2.b : Int), .int .u32 (V2.c : Int), .int .u32 (V2.d : Int), .int .u32 (V2.e : Int), .int .u32 (V2.f : Int), .int .u32 (V2.g : Int), .int .u32 (V2.h : Int), .string R2, .int .i64 ((A.size : Int) + (x.size : Int))] rfl rfl 42 (feedC V R (A.size : Int)).toArray HW4.out HI.out HO.out H1.out ?_))
        have hW5 : Whole (w2.setRow fb #[.int .u32 (V2.a : Int), .int .u32 (V2.b : Int), .int .u32 (V2.c : Int), .int .u32 (V2.d : Int), .int .u32 (V2.e : Int), .int .u32 (V2.f : Int), .int .u32 (V2.g : Int), .int .u32 (V2.h : Int), .string R2, .int .i64 ((A.size : Int) + (x.size : Int))]) fb 42 (feedC V2 R2 ((A.size : Int) + (x.size : Int))) := HW3.out.setRow (feedC V2 R2 ((A.size : Int) + (x.size : Int)))
        have hB5 : Below w.heap.size w (w2.setRow fb #[.int .u32 (V2.a : Int), .int .u32 (V2.b : Int), .int .u32 (V2.c : Int), .int .u32 (V2.d : Int), .int .u32 (V2.e : Int), .int .u32 (V2.f : Int), .int .u32 (V2.g : Int), .int .u32 (V2.h : Int), .string R2, .int .i64 ((A.size : Int) + (x.size : Int))]) := below_setRow HB2.out hfb _
        have HW5 := Lib.hid hW5
        have HB5 := Lib.hid hB5
        clear hW5 hB5 HB2 HW3 HW4 HI HO H1
        generalize w2.setRow fb #[.int .u32 (V2.a : Int), .int .u32 (V2.b : Int), .int .u32 (V2.c : Int), .int .u32 (V2.d : Int), .int .u32 (V2.e : Int), .int .u32 (V2.f : Int), .int .u32 (V2.g : Int), .int .u32 (V2.h : Int), .string R2, .int .i64 ((A.size : Int) + (x.size : Int))] = w3 at *
        obtain ⟨c0, c1, c2, c3, c4, c5, c6, c7, c8, c9⟩ := feed_cells HW5.out
        go_wp2_with fail
        refine (HEN.out _ (HK.out.below HK.out.1 HB5.out)).mono ?_
        rintro e w4 ⟨rfl, hb4⟩
        have hW6 := HW5.out.below HW5.out.lt hb4
        have hB6 := HB5.out.trans (hb4.mono HB5.out.size)
        have HW6 := Lib.hid hW6
        have HB6 := Lib.hid hB6
        clear hb4 hW6 hB6 HW5 HB5 c0 c1 c2 c3 c4 c5 c6 c7 c8 c9
        go_wp2_with fail
        refine (HOF.out _ (HK.out.below HK.out.1 HB6.out)).mono ?_
        rintro e w5 ⟨rfl, hb5⟩
        have hW7 := HW6.out.below HW6.out.lt hb5
        have hB7 := HB6.out.trans (hb5.mono HB6.out.size)
        have HW7 := Lib.hid hW7
        have HB7 := Lib.hid hB7
        clear hb5 hW7 hB7 HW6 HB6
        go_wp2
        go_roundw
        case rel => exact ⟨k + 1, A ++ x, by omega, by go_num, rfl, by rw [HAX.out]; exact HAX2.out, by rw [← HFI.out]; exact HW7.out, HB7.out⟩
        case measure => simp [intOf]; omega
      · have hd2 : decide (300 < (x.size : Int)) = true := by simp; omega
        go_wp2_with fail
        refine (awake_any _ (HK.out.below HK.out.1 HB.out)).mono ?_
        rintro e w2 ⟨rfl, hb2⟩
        go_wp2
        go_ret
        exact ⟨rfl, HB.out.trans (hb2.mono HB.out.size)⟩
    · obtain rfl : k = ls.length := by omega
      obtain ⟨c0, c1, c2, c3, c4, c5, c6, c7, c8, c9⟩ := feed_cells HW.out
      obtain ⟨E0, hE0⟩ : ∃ E, E = (feedC Sha.start ⟨#[]⟩ 0).toArray := ⟨_, rfl⟩
      obtain ⟨O, hO⟩ : ∃ O : ByteArray, O = ⟨(sha (⟨#[]⟩ : ByteArray).data.toList).toArray⟩ := ⟨_, rfl⟩
      have hbeg : ∀ u, Calls Tryd.prog 20 #[] u fun e w' => e = .returned (.agg E0) ∧ Below u.heap.size u w' := fun u => by rw [hE0]; exact begin_any u
      have hend : ∀ u, Consts u → Calls Tryd.prog 22 #[.agg E0] u fun e w' => e = .returned (.string O) ∧ Below u.heap.size u w' := fun u hk => by
        rw [hE0]; exact end_call ⟨#[]⟩ ⟨#[]⟩ O Sha.start 0 u rfl rfl rfl hO (by decide) hk
      have hof : ∀ u, Consts u → Calls Tryd.prog 14 #[.string ⟨#[]⟩] u fun e w' => e = .returned (.string O) ∧ Below u.heap.size u w' := fun u hu => by
        rw [hO]; exact of_any ⟨#[]⟩ u (by decide) hu
      have hS1 : (O.toList == O.toList) = true := by simp
      have HBE := Lib.hid hbeg
      have HEN := Lib.hid hend
      have HOF := Lib.hid hof
      clear hE0 hO hbeg hend hof c0 c1 c2 c3 c4 c5 c6 c7 c8
      go_wp2_with fail
      refine (HBE.out _).mono ?_
      rintro e w2 ⟨rfl, hb2⟩
      have hB2 := HB.out.trans (hb2.mono HB.out.size)
      have HB2 := Lib.hid hB2
      clear hb2 hB2
      go_wp2_with fail
      refine (HEN.out _ (HK.out.below HK.out.1 HB2.out)).mono ?_
      rintro e w3 ⟨rfl, hb3⟩
      have hB3 := HB2.out.trans (hb3.mono HB2.out.size)
      have HB3 := Lib.hid hB3
      clear hb3 hB3
      go_wp2_with fail
      refine (HOF.out _ (HK.out.below HK.out.1 HB3.out)).mono ?_
      rintro e w4 ⟨rfl, hb4⟩
      have hB4 := HB3.out.trans (hb4.mono HB3.out.size)
      have HB4 := Lib.hid hB4
      clear hb4 hB4
      go_wp2_with fail
      refine (awake_any _ (HK.out.below HK.out.1 HB4.out)).mono ?_
      rintro e w5 ⟨rfl, hb5⟩
      go_wp2
      go_ret
      exact ⟨rfl, HB4.out.trans (hb5.mono HB4.out.size)⟩

set_option maxHeartbeats 400000 in
theorem law_great (a : Option Addr) (n cap : Nat) (w : World) (hn : n ≤ 9223372036854775807) (hg : ¬ n ≤ 20) (hk : Consts w) :
    Calls Tryd.prog 6 #[.slice a n cap] w fun e w' => e = .returned (.bool true) ∧ Below w.heap.size w w' := by
  have hd1 : decide (20 < (n : Int)) = true := by simp; omega
  have HK := Lib.hid hk
  clear hk hg
  go_enter Tryd.func6, Tryd.ntmps6
  go_wp2_with fail
  refine (awake_any _ HK.out).mono ?_
  rintro e w1 ⟨rfl, hb1⟩
  go_wp2
  go_ret
  exact ⟨rfl, hb1⟩

theorem strs_at {w : World} {a : Addr} {ss : List ByteArray} (h : ∀ i, i < ss.length → w.cell? (a.add i) = some (.string (ss.getD i ByteArray.empty))) (hp : 0 < ss.length) :
    ∃ b off, a = ⟨b, off, none⟩ ∧ b < w.heap.size ∧ ∀ j, j < ss.length → w.cell? ⟨b, off + j, none⟩ = some (.string (ss.getD j ByteArray.empty)) := by
  obtain ⟨b, off, spot⟩ := a
  have hspot : spot = none := by simpa [Addr.add] using World.cell?_spot (h 0 hp)
  subst hspot
  have hc : ∀ j, j < ss.length → w.cell? ⟨b, off + j, none⟩ = some (.string (ss.getD j ByteArray.empty)) := fun j hj => by rw [← Go.WideShapes.add_plain]; exact h j hj
  refine ⟨b, off, rfl, ?_, hc⟩
  have h0 := hc 0 hp
  rcases Nat.lt_or_ge b w.heap.size with h' | h'
  · exact h'
  · simp [World.cell?, Array.getElem?_eq_none h'] at h0

/-- What the walk is told of a slice of texts that came in. -/
def IsStrs (w : World) (a : Option Addr) (len : Nat) (ss : List ByteArray) : Prop :=
  (∀ s ∈ ss, s.size ≤ 9223372036854775807) ∧ ((len = 0) ∨ ∃ x, a = some x ∧ len ≤ ss.length ∧ len ≤ 9223372036854775807 ∧ ∀ i, i < ss.length → w.cell? (x.add i) = some (.string (ss.getD i ByteArray.empty)))
theorem walk (a : Option Addr) (len cap : Nat) (ss : List ByteArray) (w : World) (hs : IsStrs w a len ss) (hk : Consts w) :
    Calls Tryd.prog 6 #[.slice a len cap] w fun e w' => e = .returned (.bool true) ∧ Below w.heap.size w w' := by
  obtain ⟨hr, hs⟩ := hs
  by_cases hg : len ≤ 20
  · rcases hs with rfl | ⟨x, rfl, hl, hm, hc⟩
    · exact law_small [] a 0 0 cap w (fun h => absurd rfl h) (by decide) (fun i hi => absurd hi (by simp)) (fun s hs => absurd hs (by simp)) hk
    · by_cases h0 : len = 0
      · subst h0
        exact law_small [] _ 0 0 cap w (fun h => absurd rfl h) (by decide) (fun i hi => absurd hi (by simp)) (fun s hs => absurd hs (by simp)) hk
      · obtain ⟨b, o, rfl, hb, hc'⟩ := strs_at hc (by omega)
        have hlen : (ss.take len).length = len := by simp; omega
        have := law_small (ss.take len) (some ⟨b, o, none⟩) b o cap w (fun _ => ⟨rfl, hb⟩) (by omega) (fun i hi => by
          rw [hc' i (by omega)]
          have : i < ss.length := by omega
          simp [List.getD, this]) (fun s hs => hr s (List.mem_of_mem_take hs)) hk
        rw [hlen] at this
        exact this
  · rcases hs with rfl | ⟨x, rfl, hl, hm, hc⟩
    · omega
    · exact law_great _ len cap w hm hg hk

theorem laidOut : laidOutB Tryd.prog = true := by kernel_rfl
set_option maxRecDepth 100000 in
theorem lifted (os : Os) (started : os.Started) (H : Type) (enc : TypeId × Value → H) :
    ReturnsInHanded {} Tryd.checked os 6 .any (fun w args => (Rows.digestFeedsSpec.pre enc Tryd.prog Tryd.f6 [] false w args ∧ laidMetH Tryd.prog laidL w) ∧ sizedMet enc Tryd.prog Tryd.f6 (OpenSpec.ofChange Rows.digestFeedsSpec) false w args)
      (Rows.digestFeedsSpec.post enc Tryd.prog Tryd.f6 false true false false) := by
  refine returnsInHanded_of_change_and (C := Tryd.checked) (X := fun w _ => laidMetH Tryd.prog laidL w) (fun _ _ _ hh h => h.of_heap hh) own started (by kernel_rfl) Tryd.func6
    (ChangeSpec.witness_shaped (enc := enc) (C := Tryd.checked) (os := os) (X := fun w _ => laidMetH Tryd.prog laidL w) false (World.doorLaid Tryd.prog 400 os) #[.slice none 0 0] 8 rfl (World.shaped_of_RefB (by kernel_rfl) (by kernel_rfl)) (by kernel_rfl) (by kernel_rfl) (by kernel_rfl) (door_met os _)) ?_
  intro W base args ds gs before hval0 hW _ _ hL _
  have hval : ∀ (j : Nat) t v, Tryd.f6.params[j]? = some t → args[j]? = some v → Value.okWide Tryd.prog W .any base t v := hval0
  have hW' := hW
  obtain ⟨p, q, hA0, hV, rfl, hfz, hnd⟩ := hW
  have hA : DataW.TrodAll enc Tryd.prog W 0 (fun _ => true) true Tryd.f6.params.toList args.toList ds p := hA0
  rw [Tryd.params6] at hA hval
  obtain ⟨v0, vs0, d0, ds0, p0, q0, hargs, rfl, rfl, h0, r0⟩ := trodAll_cons hA
  obtain ⟨rfl, rfl, rfl⟩ := trodAll_nil r0
  obtain rfl : args = #[v0] := by cases args; simp_all
  obtain ⟨rfl, rfl⟩ := trodVars_none hV
  have k0 := h0
  have lt0 : ∀ x ∈ p0, x.block < W.heap.size := by obtain ⟨m, hm⟩ := k0; exact DataW.trod_lt m _ _ _ hm
  obtain ⟨a1, len1, cap1, rfl⟩ := okWide_slice Tryd.underlying40 (hval 0 40 v0 rfl rfl)
  obtain ⟨ss, w1⟩ : ∃ ss, IsStrs W a1 len1 ss := by
    obtain ⟨fuel, hf⟩ := h0
    rcases open_strings Tryd.underlying40 Tryd.underlying9 (by kernel_rfl) hf with ⟨hcs, _⟩ | ⟨x, l, c, zs, hcs, _, hl, hm, hz, _, hcell, hwz⟩
    · simp [Value.cells] at hcs
      obtain ⟨rfl, rfl, rfl⟩ := hcs
      exact ⟨[], ⟨(fun _ h => (by cases h)), Or.inl rfl⟩⟩
    · simp [Value.cells] at hcs
      obtain ⟨rfl, rfl, rfl⟩ := hcs
      unfold maxLen at hm hwz
      refine ⟨zs, ⟨fun s hs => ?_, Or.inr ⟨_, rfl, ?_, ?_, hcell⟩⟩⟩
      · have := hwz s hs; omega
      · simp at hz; omega
      · omega
  have hcl := of_laid hL
  clear hA0 hval0
  refine (walk a1 len1 cap1 ss W w1 hcl).mono fun e W' ⟨he, bel⟩ => ?_
  subst he
  exact ⟨_, rfl, _, _, _, [], _, [], hW', trodAll_mk1 (shut_bool Tryd.underlying4 _), (trodAll_cons_mk (Below.trod laidOut (by kernel_rfl) (of_decide_eq_true (by kernel_rfl)) k0 bel lt0) trodAll_mk0), rfl, bel.frame _, fun h => by cases h⟩

theorem over : Rows.DigestFeedsSaid :=
  OpenClaim.holds_of_wide 6 Tryd.f6 rfl rfl rfl rfl rfl rfl rfl ⟨rfl, rfl, rfl, rfl, rfl⟩ rfl rfl rfl rfl rfl (by kernel_rfl) Tryd.func6 (by kernel_rfl)
    (of_decide_eq_true (by kernel_rfl)) (by unfold Func.isWrapper; first | (rw [if_pos (by decide +kernel)]; kernel_rfl) | (rw [if_neg (by decide +kernel)]; exact ⟨rfl, rfl⟩))
    (fun os started H enc _ => lifted os started H enc)

theorem proved : Rows.DigestFeedsCardSaid :=
  Claim7.holds_tied_plain_at .later [] [.data] true Rows.digestFeedsCard.stood.harness false
    over (fun _ h => by cases h) (by kernel_rfl) (fun _ h => by cases h) digestFeeds_row_tie rfl ⟨rfl, rfl⟩ (by kernel_rfl) rfl
    (fun f fn hf hfn => by
      obtain rfl : f = 6 := Option.some.inj ((show Tryd.prog.funcNamed "murmur/murmurlaw02.DigestFeeds" = some 6 by kernel_rfl).symm.trans hf) |>.symm
      obtain rfl : fn = Tryd.f6 := (Option.some.inj (Tryd.func6.symm.trans hfn)).symm
      exact ⟨by kernel_rfl, fun j t ht => by
        rw [Tryd.params6] at ht
        have hm : t ∈ [40] := by simpa using Array.mem_of_getElem? ht
        have hall : ([40].all fun u => !Tryd.prog.wantsStandIn u) = true := by kernel_rfl
        exact (show Tryd.prog.wantsStandIn t = false by simpa using List.all_eq_true.1 hall t hm)⟩)
    (by kernel_rfl)
#print axioms proved
end Go.Proofs.YtlecmpmfgeneoaaDoor.LawFeeds
