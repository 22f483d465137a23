/-
  stream.Close and stream.Open, as plain functions of what the tag is; all memory that was there is left as it was. Conditions: a key of 32 bytes, a nonce of 12, texts of a megabyte at most and of a length that Stream allows.
-/
import Derived.Test.YtcglobpklhkebabStrFill
import Derived.Test.YtcglobpklhkebabChaHide
import Derived.Test.YtcglobpklhkebabChaLong
import Derived.Test.YtcglobpklhkebabLnAlike
namespace Go.Proofs.Ytcglobpklhkebab.Cha
open Go.RowKit Mur Lanes Poly
set_option maxRecDepth 100000

theorem first_block (key nonce F : ByteArray) (w : World) (hk : key.size = 32) (hn : nonce.size = 12) (hF : F = streamB key nonce 64) :
    Calls Try.prog 11 #[.string key, .int .u32 0, .string nonce] w fun e w' => e = .returned (.tuple #[.string F, .int .i64 0]) ∧ Below w.heap.size w w' :=
  block_some key nonce F 0 w hk hn (by omega) (by rw [hF]; unfold streamB; rw [streamT_block])

set_option maxHeartbeats 1600000 in
theorem close_ok (key nonce more s X : ByteArray) (w : World) (h : Good key nonce (64 + s.size)) (hm : more.size ≤ 1048576)
    (hX : X = hidB key nonce s 64 ++ closeTag (streamB key nonce 64) more (hidB key nonce s 64)) :
    Calls Try.prog 7 #[.string key, .string nonce, .string more, .string s] w fun e w' => e = .returned (.tuple #[.string X, .int .i64 0]) ∧ Below w.heap.size w w' := by
  obtain ⟨F, hF⟩ : ∃ F, F = streamB key nonce 64 := ⟨_, rfl⟩
  obtain ⟨H, hH⟩ : ∃ F, F = hidB key nonce s 64 := ⟨_, rfl⟩
  obtain ⟨T, hT⟩ : ∃ T, T = closeTag F more H := ⟨_, rfl⟩
  rw [← hF, ← hH, ← hT] at hX
  have hFs : F.size = 64 := by rw [hF, streamB_size]
  have hHs : H.size = s.size := by rw [hH, hidB_size]
  have hTs : T.size = 16 := by rw [hT, closeTag_size]
  have hsm : 64 + s.size ≤ 6000 := h.2
  have R1 := Lib.hid (fun u => first_block key nonce F u h.1.1 h.1.2 hF)
  have R2 := Lib.hid (show ∀ u, Calls Try.prog 24 #[.string key, .string nonce, .string s, .int .i64 64] u fun e w' => e = .returned (.tuple #[.string H, .int .i64 0]) ∧ Below u.heap.size u w' from fun u => behind_ok key nonce s H 64 u h hH)
  have R3 := Lib.hid (fun u => closetag_any F more H T u (by omega) hm (by omega) hT)
  have cat : ¬ 9223372036854775807 < H.size + T.size := by omega
  clear hF hH hT hFs hHs hTs hsm h
  subst hX
  go_enter Try.func7, Try.ntmps7
  go_wp2_with fail
  refine (R1.out _).mono ?_
  rintro e w1 ⟨rfl, hb⟩
  have HB1 := Lib.hid hb
  clear hb
  go_wp2_with fail
  refine (R2.out _).mono ?_
  rintro e w2 ⟨rfl, hb⟩
  have HB2 := Lib.hid (HB1.out.trans (hb.mono HB1.out.size))
  clear hb HB1
  go_wp2_with fail
  refine (R3.out _).mono ?_
  rintro e w3 ⟨rfl, hb⟩
  have HB3 := Lib.hid (HB2.out.trans (hb.mono HB2.out.size))
  clear hb HB2
  go_wp2
  refine bodyPost_ret (v := .tuple #[.string (H ++ T), .int .i64 0]) (by simp [results, Try.results7, go_sem]) rfl ⟨rfl, HB3.out⟩

/-- Open, by whether the tag is the one that is wanted. -/
def openR (H : ByteArray) : Bool → Value
  | true => .tuple #[.string H, .int .i64 0]
  | false => .tuple #[.string ⟨#[]⟩, .int .i64 14]
def openV (key nonce A : ByteArray) (b : Bool) : Value := openR (hidB key nonce A 64) b
set_option maxHeartbeats 1600000 in
theorem open_any (key nonce more x A B : ByteArray) (n : Nat) (b : Bool) (w : World) (hx : x.size = n + 16) (h : Good key nonce (64 + n)) (hm : more.size ≤ 1048576) (hA : x.extract 0 n = A) (hB : x.extract n x.size = B)
    (hb : decide (B.data.toList = (closeTag (streamB key nonce 64) more A).data.toList) = b) :
    Calls Try.prog 9 #[.string key, .string nonce, .string more, .string x] w fun e w' => e = .returned (openV key nonce A b) ∧ Below w.heap.size w w' := by
  obtain ⟨F, hF⟩ : ∃ F, F = streamB key nonce 64 := ⟨_, rfl⟩
  obtain ⟨T, hT⟩ : ∃ T, T = closeTag F more A := ⟨_, rfl⟩
  rw [← hF, ← hT] at hb
  have hFs : F.size = 64 := by rw [hF, streamB_size]
  have hTs : T.size = 16 := by rw [hT, closeTag_size]
  have hAs : A.size = n := by rw [← hA, ByteArray.size_extract]; omega
  have hBs : B.size = 16 := by rw [← hB, ByteArray.size_extract]; omega
  have hsm : 64 + n ≤ 6000 := h.2
  obtain ⟨H, hH⟩ : ∃ H, H = hidB key nonce A 64 := ⟨_, rfl⟩
  have hV : openV key nonce A b = openR H b := by rw [hH]; rfl
  rw [hV]
  have R1 := Lib.hid (fun u => first_block key nonce F u h.1.1 h.1.2 hF)
  have R2 := Lib.hid (fun u => closetag_any F more A T u (by omega) hm (by omega) hT)
  have R3 := Lib.hid (show ∀ u, Calls Try.prog 30 #[.string B, .string T] u fun e w' => e = .returned (.bool b) ∧ Below u.heap.size u w' from fun u => by
    have := alike_any B T u (by omega) (by omega)
    rw [hb] at this
    exact this)
  have R4 := Lib.hid (show ∀ u, Calls Try.prog 24 #[.string key, .string nonce, .string A, .int .i64 64] u fun e w' => e = .returned (.tuple #[.string H, .int .i64 0]) ∧ Below u.heap.size u w' from fun u => behind_ok key nonce A H 64 u (by rw [hAs]; exact h) hH)
  have e1 : (x.size : Int) - 16 = (n : Int) := by omega
  have e2 : decide ((x.size : Int) < 16) = false := by simp; omega
  have e3 : (n : Int) ≤ (x.size : Int) := by omega
  have e4 : (n : Int) ≤ 6000 := by omega
  have e5 : (0 : Int) ≤ (n : Int) := by omega
  have e6 : IntKind.i64.wrap (n : Int) = (n : Int) := by rw [IntKind.wrap_i64]; omega
  clear hV hF hT hb hFs hTs hAs hBs hsm hH hx h
  go_enter Try.func9, Try.ntmps9
  go_wp2_with fail
  refine (R1.out _).mono ?_
  rintro e w1 ⟨rfl, hb⟩
  have HB1 := Lib.hid hb
  clear hb
  go_upto_region 6 with (fail)
  refine Steady.region 11 (by kernel_rfl) (by kernel_rfl) (fun u => Below w1.drew.heap.size w1.drew u) (Below.refl _ _) ?_
  simp only [List.take_succ_cons, List.take_zero, List.drop_succ_cons, List.drop_zero]
  refine Steady.take ?_ rfl (by intro u hu; go_simp; with_reducible rfl) ?_
  simp only [Act.put, List.setIfInBounds_toArray, List.set_cons_zero, List.set_cons_succ]
  refine Steady.take ?_ rfl (by intro u hu; go_simp; with_reducible rfl) ?_
  simp only [Act.put, List.setIfInBounds_toArray, List.set_cons_zero, List.set_cons_succ]
  refine Steady.take ?_ rfl (by intro u hu; go_simp; with_reducible rfl) ?_
  simp only [Act.put, List.setIfInBounds_toArray, List.set_cons_zero, List.set_cons_succ]
  refine Steady.take ?_ rfl (by intro u hu; go_simp; with_reducible rfl) ?_
  simp only [Act.put, List.setIfInBounds_toArray, List.set_cons_zero, List.set_cons_succ]
  refine Steady.take ?_ rfl (by intro u hu; go_simp; with_reducible rfl) ?_
  simp only [Act.put, List.setIfInBounds_toArray, List.set_cons_zero, List.set_cons_succ]
  refine Steady.take ?_ rfl (by intro u hu; go_simp; with_reducible rfl) ?_
  simp only [Act.put, List.setIfInBounds_toArray, List.set_cons_zero, List.set_cons_succ]
  refine Steady.take ?_ rfl (by intro u hu; go_simp; with_reducible rfl) ?_
  simp only [Act.put, List.setIfInBounds_toArray, List.set_cons_zero, List.set_cons_succ]
  refine Steady.take ?_ rfl (by intro u hu; go_simp; with_reducible rfl) ?_
  simp only [Act.put, List.setIfInBounds_toArray, List.set_cons_zero, List.set_cons_succ]
  refine Steady.take ?_ rfl (by intro u hu; go_simp; with_reducible rfl) ?_
  simp only [Act.put, List.setIfInBounds_toArray, List.set_cons_zero, List.set_cons_succ]
  refine Steady.take ?_ rfl (by intro u hu; go_simp; with_reducible rfl) ?_
  simp only [Act.put, List.setIfInBounds_toArray, List.set_cons_zero, List.set_cons_succ]
  refine Steady.take ?_ rfl (by intro u hu; go_simp; with_reducible rfl) ?_
  simp only [Act.put, List.setIfInBounds_toArray, List.set_cons_zero, List.set_cons_succ]
  refine Steady.nil ?_
  intro w9 h9
  have HB9 := Lib.hid (HB1.out.drew.trans (h9.mono HB1.out.size))
  clear h9 HB1
  go_wp2_with fail
  refine (R2.out _).mono ?_
  rintro e w2 ⟨rfl, hb⟩
  have HB2 := Lib.hid (HB9.out.trans (hb.mono HB9.out.size))
  clear hb HB9
  go_wp2_with fail
  refine (R3.out _).mono ?_
  rintro e w3 ⟨rfl, hb⟩
  have HB3 := Lib.hid (HB2.out.trans (hb.mono HB2.out.size))
  clear hb HB2
  cases b with
  | false =>
    go_wp2
    refine bodyPost_ret (v := .tuple #[.string ⟨#[]⟩, .int .i64 14]) (by simp [results, Try.results9, go_sem]) rfl ⟨rfl, HB3.out⟩
  | true =>
    go_wp2_with fail
    refine (R4.out _).mono ?_
    rintro e w4 ⟨rfl, hb⟩
    have HB4 := Lib.hid (HB3.out.trans (hb.mono HB3.out.size))
    clear hb HB3
    go_wp2
    refine bodyPost_ret (v := .tuple #[.string H, .int .i64 0]) (by simp [results, Try.results9, go_sem]) rfl ⟨rfl, HB4.out⟩
end Go.Proofs.Ytcglobpklhkebab.Cha
