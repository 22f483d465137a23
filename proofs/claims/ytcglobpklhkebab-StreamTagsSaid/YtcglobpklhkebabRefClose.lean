/-
  The document's answers Close and Open of layer 4, where its Tag answers what the plain mathematics says (TagSays: to be proved). Conditions: lengths of a megabyte at most, and those that Stream allows.
-/
import Derived.Test.YtcglobpklhkebabRefFill
import Derived.Test.YtcglobpklhkebabRefStream
import Derived.Test.YtcglobpklhkebabRefXor
import Derived.Test.YtcglobpklhkebabRefAlike
namespace Go.Proofs.Ytcglobpklhkebab.RefPoly
open Go.RowKit Go.Shelf Mur Lanes Cha Poly
set_option maxRecDepth 100000

/-- The document's Tag is the plain one. -/
def TagSays : Prop := ∀ (key s T : ByteArray) (u : World), key.size = 32 → s.size ≤ 4194304 → T = ⟨(tag key.data.toList s.data.toList).toArray⟩ →
  Calls Try.prog 6 #[.string key, .string s] u fun e w' => e = .returned (.tuple #[.string T, .int .i64 0]) ∧ Below u.heap.size u w'

set_option maxHeartbeats 800000 in
theorem close_err (key nonce more s : ByteArray) (w : World) (h : ¬ (key.size = 32 ∧ nonce.size = 12)) :
    Calls Try.prog 8 #[.string key, .string nonce, .string more, .string s] w fun e w' => e = .returned (.tuple #[.string ⟨#[]⟩, .int .i64 1]) ∧ Below w.heap.size w w' := by
  have R1 := Lib.hid (fun u => once_none key nonce u h)
  clear h
  go_enter Try.func8, Try.ntmps8
  go_wp2_with fail
  refine (R1.out _).mono ?_
  rintro e w1 ⟨rfl, hb⟩
  go_wp2
  refine bodyPost_ret (v := .tuple #[.string ⟨#[]⟩, .int .i64 1]) (by simp [results, Try.results8, go_sem]) rfl ⟨rfl, hb⟩
set_option maxHeartbeats 800000 in
theorem open_err (key nonce more s : ByteArray) (w : World) (h : ¬ (key.size = 32 ∧ nonce.size = 12)) :
    Calls Try.prog 10 #[.string key, .string nonce, .string more, .string s] w fun e w' => e = .returned (.tuple #[.string ⟨#[]⟩, .int .i64 1]) ∧ Below w.heap.size w w' := by
  have R1 := Lib.hid (fun u => once_none key nonce u h)
  clear h
  go_enter Try.func10, Try.ntmps10
  go_wp2_with fail
  refine (R1.out _).mono ?_
  rintro e w1 ⟨rfl, hb⟩
  go_wp2
  refine bodyPost_ret (v := .tuple #[.string ⟨#[]⟩, .int .i64 1]) (by simp [results, Try.results10, go_sem]) rfl ⟨rfl, hb⟩
set_option maxHeartbeats 800000 in
theorem open_short (key nonce more s : ByteArray) (w : World) (h : key.size = 32 ∧ nonce.size = 12) (hs : s.size < 16) :
    Calls Try.prog 10 #[.string key, .string nonce, .string more, .string s] w fun e w' => e = .returned (.tuple #[.string ⟨#[]⟩, .int .i64 2]) ∧ Below w.heap.size w w' := by
  have R1 := Lib.hid (fun u => once_some key nonce _ u h rfl)
  have h1 : decide ((s.size : Int) < 16) = true := by simp; omega
  clear h hs
  go_enter Try.func10, Try.ntmps10
  go_wp2_with fail
  refine (R1.out _).mono ?_
  rintro e w1 ⟨rfl, hb⟩
  go_wp2
  refine bodyPost_ret (v := .tuple #[.string ⟨#[]⟩, .int .i64 2]) (by simp [results, Try.results10, go_sem]) rfl ⟨rfl, hb⟩

set_option maxHeartbeats 1600000 in
theorem close_ok (tg : TagSays) (key nonce more s X : ByteArray) (w : World) (h : Cha.Good key nonce (64 + s.size)) (hm : more.size ≤ 1048576)
    (hX : X = hidB key nonce s 64 ++ closeTag (streamB key nonce 64) more (hidB key nonce s 64)) :
    Calls Try.prog 8 #[.string key, .string nonce, .string more, .string s] w fun e w' => e = .returned (.tuple #[.string X, .int .i64 0]) ∧ Below w.heap.size w w' := by
  obtain ⟨K, hK⟩ : ∃ K, K = (streamB key nonce 64).extract 0 32 := ⟨_, rfl⟩
  obtain ⟨F, hF⟩ : ∃ F, F = streamB key nonce (64 + s.size) := ⟨_, rfl⟩
  obtain ⟨H, hH⟩ : ∃ F, F = hidB key nonce s 64 := ⟨_, rfl⟩
  obtain ⟨T, hT⟩ : ∃ T, T = closeTag (streamB key nonce 64) more H := ⟨_, rfl⟩
  obtain ⟨M, hM⟩ : ∃ M, M = closeText more H := ⟨_, rfl⟩
  rw [← hH, ← hT] at hX
  have hFs : F.size = 64 + s.size := by rw [hF, streamB_size]
  have hHs : H.size = s.size := by rw [hH, hidB_size]
  have hTs : T.size = 16 := by rw [hT, closeTag_size]
  have hKs : K.size = 32 := by rw [hK, ByteArray.size_extract, streamB_size]; rfl
  have hsm : 64 + s.size ≤ 6000 := h.2
  have hMs : M.size ≤ 4194304 := by
    rw [hM]
    unfold closeText
    rw [ByteArray.size_append, ByteArray.size_append]
    have q1 := filledB_size more
    have q2 := filledB_size H
    have q3 : (⟨(text [more.size, 0, H.size, 0] false).toArray⟩ : ByteArray).size = 16 := by show (text _ _).length = 16; rw [text_length]; rfl
    omega
  have hT2 : T = ⟨(tag K.data.toList M.data.toList).toArray⟩ := by rw [hT, hK, hM]; rfl
  have hH2 : LanesXor.xorS s (F.extract 64 F.size) = H := by rw [hFs, hF, hH]; rfl
  have R1 := Lib.hid (fun u => once_some key nonce K u h.1 hK)
  have R2 := Lib.hid (show ∀ u, Calls Try.prog 27 #[.string key, .string nonce, .int .i64 (64 + (s.size : Int))] u fun e w' => e = .returned (.tuple #[.string F, .int .i64 0]) ∧ Below u.heap.size u w' from fun u => RefCha.stream_some key nonce F (64 + s.size) u h.1.1 h.1.2 hsm hF)
  have R3 := Lib.hid (fun u => RefXor.refxor_any s (F.extract 64 F.size) u (by omega) (by rw [ByteArray.size_extract]; omega))
  rw [hH2] at R3
  have R4 := Lib.hid (fun u => framed_any more H M u hm (by omega) hM)
  have R5 := Lib.hid (fun u => tg K M T u hKs hMs hT2)
  have cat : ¬ 9223372036854775807 < H.size + T.size := by omega
  have i64 : (64 : Int) ≤ (F.size : Int) := by omega
  have sb : (s.size : Int) ≤ 6000 := by omega
  clear hK hF hH hT hM hFs hHs hTs hKs hsm hMs hT2 hH2 h tg
  subst hX
  go_enter Try.func8, Try.ntmps8
  go_wp2_with fail
  refine (R1.out _).mono ?_
  rintro e w1 ⟨rfl, hb⟩
  have HB1 := Lib.hid hb
  clear hb
  go_wp2_with fail
  refine (R2.out _).mono ?_
  rintro e w2 ⟨rfl, hb⟩
  have HB2 := Lib.hid (HB1.out.trans (hb.mono HB1.out.size))
  clear hb HB1
  go_wp2_with fail
  refine (R3.out _).mono ?_
  rintro e w3 ⟨rfl, hb⟩
  have HB3 := Lib.hid (HB2.out.trans (hb.mono HB2.out.size))
  clear hb HB2
  go_wp2_with fail
  refine (R4.out _).mono ?_
  rintro e w4 ⟨rfl, hb⟩
  have HB4 := Lib.hid (HB3.out.trans (hb.mono HB3.out.size))
  clear hb HB3
  go_wp2_with fail
  refine (R5.out _).mono ?_
  rintro e w5 ⟨rfl, hb⟩
  have HB5 := Lib.hid (HB4.out.trans (hb.mono HB4.out.size))
  clear hb HB4
  go_wp2
  refine bodyPost_ret (v := .tuple #[.string (H ++ T), .int .i64 0]) (by simp [results, Try.results8, go_sem]) rfl ⟨rfl, HB5.out⟩

set_option maxHeartbeats 1600000 in
theorem open_any (tg : TagSays) (key nonce more x A B : ByteArray) (n : Nat) (b : Bool) (w : World) (hx : x.size = n + 16) (h : Cha.Good key nonce (64 + n)) (hm : more.size ≤ 1048576) (hA : x.extract 0 n = A) (hB : x.extract n x.size = B)
    (hb : ((closeTag (streamB key nonce 64) more A).toList == B.toList) = b) :
    Calls Try.prog 10 #[.string key, .string nonce, .string more, .string x] w fun e w' => e = .returned (openV key nonce A b) ∧ Below w.heap.size w w' := by
  obtain ⟨K, hK⟩ : ∃ K, K = (streamB key nonce 64).extract 0 32 := ⟨_, rfl⟩
  obtain ⟨F, hF⟩ : ∃ F, F = streamB key nonce (64 + n) := ⟨_, rfl⟩
  obtain ⟨H, hH⟩ : ∃ F, F = hidB key nonce A 64 := ⟨_, rfl⟩
  obtain ⟨T, hT⟩ : ∃ T, T = closeTag (streamB key nonce 64) more A := ⟨_, rfl⟩
  obtain ⟨M, hM⟩ : ∃ M, M = closeText more A := ⟨_, rfl⟩
  rw [← hT] at hb
  have hFs : F.size = 64 + n := by rw [hF, streamB_size]
  have hTs : T.size = 16 := by rw [hT, closeTag_size]
  have hAs : A.size = n := by rw [← hA, ByteArray.size_extract]; omega
  have hBs : B.size = 16 := by rw [← hB, ByteArray.size_extract]; omega
  have hKs : K.size = 32 := by rw [hK, ByteArray.size_extract, streamB_size]; rfl
  have hsm : 64 + n ≤ 6000 := h.2
  have hMs : M.size ≤ 4194304 := by
    rw [hM]
    unfold closeText
    rw [ByteArray.size_append, ByteArray.size_append]
    have q1 := filledB_size more
    have q2 := filledB_size A
    have q3 : (⟨(text [more.size, 0, A.size, 0] false).toArray⟩ : ByteArray).size = 16 := by show (text _ _).length = 16; rw [text_length]; rfl
    omega
  have hT2 : T = ⟨(tag K.data.toList M.data.toList).toArray⟩ := by rw [hT, hK, hM]; rfl
  have hH2 : LanesXor.xorS A (F.extract 64 F.size) = H := by rw [hFs, hF, hH, ← hAs]; rfl
  have hV : openV key nonce A b = openR H b := by rw [hH]; rfl
  rw [hV]
  have R1 := Lib.hid (fun u => once_some key nonce K u h.1 hK)
  have R2 := Lib.hid (show ∀ u, Calls Try.prog 27 #[.string key, .string nonce, .int .i64 (64 + (A.size : Int))] u fun e w' => e = .returned (.tuple #[.string F, .int .i64 0]) ∧ Below u.heap.size u w' from fun u => by rw [hAs]; exact RefCha.stream_some key nonce F (64 + n) u h.1.1 h.1.2 hsm hF)
  have R3 := Lib.hid (fun u => RefXor.refxor_any A (F.extract 64 F.size) u (by omega) (by rw [ByteArray.size_extract]; omega))
  rw [hH2] at R3
  have R4 := Lib.hid (fun u => framed_any more A M u hm (by omega) hM)
  have R5 := Lib.hid (fun u => tg K M T u hKs hMs hT2)
  have R6 := Lib.hid (fun u => RefOne.alike_any T B u (by omega) (by omega))
  rw [hb] at R6
  have i64 : (64 : Int) ≤ (F.size : Int) := by omega
  have e1 : (x.size : Int) - 16 = (n : Int) := by omega
  have e2 : decide ((x.size : Int) < 16) = false := by simp; omega
  have e3 : (n : Int) ≤ (x.size : Int) := by omega
  have e4 : (n : Int) ≤ 6000 := by omega
  have e6 : IntKind.i64.wrap (n : Int) = (n : Int) := by rw [IntKind.wrap_i64]; omega
  have HA := Lib.hid hAs
  clear hV hK hF hH hT hM hFs hTs hAs hBs hKs hsm hMs hT2 hH2 h tg hb hx
  go_enter Try.func10, Try.ntmps10
  go_wp2_with fail
  refine (R1.out _).mono ?_
  rintro e w1 ⟨rfl, hb⟩
  have HB1 := Lib.hid hb
  clear hb
  go_wp2_with fail
  refine (R4.out _).mono ?_
  rintro e w2 ⟨rfl, hb⟩
  have HB2 := Lib.hid (HB1.out.trans (hb.mono HB1.out.size))
  clear hb HB1
  go_wp2_with fail
  refine (R5.out _).mono ?_
  rintro e w3 ⟨rfl, hb⟩
  have HB3 := Lib.hid (HB2.out.trans (hb.mono HB2.out.size))
  clear hb HB2
  have e7 : (A.size : Int) = (n : Int) := by rw [HA.out]
  go_wp2_with fail
  refine (R6.out _).mono ?_
  rintro e w4 ⟨rfl, hb⟩
  have HB4 := Lib.hid (HB3.out.trans (hb.mono HB3.out.size))
  clear hb HB3 e7
  cases b with
  | false =>
    go_wp2
    refine bodyPost_ret (v := .tuple #[.string ⟨#[]⟩, .int .i64 14]) (by simp [results, Try.results10, go_sem]) rfl ⟨rfl, HB4.out⟩
  | true =>
    have sb : (A.size : Int) ≤ 6000 := by have := HA.out; omega
    go_wp2_with fail
    refine (R2.out _).mono ?_
    rintro e w5 ⟨rfl, hb⟩
    have HB5 := Lib.hid (HB4.out.trans (hb.mono HB4.out.size))
    clear hb HB4
    go_wp2_with fail
    refine (R3.out _).mono ?_
    rintro e w6 ⟨rfl, hb⟩
    have HB6 := Lib.hid (HB5.out.trans (hb.mono HB5.out.size))
    clear hb HB5
    go_wp2
    refine bodyPost_ret (v := .tuple #[.string H, .int .i64 0]) (by simp [results, Try.results10, go_sem]) rfl ⟨rfl, HB6.out⟩
end Go.Proofs.Ytcglobpklhkebab.RefPoly
