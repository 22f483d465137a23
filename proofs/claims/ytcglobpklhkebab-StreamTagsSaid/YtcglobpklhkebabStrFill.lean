/-
  stream.filled and stream.closingTag: what they answer, as plain functions; all memory that was there is left as it was. Conditions: lengths below 2^32; a first block of 32 bytes and more.
-/
import Derived.Test.YtcglobpklhkebabPolyTag
import Derived.Test.YtcglobpklhkebabShelf
import Derived.Test.YtcglobpklhkebabSteady
namespace Go.Proofs.Ytcglobpklhkebab.Poly
open Go.RowKit Go.Shelf Mur Lanes
set_option maxRecDepth 100000

def fillN (n : Nat) : Nat := (16 - n % 16) % 16
def filledB (s : ByteArray) : ByteArray := s ++ ⟨(Lib.repeatL (⟨#[0]⟩ : ByteArray).data.toList (fillN s.size)).toArray⟩
theorem filledB_size (s : ByteArray) : (filledB s).size ≤ s.size + 15 := by
  unfold filledB
  rw [ByteArray.size_append]
  show s.size + (Lib.repeatL _ (fillN s.size)).length ≤ _
  rw [Lib.repeatL_length]
  show s.size + fillN s.size * 1 ≤ _
  unfold fillN
  omega
theorem filled_any (s T : ByteArray) (w : World) (hs : s.size ≤ 4294967295) (hT : T = filledB s) :
    Calls Try.prog 43 #[.string s] w fun e w' => e = .returned (.string T) ∧ Below w.heap.size w w' := by
  unfold filledB at hT
  obtain ⟨F, hF⟩ : ∃ F, F = fillN s.size := ⟨_, rfl⟩
  rw [← hF] at hT
  obtain ⟨Z, hZ⟩ : ∃ Z : ByteArray, Z = ⟨(Lib.repeatL (⟨#[0]⟩ : ByteArray).data.toList F).toArray⟩ := ⟨_, rfl⟩
  rw [← hZ] at hT
  unfold fillN at hF
  have hFl : F < 16 := by omega
  have R := Lib.hid (show ∀ u, Calls Try.prog 51 #[.string ⟨#[0]⟩, .int .i64 F] u fun e w' => e = .returned (.string Z) ∧ Below u.heap.size u w' from fun u => by
    rw [hZ]
    exact Any.strings_Repeat Try.lays105 Try.Builder_Extra_105 ⟨#[0]⟩ F u (by omega) (by show 1 * F ≤ _; omega))
  have e1 : (16 - (s.size : Int) % 16) % 16 = (F : Int) := by omega
  have hZs : Z.size = F := by rw [hZ]; show (Lib.repeatL _ F).length = F; rw [Lib.repeatL_length]; show F * 1 = F; omega
  have cat : ¬ 9223372036854775807 < s.size + Z.size := by omega
  clear hF hZ hFl hZs
  subst hT
  go_enter Try.func43, Try.ntmps43
  go_wp2_with fail
  refine (R.out _).mono ?_
  rintro e w1 ⟨rfl, hb⟩
  go_wp2
  go_ret
  exact ⟨rfl, hb⟩

/-- What the tag is of. -/
def closeText (m h : ByteArray) : ByteArray := filledB m ++ filledB h ++ ⟨(text [m.size, 0, h.size, 0] false).toArray⟩
def closeTag (f m h : ByteArray) : ByteArray := ⟨(tag (f.extract 0 32).data.toList (closeText m h).data.toList).toArray⟩
theorem closeTag_size (f m h : ByteArray) : (closeTag f m h).size = 16 := tag_length _ _

set_option maxHeartbeats 1600000 in
theorem closetag_any (f m h T : ByteArray) (w : World) (hf : 32 ≤ f.size) (hm : m.size ≤ 1048576) (hh : h.size ≤ 1048576) (hT : T = closeTag f m h) :
    Calls Try.prog 25 #[.string f, .string m, .string h] w fun e w' => e = .returned (.string T) ∧ Below w.heap.size w w' := by
  unfold closeTag closeText at hT
  obtain ⟨M, hM⟩ : ∃ M, M = filledB m := ⟨_, rfl⟩
  obtain ⟨H, hH⟩ : ∃ M, M = filledB h := ⟨_, rfl⟩
  obtain ⟨L, hL⟩ : ∃ L : ByteArray, L = ⟨(text [m.size, 0, h.size, 0] false).toArray⟩ := ⟨_, rfl⟩
  rw [← hM, ← hH, ← hL] at hT
  have sM := filledB_size m
  have sH := filledB_size h
  rw [← hM] at sM
  rw [← hH] at sH
  have sL : L.size = 16 := by rw [hL]; show (text _ _).length = 16; rw [text_length]; rfl
  have R1 := Lib.hid (fun u => filled_any m M u (by omega) hM)
  have R2 := Lib.hid (fun u => filled_any h H u (by omega) hH)
  have R4 := Lib.hid (fun u => tag_any (f.extract 0 32) (M ++ H ++ L) T u (by rw [ByteArray.size_extract]; omega) (by rw [ByteArray.size_append, ByteArray.size_append]; omega) hT)
  obtain ⟨a, ha⟩ : ∃ a, a = m.size := ⟨_, rfl⟩
  obtain ⟨c, hc⟩ : ∃ a, a = h.size := ⟨_, rfl⟩
  have hLL : L = ⟨(text [a, 0, c, 0] false).toArray⟩ := by rw [ha, hc]; exact hL
  have TX := Lib.hid (show ∀ (u : World) (b : Nat), Whole u b 31 [.int .u32 (a : Int), .int .u32 0, .int .u32 (c : Int), .int .u32 0] → Calls Try.prog 34 #[.slice (some ⟨b, 0, none⟩) 4 4, .bool false] u fun e w' => e = .returned (.string L) ∧ Below u.heap.size u w' from fun u b hb => by
    have hl : Whole u b 31 (wordsV [a, 0, c, 0]) := hb
    have := text_some [a, 0, c, 0] b 0 4 false u (by show 4 ≤ _; omega) (fun x hx => by
      simp only [List.mem_cons, List.not_mem_nil, or_false] at hx
      omega) hl.lt (fun i hi => by rw [Nat.zero_add]; exact hl.row.cell (wordsV_at hi))
    rw [← hLL] at this
    exact this)
  have e1 : IntKind.u32.wrap (m.size : Int) = (a : Int) := by rw [IntKind.wrap_u32]; omega
  have e2 : IntKind.u32.wrap (h.size : Int) = (c : Int) := by rw [IntKind.wrap_u32]; omega
  have i32 : (32 : Int) ≤ (f.size : Int) := by omega
  have HW := Lib.hid (Whole.made w 31 [.int .u32 (a : Int), .int .u32 0, .int .u32 (c : Int), .int .u32 0])
  have cat1 : ¬ 9223372036854775807 < M.size + H.size := by omega
  have cat2 : ¬ 9223372036854775807 < M.size + H.size + L.size := by omega
  clear hT hM hH hL sM sH sL ha hc hLL
  go_enter Try.func25, Try.ntmps25
  go_upto_region 2 with (fail)
  clear e1 e2
  generalize hwz : w.alloc (.cells #[.int .u32 (a : Int), .int .u32 0, .int .u32 (c : Int), .int .u32 0] 31) = wz at *
  have HB := Lib.hid (show Below w.heap.size w wz from by rw [← hwz]; exact (Below.refl _ _).alloc (Nat.le_refl _) _)
  have HW2 := Lib.hid (show Whole wz w.heap.size 31 [.int .u32 (a : Int), .int .u32 0, .int .u32 (c : Int), .int .u32 0] from HW.out)
  clear hwz HW
  have TX2 := Lib.hid (show ∀ u, Below wz.drew.heap.size wz.drew u → Calls Try.prog 34 #[.slice (some ⟨w.heap.size, 0, none⟩) 4 4, .bool false] u fun e w' => e = .returned (.string L) ∧ Below wz.drew.heap.size wz.drew w' from fun u hu =>
    (TX.out u _ (HW2.out.drew.below HW2.out.lt hu)).mono fun _ _ ⟨he, hb⟩ => ⟨he, hu.trans (hb.mono hu.size)⟩)
  clear TX
  refine Steady.region 15 (by kernel_rfl) (by kernel_rfl) (fun u => Below wz.drew.heap.size wz.drew u) (Below.refl _ _) ?_
  simp only [List.take_succ_cons, List.take_zero, List.drop_succ_cons, List.drop_zero]
  refine Steady.take ?_ rfl (by intro u hu; go_simp; with_reducible rfl) ?_
  simp only [Act.put, List.setIfInBounds_toArray, List.set_cons_zero, List.set_cons_succ]
  refine Steady.take ?_ rfl (by intro u hu; go_simp; with_reducible rfl) ?_
  simp only [Act.put, List.setIfInBounds_toArray, List.set_cons_zero, List.set_cons_succ]
  refine Steady.take ?_ rfl (by intro u hu; go_simp; with_reducible rfl) ?_
  simp only [Act.put, List.setIfInBounds_toArray, List.set_cons_zero, List.set_cons_succ]
  refine Steady.call _ _ _ rfl ?_ (Steady.kept R1.out) ?_
  · intro u
    go_simp
  simp only [Act.put, List.setIfInBounds_toArray, List.set_cons_zero, List.set_cons_succ]
  refine Steady.take ?_ rfl (by intro u hu; go_simp; with_reducible rfl) ?_
  simp only [Act.put, List.setIfInBounds_toArray, List.set_cons_zero, List.set_cons_succ]
  refine Steady.call _ _ _ rfl ?_ (Steady.kept R2.out) ?_
  · intro u
    go_simp
  simp only [Act.put, List.setIfInBounds_toArray, List.set_cons_zero, List.set_cons_succ]
  refine Steady.take ?_ rfl (by intro u hu; go_simp; with_reducible rfl) ?_
  simp only [Act.put, List.setIfInBounds_toArray, List.set_cons_zero, List.set_cons_succ]
  refine Steady.take ?_ rfl (by intro u hu; go_simp; with_reducible rfl) ?_
  simp only [Act.put, List.setIfInBounds_toArray, List.set_cons_zero, List.set_cons_succ]
  refine Steady.call _ _ _ rfl ?_ TX2.out ?_
  · intro u
    go_simp
  simp only [Act.put, List.setIfInBounds_toArray, List.set_cons_zero, List.set_cons_succ]
  refine Steady.take ?_ rfl (by intro u hu; go_simp; with_reducible rfl) ?_
  simp only [Act.put, List.setIfInBounds_toArray, List.set_cons_zero, List.set_cons_succ]
  refine Steady.call _ _ _ rfl ?_ (Steady.kept R4.out) ?_
  · intro u
    go_simp
  simp only [Act.put, List.setIfInBounds_toArray, List.set_cons_zero, List.set_cons_succ]
  refine Steady.take ?_ rfl (by intro u hu; go_simp; with_reducible rfl) ?_
  simp only [Act.put, List.setIfInBounds_toArray, List.set_cons_zero, List.set_cons_succ]
  refine Steady.take ?_ rfl (by intro u hu; go_simp; with_reducible rfl) ?_
  simp only [Act.put, List.setIfInBounds_toArray, List.set_cons_zero, List.set_cons_succ]
  refine Steady.take ?_ rfl (by intro u hu; go_simp; with_reducible rfl) ?_
  simp only [Act.put, List.setIfInBounds_toArray, List.set_cons_zero, List.set_cons_succ]
  refine Steady.take ?_ rfl (by intro u hu; go_simp; with_reducible rfl) ?_
  simp only [Act.put, List.setIfInBounds_toArray, List.set_cons_zero, List.set_cons_succ]
  refine Steady.nil ?_
  intro w9 h9
  have HB9 := Lib.hid (HB.out.drew.trans (h9.mono HB.out.size))
  clear h9
  go_wp2
  go_ret
  exact ⟨rfl, HB9.out⟩
end Go.Proofs.Ytcglobpklhkebab.Poly
