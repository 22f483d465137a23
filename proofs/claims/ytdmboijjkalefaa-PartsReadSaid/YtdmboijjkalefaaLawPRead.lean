/-
  PartsRead: any bytes as numbers, texts, and lists of them, from any place on, are the document's: for every text and every place the law answers true and changes nothing that was there. Condition: none.
-/
import Derived.Test.YtdmboijjkalefaaRows
import Derived.Test.YtdmboijjkalefaaRPrtB
import Derived.Test.YtdmboijjkalefaaPrtCmp
import Derived.Test.YtdmboijjkalefaaLawPOpen
namespace Go.Proofs.Ytdmboijjkalefaa.LawPRead
open Go.ChangeShapes Go.WideShapes Go.ChangeAt Go.RowKit Mur Lanes Prt
open Go.ChangeMaps (open_string shut_string)
set_option maxRecDepth 100000

theorem readN_count {α : Type} (rd : Int → Except Nat (α × Nat)) : ∀ (k p : Nat), (listV (readN rd k p)).length ≤ k
  | 0, p => Nat.le_refl _
  | k + 1, p => by
    cases h : rd (p : Int) with
    | error e => rw [readN_error rd k p e h]; exact Nat.zero_le _
    | ok r =>
      rw [readN_ok rd k p r.2 r.1 h]
      have := readN_count rd k r.2
      cases h2 : readN rd k r.2 with
      | error e => exact Nat.zero_le _
      | ok t =>
        rw [h2] at this
        show (([r.1] ++ t.1)).length ≤ k + 1
        have h3 : t.1.length ≤ k := this
        rw [List.length_append]
        show 1 + t.1.length ≤ k + 1
        omega
theorem listV_le {α : Type} (rd : List UInt8 → Int → Except Nat (α × Nat)) (s : List UInt8) (p : Int) : (listV (readAll rd s p)).length ≤ 1000000 := by
  unfold readAll
  cases h : readHigh s p 1 with
  | error e => exact Nat.zero_le _
  | ok r =>
    have h1 := (readHigh_facts s p 1 r.2 r.1 h).2.2.2.2
    have h2 := readN_count (rd s) r.1 r.2
    show (listV (readN (rd s) r.1 r.2)).length ≤ 1000000
    omega

set_option maxHeartbeats 6400000 in
theorem walk (s : ByteArray) (p : Int) (w : World) (h1 : -9223372036854775808 ≤ p) (h2 : p ≤ 9223372036854775807) :
    Calls Try.prog 4 #[.string s, .int .i64 p] w fun e w' => e = .returned (.bool true) ∧ Below w.heap.size w w' := by
  by_cases hg : 8000 < s.size
  · have hd : decide (8000 < (s.size : Int)) = true := decide_eq_true (by omega)
    go_enter Try.func4, Try.ntmps4
    go_wp2_with fail
    refine (awake_any _).mono ?_
    rintro e w1 ⟨rfl, hb1⟩
    go_wp2
    go_ret
    exact ⟨rfl, hb1⟩
  · have hs : s.size ≤ 1000000000 := by omega
    have hd : decide (8000 < (s.size : Int)) = false := decide_eq_false (by omega)
    have hd2 : decide (8000 < s.size) = false := decide_eq_false (by omega)
    obtain ⟨NV, hNV⟩ : ∃ x : Int, x = numV (readNum s.data.toList p) := ⟨_, rfl⟩
    obtain ⟨NB, hNB⟩ : ∃ x : Int, x = posV (readNum s.data.toList p) := ⟨_, rfl⟩
    obtain ⟨NE, hNE⟩ : ∃ x : Int, x = errV (readNum s.data.toList p) := ⟨_, rfl⟩
    obtain ⟨SV, hSV⟩ : ∃ x : ByteArray, x = strV (readStr s.data.toList p) := ⟨_, rfl⟩
    obtain ⟨SB, hSB⟩ : ∃ x : Int, x = posV (readStr s.data.toList p) := ⟨_, rfl⟩
    obtain ⟨SE, hSE⟩ : ∃ x : Int, x = errV (readStr s.data.toList p) := ⟨_, rfl⟩
    obtain ⟨LV, hLV⟩ : ∃ x : List Nat, x = listV (readAll readNum s.data.toList p) := ⟨_, rfl⟩
    obtain ⟨LB, hLB⟩ : ∃ x : Int, x = posV (readAll readNum s.data.toList p) := ⟨_, rfl⟩
    obtain ⟨LE, hLE⟩ : ∃ x : Int, x = errV (readAll readNum s.data.toList p) := ⟨_, rfl⟩
    obtain ⟨MV, hMV⟩ : ∃ x : List (List UInt8), x = listV (readAll readStr s.data.toList p) := ⟨_, rfl⟩
    obtain ⟨MB, hMB⟩ : ∃ x : Int, x = posV (readAll readStr s.data.toList p) := ⟨_, rfl⟩
    obtain ⟨ME, hME⟩ : ∃ x : Int, x = errV (readAll readStr s.data.toList p) := ⟨_, rfl⟩
    have RN1 := Lib.hid (fun u => Prt.readNum_any s p u NV NB NE hNV hNB hNE h1 h2 hs)
    have RN2 := Lib.hid (fun u => RPrt.readNum_any s p u NV NB NE hNV hNB hNE h1 h2 hs)
    have RS1 := Lib.hid (fun u => Prt.readStr_any s p u SV SB SE hSV hSB hSE h1 h2 hs)
    have RS2 := Lib.hid (fun u => RPrt.readStr_any s p u SV SB SE hSV hSB hSE h1 h2 hs)
    have RL1 := Lib.hid (fun u => Prt.readnums_any s p u LV LB LE hLV hLB hLE h1 h2 hs)
    have RL2 := Lib.hid (fun u => RPrt.readnums_any s p u LV LB LE hLV hLB hLE h1 h2 hs)
    have RM1 := Lib.hid (fun u => Prt.readstrs_any s p u MV MB ME hMV hMB hME h1 h2 hs)
    have RM2 := Lib.hid (fun u => RPrt.readstrs_any s p u MV MB ME hMV hMB hME h1 h2 hs)
    have HLL := Lib.hid (show LV.length ≤ 1000000 by rw [hLV]; exact listV_le _ _ _)
    have HML := Lib.hid (show MV.length ≤ 1000000 by rw [hMV]; exact listV_le _ _ _)
    clear hNV hNB hNE hSV hSB hSE hLV hLB hLE hMV hMB hME h1 h2 hs
    go_enter Try.func4, Try.ntmps4
    go_wp2_with fail
    refine (RN1.out _).mono ?_
    rintro e w1 ⟨rfl, hb⟩
    have HW1 := Lib.hid hb
    clear hb
    go_wp2_with fail
    refine (RN2.out _).mono ?_
    rintro e w2 ⟨rfl, hb⟩
    have HW2 := Lib.hid (HW1.out.trans (hb.mono HW1.out.size))
    clear hb
    go_wp2_with fail
    refine (RS1.out _).mono ?_
    rintro e w3 ⟨rfl, hb⟩
    have HW3 := Lib.hid (HW2.out.trans (hb.mono HW2.out.size))
    clear hb
    go_wp2_with fail
    refine (RS2.out _).mono ?_
    rintro e w4 ⟨rfl, hb⟩
    have HW4 := Lib.hid (HW3.out.trans (hb.mono HW3.out.size))
    clear hb
    go_wp2_with fail
    refine (RL1.out _).mono ?_
    rintro e w5 ⟨a5, c5, rfl, hr, hb⟩
    have HW5 := Lib.hid (HW4.out.trans (hb.mono HW4.out.size))
    have FL1 := Lib.hid hr
    clear hr
    clear hb
    go_wp2_with fail
    refine (RL2.out _).mono ?_
    rintro e w6 ⟨a6, c6, rfl, hr, hb⟩
    have HW6 := Lib.hid (HW5.out.trans (hb.mono HW5.out.size))
    replace FL1 := Lib.hid (FL1.out.below hb)
    have FL2 := Lib.hid hr
    clear hr
    clear hb
    go_wp2_with fail
    refine (RM1.out _).mono ?_
    rintro e w7 ⟨a7, c7, rfl, hr, hb⟩
    have HW7 := Lib.hid (HW6.out.trans (hb.mono HW6.out.size))
    replace FL1 := Lib.hid (FL1.out.below hb)
    replace FL2 := Lib.hid (FL2.out.below hb)
    have FM1 := Lib.hid hr
    clear hr
    clear hb
    go_wp2_with fail
    refine (RM2.out _).mono ?_
    rintro e w8 ⟨a8, c8, rfl, hr, hb⟩
    have HW8 := Lib.hid (HW7.out.trans (hb.mono HW7.out.size))
    replace FL1 := Lib.hid (FL1.out.below hb)
    replace FL2 := Lib.hid (FL2.out.below hb)
    replace FM1 := Lib.hid (FM1.out.below hb)
    have FM2 := Lib.hid hr
    clear hr
    clear hb
    clear RN1 RN2 RS1 RS2 RL1 RL2 RM1 RM2
    go_wp2_with fail
    refine (ints_any (zl LV) LV.length LV.length _ _ _ _ _ (zl_length LV).symm (zl_length LV).symm HLL.out FL1.out FL2.out).mono ?_
    rintro e w9 ⟨rfl, hb⟩
    have HW9 := Lib.hid (HW8.out.trans (hb.mono HW8.out.size))
    replace FM1 := Lib.hid (FM1.out.below hb)
    replace FM2 := Lib.hid (FM2.out.below hb)
    clear hb
    go_wp2_with fail
    refine (texts_any (tl MV) MV.length MV.length _ _ _ _ _ (tl_length MV).symm (tl_length MV).symm HML.out FM1.out FM2.out).mono ?_
    rintro e w10 ⟨rfl, hb⟩
    have HW10 := Lib.hid (HW9.out.trans (hb.mono HW9.out.size))
    clear hb
    go_wp2_with fail
    refine (awake_any _).mono ?_
    rintro e w11 ⟨rfl, hb⟩
    have HW11 := Lib.hid (HW10.out.trans (hb.mono HW10.out.size))
    clear hb
    go_wp2
    go_ret
    exact ⟨rfl, HW11.out⟩

theorem own : ownKnob Try.prog.godebug = none := by kernel_rfl
theorem laidOut : laidOutB Try.prog = true := by kernel_rfl

theorem lifted (os : Os) (started : os.Started) (H : Type) (enc : TypeId × Value → H) :
    ReturnsInHanded {} Try.checked os 4 .any (Rows.partsReadSpec.pre6 enc Try.prog Try.f4 Rows.partsReadRow.domain false) (Rows.partsReadSpec.post enc Try.prog Try.f4 false true false false) := by
  refine returnsInHanded_of_change (C := Try.checked) own started (by kernel_rfl) Try.func4
    (ChangeSpec.witness6 (enc := enc) (C := Try.checked) false ⟨#[], #[.string ByteArray.empty, .int .i64 0], []⟩ 8 (by kernel_rfl) (by kernel_rfl) (by kernel_rfl) (by kernel_rfl)) ?_
  intro W base args ds gs before hval0 hW hcnd _
  have hval : ∀ (j : Nat) t v, Try.f4.params[j]? = some t → args[j]? = some v → Value.okWide Try.prog W .any base t v := hval0
  have hW' := hW
  obtain ⟨p, q, hA0, hV, rfl, hfz, hnd⟩ := hW
  have hA : DataW.TrodAll enc Try.prog W 0 (fun _ => true) true Try.f4.params.toList args.toList ds p := hA0
  rw [Try.params4] at hA hval
  obtain ⟨v0, vs0, d0, ds0, p0, q0, hargs, rfl, rfl, h0, r0⟩ := trodAll_cons hA
  obtain ⟨v1, vs1, d1, ds1, p1, q1, rfl, rfl, rfl, h1, r1⟩ := trodAll_cons r0
  obtain ⟨rfl, rfl, rfl⟩ := trodAll_nil r1
  obtain rfl : args = #[v0, v1] := by cases args; simp_all
  obtain ⟨rfl, rfl⟩ := trodVars_none hV
  obtain ⟨a0, rfl, rfl, rfl, w0⟩ := open_string Try.underlying9 (hval 0 9 v0 rfl rfl) h0
  obtain ⟨a1, rfl, rfl, rfl, w1⟩ := open_int Try.underlying3 (hval 1 3 v1 rfl rfl) h1
  have z1 := int_wf w1
  clear hA0 hval0
  refine (walk a0 a1 W z1.1 z1.2).mono fun e W' ⟨he, bel⟩ => ?_
  subst he
  exact ⟨_, rfl, _, _, _, [], _, [], hW', trodAll_mk1 (shut_bool Try.underlying4 _), (trodAll_cons_mk (shut_string Try.underlying9 w0) (trodAll_cons_mk (shut_int Try.underlying3 w1) trodAll_mk0)), rfl, bel.frame _, fun h => by cases h⟩

theorem over : Rows.partsReadRow.holds Try.pinned (OpenSpec.ofChange Rows.partsReadSpec) :=
  OpenClaim.holds_of_wide 4 Try.f4 rfl rfl rfl rfl rfl rfl rfl ⟨rfl, rfl, rfl, rfl, rfl⟩ rfl rfl rfl rfl rfl (by kernel_rfl) Try.func4 (by kernel_rfl)
    (of_decide_eq_true (by kernel_rfl)) (by unfold Func.isWrapper; first | (rw [if_pos (by decide +kernel)]; kernel_rfl) | (rw [if_neg (by decide +kernel)]; exact ⟨rfl, rfl⟩))
    (fun os started H enc _ => lifted os started H enc)

theorem proved : Rows.PartsReadSaid := over
#print axioms proved
end Go.Proofs.Ytdmboijjkalefaa.LawPRead
