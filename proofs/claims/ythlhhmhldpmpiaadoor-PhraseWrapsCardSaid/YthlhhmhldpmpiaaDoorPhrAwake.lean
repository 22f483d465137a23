/-
  The statements' own example of layer 11 answers true. Condition: that the variable MaxLen of Go's library holds some int.
-/
import Derived.Test.YthlhhmhldpmpiaaDoorPhrQ
import Derived.Test.YthlhhmhldpmpiaaDoorPhrG
namespace Go.Proofs.YthlhhmhldpmpiaaDoor.Phr
open Go.RowKit Mur
set_option maxRecDepth 100000

theorem awake_wrap : (wrap 4 (rs [97, 98, 32, 99, 100, 32, 101])).length = 2 := by
  have h1 : rs [97, 98, 32, 99, 100, 32, 101] = [97, 98, 32, 99, 100, 32, 101] := by decide
  have h2 : split [97, 98, 32, 99, 100, 32, 101] = [[97, 98], [99, 100], [101]] := by decide
  rw [h1, wrap, if_neg (by decide), h2]
  show (wrapGo 4 [] [[97, 98], [99, 100], [101]]).length = 2
  rw [wrapGo, if_neg (by decide), chop_end 4 _ (by decide)]
  show (wrapGo 4 [97, 98] [[99, 100], [101]]).length = 2
  rw [wrapGo, if_neg (by decide), chop_end 4 _ (by decide)]
  show ([[97, 98]] ++ wrapGo 4 [99, 100] [[101]]).length = 2
  rw [wrapGo, if_pos (by decide)]
  rfl

set_option maxHeartbeats 6400000 in
theorem awake_any (w : World) (hc : Lim w) : Calls Tryd.prog 9 #[] w fun e w' => e = .returned (.bool true) ∧ Below w.heap.size w w' := by
  have HLIM := Lib.hid (fun (u : World) (hb : Below w.heap.size w u) => hc.below hb)
  clear hc
  have R1 := Lib.hid (fun u => right_any ⟨#[97, 98, 32, 99]⟩ true u (by decide) (by decide))
  have R2 := Lib.hid (fun u => right_any ⟨#[]⟩ false u (by decide) (by decide))
  have R3 := Lib.hid (fun u => right_any ⟨#[97, 255]⟩ false u (by decide) (by decide))
  have R4 := Lib.hid (fun u => count_any ⟨#[97, 195, 159]⟩ 2 u (by decide) (by decide))
  have R5 := Lib.hid (fun u => back_any ⟨#[97, 195, 159]⟩ ⟨#[195, 159, 97]⟩ u (congrArg tx (show ([195, 159, 97] : List UInt8) = _ by decide)) (by decide))
  have R6 := Lib.hid (fun u => fold_any ⟨#[195, 128, 66]⟩ ⟨#[195, 160, 98]⟩ u (congrArg tx (show ([195, 160, 98] : List UInt8) = _ by decide)) (by decide))
  have R7 := Lib.hid (fun u => cut_any ⟨#[97, 98, 99]⟩ 2 ⟨#[97, 98]⟩ u (congrArg tx (show ([97, 98] : List UInt8) = _ by decide)) (by decide) (by decide) (by decide))
  have R8 := Lib.hid (show ∀ u, Calls Tryd.prog 21 #[.string ⟨#[32, 97, 32, 32, 98]⟩] u fun e w' => ∃ ao c, e = .returned (.slice ao 2 c) ∧ Below u.heap.size u w' from fun u => (split_any ⟨#[32, 97, 32, 32, 98]⟩ u [[97], [98]] (by decide) (by decide)).mono fun e w' h => by
    obtain ⟨v, h1, h2, h3⟩ := h
    obtain ⟨ao, c, rfl, -, -⟩ := StrsR.own h2
    exact ⟨ao, c, h1, h3⟩)
  have R9 := Lib.hid (fun u => width_any ⟨#[97, 195, 159]⟩ 3 u (by decide))
  have R10 := Lib.hid (fun u => compare_any ⟨#[66]⟩ ⟨#[97]⟩ 1 u (by decide) (by decide) (by decide))
  have R11 := Lib.hid (show ∀ u, Lim u → Calls Tryd.prog 35 #[.string ⟨#[97, 98, 32, 99, 100, 32, 101]⟩, .int .i64 4] u fun e w' => ∃ ao c, e = .returned (.slice ao 2 c) ∧ Below u.heap.size u w' from fun u hu => (wrap_any ⟨#[97, 98, 32, 99, 100, 32, 101]⟩ 4 u _ rfl (by decide) (by decide) (by decide) hu).mono fun e w' h => by
    obtain ⟨ao, c, h1, h2, h3⟩ := h
    have e2 : (wrap 4 (rs (⟨#[97, 98, 32, 99, 100, 32, 101]⟩ : ByteArray).data.toList)).length = 2 := awake_wrap
    rw [e2] at h1
    exact ⟨ao, c, h1, h3⟩)
  have R12 := Lib.hid (fun u hu => find_any ⟨#[120, 65, 98]⟩ ⟨#[97, 66]⟩ 1 u (by decide) (by decide) (by decide) hu)
  have R13 := Lib.hid (fun u => fill_any ⟨#[97]⟩ 3 true ⟨#[32, 32, 97]⟩ u (congrArg tx (show ([32, 32, 97] : List UInt8) = _ by decide)) (by decide) (by decide) (by decide))
  have R14 := Lib.hid (fun u => bare_any ⟨#[32, 97, 32, 32, 98, 32]⟩ ⟨#[97, 32, 98]⟩ u (congrArg tx (show ([97, 32, 98] : List UInt8) = _ by decide)) (by decide))
  have R15 := Lib.hid (fun u => initials_any ⟨#[97, 98, 32, 99, 100]⟩ ⟨#[97, 99]⟩ u (congrArg tx (show ([97, 99] : List UInt8) = _ by decide)) (by decide))
  go_enter Tryd.func9, Tryd.ntmps9
  go_wp2_with fail
  refine (R1.out _).mono ?_
  rintro e w1 ⟨rfl, hb1⟩
  have HW1 := Lib.hid hb1
  clear hb1
  go_wp2_with fail
  refine (R2.out _).mono ?_
  rintro e w2 ⟨rfl, hb2⟩
  have HW2 := Lib.hid (HW1.out.trans (hb2.mono HW1.out.size))
  clear hb2
  go_wp2_with fail
  refine (R3.out _).mono ?_
  rintro e w3 ⟨rfl, hb3⟩
  have HW3 := Lib.hid (HW2.out.trans (hb3.mono HW2.out.size))
  clear hb3
  go_wp2_with fail
  refine (R4.out _).mono ?_
  rintro e w4 ⟨rfl, hb4⟩
  have HW4 := Lib.hid (HW3.out.trans (hb4.mono HW3.out.size))
  clear hb4
  go_wp2_with fail
  refine (R5.out _).mono ?_
  rintro e w5 ⟨rfl, hb5⟩
  have HW5 := Lib.hid (HW4.out.trans (hb5.mono HW4.out.size))
  clear hb5
  go_wp2_with fail
  refine (R6.out _).mono ?_
  rintro e w6 ⟨rfl, hb6⟩
  have HW6 := Lib.hid (HW5.out.trans (hb6.mono HW5.out.size))
  clear hb6
  go_wp2_with fail
  refine (R7.out _).mono ?_
  rintro e w7 ⟨rfl, hb7⟩
  have HW7 := Lib.hid (HW6.out.trans (hb7.mono HW6.out.size))
  clear hb7
  go_wp2_with fail
  refine (R8.out _).mono ?_
  rintro e w8 ⟨ao8, c8, rfl, hb8⟩
  have HW8 := Lib.hid (HW7.out.trans (hb8.mono HW7.out.size))
  clear hb8
  go_wp2_with fail
  refine (R9.out _).mono ?_
  rintro e w9 ⟨rfl, hb9⟩
  have HW9 := Lib.hid (HW8.out.trans (hb9.mono HW8.out.size))
  clear hb9
  go_wp2_with fail
  refine (R10.out _).mono ?_
  rintro e w10 ⟨rfl, hb10⟩
  have HW10 := Lib.hid (HW9.out.trans (hb10.mono HW9.out.size))
  clear hb10
  go_wp2_with fail
  refine (R11.out _ (HLIM.out _ HW10.out)).mono ?_
  rintro e w11 ⟨ao11, c11, rfl, hb11⟩
  have HW11 := Lib.hid (HW10.out.trans (hb11.mono HW10.out.size))
  clear hb11
  go_wp2_with fail
  refine (R12.out _ (HLIM.out _ HW11.out)).mono ?_
  rintro e w12 ⟨rfl, hb12⟩
  have HW12 := Lib.hid (HW11.out.trans (hb12.mono HW11.out.size))
  clear hb12
  go_wp2_with fail
  refine (R13.out _).mono ?_
  rintro e w13 ⟨rfl, hb13⟩
  have HW13 := Lib.hid (HW12.out.trans (hb13.mono HW12.out.size))
  clear hb13
  go_wp2_with fail
  refine (R14.out _).mono ?_
  rintro e w14 ⟨rfl, hb14⟩
  have HW14 := Lib.hid (HW13.out.trans (hb14.mono HW13.out.size))
  clear hb14
  go_wp2_with fail
  refine (R15.out _).mono ?_
  rintro e w15 ⟨rfl, hb15⟩
  have HW15 := Lib.hid (HW14.out.trans (hb15.mono HW14.out.size))
  clear hb15
  go_wp2
  go_ret
  exact ⟨rfl, HW15.out⟩
end Go.Proofs.YthlhhmhldpmpiaaDoor.Phr
