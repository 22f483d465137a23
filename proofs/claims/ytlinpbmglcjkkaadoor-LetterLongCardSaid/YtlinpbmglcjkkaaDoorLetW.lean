/-
  The statements' own example of layer 14 answers true. No condition.
-/
import Derived.Test.YtlinpbmglcjkkaaDoorLetE
import Derived.Test.YtlinpbmglcjkkaaDoorSteady
namespace Go.Proofs.YtlinpbmglcjkkaaDoor.LetA
open Go.RowKit Mur Prt Lanes Cod Let
open RLet (okB okL okN)
set_option maxRecDepth 100000

def exS : List UInt8 := [1, 0, 0, 0, 0, 7, 0, 0, 0, 0, 9]
theorem exS_laid : layList (Ros.ints [7]) ((9 : Nat) : Int) = .ok exS := by rfl
theorem exS_read : readList exS = .ok ([7], 9) := by
  obtain ⟨ns, n, h1, h2, h3⟩ := list_read _ _ _ exS_laid
  obtain rfl : 9 = n := by omega
  rw [h3]
  have : ns = [7] := by
    match ns, h1 with
    | [x], h1 =>
      simp only [Ros.ints, List.map_cons, List.map_nil, List.cons.injEq, and_true] at h1
      obtain rfl : 7 = x := by omega
      rfl
    | [], h1 => simp [Ros.ints] at h1
    | _ :: _ :: _, h1 => simp [Ros.ints] at h1
  rw [this]
theorem ex_cast : str [97, 98] = .ok [0, 2, 97, 98] := by rfl

set_option maxHeartbeats 3200000 in
theorem awake_any (w : World) : Calls Tryd.prog 5 #[] w fun e w' => e = .returned (.bool true) ∧ Below w.heap.size w w' := by
  obtain ⟨A, hA⟩ : ∃ A : ByteArray, A = ⟨#[0, 2, 97, 98]⟩ := ⟨_, rfl⟩
  have hAl : A.data.toList = [0, 2, 97, 98] := by rw [hA]
  have hrc : readCast [0, 2, 97, 98] = .ok [97, 98] := cast_read _ _ ex_cast
  have R1 := Lib.hid (fun u => layCast_all ⟨#[97, 98]⟩ A 0 u (by rw [hA]; rfl) (by rfl) (by decide))
  have R2 := Lib.hid (fun u => readCast_ok A ⟨#[97, 98]⟩ 0 u (by rw [hAl, hrc]; rfl) (by rw [hAl, hrc]; rfl) rfl (by rw [hA]; decide))
  have R3 := Lib.hid (fun u => layInt_all 5 u)
  have R4 := Lib.hid (show ∀ u, Calls Tryd.prog 12 #[.string ⟨#[1, 0, 0, 0, 0, 7, 0, 0, 0, 0, 9]⟩] u fun e w' => ∃ ao c, e = .returned (.tuple #[.agg #[.slice ao 1 c, .int .i64 9], .int .i64 0]) ∧ IntsR w' ao (zl [7]) ∧ (∀ q, ao = some q → u.heap.size ≤ q.block) ∧ Below u.heap.size u w' from fun u => readList_any ⟨#[1, 0, 0, 0, 0, 7, 0, 0, 0, 0, 9]⟩ [7] 9 0 u (by rw [show (⟨#[1, 0, 0, 0, 0, 7, 0, 0, 0, 0, 9]⟩ : ByteArray).data.toList = exS from rfl, exS_read]; rfl) (by rw [show (⟨#[1, 0, 0, 0, 0, 7, 0, 0, 0, 0, 9]⟩ : ByteArray).data.toList = exS from rfl, exS_read]; rfl) (by rw [show (⟨#[1, 0, 0, 0, 0, 7, 0, 0, 0, 0, 9]⟩ : ByteArray).data.toList = exS from rfl, exS_read]; rfl) (by decide))
  have R5 := Lib.hid (fun u => read_other 7 A u (by omega))
  have R6 := Lib.hid (fun u => kindCast_any ⟨#[97, 98]⟩ u)
  have R7 := Lib.hid (fun u => kindStr_any ⟨#[120]⟩ u)
  have hyes := Any.yesCast (.agg #[.string ⟨#[97, 98]⟩])
  have HM := Lib.hid (Hold.Hld.start w)
  clear hAl hrc
  subst hA
  go_enter Tryd.func5, Tryd.ntmps5
  go_upto_region 4 with ((first
    | (with_reducible refine (R1.out _).mono ?_; rintro e w ⟨rfl, hb⟩; replace HM := Lib.hid (HM.out.next hb); clear hb)
    | (with_reducible refine (R2.out _).mono ?_; rintro e w ⟨rfl, hb⟩; replace HM := Lib.hid (HM.out.next hb); clear hb)))

  have hm := HM.out.add 27 [.string ⟨#[97, 98]⟩]
  clear HM
  simp only [List.nil_append] at hm
  obtain ⟨b0, hb0⟩ : ∃ b, b = w.heap.size := ⟨_, rfl⟩
  rw [← hb0] at hm ⊢
  generalize w.alloc (.cells #[.string ⟨#[97, 98]⟩] 27) = w at *
  have HM := Lib.hid hm
  clear hm hb0 hyes
  go_upto_region 6 with ((first
    | (with_reducible refine (R3.out _).mono ?_; rintro e w ⟨rfl, hb⟩; replace HM := Lib.hid (HM.out.next hb); clear hb)
    | (with_reducible (refine (R4.out _).mono ?_; rintro e w ⟨ao, c, rfl, -, -, hb⟩; replace HM := Lib.hid (HM.out.next hb); clear hb))))

  have hm := HM.out.add 29 [.slice ao 1 c, .int .i64 9]
  clear HM
  simp only [List.cons_append, List.nil_append] at hm
  obtain ⟨b1, hb1⟩ : ∃ b, b = w.heap.size := ⟨_, rfl⟩
  rw [← hb1] at hm ⊢
  generalize w.alloc (.cells #[.slice ao 1 c, .int .i64 9] 29) = w at *
  have HM := Lib.hid hm
  clear hm hb1
  go_upto_region 7 with ((first
    | (with_reducible refine (R5.out _).mono ?_; rintro e w ⟨rfl, hb⟩; replace HM := Lib.hid (HM.out.next hb); clear hb)))

  have c0 : w.cell? ⟨b0, 0, none⟩ = some (.string ⟨#[97, 98]⟩) := (HM.out.at 0 rfl).row.cell rfl
  have c1 : w.cell? ⟨b1, 0, none⟩ = some (.slice ao 1 c) := (HM.out.at 1 rfl).row.cell rfl
  have c2 : w.cell? ⟨b1, 1, none⟩ = some (.int .i64 9) := (HM.out.at 1 rfl).row.cell rfl
  go_wp2_with ((first
    | (with_reducible refine (R6.out _).mono ?_; rintro e w ⟨rfl, hb⟩; replace HM := Lib.hid (HM.out.next hb); clear hb)
    | (with_reducible refine (R7.out _).mono ?_; rintro e w ⟨rfl, hb⟩; replace HM := Lib.hid (HM.out.next hb); clear hb)))

  go_ret
  exact ⟨rfl, HM.out.below⟩
end Go.Proofs.YtlinpbmglcjkkaaDoor.LetA
