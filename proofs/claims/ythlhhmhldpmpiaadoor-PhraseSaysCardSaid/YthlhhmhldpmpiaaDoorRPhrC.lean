/-
  The runes of a text, and the text of runes, as the document's answer has them: what is answered is what the plain mathematics says; all memory that was there stays as it was. Conditions: that lengths fit.
-/
import Derived.Test.YthlhhmhldpmpiaaDoorRPhrB
import Derived.Test.YthlhhmhldpmpiaaDoorRunA
import Derived.BigQuiet
import Derived.Deep.QuietTactic
import Derived.Deep.LoopGhost
namespace Go.Proofs.YthlhhmhldpmpiaaDoor.RPhr
open Go.RowKit Mur Phr Runs
set_option maxRecDepth 100000

/-- Slices of runes, as they are read. -/
def RunsR (w : World) (a : Option Addr) (l : List Nat) : Prop := l.length ≠ 0 → ∃ b o, a = some ⟨b, o, none⟩ ∧ b < w.heap.size ∧ ∀ (i x : Nat), l[i]? = some x → w.cell? ⟨b, o + i, none⟩ = some (.int .i32 (x : Int))
theorem RunsR.below {w w' : World} {a : Option Addr} {l : List Nat} (h : RunsR w a l) (k : Below w.heap.size w w') : RunsR w' a l := fun hl => by
  obtain ⟨b, o, ha, hb, hc⟩ := h hl
  exact ⟨b, o, ha, Nat.lt_of_lt_of_le hb k.size, fun i x hx => (k.cell (p := ⟨b, o + i, none⟩) hb).trans (hc i x hx)⟩
theorem RunsR.own {w : World} {base n : Nat} {v : Value} {l : List Nat} (h : w.ownsRow base 21 1 v n (runsV l)) : ∃ ao c, v = .slice ao n c ∧ n ≤ c ∧ n = l.length ∧ RunsR w ao l := by
  rcases Strs.own_cases h with ⟨rfl, h1, h2⟩ | ⟨g, c, rfl, h1, h2, h3, h4⟩
  · subst h1
    have : l.length = 0 := by rw [← runsV_length, h2]; rfl
    exact ⟨none, 0, rfl, Nat.le_refl _, this.symm, fun h => absurd this h⟩
  · refine ⟨_, c, rfl, h3, by rw [h4, runsV_length], fun _ => ⟨g, 0, rfl, h2, fun i x hx => ?_⟩⟩
    rw [Nat.zero_add]
    exact Strs.own_cell h i _ (runsV_at hx)
theorem RunsR.take {w : World} {a : Option Addr} {l : List Nat} (h : RunsR w a l) (k : Nat) : RunsR w a (l.take k) := fun hl => by
  obtain ⟨b, o, ha, hb, hc⟩ := h (fun e => hl (by rw [List.length_take, e]; exact Nat.min_zero _))
  exact ⟨b, o, ha, hb, fun i x hx => hc i x (by
    rw [List.getElem?_take] at hx
    split at hx
    · exact hx
    · cases hx)⟩

set_option maxHeartbeats 3200000 in
theorem runes_any (s : ByteArray) (l : List Nat) (B : Bool) (w : World) (hl : l = rs s.data.toList) (hB : B = (runes s.data.toList).isSome) (hs : s.size ≤ 1000000) :
    Calls Tryd.prog 38 #[.string s] w fun e w' => ∃ v, e = .returned (.tuple #[v, .bool B]) ∧ w'.ownsRow w.heap.size 21 1 v l.length (runsV l) ∧ Below w.heap.size w w' := by
  have HL := Lib.hid hl
  have HB := Lib.hid hB
  clear hl hB
  go_enter Tryd.func38, Tryd.ntmps38
  go_wp2_with fail
  go_loopg [0, 4] s.size (fun gk v0 v4 wx => ∃ (V : ByteArray) (acc : List Nat), v0 = .string V ∧ V.size ≤ gk ∧ gk + acc.length ≤ s.size ∧ runes s.data.toList = (runes V.data.toList).map (acc ++ ·) ∧ wx.ownsRow w.heap.size 21 1 v4 acc.length (runsV acc) ∧ Below w.heap.size w wx)
  case atStart => exact ⟨s, [], rfl, Nat.le_refl _, by simp, by simp, World.ownsRow_nil _ _ _ _, Below.refl _ _⟩
  case round =>
    obtain ⟨V, acc, rfl, hVg, hacc, hrs, hown, hbel⟩ := hrel
    have HRS := Lib.hid hrs
    have HO := Lib.hid hown
    have HW := Lib.hid hbel
    clear hrs hown hbel
    by_cases hV : V.data.toList = []
    · obtain rfl : V = ⟨#[]⟩ := by
        apply ByteArray.ext
        apply Array.ext'
        exact hV
      have hr : runes s.data.toList = some acc := by
        rw [HRS.out]
        show (runes []).map (acc ++ ·) = _
        rw [runes_nil]
        simp
      obtain rfl : l = acc := by rw [HL.out, rs_some hr]
      obtain rfl : B = true := by rw [HB.out, hr]; rfl
      clear hr hV
      go_wp2
      go_ret2
      exact ⟨_, rfl, HO.out, HW.out⟩
    · have hne : V.toList.isEmpty = false := by
        rw [Go.ByteArray.toList_eq]
        cases hx : V.data.toList with
        | nil => exact absurd hx hV
        | cons _ _ => rfl
      have hrn := runes_next V.data.toList hV
      have hle := next_le V.data.toList
      obtain ⟨c, hc⟩ : ∃ c, c = (nextN V.data.toList).1 := ⟨_, rfl⟩
      obtain ⟨k, hk⟩ : ∃ k, k = (nextN V.data.toList).2 := ⟨_, rfl⟩
      rw [← hc, ← hk] at hrn hle
      have R1 := Lib.hid (fun u => next_any V c k u hc hk)
      have hVl : V.data.toList.length = V.size := rfl
      rw [hVl] at hle
      clear hc hk hV
      by_cases hbad : k = 0 ∨ may c = false
      · have hr : runes s.data.toList = none := by rw [HRS.out, hrn, if_pos hbad]; rfl
        obtain rfl : l = [] := by rw [HL.out, rs_none hr]
        obtain rfl : B = false := by rw [HB.out, hr]; rfl
        clear hr hrn HRS
        by_cases hk0 : k = 0
        · subst hk0
          clear hbad hle
          go_wp2_with fail
          refine (R1.out _).mono ?_
          rintro e w2 ⟨rfl, rfl⟩
          go_wp2
          go_ret2
          exact ⟨_, rfl, World.ownsRow_nil _ _ _ _, HW.out⟩
        · have hm : may c = false := hbad.resolve_left hk0
          have R2 := Lib.hid (fun u => may_any c u false hm)
          have hd : ((k : Int) == 0) = false := by rw [beq_eq_false_iff_ne]; omega
          clear hbad hle hm hk0
          go_wp2_with fail
          refine (R1.out _).mono ?_
          rintro e w2 ⟨rfl, rfl⟩
          go_wp2_with fail
          refine (R2.out _).mono ?_
          rintro e w2 ⟨rfl, rfl⟩
          go_wp2
          go_ret2
          exact ⟨_, rfl, World.ownsRow_nil _ _ _ _, HW.out⟩
      · have hm : may c = true := by
          cases h : may c with
          | true => rfl
          | false => exact absurd (.inr h) hbad
        have hk0 : k ≠ 0 := fun h => hbad (.inl h)
        have R2 := Lib.hid (fun u => may_any c u true hm)
        have hd : ((k : Int) == 0) = false := by rw [beq_eq_false_iff_ne]; omega
        obtain ⟨T, hT⟩ : ∃ T, T = tx (V.data.toList.drop k) := ⟨_, rfl⟩
        have hTs : T.size = V.size - k := by rw [hT, tx_size, List.length_drop, hVl]
        have hr : runes s.data.toList = (runes T.data.toList).map ((acc ++ [c]) ++ ·) := by
          rw [HRS.out, hrn, if_neg hbad, Option.map_map, hT]
          congr 1
          funext x
          simp
        have HRS2 := Lib.hid hr
        have hsl : ∀ u, (Instr.slice 9 (.string V) (some (.int .i64 (k : Int))) none none).run Tryd.prog u = .ok (.string T) u := fun u => by
          have := run_slice_string_l (P := Tryd.prog) u 9 V Tryd.underlying9 .i64 (k : Int) (by omega) (by omega)
          rw [this, Int.toNat_natCast, tx_extract, hT, List.take_of_length_le (by rw [List.length_drop, hVl]; omega)]
        have hle1 := hle.1
        clear hbad hrn hm hT hr HRS hle
        go_wp2_with fail
        refine (R1.out _).mono ?_
        rintro e w2 ⟨rfl, rfl⟩
        go_wp2_with fail
        refine (R2.out _).mono ?_
        rintro e w2 ⟨rfl, rfl⟩
        go_wp2_with (at_builtin; refine append_runs rfl _ _ rfl w.heap.size acc.length _ acc rfl (HO.out.alloc _) w2.heap.size 1 1 [c] rfl rfl (Runs.new_one _ _ _) (by omega) (Nat.le_trans HW.out.size (by simp)) ?_)
        intro v' w3 hown3 hgrow3
        have HW3 := Lib.hid ((HW.out.alloc HW.out.size (.cells #[.int .i32 (c : Int)] 21)).grown hgrow3 (Nat.le_trans HW.out.size (by simp)) (fun j hj => (HO.out.lt j hj).1))
        have HO3 := Lib.hid hown3
        clear hown3 hgrow3
        go_wp2
        go_roundg (gk - 1)
        case measure => omega
        case rel => exact ⟨T, acc ++ [c], rfl, by omega, by rw [List.length_append, List.length_singleton]; omega, HRS2.out, by rw [List.length_append]; exact HO3.out, HW3.out⟩
end Go.Proofs.YthlhhmhldpmpiaaDoor.RPhr
