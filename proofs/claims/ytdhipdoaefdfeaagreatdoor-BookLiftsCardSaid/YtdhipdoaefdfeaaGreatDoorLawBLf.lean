/-
  BookLifts: what is played for real in a book is played so again, answer by answer, in its lifted book: for every seed and any calls the law answers true and changes nothing that was there. Conditions: the listed tables hold what the program lays there; of package book the texts in this folder say how it answers (Con).
-/
import Derived.Test.YtdhipdoaefdfeaaGreatDoorBkW
import Derived.Test.YtdhipdoaefdfeaaGreatDoorBkK
import Derived.Test.YtdhipdoaefdfeaaGreatDoorBke
import Derived.Test.YtdhipdoaefdfeaaGreatDoorBkn
import Derived.Test.YtdhipdoaefdfeaaGreatDoorBkO
namespace Go.Proofs.YtdhipdoaefdfeaaGreatDoor.LawBLf
open Go.ChangeShapes Go.WideShapes Go.ChangeAt Go.RowKit Mur Prt Lanes Tap Bkl Bkm Rec Cel Bkr Bkw Bkn Bkh
open Go.ChangeMaps (open_string shut_string)
set_option maxRecDepth 100000
set_option linter.unusedSimpArgs false

def callOf (o : OpK) : Bkn.Call := ⟨decide (o.kind = 1), o.name.data.toList, o.text.data.toList⟩
theorem Room.lift {b : Bk} {m : Nat} (h : Room b m) : Room (liftB b) m := ⟨Nat.zero_le _, h.used, Nat.zero_le _, Nat.zero_le _, Nat.zero_le _, Nat.zero_le _, Nat.zero_le _, Nat.zero_le _⟩
theorem take_next {α : Type} (l : List α) (j : Nat) (x : α) (h : l[j]? = some x) : l.take (j + 1) = l.take j ++ [x] := by rw [List.take_add_one, h]; rfl
theorem drop_next {α : Type} (l : List α) (j : Nat) (x : α) (h : l[j]? = some x) : l.drop j = x :: l.drop (j + 1) := by
  obtain ⟨hj, rfl⟩ := List.getElem?_eq_some_iff.1 h
  exact List.drop_eq_getElem_cons hj
theorem step_signs {b : Bk} {o : OpK} (h : o.kind = 1) : stepB b (callOf o) = (signO b o.name.data.toList o.text.data.toList).2.1 ∧ ansB b (callOf o) = (signO b o.name.data.toList o.text.data.toList).1 ∧ errB b (callOf o) = (signO b o.name.data.toList o.text.data.toList).2.2 := by
  have e : (callOf o).signs = true := decide_eq_true h
  exact ⟨by rw [stepB, if_pos e]; rfl, by rw [ansB, if_pos e]; rfl, by rw [errB, if_pos e]; rfl⟩
theorem step_cells {b : Bk} {o : OpK} (h : ¬ o.kind = 1) : stepB b (callOf o) = cellB b o.name.data.toList 8 ∧ ansB b (callOf o) = cellS b o.name.data.toList 8 ∧ errB b (callOf o) = 0 := by
  have e : ¬ (callOf o).signs = true := by simp [callOf, h]
  exact ⟨by rw [stepB, if_neg e]; rfl, by rw [ansB, if_neg e]; rfl, by rw [errB, if_neg e]⟩
def sigT : ByteArray := ⟨#[115, 105, 103, 32]⟩

set_option maxHeartbeats 12800000 in
theorem walk (con : Con) (s : ByteArray) (l : List OpK) (n : Nat) (a : Option Addr) (c : Nat) (wz : World) (z0 : s.size ≤ 9223372036854775807) (hr : OpsR wz a l) (hn : l.length = n) (hnm : n ≤ 9223372036854775807) (_ : n ≤ c) (hz : ∀ o ∈ l, o.name.size ≤ 140737488351232 ∧ o.text.size ≤ 140737488351232) (hl : Laid wz) :
    Calls Tryz.prog 5 #[.string s, .slice a n c] wz fun e w' => e = .returned (.bool true) ∧ Below wz.heap.size wz w' := by
  have RA := Lib.hid (fun u (hu : Below wz.heap.size wz u) => awake_any con u (hl.below hu))
  have HM := Lib.hid (Hold.Hld.start wz)
  obtain ⟨B, hB⟩ : ∃ B, B = (l.any great || decide (20 < n)) := ⟨_, rfl⟩
  have RL := Lib.hid (fun u (hu : Below wz.heap.size wz u) => long_any l n a c B u hB (hr.below hu) hn hnm hz)
  by_cases hB1 : B = true
  · subst hB1
    clear hr hn hB hz
    go_enter Tryz.func5, Tryz.ntmps5
    go_wp2_with ((first
      | ((with_reducible refine (RL.out _ HM.out.below).mono ?_); rintro e w ⟨rfl, hb⟩; replace HM := Lib.hid (HM.out.next hb); clear hb)
      | ((with_reducible refine (RA.out _ HM.out.below).mono ?_); rintro e w ⟨rfl, hb⟩; replace HM := Lib.hid (HM.out.next hb); clear hb)))
    go_ret
    exact ⟨by simp, HM.out.below⟩
  have hB0 : B = false := by simpa using hB1
  subst hB0
  by_cases hg : 300 < s.size
  · have d1 : decide (300 < (s.size : Int)) = true := decide_eq_true (by omega)
    have d2 : decide (300 < s.size) = true := decide_eq_true hg
    have d3 : (300 : Int) < (s.size : Int) := by omega
    clear hr hn hB hz
    go_enter Tryz.func5, Tryz.ntmps5
    go_wp2_with ((first
      | ((with_reducible refine (RL.out _ HM.out.below).mono ?_); rintro e w ⟨rfl, hb⟩; replace HM := Lib.hid (HM.out.next hb); clear hb)
      | ((with_reducible refine (RA.out _ HM.out.below).mono ?_); rintro e w ⟨rfl, hb⟩; replace HM := Lib.hid (HM.out.next hb); clear hb)))
    go_ret
    exact ⟨by simp, HM.out.below⟩
  have d1 : decide (300 < (s.size : Int)) = false := decide_eq_false (by omega)
  have d2 : decide (300 < s.size) = false := decide_eq_false hg
  have d3 : ¬ ((300 : Int) < (s.size : Int)) := by omega
  have hB2 : l.any great = false ∧ n ≤ 20 := by
    cases hq : l.any great with
    | true => rw [hq] at hB; cases hB
    | false =>
      rw [hq, Bool.false_or] at hB
      exact ⟨rfl, by have := of_decide_eq_false hB.symm; omega⟩
  have hsm : ∀ x ∈ l, x.name.size ≤ 300 ∧ x.text.size ≤ 300 := fun x hx => by
    have h1 := List.any_eq_false.1 hB2.1 x hx
    simp only [great, Bool.or_eq_true, decide_eq_true_eq, not_or] at h1
    omega
  have HB2 := Lib.hid hB2.2
  have HSM := Lib.hid hsm
  have HR := Lib.hid hr
  have HN := Lib.hid hn
  clear hB hB1 hB2 hsm hr hn hz
  go_enter Tryz.func5, Tryz.ntmps5
  go_upto_region 3 with ((first
    | ((with_reducible refine (RL.out _ HM.out.below).mono ?_); rintro e w ⟨rfl, hb⟩; replace HM := Lib.hid (HM.out.next hb); clear hb)))
  clear d1 d2 d3
  go_wp2
  go_loopw [29] (fun i wr => ∃ j : Nat, j ≤ n ∧ i = .int .i64 (j : Int) ∧ Below wz.heap.size wz wr ∧ ∀ o ∈ l.take j, okCall (callOf o)) (fun i _ => n - (intOf i).toNat)
  case atStart => exact ⟨0, by omega, rfl, HM.out.below, fun o ho => by simp at ho⟩
  case round =>
    obtain ⟨j, hj, rfl, hb, hs⟩ := hrel
    have HS := Lib.hid (And.intro hb hs)
    clear hb hs HM
    by_cases hlt : j < n
    · have hlt2 : (j : Int) < (n : Int) := by omega
      have hjl : j < l.length := by have := HN.out; omega
      obtain ⟨b, o, rfl, hlo, hcell⟩ := HR.out (by omega)
      obtain ⟨x, hx⟩ : ∃ x, l[j]? = some x := ⟨_, List.getElem?_eq_getElem hjl⟩
      obtain ⟨z1, z2⟩ := HSM.out x (List.mem_of_getElem? hx)
      have k0 : wr.cell? ⟨b, o + j * 4, none⟩ = some (.int .i64 x.kind) := (HS.out.1.cell (p := ⟨b, o + j * 4, none⟩) hlo).trans (hcell j x hx 0 _ rfl)
      have k1 : wr.cell? ⟨b, o + j * 4 + 1, none⟩ = some (.int .i64 x.num) := (HS.out.1.cell (p := ⟨b, o + j * 4 + 1, none⟩) hlo).trans (hcell j x hx 1 _ rfl)
      have k2 : wr.cell? ⟨b, o + j * 4 + 2, none⟩ = some (.string x.name) := (HS.out.1.cell (p := ⟨b, o + j * 4 + 2, none⟩) hlo).trans (hcell j x hx 2 _ rfl)
      have k3 : wr.cell? ⟨b, o + j * 4 + 3, none⟩ = some (.string x.text) := (HS.out.1.cell (p := ⟨b, o + j * 4 + 3, none⟩) hlo).trans (hcell j x hx 3 _ rfl)
      have hnext : okCall (callOf x) → ∀ o ∈ l.take (j + 1), okCall (callOf o) := fun h o ho => by
        rw [take_next l j x hx] at ho
        rcases List.mem_append.1 ho with ho | ho
        · exact HS.out.2 o ho
        · rw [List.mem_singleton.1 ho]; exact h
      have HX := Lib.hid hnext
      have hal := HS.out.1.alloc HS.out.1.size (.cells #[.int .i64 x.kind, .int .i64 x.num, .string x.name, .string x.text] 52)
      have HAL := Lib.hid hal
      clear hnext hcell hjl hx hal
      by_cases hk : x.kind = 1
      · have q1 : (x.kind == 1) = true := by simp [hk]
        have q2 : (x.kind != 1) = false := by simp [hk]
        have q3 : decide (x.kind = 1) = true := decide_eq_true hk
        have hok : okCall (callOf x) := fun h => by rw [callOf, q3] at h; cases h
        have HOK := Lib.hid (HX.out hok)
        rw [hk] at HAL
        clear hok
        go_wp2
        go_roundw
        case rel => exact ⟨j + 1, by omega, by go_num, HAL.out, HOK.out⟩
        case measure => simp [intOf]; omega
      · have q1 : (x.kind == 1) = false := by simp [hk]
        have q2 : (x.kind != 1) = true := by simp [hk]
        have q3 : decide (x.kind = 1) = false := decide_eq_false hk
        by_cases hs4 : 4 ≤ x.name.size
        · have q4 : decide (4 ≤ x.name.size) = true := decide_eq_true hs4
          have q5 : (4 : Int) ≤ (x.name.size : Int) := by omega
          have q6 : decide ((4 : Int) ≤ (x.name.size : Int)) = true := decide_eq_true q5
          by_cases q7 : ((x.name.extract 0 4).toList == [115, 105, 103, 32]) = true
          · skip
            go_wp2_with ((with_reducible refine (RA.out _ HAL.out).mono ?_); rintro e w ⟨rfl, hb⟩; replace HM := Lib.hid (HAL.out.trans (hb.mono HAL.out.size)); clear hb)
            go_ret
            exact ⟨by simp, HM.out⟩
          · have hok : okCall (callOf x) := fun _ h => q7 (by
              have h1 : (x.name.extract 0 4).data.toList = x.name.data.toList.take 4 := by simp
              rw [ByteArray.toList_eq, h1]
              exact beq_iff_eq.2 h)
            replace q7 : ((x.name.extract 0 4).toList == [115, 105, 103, 32]) = false := by simpa using q7
            have HOK := Lib.hid (HX.out hok)
            clear hok
            go_wp2
            go_roundw
            case rel => exact ⟨j + 1, by omega, by go_num, HAL.out, HOK.out⟩
            case measure => simp [intOf]; omega
        · have q4 : decide (4 ≤ x.name.size) = false := decide_eq_false hs4
          have q5 : ¬ (4 : Int) ≤ (x.name.size : Int) := by omega
          have q6 : decide ((4 : Int) ≤ (x.name.size : Int)) = false := decide_eq_false q5
          have hok : okCall (callOf x) := fun _ h => hs4 (by
            have := congrArg List.length h
            rw [List.length_take] at this
            have e : (callOf x).name.length = x.name.size := rfl
            rw [e] at this
            simp at this <;> omega)
          have HOK := Lib.hid (HX.out hok)
          clear hok
          go_wp2
          go_roundw
          case rel => exact ⟨j + 1, by omega, by go_num, HAL.out, HOK.out⟩
          case measure => simp [intOf]; omega
    · obtain rfl : j = n := by omega
      have hlt2 : ¬ ((j : Int) < (j : Int)) := by omega
      have hokl : ∀ o ∈ l, okCall (callOf o) := by
        have := HS.out.2
        rwa [List.take_of_length_le (by have := HN.out; omega)] at this
      obtain ⟨calls, hcalls⟩ : ∃ cs, cs = l.map callOf := ⟨_, rfl⟩
      have hok : ∀ x ∈ calls, okCall x := fun x hx => by
        rw [hcalls] at hx
        obtain ⟨y, hy, rfl⟩ := List.mem_map.1 hx
        exact hokl y hy
      have hat : ∀ k x, l[k]? = some x → calls[k]? = some (callOf x) := fun k x h => by rw [hcalls, List.getElem?_map, h]; rfl
      have hcl : calls.length = j := by rw [hcalls, List.length_map]; exact HN.out
      obtain ⟨b0, hb0⟩ : ∃ b0, b0 = newB false s.data.toList (toC []) := ⟨_, rfl⟩
      have r0 : Room b0 0 := by rw [hb0]; exact Room.new _ _ _ 0 (by rw [Array.length_toList]; show s.size ≤ 1000; omega) (by decide)
      have hi0 : b0.ideal = false := by rw [hb0]; rfl
      have hs0 : stOf b0 = ⟨[], [], []⟩ := by rw [hb0]; rfl
      have R0 := Lib.hid (fun u (hu : Below wz.heap.size wz u) => con.new false s [] 0 none 0 b0 u hb0 (CelR.none _ _) rfl (by omega) (by omega) (hl.below hu))
      have RS := Lib.hid (fun u => shape_any u)
      have HC := Lib.hid (And.intro hok (And.intro hat (And.intro hcl (And.intro r0 (And.intro hi0 hs0)))))
      have HM := Lib.hid ((Hold.Hld.start wz).next HS.out.1)
      clear hokl hcalls hok hat hcl hb0 r0 hi0 hs0 HS
      go_upto_region 10 with ((first
        | ((with_reducible refine (RS.out _).mono ?_); rintro e w ⟨rfl, hb⟩; replace HM := Lib.hid (HM.out.next hb); clear hb)
        | ((with_reducible refine (R0.out _ HM.out.below).mono ?_); rintro e w ⟨v0, rfl, hv, hb⟩; have L0 := Lib.hid hv.len; have HV := Lib.hid (hv.mono (A' := Off []) fun k _ _ x hx => by cases hx); replace HM := Lib.hid (HM.out.next hb); clear hv hb)
        | ((with_reducible refine Hold.allocK HM.out rfl rfl zeroBk zero_bk ?_); clear HM; intro b7 w hn hb HM; simp only [List.nil_append] at HM; replace HM := Lib.hid HM; replace HV := Lib.hid (HV.out.alloc (t := 30) (z := zeroBk) hn hb); clear hn hb)
        | ((with_reducible refine Hold.storeK HM.out 0 (v' := v0) rfl rfl rfl rfl rfl (bkFits HV.out.len zero_len) (bkLaid HV.out.len zero_len) HV.out.one (bkRowOf HV.out.len) ?_); clear HM; intro w hbt HM; simp only [List.set_cons_zero] at HM; replace HM := Lib.hid HM; replace HV := Lib.hid (HV.out.stored (i := 0) (z' := v0) rfl hbt); clear hbt)))
      go_upto_region 11 with ((first
        | (with_reducible refine Hold.load HM.out 0 (cs := v0) rfl rfl rfl rfl (Hold.Part.all _) (bkRowOf L0.out) ?_)
        | ((with_reducible refine Hold.allocK HM.out rfl rfl zeroBk zero_bk ?_); clear HM; intro b9 w hn hb HM; simp only [List.nil_append, List.cons_append] at HM; replace HM := Lib.hid HM; replace HV := Lib.hid (HV.out.alloc (t := 30) (z := zeroBk) hn hb); clear hn hb)
        | ((with_reducible refine Hold.storeK HM.out 1 (v' := v0) rfl rfl rfl rfl rfl (bkFits HV.out.len zero_len) (bkLaid HV.out.len zero_len) HV.out.one (bkRowOf HV.out.len) ?_); clear HM; intro w hbt HM; simp only [List.set_cons_zero, List.set_cons_succ] at HM; replace HM := Lib.hid HM; replace HV := Lib.hid (HV.out.stored (i := 1) (z' := v0) rfl hbt); clear hbt)))
      go_wp2
      go_loopw [59] (fun i wr => ∃ k : Nat, k ≤ j ∧ i = .int .i64 (k : Int) ∧ ∃ v, Hold.Hld wz [⟨b7, 30, v0⟩, ⟨b9, 30, v⟩] wr ∧ BkR wr b0 v0 (Off [⟨b7, 30, v0⟩, ⟨b9, 30, v⟩]) ∧ BkR wr (playB b0 (calls.take k)) v (Off [⟨b7, 30, v0⟩, ⟨b9, 30, v⟩])) (fun i _ => j - (intOf i).toNat)
      case atStart => exact ⟨0, by omega, rfl, v0, HM.out, HV.out, HV.out⟩
      case round =>
        obtain ⟨k, hk0, rfl, v, hm, hv0, hv⟩ := hrel
        clear HM HV
        have HM := Lib.hid hm
        have HV0 := Lib.hid hv0
        obtain ⟨rk, hrk⟩ : ∃ rk, rk = playB b0 (calls.take k) := ⟨_, rfl⟩
        rw [← hrk] at hv
        have HV := Lib.hid hv
        have LV := Lib.hid hv.len
        have hroom : Room rk 20 := by
          rw [hrk]
          refine (Room.play HC.out.2.2.2.1 _).more ?_
          have := HB2.out
          rw [List.length_take]
          omega
        clear hm hv0 hv
        by_cases hlt : k < j
        · have hlt2 : (k : Int) < (j : Int) := by omega
          have hjl : k < l.length := by have := HN.out; omega
          obtain ⟨b, o, rfl, hlo, hcell⟩ := HR.out (by omega)
          obtain ⟨x, hx⟩ : ∃ x, l[k]? = some x := ⟨_, List.getElem?_eq_getElem hjl⟩
          obtain ⟨z1, z2⟩ := HSM.out x (List.mem_of_getElem? hx)
          have k0 : wr.cell? ⟨b, o + k * 4, none⟩ = some (.int .i64 x.kind) := (HM.out.below.cell (p := ⟨b, o + k * 4, none⟩) hlo).trans (hcell k x hx 0 _ rfl)
          have k1 : wr.cell? ⟨b, o + k * 4 + 1, none⟩ = some (.int .i64 x.num) := (HM.out.below.cell (p := ⟨b, o + k * 4 + 1, none⟩) hlo).trans (hcell k x hx 1 _ rfl)
          have k2 : wr.cell? ⟨b, o + k * 4 + 2, none⟩ = some (.string x.name) := (HM.out.below.cell (p := ⟨b, o + k * 4 + 2, none⟩) hlo).trans (hcell k x hx 2 _ rfl)
          have k3 : wr.cell? ⟨b, o + k * 4 + 3, none⟩ = some (.string x.text) := (HM.out.below.cell (p := ⟨b, o + k * 4 + 3, none⟩) hlo).trans (hcell k x hx 3 _ rfl)
          have hnext : playB b0 (calls.take (k + 1)) = stepB rk (callOf x) := by
            rw [take_next calls k _ (HC.out.2.1 k x hx), playB_snoc, ← hrk]
          have HX := Lib.hid hnext
          clear hnext hcell hjl hx hrk
          go_upto_region 14 with fail
          have hm := HM.out.add 52 [.int .i64 x.kind, .int .i64 x.num, .string x.name, .string x.text]
          simp only [List.nil_append, List.cons_append] at hm
          replace HM := Lib.hid hm
          clear hm
          replace HV0 := Lib.hid (HV0.out.alloc (t := 52) (z := [.int .i64 x.kind, .int .i64 x.num, .string x.name, .string x.text]) (Nat.le_refl _) ((Below.refl _ _).alloc (Nat.le_refl _) (.cells #[.int .i64 x.kind, .int .i64 x.num, .string x.name, .string x.text] 52)))
          replace HV := Lib.hid (HV.out.alloc (t := 52) (z := [.int .i64 x.kind, .int .i64 x.num, .string x.name, .string x.text]) (Nat.le_refl _) ((Below.refl _ _).alloc (Nat.le_refl _) (.cells #[.int .i64 x.kind, .int .i64 x.num, .string x.name, .string x.text] 52)))
          clear k0 k1 k2 k3
          generalize wr.alloc (.cells #[.int .i64 x.kind, .int .i64 x.num, .string x.name, .string x.text] 52) = w at *
          generalize wr.heap.size = b11 at *
          have g0 : w.cell? ⟨b11, 0, none⟩ = some (.int .i64 x.kind) := (HM.out.at 2 rfl).row.cell rfl
          have g2 : w.cell? ⟨b11, 2, none⟩ = some (.string x.name) := (HM.out.at 2 rfl).row.cell rfl
          have g3 : w.cell? ⟨b11, 3, none⟩ = some (.string x.text) := (HM.out.at 2 rfl).row.cell rfl
          by_cases hk : x.kind = 1
          · have q1 : (x.kind == 1) = true := by simp [hk]
            have q2 : (x.kind != 1) = false := by simp [hk]
            have q3 : decide (x.kind = 1) = true := decide_eq_true hk
            obtain ⟨S, hS⟩ : ∃ S, S = tx (signO rk x.name.data.toList x.text.data.toList).1 := ⟨_, rfl⟩
            obtain ⟨E, hE⟩ : ∃ E, E = (signO rk x.name.data.toList x.text.data.toList).2.2 := ⟨_, rfl⟩
            have R1 := Lib.hid (fun A v u (h : BkR u rk v A) (hu : Below wz.heap.size wz u) => con.sign A rk (stepB rk (callOf x)) v x.name x.text S E u hS (step_signs hk).1 hE h (hroom.more (by omega)) (by omega) (by omega) (hl.below hu))
            clear hS hE
            go_wp2_with ((first
              | (with_reducible refine Hold.load HM.out 1 (cs := v) rfl rfl rfl rfl (Hold.Part.all _) (bkRowOf LV.out) ?_)
              | ((with_reducible refine (R1.out _ _ _ HV.out HM.out.below).mono ?_); rintro e w ⟨v1, rfl, hv, hb⟩; have L1 := Lib.hid hv.len; replace HV := Lib.hid (hv.answered HM.out); replace HV0 := Lib.hid (HV0.out.below hb); replace HM := Lib.hid (HM.out.next hb); clear hv hb)
              | ((with_reducible refine Hold.storeK HM.out 1 (v' := v1) rfl rfl rfl rfl rfl (bkFits HV.out.len LV.out) (bkLaid HV.out.len LV.out) HV.out.one (bkRowOf HV.out.len) ?_); clear HM; intro w hbt HM; simp only [List.set_cons_zero, List.set_cons_succ] at HM; replace HM := Lib.hid HM; replace HV := Lib.hid (HV.out.stored (i := 1) (z' := v1) rfl hbt); replace HV0 := Lib.hid (HV0.out.stored (i := 1) (z' := v1) rfl hbt); clear hbt)))
            go_roundw
            case rel => exact ⟨k + 1, by omega, by go_num, v1, Hold.Hld.front (m' := [_]) HM.out, HV0.out.mono fun i _ hi y hy => hi y (by simp at hy ⊢; rcases hy with h | h <;> simp [h]), by rw [HX.out]; exact HV.out.mono fun i _ hi y hy => hi y (by simp at hy ⊢; rcases hy with h | h <;> simp [h])⟩
            case measure => simp [intOf]; omega
          · have q1 : (x.kind == 1) = false := by simp [hk]
            have q2 : (x.kind != 1) = true := by simp [hk]
            have q3 : decide (x.kind = 1) = false := decide_eq_false hk
            obtain ⟨S, hS⟩ : ∃ S, S = tx (cellS rk x.name.data.toList 8) := ⟨_, rfl⟩
            have R1 := Lib.hid (fun A v u (h : BkR u rk v A) (hu : Below wz.heap.size wz u) => con.cell A rk (stepB rk (callOf x)) v x.name S 8 u hS (step_cells hk).1 h (hroom.more (by omega)) (by omega) (by omega) (by omega) (hl.below hu))
            clear hS
            go_wp2_with ((first
              | (with_reducible refine Hold.load HM.out 1 (cs := v) rfl rfl rfl rfl (Hold.Part.all _) (bkRowOf LV.out) ?_)
              | ((with_reducible refine (R1.out _ _ _ HV.out HM.out.below).mono ?_); rintro e w ⟨v1, rfl, hv, hb⟩; have L1 := Lib.hid hv.len; replace HV := Lib.hid (hv.answered HM.out); replace HV0 := Lib.hid (HV0.out.below hb); replace HM := Lib.hid (HM.out.next hb); clear hv hb)
              | ((with_reducible refine Hold.storeK HM.out 1 (v' := v1) rfl rfl rfl rfl rfl (bkFits HV.out.len LV.out) (bkLaid HV.out.len LV.out) HV.out.one (bkRowOf HV.out.len) ?_); clear HM; intro w hbt HM; simp only [List.set_cons_zero, List.set_cons_succ] at HM; replace HM := Lib.hid HM; replace HV := Lib.hid (HV.out.stored (i := 1) (z' := v1) rfl hbt); replace HV0 := Lib.hid (HV0.out.stored (i := 1) (z' := v1) rfl hbt); clear hbt)))
            go_roundw
            case rel => exact ⟨k + 1, by omega, by go_num, v1, Hold.Hld.front (m' := [_]) HM.out, HV0.out.mono fun i _ hi y hy => hi y (by simp at hy ⊢; rcases hy with h | h <;> simp [h]), by rw [HX.out]; exact HV.out.mono fun i _ hi y hy => hi y (by simp at hy ⊢; rcases hy with h | h <;> simp [h])⟩
            case measure => simp [intOf]; omega
        · obtain rfl : k = j := by omega
          have hlt2 : ¬ ((k : Int) < (k : Int)) := by omega
          have hfull : rk = playB b0 calls := by rw [hrk, List.take_of_length_le (by have := HC.out.2.2.1; omega)]
          obtain ⟨u0, hu0⟩ : ∃ u0, u0 = liftB rk := ⟨_, rfl⟩
          have hup : Pair b0 calls [] calls b0 u0 := by rw [hu0, hfull]; exact pair_start b0 calls HC.out.2.2.2.2.1 HC.out.2.2.2.2.2
          have hur : Room u0 20 := by rw [hu0]; exact Room.lift hroom
          have R1 := Lib.hid (fun A v u (h : BkR u rk v A) => con.lift A rk u0 v u hu0 h (hroom.more (by omega)))
          have HP := Lib.hid (And.intro hup hur)
          clear hup hur hu0 hfull hrk hroom R0 RS
          go_upto_region 19 with ((first
            | (with_reducible refine Hold.load HM.out 1 (cs := v) rfl rfl rfl rfl (Hold.Part.all _) (bkRowOf LV.out) ?_)
            | ((with_reducible refine (R1.out _ _ _ HV.out).mono ?_); rintro e w ⟨vu, rfl, hv, hb⟩; have LU := Lib.hid hv.len; have HVU := Lib.hid (hv.answered HM.out); replace HV0 := Lib.hid (HV0.out.below hb); replace HM := Lib.hid (HM.out.next hb); clear hv hb)
            | ((with_reducible refine Hold.allocK HM.out rfl rfl zeroBk zero_bk ?_); clear HM; intro b12 w hn hb HM; simp only [List.nil_append, List.cons_append] at HM; replace HM := Lib.hid HM; replace HVU := Lib.hid (HVU.out.alloc (t := 30) (z := zeroBk) hn hb); replace HV0 := Lib.hid (HV0.out.alloc (t := 30) (z := zeroBk) hn hb); clear hn hb)
            | ((with_reducible refine Hold.storeK HM.out 2 (v' := vu) rfl rfl rfl rfl rfl (bkFits HVU.out.len zero_len) (bkLaid HVU.out.len zero_len) HVU.out.one (bkRowOf HVU.out.len) ?_); clear HM; intro w hbt HM; simp only [List.set_cons_zero, List.set_cons_succ] at HM; replace HM := Lib.hid HM; replace HVU := Lib.hid (HVU.out.stored (i := 2) (z' := vu) rfl hbt); replace HV0 := Lib.hid (HV0.out.stored (i := 2) (z' := vu) rfl hbt); clear hbt)))
          go_upto_region 20 with ((first
            | (with_reducible refine Hold.load HM.out 0 (cs := v0) rfl rfl rfl rfl (Hold.Part.all _) (bkRowOf L0.out) ?_)
            | ((with_reducible refine Hold.storeK HM.out 1 (v' := v0) rfl rfl rfl rfl rfl (bkFits HV0.out.len LV.out) (bkLaid HV0.out.len LV.out) HV0.out.one (bkRowOf HV0.out.len) ?_); clear HM; intro w hbt HM; simp only [List.set_cons_zero, List.set_cons_succ] at HM; replace HM := Lib.hid HM; replace HVU := Lib.hid (HVU.out.stored (i := 1) (z' := v0) rfl hbt); replace HV0 := Lib.hid (HV0.out.stored (i := 1) (z' := v0) rfl hbt); clear hbt)))
          clear HV LV
          go_wp2
          go_loopw [89] (fun i wr => ∃ m : Nat, m ≤ k ∧ i = .int .i64 (m : Int) ∧ ∃ r u vr vu, Pair b0 calls (calls.take m) (calls.drop m) r u ∧ Room u (20 + m) ∧ Hold.Hld wz [⟨b7, 30, v0⟩, ⟨b9, 30, vr⟩, ⟨b12, 30, vu⟩] wr ∧ BkR wr r vr (Off [⟨b7, 30, v0⟩, ⟨b9, 30, vr⟩, ⟨b12, 30, vu⟩]) ∧ BkR wr u vu (Off [⟨b7, 30, v0⟩, ⟨b9, 30, vr⟩, ⟨b12, 30, vu⟩])) (fun i _ => k - (intOf i).toNat)
          case atStart => exact ⟨0, by omega, rfl, b0, u0, v0, vu, HP.out.1, HP.out.2, HM.out, HV0.out, HVU.out⟩
          case round =>
            clear HP HM HV0 HVU LU R1
            obtain ⟨m, hm0, rfl, r, u, vr, vu', hp, hur, hm, hvr, hvu⟩ := hrel
            have HM := Lib.hid hm
            have HV := Lib.hid hvr
            have HVU := Lib.hid hvu
            have LV := Lib.hid hvr.len
            have LU := Lib.hid hvu.len
            have hrr : Room r 20 := by
              rw [hp.real]
              refine (Room.play HC.out.2.2.2.1 _).more ?_
              have := HB2.out
              rw [List.length_take]
              omega
            clear hm hvr hvu
            by_cases hlt : m < k
            · have hlt2 : (m : Int) < (k : Int) := by omega
              have hjl : m < l.length := by have := HN.out; omega
              obtain ⟨b, o, rfl, hlo, hcell⟩ := HR.out (by omega)
              obtain ⟨x, hx⟩ : ∃ x, l[m]? = some x := ⟨_, List.getElem?_eq_getElem hjl⟩
              obtain ⟨z1, z2⟩ := HSM.out x (List.mem_of_getElem? hx)
              have k0 : wr.cell? ⟨b, o + m * 4, none⟩ = some (.int .i64 x.kind) := (HM.out.below.cell (p := ⟨b, o + m * 4, none⟩) hlo).trans (hcell m x hx 0 _ rfl)
              have k1 : wr.cell? ⟨b, o + m * 4 + 1, none⟩ = some (.int .i64 x.num) := (HM.out.below.cell (p := ⟨b, o + m * 4 + 1, none⟩) hlo).trans (hcell m x hx 1 _ rfl)
              have k2 : wr.cell? ⟨b, o + m * 4 + 2, none⟩ = some (.string x.name) := (HM.out.below.cell (p := ⟨b, o + m * 4 + 2, none⟩) hlo).trans (hcell m x hx 2 _ rfl)
              have k3 : wr.cell? ⟨b, o + m * 4 + 3, none⟩ = some (.string x.text) := (HM.out.below.cell (p := ⟨b, o + m * 4 + 3, none⟩) hlo).trans (hcell m x hx 3 _ rfl)
              rw [drop_next calls m _ (HC.out.2.1 m x hx)] at hp
              obtain ⟨p1, p2, p3⟩ := pair_next hp HC.out.1
              rw [← take_next calls m _ (HC.out.2.1 m x hx)] at p3
              obtain ⟨X, hX⟩ : ∃ X, X = tx (ansB r (callOf x)) := ⟨_, rfl⟩
              obtain ⟨E, hE⟩ : ∃ E, E = errB r (callOf x) := ⟨_, rfl⟩
              have hX2 : X = tx (ansB u (callOf x)) := by rw [p1]; exact hX
              have hE2 : E = errB u (callOf x) := by rw [p2]; exact hE
              have hur2 : Room (stepB u (callOf x)) (20 + (m + 1)) := Room.step hur _
              have HX := Lib.hid (And.intro p3 hur2)
              have hse : (!(X.toList == X.toList)) = false := by simp
              have hee : (!(E == E)) = false := by simp
              clear hcell hjl hx p1 p2 p3 hur2 hp
              go_upto_region 23 with fail
              have hm := HM.out.add 52 [.int .i64 x.kind, .int .i64 x.num, .string x.name, .string x.text]
              simp only [List.nil_append, List.cons_append] at hm
              replace HM := Lib.hid hm
              clear hm
              replace HV := Lib.hid (HV.out.alloc (t := 52) (z := [.int .i64 x.kind, .int .i64 x.num, .string x.name, .string x.text]) (Nat.le_refl _) ((Below.refl _ _).alloc (Nat.le_refl _) (.cells #[.int .i64 x.kind, .int .i64 x.num, .string x.name, .string x.text] 52)))
              replace HVU := Lib.hid (HVU.out.alloc (t := 52) (z := [.int .i64 x.kind, .int .i64 x.num, .string x.name, .string x.text]) (Nat.le_refl _) ((Below.refl _ _).alloc (Nat.le_refl _) (.cells #[.int .i64 x.kind, .int .i64 x.num, .string x.name, .string x.text] 52)))
              clear k0 k1 k2 k3
              generalize wr.alloc (.cells #[.int .i64 x.kind, .int .i64 x.num, .string x.name, .string x.text] 52) = w at *
              generalize wr.heap.size = b14 at *
              have g0 : w.cell? ⟨b14, 0, none⟩ = some (.int .i64 x.kind) := (HM.out.at 3 rfl).row.cell rfl
              have g2 : w.cell? ⟨b14, 2, none⟩ = some (.string x.name) := (HM.out.at 3 rfl).row.cell rfl
              have g3 : w.cell? ⟨b14, 3, none⟩ = some (.string x.text) := (HM.out.at 3 rfl).row.cell rfl
              by_cases hk : x.kind = 1
              · have q1 : (x.kind == 1) = true := by simp [hk]
                have q2 : (x.kind != 1) = false := by simp [hk]
                have q3 : decide (x.kind = 1) = true := decide_eq_true hk
                have R1 := Lib.hid (fun A v u' (h : BkR u' r v A) (hu : Below wz.heap.size wz u') => con.sign A r (stepB r (callOf x)) v x.name x.text X E u' (by rw [hX, (step_signs hk).2.1]) (step_signs hk).1 (by rw [hE, (step_signs hk).2.2]) h (hrr.more (by omega)) (by omega) (by omega) (hl.below hu))
                have R2 := Lib.hid (fun A v u' (h : BkR u' u v A) (hu : Below wz.heap.size wz u') => con.sign A u (stepB u (callOf x)) v x.name x.text X E u' (by rw [hX2, (step_signs hk).2.1]) (step_signs hk).1 (by rw [hE2, (step_signs hk).2.2]) h (hur.more (by have := HB2.out; omega)) (by omega) (by omega) (hl.below hu))
                clear hX hE hX2 hE2
                go_upto_region 27 with ((first
                  | (with_reducible refine Hold.load HM.out 1 (cs := vr) rfl rfl rfl rfl (Hold.Part.all _) (bkRowOf LV.out) ?_)
                  | ((with_reducible refine (R1.out _ _ _ HV.out HM.out.below).mono ?_); rintro e w ⟨v1, rfl, hv, hb⟩; have L1 := Lib.hid hv.len; replace HV := Lib.hid (hv.answered HM.out); replace HVU := Lib.hid (HVU.out.below hb); replace HM := Lib.hid (HM.out.next hb); clear hv hb)
                  | ((with_reducible refine Hold.storeK HM.out 1 (v' := v1) rfl rfl rfl rfl rfl (bkFits HV.out.len LV.out) (bkLaid HV.out.len LV.out) HV.out.one (bkRowOf HV.out.len) ?_); clear HM; intro w hbt HM; simp only [List.set_cons_zero, List.set_cons_succ] at HM; replace HM := Lib.hid HM; replace HV := Lib.hid (HV.out.stored (i := 1) (z' := v1) rfl hbt); replace HVU := Lib.hid (HVU.out.stored (i := 1) (z' := v1) rfl hbt); clear hbt)))
                clear g0 g2 g3
                have g0 : w.cell? ⟨b14, 0, none⟩ = some (.int .i64 x.kind) := (HM.out.at 3 rfl).row.cell rfl
                have g2 : w.cell? ⟨b14, 2, none⟩ = some (.string x.name) := (HM.out.at 3 rfl).row.cell rfl
                have g3 : w.cell? ⟨b14, 3, none⟩ = some (.string x.text) := (HM.out.at 3 rfl).row.cell rfl
                go_wp2_with ((first
                  | (with_reducible refine Hold.load HM.out 2 (cs := vu') rfl rfl rfl rfl (Hold.Part.all _) (bkRowOf LU.out) ?_)
                  | ((with_reducible refine (R2.out _ _ _ HVU.out HM.out.below).mono ?_); rintro e w ⟨v2, rfl, hv, hb⟩; have L2 := Lib.hid hv.len; replace HVU := Lib.hid (hv.answered HM.out); replace HV := Lib.hid (HV.out.below hb); replace HM := Lib.hid (HM.out.next hb); clear hv hb)
                  | ((with_reducible refine Hold.storeK HM.out 2 (v' := v2) rfl rfl rfl rfl rfl (bkFits HVU.out.len LU.out) (bkLaid HVU.out.len LU.out) HVU.out.one (bkRowOf HVU.out.len) ?_); clear HM; intro w hbt HM; simp only [List.set_cons_zero, List.set_cons_succ] at HM; replace HM := Lib.hid HM; replace HV := Lib.hid (HV.out.stored (i := 2) (z' := v2) rfl hbt); replace HVU := Lib.hid (HVU.out.stored (i := 2) (z' := v2) rfl hbt); clear hbt)))
                go_roundw
                case rel => exact ⟨m + 1, by omega, by go_num, _, _, v1, v2, HX.out.1, HX.out.2, Hold.Hld.front (m' := [_]) HM.out, HV.out.mono fun i _ hi y hy => hi y (by simp at hy ⊢; rcases hy with h | h | h <;> simp [h]), HVU.out.mono fun i _ hi y hy => hi y (by simp at hy ⊢; rcases hy with h | h | h <;> simp [h])⟩
                case measure => simp [intOf]; omega
              · have q1 : (x.kind == 1) = false := by simp [hk]
                have q2 : (x.kind != 1) = true := by simp [hk]
                have q3 : decide (x.kind = 1) = false := decide_eq_false hk
                have R1 := Lib.hid (fun A v u' (h : BkR u' r v A) (hu : Below wz.heap.size wz u') => con.cell A r (stepB r (callOf x)) v x.name X 8 u' (by rw [hX, (step_cells hk).2.1]) (step_cells hk).1 h (hrr.more (by omega)) (by omega) (by omega) (by omega) (hl.below hu))
                have R2 := Lib.hid (fun A v u' (h : BkR u' u v A) (hu : Below wz.heap.size wz u') => con.cell A u (stepB u (callOf x)) v x.name X 8 u' (by rw [hX2, (step_cells hk).2.1]) (step_cells hk).1 h (hur.more (by have := HB2.out; omega)) (by omega) (by omega) (by omega) (hl.below hu))
                clear hX hE hX2 hE2
                go_upto_region 29 with ((first
                  | (with_reducible refine Hold.load HM.out 1 (cs := vr) rfl rfl rfl rfl (Hold.Part.all _) (bkRowOf LV.out) ?_)
                  | ((with_reducible refine (R1.out _ _ _ HV.out HM.out.below).mono ?_); rintro e w ⟨v1, rfl, hv, hb⟩; have L1 := Lib.hid hv.len; replace HV := Lib.hid (hv.answered HM.out); replace HVU := Lib.hid (HVU.out.below hb); replace HM := Lib.hid (HM.out.next hb); clear hv hb)
                  | ((with_reducible refine Hold.storeK HM.out 1 (v' := v1) rfl rfl rfl rfl rfl (bkFits HV.out.len LV.out) (bkLaid HV.out.len LV.out) HV.out.one (bkRowOf HV.out.len) ?_); clear HM; intro w hbt HM; simp only [List.set_cons_zero, List.set_cons_succ] at HM; replace HM := Lib.hid HM; replace HV := Lib.hid (HV.out.stored (i := 1) (z' := v1) rfl hbt); replace HVU := Lib.hid (HVU.out.stored (i := 1) (z' := v1) rfl hbt); clear hbt)))
                clear g0 g2 g3
                have g0 : w.cell? ⟨b14, 0, none⟩ = some (.int .i64 x.kind) := (HM.out.at 3 rfl).row.cell rfl
                have g2 : w.cell? ⟨b14, 2, none⟩ = some (.string x.name) := (HM.out.at 3 rfl).row.cell rfl
                have g3 : w.cell? ⟨b14, 3, none⟩ = some (.string x.text) := (HM.out.at 3 rfl).row.cell rfl
                go_wp2_with ((first
                  | (with_reducible refine Hold.load HM.out 2 (cs := vu') rfl rfl rfl rfl (Hold.Part.all _) (bkRowOf LU.out) ?_)
                  | ((with_reducible refine (R2.out _ _ _ HVU.out HM.out.below).mono ?_); rintro e w ⟨v2, rfl, hv, hb⟩; have L2 := Lib.hid hv.len; replace HVU := Lib.hid (hv.answered HM.out); replace HV := Lib.hid (HV.out.below hb); replace HM := Lib.hid (HM.out.next hb); clear hv hb)
                  | ((with_reducible refine Hold.storeK HM.out 2 (v' := v2) rfl rfl rfl rfl rfl (bkFits HVU.out.len LU.out) (bkLaid HVU.out.len LU.out) HVU.out.one (bkRowOf HVU.out.len) ?_); clear HM; intro w hbt HM; simp only [List.set_cons_zero, List.set_cons_succ] at HM; replace HM := Lib.hid HM; replace HV := Lib.hid (HV.out.stored (i := 2) (z' := v2) rfl hbt); replace HVU := Lib.hid (HVU.out.stored (i := 2) (z' := v2) rfl hbt); clear hbt)))
                go_roundw
                case rel => exact ⟨m + 1, by omega, by go_num, _, _, v1, v2, HX.out.1, HX.out.2, Hold.Hld.front (m' := [_]) HM.out, HV.out.mono fun i _ hi y hy => hi y (by simp at hy ⊢; rcases hy with h | h | h <;> simp [h]), HVU.out.mono fun i _ hi y hy => hi y (by simp at hy ⊢; rcases hy with h | h | h <;> simp [h])⟩
                case measure => simp [intOf]; omega
            · obtain rfl : m = k := by omega
              have hlt2 : ¬ ((m : Int) < (m : Int)) := by omega
              rw [List.drop_of_length_le (by have := HC.out.2.2.1; omega)] at hp
              obtain ⟨e1, e2⟩ := pair_end hp
              obtain ⟨a5, n5, c5, h5, l5, -, R5, -⟩ := HV.out.at5
              obtain ⟨a7, n7, c7, h7, l7, -, R7, -⟩ := HV.out.at7
              obtain ⟨q5, m5, d5, g5, y5, -, T5, -⟩ := HVU.out.at5
              obtain ⟨q7, m7, d7, g7, y7, -, T7, -⟩ := HVU.out.at7
              rw [e1] at y5 T5
              rw [e2] at y7 T7
              have f7 : wr.cell? ⟨b9, 7, none⟩ = some (.slice a7 n7 c7) := (HM.out.at 1 rfl).row.cell h7
              have f7' : wr.cell? ⟨b12, 7, none⟩ = some (.slice q7 m7 d7) := (HM.out.at 2 rfl).row.cell g7
              have hi7 := hrr.issued
              have hu5 := hrr.used
              have RI := Lib.hid (issues_any r.issued n7 m7 a7 q7 c7 d7 wr l7.symm y7.symm (by omega) R7 T7)
              have RC := Lib.hid (fun u (hb : Below wr.heap.size wr u) => cells_any (ofC r.used) n5 m5 a5 q5 c5 d5 u (by rw [ofC_length]; exact l5.symm) (by rw [ofC_length]; exact y5.symm) (by omega) (CelR.below R5 hb) (CelR.below T5 hb))
              have H5 := Lib.hid (And.intro h5 g5)
              clear e1 e2 h5 l5 R5 h7 l7 R7 g5 y5 T5 g7 y7 T7 hp hrr hur hi7 hu5
              go_wp2_with ((first
                | ((with_reducible refine RI.out.mono ?_); rintro e w ⟨rfl, hb⟩; have HBW := Lib.hid hb; replace HM := Lib.hid (HM.out.next hb); have f5 : w.cell? ⟨b9, 5, none⟩ = some (.slice a5 n5 c5) := (HM.out.at 1 rfl).row.cell H5.out.1; have f5' : w.cell? ⟨b12, 5, none⟩ = some (.slice q5 m5 d5) := (HM.out.at 2 rfl).row.cell H5.out.2; clear hb)
                | ((with_reducible refine (RC.out _ HBW.out).mono ?_); rintro e w ⟨rfl, hb⟩; replace HM := Lib.hid (HM.out.next hb); clear hb)
                | ((with_reducible refine (RA.out _ HM.out.below).mono ?_); rintro e w ⟨rfl, hb⟩; replace HM := Lib.hid (HM.out.next hb); clear hb)))
              go_ret
              exact ⟨by simp, HM.out.below⟩

set_option maxHeartbeats 1600000 in
theorem lifted (con : Con) (os : Os) (started : os.Started) (H : Type) (enc : TypeId × Value → H) :
    ReturnsInHanded {} Tryz.checked os 5 .any (fun w args => (Rows.bookLiftsSpec.pre enc Tryz.prog Tryz.f5 [] false w args ∧ laidMetH Tryz.prog Bkk.laidL w) ∧ sizedMet enc Tryz.prog Tryz.f5 (OpenSpec.ofChange Rows.bookLiftsSpec) false w args)
      (Rows.bookLiftsSpec.post enc Tryz.prog Tryz.f5 false true false false) := by
  refine returnsInHanded_of_change_and (C := Tryz.checked) (X := fun w _ => laidMetH Tryz.prog Bkk.laidL w) (fun _ _ _ hh h => h.of_heap hh) Bkk.own started (by kernel_rfl) Tryz.func5
    (ChangeSpec.witness_shaped (enc := enc) (C := Tryz.checked) (os := os) (X := fun w _ => laidMetH Tryz.prog Bkk.laidL w) false (World.doorLaid Tryz.prog 400 os) #[.string ByteArray.empty, .slice none 0 0] 8 rfl (World.shaped_of_RefB (by kernel_rfl) (by kernel_rfl)) (by kernel_rfl) (by kernel_rfl) (by kernel_rfl) (Bkk.door_met os _)) ?_
  intro W base args ds gs before hval0 hW _ hsz0 hL _
  have hval : ∀ (j : Nat) t v, Tryz.f5.params[j]? = some t → args[j]? = some v → Value.okWide Tryz.prog W .any base t v := hval0
  have hsz : (DataW.weightsEach Tryz.prog (Tryz.f5.params.toList ++ Rows.bookLiftsSpec.plain.varTypes Tryz.prog) (ds ++ gs)).all (· ≤ reachBytes) = true := hsz0
  clear hsz0
  have hW' := hW
  obtain ⟨p, q, hA0, hV, rfl, hfz, hnd⟩ := hW
  have hA : DataW.TrodAll enc Tryz.prog W 0 (fun _ => true) true Tryz.f5.params.toList args.toList ds p := hA0
  rw [Tryz.params5] at hA hval hsz
  obtain ⟨v0, vs0, d0, ds0, p0, q0, hargs, rfl, rfl, h0, r0⟩ := trodAll_cons hA
  obtain ⟨v1, vs1, d1, ds1, p1, q1, rfl, rfl, rfl, h1, r1⟩ := trodAll_cons r0
  obtain ⟨rfl, rfl, rfl⟩ := trodAll_nil r1
  obtain rfl : args = #[v0, v1] := by cases args; simp_all
  obtain ⟨rfl, rfl⟩ := trodVars_none hV
  obtain ⟨a0, rfl, rfl, rfl, w0⟩ := open_string Tryz.underlying9 (hval 0 9 v0 rfl rfl) h0
  have k1 := h1
  have lt1 : ∀ x ∈ p1, x.block < W.heap.size := by obtain ⟨m, hm⟩ := k1; exact DataW.trod_lt m _ _ _ hm
  obtain ⟨l1, n1, a1, c1, rfl, x1, y1, z1, v1, u1⟩ := BkO.open_ops (hval 1 49 v1 rfl rfl) h1 (fun m hm => by have := List.all_eq_true.1 hsz _ (DataW.weights_mem_each (j := 1) rfl rfl m hm); simpa using this)
  have hcl := Bkk.of_laid hL
  clear hA0 hval0
  refine (walk con a0 l1 n1 a1 c1 W (Nat.le_trans w0 (by unfold maxLen; omega)) x1 y1 z1 v1 u1 hcl).mono fun e W' ⟨he, bel⟩ => ?_
  subst he
  exact ⟨_, rfl, _, _, _, [], _, [], hW', trodAll_mk1 (shut_bool Tryz.underlying4 _), (trodAll_cons_mk (shut_string Tryz.underlying9 w0) (trodAll_cons_mk (Below.trod Bkk.laidOut (by kernel_rfl) (of_decide_eq_true (by kernel_rfl)) k1 bel lt1) trodAll_mk0)), rfl, bel.frame _, fun h => by cases h⟩

theorem over (con : Con) : Rows.BookLiftsSaid :=
  OpenClaim.holds_of_wide 5 Tryz.f5 rfl rfl rfl rfl rfl rfl rfl ⟨rfl, rfl, rfl, rfl, rfl⟩ rfl rfl rfl rfl rfl (by kernel_rfl) Tryz.func5 (by kernel_rfl)
    (of_decide_eq_true (by kernel_rfl)) (by unfold Func.isWrapper; first | (rw [if_pos (by decide +kernel)]; kernel_rfl) | (rw [if_neg (by decide +kernel)]; exact ⟨rfl, rfl⟩))
    (fun os started H enc _ => lifted con os started H enc)

theorem of_con (con : Con) : Rows.BookLiftsCardSaid :=
  Claim7.holds_tied_plain_at .later [] [.data, .data, .data, .data] true Rows.bookLiftsCard.stood.harness false
    (over con) (fun _ h => by cases h) (by kernel_rfl) (fun _ h => by cases h) bookLifts_row_tie rfl ⟨rfl, rfl⟩ (by kernel_rfl) rfl
    (fun f fn hf hfn => by
      obtain rfl : f = 5 := Option.some.inj ((show Tryz.prog.funcNamed "murmur/murmurlaw16.BookLifts" = some 5 by kernel_rfl).symm.trans hf) |>.symm
      obtain rfl : fn = Tryz.f5 := (Option.some.inj (Tryz.func5.symm.trans hfn)).symm
      exact ⟨by kernel_rfl, fun j t ht => by
        rw [Tryz.params5] at ht
        have hm : t ∈ [9, 49] := by simpa using Array.mem_of_getElem? ht
        have hall : ([9, 49].all fun u => !Tryz.prog.wantsStandIn u) = true := by kernel_rfl
        exact (show Tryz.prog.wantsStandIn t = false by simpa using List.all_eq_true.1 hall t hm)⟩)
    (by kernel_rfl)
/-- The statement. -/
theorem proved : Rows.BookLiftsCardSaid := of_con Bkb.con
#print axioms proved
end Go.Proofs.YtdhipdoaefdfeaaGreatDoor.LawBLf
