/-
  PadAgain: asked for again a pad is the same, whatever was asked for between; it is as long as was asked for; by a client's secret and the server's public key it is found again: for any four numbers and every list of rounds the law answers true and changes nothing that was there. Condition: the listed tables hold what the program lays there.
-/
import Derived.Test.YtolmfimpaofefaaGreatDoorPadX
import Derived.Test.YtolmfimpaofefaaGreatDoorPadP
import Derived.Test.YtolmfimpaofefaaGreatDoorPadA
import Derived.Test.YtolmfimpaofefaaGreatDoorPaK
import Derived.Test.YtolmfimpaofefaaGreatDoorPaO
import Derived.BigQuiet
import Derived.Deep.QuietTactic
namespace Go.Proofs.YtolmfimpaofefaaGreatDoor.LawPAg
open Go.ChangeShapes Go.WideShapes Go.ChangeAt Go.RowKit Mur Prt Lanes Limb Lad LadC Tap Bkl Bkm Rec Cel Bkr Bkb Pad
open Go.ChangeMaps (open_string shut_string)
set_option maxRecDepth 100000
set_option linter.unusedSimpArgs false

theorem rest_of (x : Int) (q : Nat) (h1 : 0 < q) (h2 : q ≤ 1000) : ∃ m : Nat, m < q ∧ wrap64 ((IntKind.u64.wrap x).tmod (q : Int)) = (m : Int) := by
  rw [IntKind.wrap_u64, Int.tmod_eq_emod_of_nonneg (by omega)]
  have h3 : 0 ≤ x % 18446744073709551616 % (q : Int) := Int.emod_nonneg _ (by omega)
  have h4 : x % 18446744073709551616 % (q : Int) < q := Int.emod_lt_of_pos _ (by omega)
  refine ⟨(x % 18446744073709551616 % (q : Int)).toNat, by omega, ?_⟩
  rw [IntWalk.wrap64_in _ (by omega)]
  omega
theorem built_any (x y : Int) : Tryz.prog.built 36 [(0, .int .i64 x), (1, .int .i64 y)] = some #[.int .i64 x, .int .i64 y] := by kernel_rfl
theorem inN (n : Nat) (h : n ≤ 1000) : InR (n : Int) := ⟨by omega, by omega⟩
theorem in40 : InR 40 := ⟨by decide, by decide⟩

set_option maxHeartbeats 12800000 in
theorem walk (con : Con) (n0 n1 n2 n3 : Int) (l : List Int) (N : Nat) (a : Option Addr) (c : Nat) (wz : World) (_ : InR n0) (_ : InR n1) (_ : InR n2) (_ : InR n3) (hr : PaO.IntsR wz a l) (hn : l.length = N) (hnm : N ≤ 9223372036854775807) (hz : ∀ z ∈ l, -9223372036854775808 ≤ z ∧ z ≤ 9223372036854775807) (hl : Laid wz) :
    Calls Tryz.prog 4 #[.agg #[.int .i64 n0, .int .i64 n1, .int .i64 n2, .int .i64 n3], .slice a N c] wz fun e w' => e = .returned (.bool true) ∧ Below wz.heap.size wz w' := by
  have RA := Lib.hid (fun u (hu : Below wz.heap.size wz u) => awake_any con u (hl.below hu))
  have HB0 := Lib.hid ((Below.refl wz.heap.size wz).alloc (Nat.le_refl _) (.cells #[.int .i64 n0, .int .i64 n1, .int .i64 n2, .int .i64 n3] 43))
  by_cases hg : 3 < N
  · have d1 : decide (3 < (N : Int)) = true := decide_eq_true (by omega)
    have d2 : decide (3 < N) = true := decide_eq_true hg
    clear hg hr hn hz
    go_enter Tryz.func4, Tryz.ntmps4
    go_wp2_with fail
    refine (RA.out _ HB0.out).mono ?_
    rintro e w1 ⟨rfl, hb1⟩
    have HB1 := Lib.hid (HB0.out.trans (hb1.mono HB0.out.size))
    clear hb1
    go_wp2
    go_ret
    exact ⟨rfl, HB1.out⟩
  have d1 : decide (3 < (N : Int)) = false := decide_eq_false (by omega)
  have d2 : decide (3 < N) = false := decide_eq_false hg
  obtain ⟨m0, hm0, hq0⟩ := rest_of n0 6 (by omega) (by omega)
  obtain ⟨j, hj, hq1⟩ := rest_of n1 4 (by omega) (by omega)
  obtain ⟨e, he, hq2⟩ := rest_of n2 3 (by omega) (by omega)
  obtain ⟨r, hrr, hq3⟩ := rest_of n3 5 (by omega) (by omega)
  obtain ⟨C, hC⟩ : ∃ C : Int, C = 100 + (m0 : Int) := ⟨_, rfl⟩
  have hw0 : wrap64 (100 + wrap64 ((IntKind.u64.wrap n0).tmod 6)) = C := by
    rw [show wrap64 ((IntKind.u64.wrap n0).tmod 6) = (m0 : Int) from hq0, IntWalk.wrap64_in _ (by omega), hC]
  obtain ⟨J, hJ⟩ : ∃ J : Int, J = (j : Int) := ⟨_, rfl⟩
  obtain ⟨E, hE⟩ : ∃ E : Int, E = (e : Int) := ⟨_, rfl⟩
  obtain ⟨R, hR⟩ : ∃ R : Int, R = (r : Int) := ⟨_, rfl⟩
  have hw1 : wrap64 ((IntKind.u64.wrap n1).tmod 4) = J := by rw [hJ]; exact hq1
  have hw2 : wrap64 ((IntKind.u64.wrap n2).tmod 3) = E := by rw [hE]; exact hq2
  have hw3 : wrap64 ((IntKind.u64.wrap n3).tmod 5) = R := by rw [hR]; exact hq3
  have iC : InR C := ⟨by omega, by omega⟩
  have iJ : InR J := ⟨by omega, by omega⟩
  have iE : InR E := ⟨by omega, by omega⟩
  have iR : InR R := ⟨by omega, by omega⟩
  have hgood := good_all C J e (by omega) (by omega) (by omega) (by omega) he
  rw [← hE] at hgood
  have hsh := shares C J E hgood
  obtain ⟨S, hS⟩ : ∃ S, (Pad.shared seedT C J E).data.toList = S := ⟨_, rfl⟩
  have hSl : S.length ≤ 1000 := by rw [← hS, Pad.tlen]; have := shared_size seedT C J E; omega
  obtain ⟨X, hX⟩ : ∃ X, X = tx (Pad.of S R 40) := ⟨_, rfl⟩
  have hXs : X.size = 40 := by rw [hX, tx_long, of_40]
  obtain ⟨SV, hSV⟩ : ∃ D, D = tx (server seedT J E) := ⟨_, rfl⟩
  obtain ⟨SC, hSC⟩ : ∃ D, D = tx (secret seedT C J E) := ⟨_, rfl⟩
  obtain ⟨PB, hPB⟩ : ∃ D, D = pub seedT J E := ⟨_, rfl⟩
  have hz0 : (0 : Int) = sE SC PB := by rw [hSC, hPB]; exact hsh.symm
  have hXr : X = (if sE SC PB = 0 then tx (Pad.of (sT SC PB).data.toList R 40) else ⟨#[]⟩) := by
    rw [if_pos hz0.symm, hSC, hPB, shared_of, hS]
    exact hX
  obtain ⟨b1, hb1⟩ : ∃ b1, b1 = padB r0 C J E R 40 := ⟨_, rfl⟩
  have hf1 := first_pad C J E S hS r
  rw [← hR, ← hb1, ] at hf1
  have rb : Room r0 900 := ⟨by decide, by decide, by decide, by decide, by decide, by decide, by decide, by decide⟩
  have fb : Brief r0 := fun _ c hc => by cases hc
  have R0 := Lib.hid (fun u => real_any u)
  have R1 := Lib.hid (fun A v u (h : BkR u r0 v A) (hu : Below wz.heap.size wz u) => con.pad A r0 b1 v C J E R 40 X u (by rw [hf1.1, hX]) hb1 h rb fb iC iJ iE iR in40 (hl.below hu))
  have RN := Lib.hid (fun (b : Bk) (m : Nat) (q : Nat) (b' : Bk) (Y : ByteArray) (hI : Inv C J E S b m) (hm : m ≤ 900) (hq : q ≤ 1000) (hb' : b' = padB b C J E (q : Int) 40) (hY : Y = tx (Pad.of S (q : Int) 40)) A v u (h : BkR u b v A) (hu : Below wz.heap.size wz u) => con.pad A b b' v C J E (q : Int) 40 Y u (by rw [(next_pad C J E S b m q hI).1, hY]) hb' h (hI.room.more hm) (hI.brief hSl) iC iJ iE (inN q hq) in40 (hl.below hu))
  have RS := Lib.hid (fun (b : Bk) (m : Nat) (hI : Inv C J E S b m) A v u (h : BkR u b v A) (hu : Below wz.heap.size wz u) => con.server A b v J E SV u (by rw [hI.seed]; exact hSV) h hI.room.seed iJ iE (hl.below hu))
  have RC := Lib.hid (fun (b : Bk) (m : Nat) (hI : Inv C J E S b m) A v u (h : BkR u b v A) (hu : Below wz.heap.size wz u) => con.secret A b v C J E SC u (by rw [hI.seed]; exact hSC) h hI.room.seed iC iJ iE (hl.below hu))
  have RP := Lib.hid (fun u => show Calls Tryz.prog 21 #[.string SV] u fun r w' => r = .returned (.tuple #[.string PB, .int .i64 0]) ∧ Below u.heap.size u w' from by rw [hSV, hPB, ← public_is]; exact LadC.public_any _ u)
  have RV := Lib.hid (fun u (hu : Below wz.heap.size wz u) => con.reveal SC PB X 0 R 40 u hXr hz0 iR in40 (hl.below hu))
  have HI1 := Lib.hid hf1.2
  have HNP := Lib.hid (fun (b : Bk) (m q : Nat) (hI : Inv C J E S b m) => (next_pad C J E S b m q hI).2)
  have HXR := Lib.hid (And.intro hX hR)
  have HRR := Lib.hid hrr
  have t1 : ((X.size : Int) == 40) = true := by rw [hXs]; rfl
  have t2 : (X.toList == X.toList) = true := by simp
  have HIN := Lib.hid hr
  have HLN := Lib.hid hn
  have HZ := Lib.hid hz
  have HN3 := Lib.hid (by omega : N ≤ 3)
  have hbt := built_any C J
  clear hq0 hq1 hq2 hq3 hm0 hj he hrr hC hJ hE hR iC iJ iE iR hgood hsh hS hSl hX hXs hSV hSC hPB hz0 hXr hb1 hf1 rb fb hg hr hn hnm hz hl
  go_enter Tryz.func4, Tryz.ntmps4
  go_upto_region 3 with (fail)
  go_quiet (fail)
  go_upto_region 4 with (fail)
  go_quiet (fail)
  go_wp2_with fail
  rw [hw0, hw1, hw2, hw3]
  clear hw0 hw1 hw2 hw3
  refine (R0.out _).mono ?_
  rintro e0 w ⟨v0, rfl, hv, hb⟩
  have HM := Lib.hid ((Hold.Hld.start wz).next ((belowN HB0.out _).trans (hb.mono (belowN HB0.out _).size)))
  have HV := Lib.hid (hv.mono (A' := Off []) fun k _ _ x hx => by cases hx)
  clear hv hb HB0
  generalize (IntKind.u64.wrap n0).tmod 6 = y0
  generalize (IntKind.u64.wrap n1).tmod 4 = y1
  generalize (IntKind.u64.wrap n2).tmod 3 = y2
  generalize (IntKind.u64.wrap n3).tmod 5 = y3
  generalize IntKind.u64.wrap n0 = y4
  generalize IntKind.u64.wrap n1 = y5
  generalize IntKind.u64.wrap n2 = y6
  generalize IntKind.u64.wrap n3 = y7
  generalize wrap64 y0 = y8
  go_upto_region 6 with ((first
    | ((refine Hold.build (t := 36) (parts := #[(0, .tmp 46), (1, .tmp 47)]) (cs := [.int .i64 C, .int .i64 J]) rfl rfl ?_ ?_); focus (exact hbt))
    | ((with_reducible refine (R1.out _ _ _ HV.out HM.out.below).mono ?_); rintro e w ⟨v1, rfl, hv, hb⟩; replace HV := Lib.hid (hv.answered HM.out); replace HM := Lib.hid (HM.out.next hb); clear hv hb)
    | ((with_reducible refine Hold.allocK HM.out rfl rfl zeroBk zero_bk ?_); clear HM; intro b10 w hn hb HM; simp only [List.nil_append, List.cons_append] at HM; replace HM := Lib.hid HM; replace HV := Lib.hid (HV.out.alloc (t := 30) (z := zeroBk) hn hb); simp only [List.nil_append, List.cons_append] at HV; clear hn hb)
    | ((with_reducible refine Hold.storeK HM.out 0 (v' := v1) rfl rfl rfl rfl rfl (bkFits HV.out.len zero_len) (bkLaid HV.out.len zero_len) HV.out.one (bkRowOf HV.out.len) ?_); clear HM; intro w hbt HM; simp only [List.set_cons_zero, List.set_cons_succ] at HM; replace HM := Lib.hid HM; replace HV := Lib.hid (HV.out.stored (i := 0) (z' := v1) rfl hbt); simp only [List.set_cons_zero, List.set_cons_succ] at HV; clear hbt)))
  go_wp2
  go_loopw [56] (fun i wr => ∃ k : Nat, k ≤ N ∧ i = .int .i64 (k : Int) ∧ ∃ v b, Hold.Hld wz [⟨b10, 30, v⟩] wr ∧ BkR wr b v (Off [⟨b10, 30, v⟩]) ∧ Inv C J E S b (k + 1)) (fun i _ => N - (intOf i).toNat)
  case atStart => exact ⟨0, by omega, rfl, v1, b1, HM.out, HV.out, HI1.out⟩
  case round =>
    obtain ⟨k, hk, rfl, v, b, hm, hv, hI⟩ := hrel
    clear HM HV
    have HM := Lib.hid hm
    have HV := Lib.hid hv
    have HI := Lib.hid hI
    have LV := Lib.hid hv.len
    clear hm hv hI
    by_cases hlt : k < N
    · have hlt2 : (k : Int) < (N : Int) := by omega
      have hN3 := HN3.out
      obtain ⟨g, o, rfl, hgb, hgc⟩ := HIN.out (by have := HLN.out; omega)
      obtain ⟨x, hx⟩ : ∃ x, l[k]? = some x := ⟨_, List.getElem?_eq_getElem (by have := HLN.out; omega)⟩
      have c1 : wr.cell? ⟨g, o + k, none⟩ = some (.int .i64 x) := (HM.out.below.cell (p := ⟨g, o + k, none⟩) hgb).trans (hgc k x hx)
      obtain ⟨q, hq, hqw⟩ := rest_of x 9 (by omega) (by omega)
      have hqw2 : wrap64 ((IntKind.u64.wrap x).tmod 9) = (q : Int) := hqw
      obtain ⟨b', hb'⟩ : ∃ b', b' = padB b C J E (q : Int) 40 := ⟨_, rfl⟩
      obtain ⟨Y, hY⟩ : ∃ Y, Y = tx (Pad.of S (q : Int) 40) := ⟨_, rfl⟩
      have RX := Lib.hid (RN.out b (k + 1) q b' Y HI.out (by have := HN3.out; omega) (by omega) hb' hY)
      have hI2 : Inv C J E S b' (k + 1 + 1) := by rw [hb']; exact HNP.out b (k + 1) q HI.out
      have HI2 := Lib.hid hI2
      have HQ := Lib.hid hqw2
      clear hgb hgc hx hq hqw hqw2 hb' hY hI2
      go_wp2_with ((first
        | (with_reducible refine Hold.load HM.out 0 (cs := v) rfl rfl rfl rfl (Hold.Part.all _) (bkRowOf LV.out) ?_)
        | ((refine Hold.build (t := 36) (parts := #[(0, .tmp 62), (1, .tmp 63)]) (cs := [.int .i64 C, .int .i64 J]) rfl rfl ?_ ?_); focus (exact hbt))))
      rw [HQ.out]
      clear c1 HQ
      generalize (IntKind.u64.wrap x).tmod 9 = z0
      generalize IntKind.u64.wrap x = z1
      refine (RX.out _ _ _ HV.out HM.out.below).mono ?_
      rintro e w ⟨v2, rfl, hv, hb⟩
      replace HV := Lib.hid (hv.answered HM.out)
      replace HM := Lib.hid (HM.out.next hb)
      clear hv hb
      go_wp2_with ((with_reducible refine Hold.storeK HM.out 0 (v' := v2) rfl rfl rfl rfl rfl (bkFits HV.out.len LV.out) (bkLaid HV.out.len LV.out) HV.out.one (bkRowOf HV.out.len) ?_); clear HM; intro w hbt HM; simp only [List.set_cons_zero, List.set_cons_succ] at HM; replace HM := Lib.hid HM; replace HV := Lib.hid (HV.out.stored (i := 0) (z' := v2) rfl hbt); simp only [List.set_cons_zero, List.set_cons_succ] at HV; clear hbt)
      go_roundw
      case rel => exact ⟨k + 1, by omega, by go_num, v2, b', HM.out, HV.out, HI2.out⟩
      case measure => simp [intOf]; omega
    · obtain rfl : k = N := by omega
      have hlt2 : ¬ ((k : Int) < (k : Int)) := by omega
      obtain ⟨b', hb'⟩ : ∃ b', b' = padB b C J E (r : Int) 40 := ⟨_, rfl⟩
      have hRL := RN.out b (k + 1) r b' X HI.out (by have := HN3.out; omega) (by have := HRR.out; omega) hb' (by rw [← HXR.out.2]; exact HXR.out.1)
      rw [← HXR.out.2] at hRL
      have RL := Lib.hid hRL
      clear hRL hb'
      go_upto_region 12 with ((first
        | (with_reducible refine Hold.load HM.out 0 (cs := v) rfl rfl rfl rfl (Hold.Part.all _) (bkRowOf LV.out) ?_)
        | ((refine Hold.build (t := 36) (parts := #[(0, .tmp 76), (1, .tmp 77)]) (cs := [.int .i64 C, .int .i64 J]) rfl rfl ?_ ?_); focus (exact hbt))
        | ((with_reducible refine (RL.out _ _ _ HV.out HM.out.below).mono ?_); rintro e w ⟨v3, rfl, hv, hb⟩; have L3 := Lib.hid hv.len; have O3 := Lib.hid hv.one; replace HV := Lib.hid (HV.out.below hb); replace HM := Lib.hid (HM.out.next hb); clear hv hb)
        | ((with_reducible refine Hold.allocK HM.out rfl rfl zeroBk zero_bk ?_); clear HM; intro b14 w hn hb HM; simp only [List.nil_append, List.cons_append] at HM; replace HM := Lib.hid HM; replace HV := Lib.hid (HV.out.alloc (t := 30) (z := zeroBk) hn hb); simp only [List.nil_append, List.cons_append] at HV; clear hn hb)
        | ((with_reducible refine Hold.storeK HM.out 1 (v' := v3) rfl rfl rfl rfl rfl (bkFits L3.out zero_len) (bkLaid L3.out zero_len) O3.out (bkRowOf L3.out) ?_); clear HM; intro w hbt HM; simp only [List.set_cons_zero, List.set_cons_succ] at HM; replace HM := Lib.hid HM; replace HV := Lib.hid (HV.out.stored (i := 1) (z' := v3) rfl hbt); simp only [List.set_cons_zero, List.set_cons_succ] at HV; clear hbt)))
      go_wp2_with ((first
        | (with_reducible refine Hold.load HM.out 0 (cs := v) rfl rfl rfl rfl (Hold.Part.all _) (bkRowOf LV.out) ?_)
        | ((with_reducible refine (RS.out b _ HI.out _ _ _ HV.out HM.out.below).mono ?_); rintro e w ⟨rfl, hb⟩; replace HV := Lib.hid (HV.out.below hb); replace HM := Lib.hid (HM.out.next hb); clear hb)
        | ((with_reducible refine (RP.out _).mono ?_); rintro e w ⟨rfl, hb⟩; replace HV := Lib.hid (HV.out.below hb); replace HM := Lib.hid (HM.out.next hb); clear hb)
        | ((with_reducible refine (RC.out b _ HI.out _ _ _ HV.out HM.out.below).mono ?_); rintro e w ⟨rfl, hb⟩; replace HV := Lib.hid (HV.out.below hb); replace HM := Lib.hid (HM.out.next hb); clear hb)
        | ((with_reducible refine (RV.out _ HM.out.below).mono ?_); rintro e w ⟨rfl, hb⟩; replace HM := Lib.hid (HM.out.next hb); clear hb)
        | ((with_reducible refine (RA.out _ HM.out.below).mono ?_); rintro e w ⟨rfl, hb⟩; replace HM := Lib.hid (HM.out.next hb); clear hb)))
      go_ret
      exact ⟨by simp, HM.out.below⟩

set_option maxHeartbeats 1600000 in
theorem lifted (con : Con) (os : Os) (started : os.Started) (H : Type) (enc : TypeId × Value → H) :
    ReturnsInHanded {} Tryz.checked os 4 .any (fun w args => (Rows.padAgainSpec.pre enc Tryz.prog Tryz.f4 [] false w args ∧ laidMetH Tryz.prog Bkk.laidL w) ∧ sizedMet enc Tryz.prog Tryz.f4 (OpenSpec.ofChange Rows.padAgainSpec) false w args)
      (Rows.padAgainSpec.post enc Tryz.prog Tryz.f4 false true false false) := by
  refine returnsInHanded_of_change_and (C := Tryz.checked) (X := fun w _ => laidMetH Tryz.prog Bkk.laidL w) (fun _ _ _ hh h => h.of_heap hh) Bkk.own started (by kernel_rfl) Tryz.func4
    (ChangeSpec.witness_shaped (enc := enc) (C := Tryz.checked) (os := os) (X := fun w _ => laidMetH Tryz.prog Bkk.laidL w) false (World.doorLaid Tryz.prog 400 os) #[.agg #[.int .i64 0, .int .i64 0, .int .i64 0, .int .i64 0], .slice none 0 0] 8 rfl (World.shaped_of_RefB (by kernel_rfl) (by kernel_rfl)) (by kernel_rfl) (by kernel_rfl) (by kernel_rfl) (Bkk.door_met os _)) ?_
  intro W base args ds gs before hval0 hW _ hsz0 hL _
  have hval : ∀ (j : Nat) t v, Tryz.f4.params[j]? = some t → args[j]? = some v → Value.okWide Tryz.prog W .any base t v := hval0
  have hsz : (DataW.weightsEach Tryz.prog (Tryz.f4.params.toList ++ Rows.padAgainSpec.plain.varTypes Tryz.prog) (ds ++ gs)).all (· ≤ reachBytes) = true := hsz0
  clear hsz0
  have hW' := hW
  obtain ⟨p, q, hA0, hV, rfl, hfz, hnd⟩ := hW
  have hA : DataW.TrodAll enc Tryz.prog W 0 (fun _ => true) true Tryz.f4.params.toList args.toList ds p := hA0
  rw [Tryz.params4] at hA hval hsz
  obtain ⟨v0, vs0, d0, ds0, p0, q0, hargs, rfl, rfl, h0, r0⟩ := trodAll_cons hA
  obtain ⟨v1, vs1, d1, ds1, p1, q1, rfl, rfl, rfl, h1, r1⟩ := trodAll_cons r0
  obtain ⟨rfl, rfl, rfl⟩ := trodAll_nil r1
  obtain rfl : args = #[v0, v1] := by cases args; simp_all
  obtain ⟨rfl, rfl⟩ := trodVars_none hV
  have k0 := h0
  have lt0 : ∀ x ∈ p0, x.block < W.heap.size := by obtain ⟨m, hm⟩ := k0; exact DataW.trod_lt m _ _ _ hm
  obtain ⟨ia0, ib0, ic0, id0, rfl, x0, y0, z0, u0⟩ := PaO.open_four (hval 0 43 v0 rfl rfl) h0
  have k1 := h1
  have lt1 : ∀ x ∈ p1, x.block < W.heap.size := by obtain ⟨m, hm⟩ := k1; exact DataW.trod_lt m _ _ _ hm
  obtain ⟨l1, n1, a1, c1, rfl, x1, y1, z1, u1⟩ := PaO.open_nums (hval 1 44 v1 rfl rfl) h1
  have hcl := Bkk.of_laid hL
  clear hA0 hval0
  refine (walk con ia0 ib0 ic0 id0 l1 n1 a1 c1 W x0 y0 z0 u0 x1 y1 z1 u1 hcl).mono fun e W' ⟨he, bel⟩ => ?_
  subst he
  exact ⟨_, rfl, _, _, _, [], _, [], hW', trodAll_mk1 (shut_bool Tryz.underlying4 _), (trodAll_cons_mk (Below.trod Bkk.laidOut (by kernel_rfl) (of_decide_eq_true (by kernel_rfl)) k0 bel lt0) (trodAll_cons_mk (Below.trod Bkk.laidOut (by kernel_rfl) (of_decide_eq_true (by kernel_rfl)) k1 bel lt1) trodAll_mk0)), rfl, bel.frame _, fun h => by cases h⟩

theorem over (con : Con) : Rows.PadAgainSaid :=
  OpenClaim.holds_of_wide 4 Tryz.f4 rfl rfl rfl rfl rfl rfl rfl ⟨rfl, rfl, rfl, rfl, rfl⟩ rfl rfl rfl rfl rfl (by kernel_rfl) Tryz.func4 (by kernel_rfl)
    (of_decide_eq_true (by kernel_rfl)) (by unfold Func.isWrapper; first | (rw [if_pos (by decide +kernel)]; kernel_rfl) | (rw [if_neg (by decide +kernel)]; exact ⟨rfl, rfl⟩))
    (fun os started H enc _ => lifted con os started H enc)

theorem of_con (con : Con) : Rows.PadAgainCardSaid :=
  Claim7.holds_tied_plain_at .later [] [.data, .data, .data, .data] true Rows.padAgainCard.stood.harness false
    (over con) (fun _ h => by cases h) (by kernel_rfl) (fun _ h => by cases h) padAgain_row_tie rfl ⟨rfl, rfl⟩ (by kernel_rfl) rfl
    (fun f fn hf hfn => by
      obtain rfl : f = 4 := Option.some.inj ((show Tryz.prog.funcNamed "murmur/murmurlaw17.PadAgain" = some 4 by kernel_rfl).symm.trans hf) |>.symm
      obtain rfl : fn = Tryz.f4 := (Option.some.inj (Tryz.func4.symm.trans hfn)).symm
      exact ⟨by kernel_rfl, fun j t ht => by
        rw [Tryz.params4] at ht
        have hm : t ∈ [43, 44] := by simpa using Array.mem_of_getElem? ht
        have hall : ([43, 44].all fun u => !Tryz.prog.wantsStandIn u) = true := by kernel_rfl
        exact (show Tryz.prog.wantsStandIn t = false by simpa using List.all_eq_true.1 hall t hm)⟩)
    (by kernel_rfl)
/-- The statement. -/
theorem proved : Rows.PadAgainCardSaid := of_con Pad.con
#print axioms proved
end Go.Proofs.YtolmfimpaofefaaGreatDoor.LawPAg
