/-
  The statements' own example of layer 17 answers true. Conditions: the listed tables; package pad answers as Con says.
-/
import Derived.Test.YtolmfimpaofefaaGreatDoorPadW
namespace Go.Proofs.YtolmfimpaofefaaGreatDoor.Pad
open Go.RowKit Mur Prt Lanes Tap Bkl Bkm Rec Cel Bkr Bkb
set_option maxRecDepth 100000
set_option linter.unusedSimpArgs false

theorem built_pair : Tryz.prog.built 36 [(0, .int .i64 100), (1, .int .i64 1)] = some #[.int .i64 100, .int .i64 1] := by kernel_rfl
theorem built_cell : Tryz.prog.built 51 [(0, .string ⟨#[112, 97, 100, 32, 49, 48, 48, 32, 49, 32, 48, 32, 55]⟩), (1, .string ⟨#[97, 98, 99]⟩)] = some #[.string ⟨#[112, 97, 100, 32, 49, 48, 48, 32, 49, 32, 48, 32, 55]⟩, .string ⟨#[97, 98, 99]⟩] := by kernel_rfl
theorem len_size (X : ByteArray) : X.data.toList.length = X.size := rfl
theorem inR (n : Nat) (h : n ≤ 9223372036854775807) : InR (n : Int) := ⟨by omega, by omega⟩

set_option maxHeartbeats 6400000 in
theorem awake_any (con : Con) (w : World) (hl : Laid w) : Calls Tryz.prog 6 #[] w fun e w' => e = .returned (.bool true) ∧ Below w.heap.size w w' := by
  obtain ⟨w0, hw0⟩ : ∃ w0, w0 = w := ⟨w, rfl⟩
  subst hw0
  obtain ⟨S, hS⟩ : ∃ S, (Pad.shared seedT 100 1 0).data.toList = S := ⟨_, rfl⟩
  obtain ⟨T, hT⟩ : ∃ T, Pad.of S 7 20 = T := ⟨_, rfl⟩
  obtain ⟨U, hU⟩ : ∃ U, Pad.of S 8 20 = U := ⟨_, rfl⟩
  obtain ⟨K, hK⟩ : ∃ K, kept 100 1 0 7 = K := ⟨_, rfl⟩
  have hK8 : kept 100 1 0 8 = K := by rw [← hK]; exact kept_same _ _ _ _ _
  have hne := unlike S T U hS hT hU
  have hTl : T.length = 20 := by rw [← hT, of_length, (by decide : long 20 = 20)]
  have hSl : S.length ≤ 32 := by rw [← hS, len_size]; exact shared_size _ _ _ _
  obtain ⟨p0, q0⟩ := pad_r0 K S T hK hS hT
  obtain ⟨p1, q1⟩ := pad_r1 K S T U hK8 hU
  obtain ⟨a0s, a0b⟩ := pad_a0
  have ra : Room a0 900 := ⟨by decide, by decide, by decide, by decide, by decide, by decide, by decide, by decide⟩
  have rb : Room r0 900 := ⟨by decide, by decide, by decide, by decide, by decide, by decide, by decide, by decide⟩
  have rc : Room (r1 K S T) 900 := ⟨(by decide : seedT.length ≤ 1000), (by decide : 1 ≤ 900), (by decide : 1 ≤ 900), (by decide : 0 ≤ 900), (by decide : 0 ≤ 900), (by decide : 0 ≤ 900), (by decide : 0 ≤ 900), (by decide : 0 ≤ 900)⟩
  have fa : Brief a0 := fun h => by cases h
  have fb : Brief r0 := fun _ c hc => by cases hc
  have fc : Brief (r1 K S T) := fun _ c hc => by
    obtain rfl := List.mem_singleton.1 hc
    show S.length ≤ 1000
    omega
  have i0 := inR 0 (by decide); have i1 := inR 1 (by decide); have i2 := inR 2 (by decide); have i5 := inR 5 (by decide); have i7 := inR 7 (by decide); have i8 := inR 8 (by decide); have i20 := inR 20 (by decide); have i100 := inR 100 (by decide)
  obtain ⟨O5, hO5⟩ : ∃ O, O = tx (Pad.of (⟨#[120]⟩ : ByteArray).data.toList 1 5) := ⟨_, rfl⟩
  have hO5s : O5.size = 5 := by rw [hO5, tx_long, of_length, (by decide : long 5 = 5)]
  obtain ⟨SC, hSC⟩ : ∃ O, O = tx (secret seedT 100 1 0) := ⟨_, rfl⟩
  have hSCs : SC.size = 32 := by rw [hSC, tx_long, secret_length]
  have R0 := Lib.hid (fun u a (h : CelR u a (ofC [(nameT 55, [97, 98, 99])])) => new_any true ⟨#[]⟩ (ofC [(nameT 55, [97, 98, 99])]) 1 a 1 a0 u a0_is h rfl (by decide) (by decide))
  have R1 := Lib.hid (fun A v u (h : BkR u a0 v A) (hu : Laid u) => con.pad A a0 a1 v 100 1 0 7 2 ⟨#[97, 98]⟩ u a0s a0b h ra fa i100 i1 i0 i7 i2 hu)
  have R2 := Lib.hid (fun u => real_any u)
  have R3 := Lib.hid (fun A v u (h : BkR u r0 v A) (hu : Laid u) => con.pad A r0 (r1 K S T) v 100 1 0 7 20 (tx T) u (by rw [p0]) q0.symm h rb fb i100 i1 i0 i7 i20 hu)
  have R4 := Lib.hid (fun A v u (h : BkR u (r1 K S T) v A) (hu : Laid u) => con.pad A (r1 K S T) (r2 K S T U) v 100 1 0 8 20 (tx U) u (by rw [p1]) q1.symm h rc fc i100 i1 i0 i8 i20 hu)
  have R5 := Lib.hid (fun u (hu : Laid u) => con.of ⟨#[120]⟩ O5 1 5 u hO5 (by decide) i1 i5 hu)
  have R6 := Lib.hid (fun A v u (h : BkR u (r2 K S T U) v A) (hu : Laid u) => con.secret A (r2 K S T U) v 100 1 0 SC u hSC h (by decide : seedT.length ≤ 1000) i100 i1 i0 hu)
  have hT20 : (((tx T).size : Int) == 20) = true := by rw [tx_long, hTl]; rfl
  have hq5 : ((O5.size : Int) == 5) = true := by rw [hO5s]; rfl
  have hq32 : ((SC.size : Int) == 32) = true := by rw [hSCs]; rfl
  have hTU : ((tx T).toList == (tx U).toList) = false := eql_no _ _ hne
  have HM := Lib.hid (Hold.Hld.start w0)
  have HL := Lib.hid hl
  generalize tx T = XT at *
  generalize tx U = XU at *
  clear hS hT hU hK hK8 hne hTl hSl p0 q0 p1 q1 a0s a0b ra rb rc fa fb fc i0 i1 i2 i5 i7 i8 i20 i100 hO5 hO5s hSC hSCs hl
  have hbs := built_shape
  have hbc := built_cell
  go_enter Tryz.func6, Tryz.ntmps6
  go_wp2_with fail
  have hcs : CelR (w0.alloc (.cells #[.string ⟨#[112, 97, 100, 32, 49, 48, 48, 32, 49, 32, 48, 32, 55]⟩, .string ⟨#[97, 98, 99]⟩] 51)) (some ⟨w0.heap.size, 0, none⟩) (ofC [(nameT 55, [97, 98, 99])]) := fun _ => ⟨w0.heap.size, 0, rfl, by simp, fun i x hx => by
    match i, hx with
    | 0, hx => cases hx; simp [World.cell?_alloc_new]; rfl⟩
  replace HM := Lib.hid (HM.out.next ((Below.refl w0.heap.size w0).alloc (Nat.le_refl _) (.cells #[.string ⟨#[112, 97, 100, 32, 49, 48, 48, 32, 49, 32, 48, 32, 55]⟩, .string ⟨#[97, 98, 99]⟩] 51)))
  refine (R0.out _ _ hcs).mono ?_
  clear hcs
  rintro e w ⟨v0, rfl, hv, hb⟩
  replace HM := Lib.hid (HM.out.next hb)
  have HV := Lib.hid (hv.mono (A' := Off []) fun k _ _ x hx => by cases hx)
  have L0 := Lib.hid hv.len
  clear hv hb
  go_upto_region 2 with ((first
    | ((with_reducible refine Hold.allocK HM.out rfl rfl zeroBk zero_bk ?_); clear HM; intro bb w hn hb HM; simp only [List.nil_append, List.cons_append] at HM; replace HM := Lib.hid HM; replace HV := Lib.hid (HV.out.alloc (t := 30) (z := zeroBk) hn hb); simp only [List.nil_append, List.cons_append] at HV; clear hn hb)
    | ((with_reducible refine Hold.storeK HM.out 0 (v' := v0) rfl rfl rfl rfl rfl (bkFits HV.out.len zero_len) (bkLaid HV.out.len zero_len) HV.out.one (bkRowOf HV.out.len) ?_); clear HM; intro w hbt HM; simp only [List.set_cons_zero, List.set_cons_succ] at HM; replace HM := Lib.hid HM; replace HV := Lib.hid (HV.out.stored (i := 0) (z' := v0) rfl hbt); simp only [List.set_cons_zero, List.set_cons_succ] at HV; clear hbt)))
  go_upto_region 3 with ((first
    | (with_reducible refine Hold.load HM.out 0 (cs := v0) rfl rfl rfl rfl (Hold.Part.all _) (bkRowOf HV.out.len) ?_)
    | ((refine Hold.build (t := 36) (parts := #[(0, .const (.int .i64 100)), (1, .const (.int .i64 1))]) (cs := [.int .i64 100, .int .i64 1]) rfl rfl ?_ ?_); focus (exact built_pair))
    | ((with_reducible refine (R1.out _ _ _ HV.out (HL.out.below HM.out.below)).mono ?_); rintro e w ⟨v1, rfl, hv, hb⟩; have L1 := Lib.hid hv.len; replace HV := Lib.hid (hv.answered HM.out); replace HM := Lib.hid (HM.out.next hb); clear hv hb)
    | ((with_reducible refine Hold.storeK HM.out 0 (v' := v1) rfl rfl rfl rfl rfl (bkFits HV.out.len L0.out) (bkLaid HV.out.len L0.out) HV.out.one (bkRowOf HV.out.len) ?_); clear HM; intro w hbt HM; simp only [List.set_cons_zero, List.set_cons_succ] at HM; replace HM := Lib.hid HM; replace HV := Lib.hid (HV.out.stored (i := 0) (z' := v1) rfl hbt); simp only [List.set_cons_zero, List.set_cons_succ] at HV; clear hbt)))
  go_upto_region 4 with ((first
    | ((refine Hold.build (t := 36) (parts := #[(0, .const (.int .i64 100)), (1, .const (.int .i64 1))]) (cs := [.int .i64 100, .int .i64 1]) rfl rfl ?_ ?_); focus (exact built_pair))
    | ((with_reducible refine (R2.out _).mono ?_); rintro e w ⟨v2, rfl, hv, hb⟩; have HR := Lib.hid (hv.mono (A' := Off _) (fun k _ hk x hx e => by have := (HM.out.whole x hx).lt; omega)); replace HV := Lib.hid (HV.out.below hb); replace HM := Lib.hid (HM.out.next hb); clear hv hb)
    | ((with_reducible refine (R3.out _ _ _ HR.out (HL.out.below HM.out.below)).mono ?_); rintro e w ⟨v3, rfl, hv, hb⟩; have L3 := Lib.hid hv.len; replace HR := Lib.hid (hv.answered HM.out); replace HV := Lib.hid (HV.out.below hb); replace HM := Lib.hid (HM.out.next hb); clear hv hb)
    | ((with_reducible refine Hold.allocK HM.out rfl rfl zeroBk zero_bk ?_); clear HM; intro bb w hn hb HM; simp only [List.nil_append, List.cons_append] at HM; replace HM := Lib.hid HM; replace HV := Lib.hid (HV.out.alloc (t := 30) (z := zeroBk) hn hb); simp only [List.nil_append, List.cons_append] at HV; replace HR := Lib.hid (HR.out.alloc (t := 30) (z := zeroBk) hn hb); simp only [List.nil_append, List.cons_append] at HR; clear hn hb)
    | ((with_reducible refine Hold.storeK HM.out 1 (v' := v3) rfl rfl rfl rfl rfl (bkFits HR.out.len zero_len) (bkLaid HR.out.len zero_len) HR.out.one (bkRowOf HR.out.len) ?_); clear HM; intro w hbt HM; simp only [List.set_cons_zero, List.set_cons_succ] at HM; replace HM := Lib.hid HM; replace HR := Lib.hid (HR.out.stored (i := 1) (z' := v3) rfl hbt); simp only [List.set_cons_zero, List.set_cons_succ] at HR; replace HV := Lib.hid (HV.out.stored (i := 1) (z' := v3) rfl hbt); simp only [List.set_cons_zero, List.set_cons_succ] at HV; clear hbt)))
  go_upto_region 5 with ((first
    | (with_reducible refine Hold.load HM.out 1 (cs := v3) rfl rfl rfl rfl (Hold.Part.all _) (bkRowOf HR.out.len) ?_)
    | ((refine Hold.build (t := 36) (parts := #[(0, .const (.int .i64 100)), (1, .const (.int .i64 1))]) (cs := [.int .i64 100, .int .i64 1]) rfl rfl ?_ ?_); focus (exact built_pair))
    | ((with_reducible refine (R4.out _ _ _ HR.out (HL.out.below HM.out.below)).mono ?_); rintro e w ⟨v4, rfl, hv, hb⟩; have L4 := Lib.hid hv.len; replace HR := Lib.hid (hv.answered HM.out); replace HV := Lib.hid (HV.out.below hb); replace HM := Lib.hid (HM.out.next hb); clear hv hb)
    | ((with_reducible refine Hold.storeK HM.out 1 (v' := v4) rfl rfl rfl rfl rfl (bkFits HR.out.len L3.out) (bkLaid HR.out.len L3.out) HR.out.one (bkRowOf HR.out.len) ?_); clear HM; intro w hbt HM; simp only [List.set_cons_zero, List.set_cons_succ] at HM; replace HM := Lib.hid HM; replace HR := Lib.hid (HR.out.stored (i := 1) (z' := v4) rfl hbt); simp only [List.set_cons_zero, List.set_cons_succ] at HR; replace HV := Lib.hid (HV.out.stored (i := 1) (z' := v4) rfl hbt); simp only [List.set_cons_zero, List.set_cons_succ] at HV; clear hbt)))
  obtain ⟨ua, un, uc, h5, h5l, -⟩ := HV.out.at5
  obtain rfl : un = 1 := h5l.symm
  obtain ⟨xa, xn, xc, g5, g5l, -⟩ := HR.out.at5
  obtain rfl : xn = 2 := g5l.symm
  obtain ⟨ya, yn, yc, g4, g4l, -⟩ := HR.out.at4
  obtain rfl : yn = 1 := g4l.symm
  have cU := (HM.out.at 0 rfl).row.cell h5
  have cX := (HM.out.at 1 rfl).row.cell g5
  have cY := (HM.out.at 1 rfl).row.cell g4
  clear h5 h5l g5 g5l g4 g4l
  go_wp2_with ((first
    | ((with_reducible refine (R5.out _ (HL.out.below HM.out.below)).mono ?_); rintro e w ⟨rfl, hb⟩; replace HR := Lib.hid (HR.out.below hb); replace HM := Lib.hid (HM.out.next hb); clear hb; clear cU cX cY)
    | (refine Hold.wpList_want (by rfl) (.agg (v4).toArray) (Hold.load_run HM.out 1 rfl rfl rfl (Hold.Part.all _) (bkRowOf HR.out.len)) ?_)
    | ((with_reducible refine (R6.out _ _ _ HR.out (HL.out.below HM.out.below)).mono ?_); rintro e w ⟨rfl, hb⟩; replace HM := Lib.hid (HM.out.next hb); clear hb)))
  go_ret
  exact ⟨by simp, HM.out.below⟩
end Go.Proofs.YtolmfimpaofefaaGreatDoor.Pad
