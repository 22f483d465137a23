/-
  PadSays: pads of any pairs, epochs and rounds, in either mode, and what is told of secrets, are what the document's own answers say: for either mode, every list of cells and any five numbers the law answers true and changes nothing that was there. Condition: the listed tables hold what the program lays there.
-/
import Derived.Test.YtolmfimpaofefaaGreatDoorPadX
import Derived.Test.YtolmfimpaofefaaGreatDoorPadP
import Derived.Test.YtolmfimpaofefaaGreatDoorRPadE
import Derived.Test.YtolmfimpaofefaaGreatDoorPaK
import Derived.Test.YtolmfimpaofefaaGreatDoorPaO
import Derived.Test.YtolmfimpaofefaaGreatDoorPadQ
namespace Go.Proofs.YtolmfimpaofefaaGreatDoor.LawPSy
open Go.ChangeShapes Go.WideShapes Go.ChangeAt Go.RowKit Mur Prt Lanes Tap Bkl Bkm Rec Cel Bkr Bkb Pad
open Go.ChangeMaps (open_string shut_string)
set_option maxRecDepth 100000
set_option linter.unusedSimpArgs false

theorem built_any (x y : Int) : Tryz.prog.built 36 [(0, .int .i64 x), (1, .int .i64 y)] = some #[.int .i64 x, .int .i64 y] := by kernel_rfl
theorem few_of {w : World} {b : Bk} {v : List Value} {A : Nat → Prop} (h : BkR w b v A) : RPad.Few v b := by
  obtain ⟨a4, x4, c4, g4, e4, -⟩ := h.at4.lit
  obtain ⟨a5, x5, c5, g5, e5, -⟩ := h.at5.lit
  exact ⟨h.len, h.one, ⟨a4, c4, by rw [e4]; exact g4⟩, ⟨a5, c5, by rw [e5]; exact g5⟩⟩
theorem size_of (l : List K) (hz : ∀ c ∈ l, c.1.size ≤ 140737488351232 ∧ c.2.size ≤ 140737488351232) : ∀ c ∈ toC l, c.2.length ≤ 140737488351232 := fun c hc => by
  obtain ⟨x, hx, rfl⟩ := List.mem_map.1 hc
  exact (hz x hx).2

set_option maxHeartbeats 25600000 in
theorem walk (con : Con) (i : Bool) (l : List K) (N : Nat) (a : Option Addr) (c : Nat) (n0 n1 n2 n3 n4 : Int) (wz : World) (hr : CelR wz a l) (hn : l.length = N) (hnm : N ≤ 9223372036854775807) (hnc : N ≤ c) (hz : ∀ c ∈ l, c.1.size ≤ 140737488351232 ∧ c.2.size ≤ 140737488351232) (h0 : InR n0) (h1 : InR n1) (h2 : InR n2) (h3 : InR n3) (h4 : InR n4) (hl : Laid wz) :
    Calls Tryz.prog 3 #[.bool i, .slice a N c, .agg #[.int .i64 n0, .int .i64 n1, .int .i64 n2, .int .i64 n3, .int .i64 n4]] wz fun e w' => e = .returned (.bool true) ∧ Below wz.heap.size wz w' := by
  have RA := Lib.hid (fun u (hu : Below wz.heap.size wz u) => awake_any con u (hl.below hu))
  have HM := Lib.hid (Hold.Hld.start wz)
  by_cases hg : 40 < N
  · have d1 : decide (40 < (N : Int)) = true := decide_eq_true (by omega)
    have d2 : decide (40 < N) = true := decide_eq_true hg
    clear hg hr hn hz hnm hnc
    go_enter Tryz.func3, Tryz.ntmps3
    go_wp2_with ((first
      | ((with_reducible refine Hold.boxK (t := 23) HM.out rfl rfl rfl ?_); clear HM; intro bn w hn hb HM; simp only [List.nil_append, List.cons_append] at HM; replace HM := Lib.hid HM; clear hn hb)
      | ((with_reducible refine (RA.out _ HM.out.below).mono ?_); rintro e w ⟨rfl, hb⟩; replace HM := Lib.hid (HM.out.next hb); clear hb)))
    go_ret
    exact ⟨rfl, HM.out.below⟩
  have d1 : decide (40 < (N : Int)) = false := decide_eq_false (by omega)
  have d2 : decide (40 < N) = false := decide_eq_false hg
  by_cases hg2 : 2000 < n4
  · have d3 : decide (2000 < n4) = true := decide_eq_true hg2
    clear hg hg2 hr hn hz hnm hnc
    go_enter Tryz.func3, Tryz.ntmps3
    go_upto_region 1 with ((with_reducible refine Hold.boxK (t := 23) HM.out rfl rfl rfl ?_); clear HM; intro bn w hn hb HM; simp only [List.nil_append, List.cons_append] at HM; replace HM := Lib.hid HM; clear hn hb)
    have q4 : w.cell? ⟨bn, 4, none⟩ = some (.int .i64 n4) := (HM.out.at 0 rfl).row.cell rfl
    go_wp2_with ((with_reducible refine (RA.out _ HM.out.below).mono ?_); rintro e w ⟨rfl, hb⟩; replace HM := Lib.hid (HM.out.next hb); clear hb q4)
    go_ret
    exact ⟨rfl, HM.out.below⟩
  have d3 : decide (2000 < n4) = false := decide_eq_false hg2
  obtain ⟨b0, hb0⟩ : ∃ b0, b0 = newB i (⟨#[115, 101, 101, 100]⟩ : ByteArray).data.toList (toC l) := ⟨_, rfl⟩
  have hsd : b0.seed = seedT := by rw [hb0]; rfl
  have hu0 : b0.used = [] := by rw [hb0]; rfl
  have hid0 : b0.ideal = i := by rw [hb0]; rfl
  have r0 : Room b0 900 := by rw [hb0]; exact (Room.new i _ (toC l) 40 (by decide) (by rw [toC_length]; omega)).more (by decide)
  have f0 : Brief b0 := fun hf x hx => by
    rw [hid0] at hf
    subst hf
    rw [hb0] at hx
    cases hx
  obtain ⟨b1, hb1⟩ : ∃ b1, b1 = padB b0 n0 n1 n2 n3 n4 := ⟨_, rfl⟩
  obtain ⟨X, hX⟩ : ∃ X, X = tx (padS b0 n0 n1 n2 n3 n4) := ⟨_, rfl⟩
  obtain ⟨SC, hSC⟩ : ∃ D, D = tx (secret b0.seed n0 n1 n2) := ⟨_, rfl⟩
  obtain ⟨SV, hSV⟩ : ∃ D, D = tx (server b0.seed n1 n2) := ⟨_, rfl⟩
  have hSCs : SC.size ≤ 1000 := by rw [hSC, tx_long, secret_length]; decide
  obtain ⟨E, hE⟩ : ∃ E, E = sE SC SV := ⟨_, rfl⟩
  obtain ⟨U, hU⟩ : ∃ U : ByteArray, U = (if sE SC SV = 0 then tx (Pad.of (sT SC SV).data.toList n3 n4) else ⟨#[]⟩) := ⟨_, rfl⟩
  obtain ⟨O, hO⟩ : ∃ O, O = tx (Pad.of SC.data.toList n3 n4) := ⟨_, rfl⟩
  obtain ⟨SH, hSH⟩ : ∃ S, S = Pad.shared b0.seed n0 n1 n2 := ⟨_, rfl⟩
  have R0 := Lib.hid (fun u (hu : Below wz.heap.size wz u) => RPad.new_ref i ⟨#[115, 101, 101, 100]⟩ l N a c b0 u hb0 (hr.below hu) hn (by omega) hnc)
  have RL := Lib.hid (fun A v u (h : BkR u b0 v A) (hu : Below wz.heap.size wz u) => con.pad A b0 b1 v n0 n1 n2 n3 n4 X u hX hb1 h r0 f0 h0 h1 h2 h3 h4 (hl.below hu))
  have RD := Lib.hid (fun A v u (h : BkR u b0 v A) => show Calls Tryz.prog 9 #[.agg v.toArray, .agg #[.int .i64 n0, .int .i64 n1], .int .i64 n2, .int .i64 n3, .int .i64 n4] u fun z w' => ∃ v', z = .returned (.tuple #[.string X, .agg v'.toArray]) ∧ RPad.Few v' b1 ∧ Below u.heap.size u w' from by
    rw [hb1]
    cases hi : i with
    | true => exact RPad.pad_ideal A b0 v n0 n1 n2 n3 n4 X u hX h hu0 (by rw [hid0, hi]) (by have := r0.cells; omega) (by rw [hb0, hi]; exact size_of l hz) h0.1 h0.2 h1.1 h1.2 h2.1 h2.2 h3.1 h3.2 h4.1 h4.2
    | false => exact RPad.pad_real A b0 v n0 n1 n2 n3 n4 X u hX h hu0 (by rw [hid0, hi]) (by rw [hb0, hi]; rfl) r0.seed h0.1 h0.2 h1.1 h1.2 h2.1 h2.2 h3.1 h3.2 h4.1 h4.2)
  have RSC := Lib.hid (fun A v u (h : BkR u b0 v A) => RPad.secret_any A b0 v n0 n1 n2 SC u hSC h r0.seed h0.1 h0.2 h1.1 h1.2 h2.1 h2.2)
  have RSV := Lib.hid (fun A v u (h : BkR u b0 v A) => RPad.server_any A b0 v n1 n2 SV u hSV h r0.seed h1.1 h1.2 h2.1 h2.2)
  have RU1 := Lib.hid (fun u (hu : Below wz.heap.size wz u) => con.reveal SC SV U E n3 n4 u hU hE h3 h4 (hl.below hu))
  have RU2 := Lib.hid (fun u => RPad.reveal_any SC SV U E n3 n4 u hU hE h3.1 h3.2 h4.1 h4.2)
  have RS1 := Lib.hid (fun A v u (h : BkR u b0 v A) (hu : Below wz.heap.size wz u) => con.secret A b0 v n0 n1 n2 SC u hSC h r0.seed h0 h1 h2 (hl.below hu))
  have RV1 := Lib.hid (fun A v u (h : BkR u b0 v A) (hu : Below wz.heap.size wz u) => con.server A b0 v n1 n2 SV u hSV h r0.seed h1 h2 (hl.below hu))
  have RO1 := Lib.hid (fun u (hu : Below wz.heap.size wz u) => con.of SC O n3 n4 u hO hSCs h3 h4 (hl.below hu))
  have RO2 := Lib.hid (fun u => RPad.of_any SC O n3 n4 u hO hSCs h3.1 h3.2 h4.1 h4.2)
  have RH1 := Lib.hid (fun A v u (h : BkR u b0 v A) (hu : Below wz.heap.size wz u) => con.shared A b0 v n0 n1 n2 SH u hSH h r0.seed h0 h1 h2 (hl.below hu))
  have RH2 := Lib.hid (fun A v u (h : BkR u b0 v A) => RPad.shared_any A b0 v n0 n1 n2 SH u hSH h r0.seed h0.1 h0.2 h1.1 h1.2 h2.1 h2.2)
  have t1 : (X.toList == X.toList) = true := by simp
  have t2 : (SC.toList == SC.toList) = true := by simp
  have t3 : (SV.toList == SV.toList) = true := by simp
  have t4 : (U.toList == U.toList) = true := by simp
  have t5 : (E == E) = true := by simp
  have t6 : (O.toList == O.toList) = true := by simp
  have t7 : (SH.toList == SH.toList) = true := by simp
  have hbs := built_shape
  have hbt := built_any n0 n1
  clear hb0 hsd hu0 hid0 r0 f0 hb1 hX hSC hSV hSCs hE hU hO hSH hr hn hnm hnc hz h0 h1 h2 h3 h4 hl hg hg2
  go_enter Tryz.func3, Tryz.ntmps3
  go_upto_region 1 with ((with_reducible refine Hold.boxK (t := 23) HM.out rfl rfl rfl ?_); clear HM; intro bn w hn hb HM; simp only [List.nil_append, List.cons_append] at HM; replace HM := Lib.hid HM; clear hn hb)
  have q4 : w.cell? ⟨bn, 4, none⟩ = some (.int .i64 n4) := (HM.out.at 0 rfl).row.cell rfl
  go_upto_region 3 with fail
  clear q4
  go_upto_region 4 with ((first
    | ((refine Hold.build (t := 26) (parts := #[(0, .const (.int .i64 2)), (1, .const (.int .i64 1))]) (cs := shV) rfl rfl ?_ ?_); focus (exact hbs))
    | ((with_reducible refine (R0.out _ HM.out.below).mono ?_); rintro e w ⟨v0, rfl, hv, hb⟩; have HV := Lib.hid (hv.mono (A' := Off [⟨bn, 23, [.int .i64 n0, .int .i64 n1, .int .i64 n2, .int .i64 n3, .int .i64 n4]⟩]) (fun k _ hk x hx e => by have := (HM.out.whole x hx).lt; omega)); replace HM := Lib.hid (HM.out.next hb); clear hv hb)
    | ((with_reducible refine Hold.allocK HM.out rfl rfl zeroBk zero_bk ?_); clear HM; intro b7 w hn hb HM; simp only [List.nil_append, List.cons_append] at HM; replace HM := Lib.hid HM; replace HV := Lib.hid (HV.out.alloc (t := 30) (z := zeroBk) hn hb); simp only [List.nil_append, List.cons_append] at HV; clear hn hb)
    | ((with_reducible refine Hold.storeK HM.out 1 (v' := v0) rfl rfl rfl rfl rfl (bkFits HV.out.len zero_len) (bkLaid HV.out.len zero_len) HV.out.one (bkRowOf HV.out.len) ?_); clear HM; intro w hbt HM; simp only [List.set_cons_zero, List.set_cons_succ] at HM; replace HM := Lib.hid HM; replace HV := Lib.hid (HV.out.stored (i := 1) (z' := v0) rfl hbt); simp only [List.set_cons_zero, List.set_cons_succ] at HV; clear hbt)))
  go_upto_region 5 with ((first
    | (with_reducible refine Hold.load HM.out 1 (cs := v0) rfl rfl rfl rfl (Hold.Part.all _) (bkRowOf HV.out.len) ?_)
    | (with_reducible refine Hold.load1 HM.out 0 (c := .int .i64 n0) rfl rfl rfl rfl rfl Bkr.cellInt ?_)
    | (with_reducible refine Hold.load1 HM.out 0 (c := .int .i64 n1) rfl rfl rfl rfl rfl Bkr.cellInt ?_)
    | (with_reducible refine Hold.load1 HM.out 0 (c := .int .i64 n2) rfl rfl rfl rfl rfl Bkr.cellInt ?_)
    | (with_reducible refine Hold.load1 HM.out 0 (c := .int .i64 n3) rfl rfl rfl rfl rfl Bkr.cellInt ?_)
    | (with_reducible refine Hold.load1 HM.out 0 (c := .int .i64 n4) rfl rfl rfl rfl rfl Bkr.cellInt ?_)
    | ((refine Hold.build (t := 36) (parts := #[(0, .tmp 38), (1, .tmp 40)]) (cs := [.int .i64 n0, .int .i64 n1]) rfl rfl ?_ ?_); focus (exact hbt))
    | ((with_reducible refine (RL.out _ _ _ HV.out HM.out.below).mono ?_); rintro e w ⟨v1, rfl, hv, hb⟩; have F1 := Lib.hid (few_of hv); replace HV := Lib.hid (HV.out.below hb); replace HM := Lib.hid (HM.out.next hb); clear hv hb)
    | ((with_reducible refine Hold.allocK HM.out rfl rfl zeroBk zero_bk ?_); clear HM; intro b10 w hn hb HM; simp only [List.nil_append, List.cons_append] at HM; replace HM := Lib.hid HM; replace HV := Lib.hid (HV.out.alloc (t := 30) (z := zeroBk) hn hb); simp only [List.nil_append, List.cons_append] at HV; clear hn hb)
    | ((with_reducible refine Hold.storeK HM.out 2 (v' := v1) rfl rfl rfl rfl rfl (bkFits F1.out.len zero_len) (bkLaid F1.out.len zero_len) F1.out.one (bkRowOf F1.out.len) ?_); clear HM; intro w hbt HM; simp only [List.set_cons_zero, List.set_cons_succ] at HM; replace HM := Lib.hid HM; replace HV := Lib.hid (HV.out.stored (i := 2) (z' := v1) rfl hbt); simp only [List.set_cons_zero, List.set_cons_succ] at HV; clear hbt)))
  go_upto_region 6 with ((first
    | (with_reducible refine Hold.load HM.out 1 (cs := v0) rfl rfl rfl rfl (Hold.Part.all _) (bkRowOf HV.out.len) ?_)
    | (with_reducible refine Hold.load1 HM.out 0 (c := .int .i64 n0) rfl rfl rfl rfl rfl Bkr.cellInt ?_)
    | (with_reducible refine Hold.load1 HM.out 0 (c := .int .i64 n1) rfl rfl rfl rfl rfl Bkr.cellInt ?_)
    | (with_reducible refine Hold.load1 HM.out 0 (c := .int .i64 n2) rfl rfl rfl rfl rfl Bkr.cellInt ?_)
    | (with_reducible refine Hold.load1 HM.out 0 (c := .int .i64 n3) rfl rfl rfl rfl rfl Bkr.cellInt ?_)
    | (with_reducible refine Hold.load1 HM.out 0 (c := .int .i64 n4) rfl rfl rfl rfl rfl Bkr.cellInt ?_)
    | ((refine Hold.build (t := 36) (parts := #[(0, .tmp 54), (1, .tmp 56)]) (cs := [.int .i64 n0, .int .i64 n1]) rfl rfl ?_ ?_); focus (exact hbt))
    | ((with_reducible refine (RD.out _ _ _ HV.out).mono ?_); rintro e w ⟨v2, rfl, hv, hb⟩; have F2 := Lib.hid hv; replace HV := Lib.hid (HV.out.below hb); replace HM := Lib.hid (HM.out.next hb); clear hv hb)
    | ((with_reducible refine Hold.allocK HM.out rfl rfl zeroBk zero_bk ?_); clear HM; intro b12 w hn hb HM; simp only [List.nil_append, List.cons_append] at HM; replace HM := Lib.hid HM; replace HV := Lib.hid (HV.out.alloc (t := 30) (z := zeroBk) hn hb); simp only [List.nil_append, List.cons_append] at HV; clear hn hb)
    | ((with_reducible refine Hold.storeK HM.out 3 (v' := v2) rfl rfl rfl rfl rfl (bkFits F2.out.len zero_len) (bkLaid F2.out.len zero_len) F2.out.one (bkRowOf F2.out.len) ?_); clear HM; intro w hbt HM; simp only [List.set_cons_zero, List.set_cons_succ] at HM; replace HM := Lib.hid HM; replace HV := Lib.hid (HV.out.stored (i := 3) (z' := v2) rfl hbt); simp only [List.set_cons_zero, List.set_cons_succ] at HV; clear hbt)))
  refine Steady.region 15 (by kernel_rfl) (by kernel_rfl) (fun u => Below w.heap.size w u) (Below.refl _ _).drew ?_
  simp only [List.take_succ_cons, List.take_zero, List.drop_succ_cons, List.drop_zero]
  refine Steady.take (.agg (v0).toArray) rfl (fun u hu => Hold.load_run (HM.out.next hu) 1 rfl rfl rfl (Hold.Part.all _) (bkRowOf HV.out.len)) ?_
  simp only [Act.put, List.setIfInBounds_toArray, List.set_cons_zero, List.set_cons_succ]
  refine Steady.take ?_ rfl (by intro u hu; go_simp; with_reducible rfl) ?_
  simp only [Act.put, List.setIfInBounds_toArray, List.set_cons_zero, List.set_cons_succ]
  refine Steady.take (.int .i64 n0) rfl (fun u hu => Hold.load1_run (HM.out.next hu) 0 rfl rfl rfl (rfl) (Bkr.cellInt)) ?_
  simp only [Act.put, List.setIfInBounds_toArray, List.set_cons_zero, List.set_cons_succ]
  refine Steady.take ?_ rfl (by intro u hu; go_simp; with_reducible rfl) ?_
  simp only [Act.put, List.setIfInBounds_toArray, List.set_cons_zero, List.set_cons_succ]
  refine Steady.take (.int .i64 n1) rfl (fun u hu => Hold.load1_run (HM.out.next hu) 0 rfl rfl rfl (rfl) (Bkr.cellInt)) ?_
  simp only [Act.put, List.setIfInBounds_toArray, List.set_cons_zero, List.set_cons_succ]
  refine Steady.take ?_ rfl (by intro u hu; go_simp; with_reducible rfl) ?_
  simp only [Act.put, List.setIfInBounds_toArray, List.set_cons_zero, List.set_cons_succ]
  refine Steady.take (.int .i64 n2) rfl (fun u hu => Hold.load1_run (HM.out.next hu) 0 rfl rfl rfl (rfl) (Bkr.cellInt)) ?_
  simp only [Act.put, List.setIfInBounds_toArray, List.set_cons_zero, List.set_cons_succ]
  refine Steady.call _ _ _ rfl ?_ (Chn.keptIf (fun u hu => RSC.out _ _ u (HV.out.below hu))) ?_
  · intro u
    go_simp
  simp only [Act.put, List.setIfInBounds_toArray, List.set_cons_zero, List.set_cons_succ]
  refine Steady.take (.agg (v0).toArray) rfl (fun u hu => Hold.load_run (HM.out.next hu) 1 rfl rfl rfl (Hold.Part.all _) (bkRowOf HV.out.len)) ?_
  simp only [Act.put, List.setIfInBounds_toArray, List.set_cons_zero, List.set_cons_succ]
  refine Steady.take ?_ rfl (by intro u hu; go_simp; with_reducible rfl) ?_
  simp only [Act.put, List.setIfInBounds_toArray, List.set_cons_zero, List.set_cons_succ]
  refine Steady.take (.int .i64 n1) rfl (fun u hu => Hold.load1_run (HM.out.next hu) 0 rfl rfl rfl (rfl) (Bkr.cellInt)) ?_
  simp only [Act.put, List.setIfInBounds_toArray, List.set_cons_zero, List.set_cons_succ]
  refine Steady.take ?_ rfl (by intro u hu; go_simp; with_reducible rfl) ?_
  simp only [Act.put, List.setIfInBounds_toArray, List.set_cons_zero, List.set_cons_succ]
  refine Steady.take (.int .i64 n2) rfl (fun u hu => Hold.load1_run (HM.out.next hu) 0 rfl rfl rfl (rfl) (Bkr.cellInt)) ?_
  simp only [Act.put, List.setIfInBounds_toArray, List.set_cons_zero, List.set_cons_succ]
  refine Steady.call _ _ _ rfl ?_ (Chn.keptIf (fun u hu => RSV.out _ _ u (HV.out.below hu))) ?_
  · intro u
    go_simp
  simp only [Act.put, List.setIfInBounds_toArray, List.set_cons_zero, List.set_cons_succ]
  refine Steady.take ?_ rfl (by intro u hu; go_simp; with_reducible rfl) ?_
  simp only [Act.put, List.setIfInBounds_toArray, List.set_cons_zero, List.set_cons_succ]
  refine Steady.nil ?_
  intro w1 hb1
  replace HM := Lib.hid (HM.out.next hb1)
  replace HV := Lib.hid (HV.out.below hb1)
  clear hb1
  go_upto_region 8 with ((first
    | (with_reducible refine Hold.load1 HM.out 0 (c := .int .i64 n3) rfl rfl rfl rfl rfl Bkr.cellInt ?_)
    | (with_reducible refine Hold.load1 HM.out 0 (c := .int .i64 n4) rfl rfl rfl rfl rfl Bkr.cellInt ?_)
    | ((with_reducible refine (RU1.out _ HM.out.below).mono ?_); rintro e w ⟨rfl, hb⟩; replace HV := Lib.hid (HV.out.below hb); replace HM := Lib.hid (HM.out.next hb); clear hb)))
  obtain ⟨la4, lc4, f4⟩ := F1.out.at4
  obtain ⟨la5, lc5, f5⟩ := F1.out.at5
  obtain ⟨ra4, rc4, g4⟩ := F2.out.at4
  obtain ⟨ra5, rc5, g5⟩ := F2.out.at5
  generalize b1.cells.length = k4 at *
  generalize b1.used.length = k5 at *
  have F4 := Lib.hid (And.intro f4 (And.intro f5 (And.intro g4 g5)))
  clear f4 f5 g4 g5 F1 F2
  go_upto_region 9 with ((first
    | (with_reducible refine Hold.load1 HM.out 0 (c := .int .i64 n3) rfl rfl rfl rfl rfl Bkr.cellInt ?_)
    | (with_reducible refine Hold.load1 HM.out 0 (c := .int .i64 n4) rfl rfl rfl rfl rfl Bkr.cellInt ?_)
    | ((with_reducible refine (RU2.out _).mono ?_); rintro e w ⟨rfl, hb⟩; replace HV := Lib.hid (HV.out.below hb); replace HM := Lib.hid (HM.out.next hb); clear hb)))
  refine Steady.region 90 (by kernel_rfl) (by exact PadQ.tail9) (fun u => Below w.heap.size w u) (Below.refl _ _).drew ?_
  simp only [List.append_eq, List.cons_append, List.nil_append, List.take_succ_cons, List.take_zero, List.drop_succ_cons, List.drop_zero]
  refine Steady.take ?_ rfl (by intro u hu; go_simp; with_reducible rfl) ?_
  simp only [Act.put, List.setIfInBounds_toArray, List.set_cons_zero, List.set_cons_succ]
  refine Steady.take ?_ rfl (by intro u hu; go_simp; with_reducible rfl) ?_
  simp only [Act.put, List.setIfInBounds_toArray, List.set_cons_zero, List.set_cons_succ]
  refine Steady.take ?_ rfl (by intro u hu; go_simp; with_reducible rfl) ?_
  simp only [Act.put, List.setIfInBounds_toArray, List.set_cons_zero, List.set_cons_succ]
  refine Steady.take ?_ rfl (by intro u hu; go_simp; with_reducible rfl) ?_
  simp only [Act.put, List.setIfInBounds_toArray, List.set_cons_zero, List.set_cons_succ]
  refine Steady.take ?_ rfl (by intro u hu; go_simp; with_reducible rfl) ?_
  simp only [Act.put, List.setIfInBounds_toArray, List.set_cons_zero, List.set_cons_succ]
  refine Steady.take (.slice la5 k5 lc5) rfl (fun u hu => Hold.load1_run (HM.out.next hu) 2 rfl rfl rfl (F4.out.2.1) (cellC)) ?_
  simp only [Act.put, List.setIfInBounds_toArray, List.set_cons_zero, List.set_cons_succ]
  refine Steady.take ?_ rfl (by intro u hu; go_simp; with_reducible rfl) ?_
  simp only [Act.put, List.setIfInBounds_toArray, List.set_cons_zero, List.set_cons_succ]
  refine Steady.take ?_ rfl (by intro u hu; go_simp; with_reducible rfl) ?_
  simp only [Act.put, List.setIfInBounds_toArray, List.set_cons_zero, List.set_cons_succ]
  refine Steady.take (.slice ra5 k5 rc5) rfl (fun u hu => Hold.load1_run (HM.out.next hu) 3 rfl rfl rfl (F4.out.2.2.2) (cellC)) ?_
  simp only [Act.put, List.setIfInBounds_toArray, List.set_cons_zero, List.set_cons_succ]
  refine Steady.take ?_ rfl (by intro u hu; go_simp; with_reducible rfl) ?_
  simp only [Act.put, List.setIfInBounds_toArray, List.set_cons_zero, List.set_cons_succ]
  refine Steady.take ?_ rfl (by intro u hu; go_simp; with_reducible rfl) ?_
  simp only [Act.put, List.setIfInBounds_toArray, List.set_cons_zero, List.set_cons_succ]
  refine Steady.take ?_ rfl (by intro u hu; go_simp; with_reducible rfl) ?_
  simp only [Act.put, List.setIfInBounds_toArray, List.set_cons_zero, List.set_cons_succ]
  refine Steady.take ?_ rfl (by intro u hu; go_simp; with_reducible rfl) ?_
  simp only [Act.put, List.setIfInBounds_toArray, List.set_cons_zero, List.set_cons_succ]
  refine Steady.take ?_ rfl (by intro u hu; go_simp; with_reducible rfl) ?_
  simp only [Act.put, List.setIfInBounds_toArray, List.set_cons_zero, List.set_cons_succ]
  refine Steady.take (.slice la4 k4 lc4) rfl (fun u hu => Hold.load1_run (HM.out.next hu) 2 rfl rfl rfl (F4.out.1) (cellC)) ?_
  simp only [Act.put, List.setIfInBounds_toArray, List.set_cons_zero, List.set_cons_succ]
  refine Steady.take ?_ rfl (by intro u hu; go_simp; with_reducible rfl) ?_
  simp only [Act.put, List.setIfInBounds_toArray, List.set_cons_zero, List.set_cons_succ]
  refine Steady.take ?_ rfl (by intro u hu; go_simp; with_reducible rfl) ?_
  simp only [Act.put, List.setIfInBounds_toArray, List.set_cons_zero, List.set_cons_succ]
  refine Steady.take (.slice ra4 k4 rc4) rfl (fun u hu => Hold.load1_run (HM.out.next hu) 3 rfl rfl rfl (F4.out.2.2.1) (cellC)) ?_
  simp only [Act.put, List.setIfInBounds_toArray, List.set_cons_zero, List.set_cons_succ]
  refine Steady.take ?_ rfl (by intro u hu; go_simp; with_reducible rfl) ?_
  simp only [Act.put, List.setIfInBounds_toArray, List.set_cons_zero, List.set_cons_succ]
  refine Steady.take ?_ rfl (by intro u hu; go_simp; with_reducible rfl) ?_
  simp only [Act.put, List.setIfInBounds_toArray, List.set_cons_zero, List.set_cons_succ]
  refine Steady.take ?_ rfl (by intro u hu; go_simp; with_reducible rfl) ?_
  simp only [Act.put, List.setIfInBounds_toArray, List.set_cons_zero, List.set_cons_succ]
  refine Steady.take ?_ rfl (by intro u hu; go_simp; with_reducible rfl) ?_
  simp only [Act.put, List.setIfInBounds_toArray, List.set_cons_zero, List.set_cons_succ]
  refine Steady.take (.agg (v0).toArray) rfl (fun u hu => Hold.load_run (HM.out.next hu) 1 rfl rfl rfl (Hold.Part.all _) (bkRowOf HV.out.len)) ?_
  simp only [Act.put, List.setIfInBounds_toArray, List.set_cons_zero, List.set_cons_succ]
  refine Steady.take ?_ rfl (by intro u hu; go_simp; with_reducible rfl) ?_
  simp only [Act.put, List.setIfInBounds_toArray, List.set_cons_zero, List.set_cons_succ]
  refine Steady.take (.int .i64 n0) rfl (fun u hu => Hold.load1_run (HM.out.next hu) 0 rfl rfl rfl (rfl) (Bkr.cellInt)) ?_
  simp only [Act.put, List.setIfInBounds_toArray, List.set_cons_zero, List.set_cons_succ]
  refine Steady.take ?_ rfl (by intro u hu; go_simp; with_reducible rfl) ?_
  simp only [Act.put, List.setIfInBounds_toArray, List.set_cons_zero, List.set_cons_succ]
  refine Steady.take (.int .i64 n1) rfl (fun u hu => Hold.load1_run (HM.out.next hu) 0 rfl rfl rfl (rfl) (Bkr.cellInt)) ?_
  simp only [Act.put, List.setIfInBounds_toArray, List.set_cons_zero, List.set_cons_succ]
  refine Steady.take ?_ rfl (by intro u hu; go_simp; with_reducible rfl) ?_
  simp only [Act.put, List.setIfInBounds_toArray, List.set_cons_zero, List.set_cons_succ]
  refine Steady.take (.int .i64 n2) rfl (fun u hu => Hold.load1_run (HM.out.next hu) 0 rfl rfl rfl (rfl) (Bkr.cellInt)) ?_
  simp only [Act.put, List.setIfInBounds_toArray, List.set_cons_zero, List.set_cons_succ]
  refine Steady.call _ _ _ rfl ?_ (Chn.keptIf (fun u hu => RS1.out _ _ u (HV.out.below hu) (HM.out.next hu).below)) ?_
  · intro u
    go_simp
  simp only [Act.put, List.setIfInBounds_toArray, List.set_cons_zero, List.set_cons_succ]
  refine Steady.take ?_ rfl (by intro u hu; go_simp; with_reducible rfl) ?_
  simp only [Act.put, List.setIfInBounds_toArray, List.set_cons_zero, List.set_cons_succ]
  refine Steady.take ?_ rfl (by intro u hu; go_simp; with_reducible rfl) ?_
  simp only [Act.put, List.setIfInBounds_toArray, List.set_cons_zero, List.set_cons_succ]
  refine Steady.take ?_ rfl (by intro u hu; go_simp; with_reducible rfl) ?_
  simp only [Act.put, List.setIfInBounds_toArray, List.set_cons_zero, List.set_cons_succ]
  refine Steady.take ?_ rfl (by intro u hu; go_simp; with_reducible rfl) ?_
  simp only [Act.put, List.setIfInBounds_toArray, List.set_cons_zero, List.set_cons_succ]
  refine Steady.take (.agg (v0).toArray) rfl (fun u hu => Hold.load_run (HM.out.next hu) 1 rfl rfl rfl (Hold.Part.all _) (bkRowOf HV.out.len)) ?_
  simp only [Act.put, List.setIfInBounds_toArray, List.set_cons_zero, List.set_cons_succ]
  refine Steady.take ?_ rfl (by intro u hu; go_simp; with_reducible rfl) ?_
  simp only [Act.put, List.setIfInBounds_toArray, List.set_cons_zero, List.set_cons_succ]
  refine Steady.take (.int .i64 n1) rfl (fun u hu => Hold.load1_run (HM.out.next hu) 0 rfl rfl rfl (rfl) (Bkr.cellInt)) ?_
  simp only [Act.put, List.setIfInBounds_toArray, List.set_cons_zero, List.set_cons_succ]
  refine Steady.take ?_ rfl (by intro u hu; go_simp; with_reducible rfl) ?_
  simp only [Act.put, List.setIfInBounds_toArray, List.set_cons_zero, List.set_cons_succ]
  refine Steady.take (.int .i64 n2) rfl (fun u hu => Hold.load1_run (HM.out.next hu) 0 rfl rfl rfl (rfl) (Bkr.cellInt)) ?_
  simp only [Act.put, List.setIfInBounds_toArray, List.set_cons_zero, List.set_cons_succ]
  refine Steady.call _ _ _ rfl ?_ (Chn.keptIf (fun u hu => RV1.out _ _ u (HV.out.below hu) (HM.out.next hu).below)) ?_
  · intro u
    go_simp
  simp only [Act.put, List.setIfInBounds_toArray, List.set_cons_zero, List.set_cons_succ]
  refine Steady.take ?_ rfl (by intro u hu; go_simp; with_reducible rfl) ?_
  simp only [Act.put, List.setIfInBounds_toArray, List.set_cons_zero, List.set_cons_succ]
  refine Steady.take ?_ rfl (by intro u hu; go_simp; with_reducible rfl) ?_
  simp only [Act.put, List.setIfInBounds_toArray, List.set_cons_zero, List.set_cons_succ]
  refine Steady.take ?_ rfl (by intro u hu; go_simp; with_reducible rfl) ?_
  simp only [Act.put, List.setIfInBounds_toArray, List.set_cons_zero, List.set_cons_succ]
  refine Steady.take ?_ rfl (by intro u hu; go_simp; with_reducible rfl) ?_
  simp only [Act.put, List.setIfInBounds_toArray, List.set_cons_zero, List.set_cons_succ]
  refine Steady.take ?_ rfl (by intro u hu; go_simp; with_reducible rfl) ?_
  simp only [Act.put, List.setIfInBounds_toArray, List.set_cons_zero, List.set_cons_succ]
  refine Steady.take ?_ rfl (by intro u hu; go_simp; with_reducible rfl) ?_
  simp only [Act.put, List.setIfInBounds_toArray, List.set_cons_zero, List.set_cons_succ]
  refine Steady.take ?_ rfl (by intro u hu; go_simp; with_reducible rfl) ?_
  simp only [Act.put, List.setIfInBounds_toArray, List.set_cons_zero, List.set_cons_succ]
  refine Steady.take ?_ rfl (by intro u hu; go_simp; with_reducible rfl) ?_
  simp only [Act.put, List.setIfInBounds_toArray, List.set_cons_zero, List.set_cons_succ]
  refine Steady.take ?_ rfl (by intro u hu; go_simp; with_reducible rfl) ?_
  simp only [Act.put, List.setIfInBounds_toArray, List.set_cons_zero, List.set_cons_succ]
  refine Steady.take ?_ rfl (by intro u hu; go_simp; with_reducible rfl) ?_
  simp only [Act.put, List.setIfInBounds_toArray, List.set_cons_zero, List.set_cons_succ]
  refine Steady.take ?_ rfl (by intro u hu; go_simp; with_reducible rfl) ?_
  simp only [Act.put, List.setIfInBounds_toArray, List.set_cons_zero, List.set_cons_succ]
  refine Steady.take ?_ rfl (by intro u hu; go_simp; with_reducible rfl) ?_
  simp only [Act.put, List.setIfInBounds_toArray, List.set_cons_zero, List.set_cons_succ]
  refine Steady.take ?_ rfl (by intro u hu; go_simp; with_reducible rfl) ?_
  simp only [Act.put, List.setIfInBounds_toArray, List.set_cons_zero, List.set_cons_succ]
  refine Steady.take ?_ rfl (by intro u hu; go_simp; with_reducible rfl) ?_
  simp only [Act.put, List.setIfInBounds_toArray, List.set_cons_zero, List.set_cons_succ]
  refine Steady.take ?_ rfl (by intro u hu; go_simp; with_reducible rfl) ?_
  simp only [Act.put, List.setIfInBounds_toArray, List.set_cons_zero, List.set_cons_succ]
  refine Steady.take ?_ rfl (by intro u hu; go_simp; with_reducible rfl) ?_
  simp only [Act.put, List.setIfInBounds_toArray, List.set_cons_zero, List.set_cons_succ]
  refine Steady.take (.int .i64 n3) rfl (fun u hu => Hold.load1_run (HM.out.next hu) 0 rfl rfl rfl (rfl) (Bkr.cellInt)) ?_
  simp only [Act.put, List.setIfInBounds_toArray, List.set_cons_zero, List.set_cons_succ]
  refine Steady.take ?_ rfl (by intro u hu; go_simp; with_reducible rfl) ?_
  simp only [Act.put, List.setIfInBounds_toArray, List.set_cons_zero, List.set_cons_succ]
  refine Steady.take (.int .i64 n4) rfl (fun u hu => Hold.load1_run (HM.out.next hu) 0 rfl rfl rfl (rfl) (Bkr.cellInt)) ?_
  simp only [Act.put, List.setIfInBounds_toArray, List.set_cons_zero, List.set_cons_succ]
  refine Steady.call _ _ _ rfl ?_ (Chn.keptIf (fun u hu => RO1.out u (HM.out.next hu).below)) ?_
  · intro u
    go_simp
  simp only [Act.put, List.setIfInBounds_toArray, List.set_cons_zero, List.set_cons_succ]
  refine Steady.take ?_ rfl (by intro u hu; go_simp; with_reducible rfl) ?_
  simp only [Act.put, List.setIfInBounds_toArray, List.set_cons_zero, List.set_cons_succ]
  refine Steady.take ?_ rfl (by intro u hu; go_simp; with_reducible rfl) ?_
  simp only [Act.put, List.setIfInBounds_toArray, List.set_cons_zero, List.set_cons_succ]
  refine Steady.take (.int .i64 n3) rfl (fun u hu => Hold.load1_run (HM.out.next hu) 0 rfl rfl rfl (rfl) (Bkr.cellInt)) ?_
  simp only [Act.put, List.setIfInBounds_toArray, List.set_cons_zero, List.set_cons_succ]
  refine Steady.take ?_ rfl (by intro u hu; go_simp; with_reducible rfl) ?_
  simp only [Act.put, List.setIfInBounds_toArray, List.set_cons_zero, List.set_cons_succ]
  refine Steady.take (.int .i64 n4) rfl (fun u hu => Hold.load1_run (HM.out.next hu) 0 rfl rfl rfl (rfl) (Bkr.cellInt)) ?_
  simp only [Act.put, List.setIfInBounds_toArray, List.set_cons_zero, List.set_cons_succ]
  refine Steady.call _ _ _ rfl ?_ (Chn.keptIf (fun u hu => RO2.out u)) ?_
  · intro u
    go_simp
  simp only [Act.put, List.setIfInBounds_toArray, List.set_cons_zero, List.set_cons_succ]
  refine Steady.take ?_ rfl (by intro u hu; go_simp; with_reducible rfl) ?_
  simp only [Act.put, List.setIfInBounds_toArray, List.set_cons_zero, List.set_cons_succ]
  refine Steady.take ?_ rfl (by intro u hu; go_simp; with_reducible rfl) ?_
  simp only [Act.put, List.setIfInBounds_toArray, List.set_cons_zero, List.set_cons_succ]
  refine Steady.take ?_ rfl (by intro u hu; go_simp; with_reducible rfl) ?_
  simp only [Act.put, List.setIfInBounds_toArray, List.set_cons_zero, List.set_cons_succ]
  refine Steady.take (.agg (v0).toArray) rfl (fun u hu => Hold.load_run (HM.out.next hu) 1 rfl rfl rfl (Hold.Part.all _) (bkRowOf HV.out.len)) ?_
  simp only [Act.put, List.setIfInBounds_toArray, List.set_cons_zero, List.set_cons_succ]
  refine Steady.take ?_ rfl (by intro u hu; go_simp; with_reducible rfl) ?_
  simp only [Act.put, List.setIfInBounds_toArray, List.set_cons_zero, List.set_cons_succ]
  refine Steady.take (.int .i64 n0) rfl (fun u hu => Hold.load1_run (HM.out.next hu) 0 rfl rfl rfl (rfl) (Bkr.cellInt)) ?_
  simp only [Act.put, List.setIfInBounds_toArray, List.set_cons_zero, List.set_cons_succ]
  refine Steady.take ?_ rfl (by intro u hu; go_simp; with_reducible rfl) ?_
  simp only [Act.put, List.setIfInBounds_toArray, List.set_cons_zero, List.set_cons_succ]
  refine Steady.take (.int .i64 n1) rfl (fun u hu => Hold.load1_run (HM.out.next hu) 0 rfl rfl rfl (rfl) (Bkr.cellInt)) ?_
  simp only [Act.put, List.setIfInBounds_toArray, List.set_cons_zero, List.set_cons_succ]
  refine Steady.take ?_ rfl (by intro u hu; go_simp; with_reducible rfl) ?_
  simp only [Act.put, List.setIfInBounds_toArray, List.set_cons_zero, List.set_cons_succ]
  refine Steady.take (.int .i64 n2) rfl (fun u hu => Hold.load1_run (HM.out.next hu) 0 rfl rfl rfl (rfl) (Bkr.cellInt)) ?_
  simp only [Act.put, List.setIfInBounds_toArray, List.set_cons_zero, List.set_cons_succ]
  refine Steady.call _ _ _ rfl ?_ (Chn.keptIf (fun u hu => RH1.out _ _ u (HV.out.below hu) (HM.out.next hu).below)) ?_
  · intro u
    go_simp
  simp only [Act.put, List.setIfInBounds_toArray, List.set_cons_zero, List.set_cons_succ]
  refine Steady.take (.agg (v0).toArray) rfl (fun u hu => Hold.load_run (HM.out.next hu) 1 rfl rfl rfl (Hold.Part.all _) (bkRowOf HV.out.len)) ?_
  simp only [Act.put, List.setIfInBounds_toArray, List.set_cons_zero, List.set_cons_succ]
  refine Steady.take ?_ rfl (by intro u hu; go_simp; with_reducible rfl) ?_
  simp only [Act.put, List.setIfInBounds_toArray, List.set_cons_zero, List.set_cons_succ]
  refine Steady.take (.int .i64 n0) rfl (fun u hu => Hold.load1_run (HM.out.next hu) 0 rfl rfl rfl (rfl) (Bkr.cellInt)) ?_
  simp only [Act.put, List.setIfInBounds_toArray, List.set_cons_zero, List.set_cons_succ]
  refine Steady.take ?_ rfl (by intro u hu; go_simp; with_reducible rfl) ?_
  simp only [Act.put, List.setIfInBounds_toArray, List.set_cons_zero, List.set_cons_succ]
  refine Steady.take (.int .i64 n1) rfl (fun u hu => Hold.load1_run (HM.out.next hu) 0 rfl rfl rfl (rfl) (Bkr.cellInt)) ?_
  simp only [Act.put, List.setIfInBounds_toArray, List.set_cons_zero, List.set_cons_succ]
  refine Steady.take ?_ rfl (by intro u hu; go_simp; with_reducible rfl) ?_
  simp only [Act.put, List.setIfInBounds_toArray, List.set_cons_zero, List.set_cons_succ]
  refine Steady.take (.int .i64 n2) rfl (fun u hu => Hold.load1_run (HM.out.next hu) 0 rfl rfl rfl (rfl) (Bkr.cellInt)) ?_
  simp only [Act.put, List.setIfInBounds_toArray, List.set_cons_zero, List.set_cons_succ]
  refine Steady.call _ _ _ rfl ?_ (Chn.keptIf (fun u hu => RH2.out _ _ u (HV.out.below hu))) ?_
  · intro u
    go_simp
  simp only [Act.put, List.setIfInBounds_toArray, List.set_cons_zero, List.set_cons_succ]
  refine Steady.take ?_ rfl (by intro u hu; go_simp; with_reducible rfl) ?_
  simp only [Act.put, List.setIfInBounds_toArray, List.set_cons_zero, List.set_cons_succ]
  refine Steady.take ?_ rfl (by intro u hu; go_simp; with_reducible rfl) ?_
  simp only [Act.put, List.setIfInBounds_toArray, List.set_cons_zero, List.set_cons_succ]
  refine Steady.take ?_ rfl (by intro u hu; go_simp; with_reducible rfl) ?_
  simp only [Act.put, List.setIfInBounds_toArray, List.set_cons_zero, List.set_cons_succ]
  refine Steady.call _ _ _ rfl ?_ (Chn.keptIf (fun u hu => RA.out u (HM.out.next hu).below)) ?_
  · intro u
    go_simp
  simp only [Act.put, List.setIfInBounds_toArray, List.set_cons_zero, List.set_cons_succ]
  refine Steady.take ?_ rfl (by intro u hu; go_simp; with_reducible rfl) ?_
  simp only [Act.put, List.setIfInBounds_toArray, List.set_cons_zero, List.set_cons_succ]
  refine Steady.nil ?_
  intro w1 hb1
  replace HM := Lib.hid (HM.out.next hb1)
  replace HV := Lib.hid (HV.out.below hb1)
  clear hb1
  go_wp2
  go_ret
  exact ⟨rfl, HM.out.below⟩

set_option maxHeartbeats 1600000 in
theorem lifted (con : Con) (os : Os) (started : os.Started) (H : Type) (enc : TypeId × Value → H) :
    ReturnsInHanded {} Tryz.checked os 3 .any (fun w args => (Rows.padSaysSpec.pre enc Tryz.prog Tryz.f3 [] false w args ∧ laidMetH Tryz.prog Bkk.laidL w) ∧ sizedMet enc Tryz.prog Tryz.f3 (OpenSpec.ofChange Rows.padSaysSpec) false w args)
      (Rows.padSaysSpec.post enc Tryz.prog Tryz.f3 false true false false) := by
  refine returnsInHanded_of_change_and (C := Tryz.checked) (X := fun w _ => laidMetH Tryz.prog Bkk.laidL w) (fun _ _ _ hh h => h.of_heap hh) Bkk.own started (by kernel_rfl) Tryz.func3
    (ChangeSpec.witness_shaped (enc := enc) (C := Tryz.checked) (os := os) (X := fun w _ => laidMetH Tryz.prog Bkk.laidL w) false (World.doorLaid Tryz.prog 400 os) #[.bool false, .slice none 0 0, .agg #[.int .i64 0, .int .i64 0, .int .i64 0, .int .i64 0, .int .i64 0]] 8 rfl (World.shaped_of_RefB (by kernel_rfl) (by kernel_rfl)) (by kernel_rfl) (by kernel_rfl) (by kernel_rfl) (Bkk.door_met os _)) ?_
  intro W base args ds gs before hval0 hW _ hsz0 hL _
  have hval : ∀ (j : Nat) t v, Tryz.f3.params[j]? = some t → args[j]? = some v → Value.okWide Tryz.prog W .any base t v := hval0
  have hsz : (DataW.weightsEach Tryz.prog (Tryz.f3.params.toList ++ Rows.padSaysSpec.plain.varTypes Tryz.prog) (ds ++ gs)).all (· ≤ reachBytes) = true := hsz0
  clear hsz0
  have hW' := hW
  obtain ⟨p, q, hA0, hV, rfl, hfz, hnd⟩ := hW
  have hA : DataW.TrodAll enc Tryz.prog W 0 (fun _ => true) true Tryz.f3.params.toList args.toList ds p := hA0
  rw [Tryz.params3] at hA hval hsz
  obtain ⟨v0, vs0, d0, ds0, p0, q0, hargs, rfl, rfl, h0, r0⟩ := trodAll_cons hA
  obtain ⟨v1, vs1, d1, ds1, p1, q1, rfl, rfl, rfl, h1, r1⟩ := trodAll_cons r0
  obtain ⟨v2, vs2, d2, ds2, p2, q2, rfl, rfl, rfl, h2, r2⟩ := trodAll_cons r1
  obtain ⟨rfl, rfl, rfl⟩ := trodAll_nil r2
  obtain rfl : args = #[v0, v1, v2] := by cases args; simp_all
  obtain ⟨rfl, rfl⟩ := trodVars_none hV
  obtain ⟨a0, rfl, rfl, rfl⟩ := Go.RowKit.open_bool Tryz.underlying4 (hval 0 4 v0 rfl rfl) h0
  have k1 := h1
  have lt1 : ∀ x ∈ p1, x.block < W.heap.size := by obtain ⟨m, hm⟩ := k1; exact DataW.trod_lt m _ _ _ hm
  obtain ⟨l1, n1, a1, c1, rfl, x1, y1, z1, v1, u1⟩ := PaO.open_cells (hval 1 22 v1 rfl rfl) h1 (fun m hm => by have := List.all_eq_true.1 hsz _ (DataW.weights_mem_each (j := 1) rfl rfl m hm); simpa using this)
  have k2 := h2
  have lt2 : ∀ x ∈ p2, x.block < W.heap.size := by obtain ⟨m, hm⟩ := k2; exact DataW.trod_lt m _ _ _ hm
  obtain ⟨ia2, ib2, ic2, id2, ie2, rfl, x2, y2, z2, u2, s2⟩ := PaO.open_five (hval 2 23 v2 rfl rfl) h2
  have hcl := Bkk.of_laid hL
  clear hA0 hval0
  refine (walk con a0 l1 n1 a1 c1 ia2 ib2 ic2 id2 ie2 W x1 y1 z1 v1 u1 x2 y2 z2 u2 s2 hcl).mono fun e W' ⟨he, bel⟩ => ?_
  subst he
  exact ⟨_, rfl, _, _, _, [], _, [], hW', trodAll_mk1 (shut_bool Tryz.underlying4 _), (trodAll_cons_mk (shut_bool Tryz.underlying4 _) (trodAll_cons_mk (Below.trod Bkk.laidOut (by kernel_rfl) (of_decide_eq_true (by kernel_rfl)) k1 bel lt1) (trodAll_cons_mk (Below.trod Bkk.laidOut (by kernel_rfl) (of_decide_eq_true (by kernel_rfl)) k2 bel lt2) trodAll_mk0))), rfl, bel.frame _, fun h => by cases h⟩

theorem over (con : Con) : Rows.PadSaysSaid :=
  OpenClaim.holds_of_wide 3 Tryz.f3 rfl rfl rfl rfl rfl rfl rfl ⟨rfl, rfl, rfl, rfl, rfl⟩ rfl rfl rfl rfl rfl (by kernel_rfl) Tryz.func3 (by kernel_rfl)
    (of_decide_eq_true (by kernel_rfl)) (by unfold Func.isWrapper; first | (rw [if_pos (by decide +kernel)]; kernel_rfl) | (rw [if_neg (by decide +kernel)]; exact ⟨rfl, rfl⟩))
    (fun os started H enc _ => lifted con os started H enc)

theorem of_con (con : Con) : Rows.PadSaysCardSaid :=
  Claim7.holds_tied_plain_at .later [] [.data, .data, .data, .data] true Rows.padSaysCard.stood.harness false
    (over con) (fun _ h => by cases h) (by kernel_rfl) (fun _ h => by cases h) padSays_row_tie rfl ⟨rfl, rfl⟩ (by kernel_rfl) rfl
    (fun f fn hf hfn => by
      obtain rfl : f = 3 := Option.some.inj ((show Tryz.prog.funcNamed "murmur/murmurlaw17.PadSays" = some 3 by kernel_rfl).symm.trans hf) |>.symm
      obtain rfl : fn = Tryz.f3 := (Option.some.inj (Tryz.func3.symm.trans hfn)).symm
      exact ⟨by kernel_rfl, fun j t ht => by
        rw [Tryz.params3] at ht
        have hm : t ∈ [4, 22, 23] := by simpa using Array.mem_of_getElem? ht
        have hall : ([4, 22, 23].all fun u => !Tryz.prog.wantsStandIn u) = true := by kernel_rfl
        exact (show Tryz.prog.wantsStandIn t = false by simpa using List.all_eq_true.1 hall t hm)⟩)
    (by kernel_rfl)
/-- The statement. -/
theorem proved : Rows.PadSaysCardSaid := of_con Pad.con
#print axioms proved
end Go.Proofs.YtolmfimpaofefaaGreatDoor.LawPSy
