/-
  The statements' own example of layer 16 answers true. Conditions: the listed tables; package book answers as Con says.
-/
import Derived.Test.YtdhipdoaefdfeaaGreatDoorBkC
namespace Go.Proofs.YtdhipdoaefdfeaaGreatDoor.Bkw
open Go.RowKit Mur Prt Lanes Tap Bkl Bkm Rec Cel Bkr
set_option maxRecDepth 100000
set_option linter.unusedSimpArgs false

def whoT : List UInt8 := [109, 32, 49]
def permN : List UInt8 := [112, 101, 114, 109, 32, 48]
def sig0 : List UInt8 := [115, 105, 103, 32, 109, 32, 49, 32, 48]
def sig1 : List UInt8 := [115, 105, 103, 32, 109, 32, 49, 32, 49]
theorem sig0_is : sigName whoT 0 = sig0 := rfl
theorem sig1_is : sigName whoT 1 = sig1 := by
  have d1 : dec ((1 : Nat) : Int) = [49] := by rw [dec_nat, digits_low 1 (by decide)]; rfl
  rw [sigName, joined, tail, tail, d1]
  rfl
def z18 : List UInt8 := List.replicate 18 0
def cs : List C := [([120], [97, 98]), (permN, [5, 1, 5])]
def us : List C := [([120], [97, 98, 0]), (permN, [5, 1, 5])]
def xa : Iss := (whoT, [116, 101, 120, 116], z18)
def xb : Iss := (whoT, [116, 101, 120, 116, 115], z18)
def xc : Iss := (whoT, [97, 103, 97, 105, 110], z18)
def b0 : Bk := ⟨true, [], cs, [], [], [], [], [], []⟩
def b1 : Bk := ⟨true, [], cs, [([120], [97, 98, 0])], [], [], [], [], []⟩
def b2 : Bk := ⟨true, [], cs, us, [], [], [], [], []⟩
def b3 : Bk := ⟨true, [], cs, us ++ [(sig0, z18)], [(whoT, 1)], [xa], [], [], []⟩
def b4 : Bk := ⟨true, [], cs, us ++ [(sig0, z18)], [(whoT, 1)], [xa], [xa], [], []⟩
def b5 : Bk := ⟨true, [], cs, us ++ [(sig0, z18)], [(whoT, 1)], [xa], [xa], [], [xb]⟩
def b6 : Bk := ⟨true, [], cs, us ++ [(sig0, z18), (sig1, z18)], [(whoT, 2)], [xa, xc], [xa], [], [xb]⟩
theorem sign_ideal (b : Bk) (who msg name : List UInt8) (hi : b.ideal = true) (h2 : ¬ 2 ≤ count b.counts who) (hn : sigName who (count b.counts who) = name) :
    signO b who msg = (cellS b name 18, { cellB b name 18 with counts := counted b.counts who, issued := add b.issued (who, msg, cellS b name 18) }, 0) := by
  rw [signO, if_neg h2, signB, usedB, signS, if_pos hi, if_pos hi, hn]
theorem e0 : b0 = newB true (⟨#[]⟩ : ByteArray).data.toList (toC (ofC cs)) := by rw [toC_ofC]; rfl
theorem e1 : b1 = cellB b0 [120] 3 := by kernel_rfl
theorem s1 : tx [97, 98, 0] = tx (cellS b0 [120] 3) := by kernel_rfl
theorem p2 : joined [112, 101, 114, 109] [0] = permN := rfl
theorem e2 : b2 = cellB b1 (joined [112, 101, 114, 109] [0]) 3 := by kernel_rfl
theorem s2 : [1, 0, 2] = Bkp.perm (cellS b1 (joined [112, 101, 114, 109] [0]) 3) := by kernel_rfl
theorem o3 : signO b2 whoT [116, 101, 120, 116] = (z18, b3, 0) := by
  rw [sign_ideal b2 whoT _ sig0 rfl (by decide) rfl]
  kernel_rfl
theorem c4 : checkO b3 whoT [116, 101, 120, 116] z18 = true := by kernel_rfl
theorem e4 : b4 = checkB b3 whoT [116, 101, 120, 116] z18 := by kernel_rfl
theorem c5 : checkO b4 whoT [116, 101, 120, 116, 115] z18 = false := by kernel_rfl
theorem e5 : b5 = checkB b4 whoT [116, 101, 120, 116, 115] z18 := by kernel_rfl
theorem o6 : signO b5 whoT [97, 103, 97, 105, 110] = (z18, b6, 0) := by
  rw [sign_ideal b5 whoT _ sig1 rfl (by decide) sig1_is]
  kernel_rfl
theorem o7 : signO b6 whoT [109, 111, 114, 101] = ([], b6, 6) := by
  rw [signO, if_pos (by decide)]


set_option maxHeartbeats 6400000 in
theorem awake_any (con : Con) (w : World) (hl : Laid w) : Calls Tryz.prog 6 #[] w fun e w' => e = .returned (.bool true) ∧ Below w.heap.size w w' := by
  have RS := Lib.hid (fun u => shape_any u)
  have R0 := Lib.hid (fun u a (h : CelR u a (ofC cs)) (hu : Laid u) => con.new true ⟨#[]⟩ (ofC cs) 2 a 2 b0 u e0 h rfl (by decide) (by decide) hu)
  have r0 : Room b0 2 := e0 ▸ Room.new true [] (toC (ofC cs)) 2 (by decide) (by rw [toC_ofC]; decide)
  have r1 : Room b1 3 := e1 ▸ r0.cell [120] 3
  have r2 : Room b2 4 := e2 ▸ r1.cell _ 3
  have r3 : Room b3 5 := by
    have := congrArg (fun x => x.2.1) o3
    have h2 : signB b2 whoT [116, 101, 120, 116] = b3 := by
      rw [signO, if_neg (by decide)] at this
      exact this
    exact h2 ▸ r2.sign whoT [116, 101, 120, 116]
  have r4 : Room b4 6 := e4 ▸ r3.check whoT [116, 101, 120, 116] z18
  have r5 : Room b5 7 := e5 ▸ r4.check whoT [116, 101, 120, 116, 115] z18
  have r6 : Room b6 8 := by
    have := congrArg (fun x => x.2.1) o6
    have h2 : signB b5 whoT [97, 103, 97, 105, 110] = b6 := by
      rw [signO, if_neg (by decide)] at this
      exact this
    exact h2 ▸ r5.sign whoT [97, 103, 97, 105, 110]
  have R1 := Lib.hid (fun A v u (h : BkR u b0 v A) (hu : Laid u) => con.cell A b0 b1 v ⟨#[120]⟩ ⟨#[97, 98, 0]⟩ 3 u s1 e1 h (r0.more (by decide)) (by decide) (by decide) (by decide) hu)
  have R2 := Lib.hid (fun A v u (h : BkR u b1 v A) (hu : Laid u) => con.perm A b1 b2 v 0 3 [1, 0, 2] 3 u s2 rfl e2 h (r1.more (by decide)) (by decide) (by decide) (by decide) (by decide) hu)
  obtain ⟨Z, hZ⟩ : ∃ Z, Z = tx z18 := ⟨_, rfl⟩
  have hZl : Z.data.toList = z18 := by rw [hZ]
  have R3 := Lib.hid (fun A v u (h : BkR u b2 v A) (hu : Laid u) => con.sign A b2 b3 v ⟨#[109, 32, 49]⟩ ⟨#[116, 101, 120, 116]⟩ Z 0 u (by rw [hZ]; exact congrArg (fun x => tx x.1) o3.symm) (congrArg (fun x => x.2.1) o3.symm) (congrArg (fun x => x.2.2) o3.symm) h (r2.more (by decide)) (by decide) (by decide) hu)
  have R4 := Lib.hid (fun A v u (h : BkR u b3 v A) (hu : Laid u) => con.check A b3 b4 v ⟨#[109, 32, 49]⟩ ⟨#[116, 101, 120, 116]⟩ Z true u (by rw [hZl]; exact c4.symm) (by rw [hZl]; exact e4) h (r3.more (by decide)) (by decide) (by decide) (by rw [hZ]; decide) (by decide) (fun h => Bool.noConfusion h) hu)
  have R5 := Lib.hid (fun A v u (h : BkR u b4 v A) (hu : Laid u) => con.check A b4 b5 v ⟨#[109, 32, 49]⟩ ⟨#[116, 101, 120, 116, 115]⟩ Z false u (by rw [hZl]; exact c5.symm) (by rw [hZl]; exact e5) h (r4.more (by decide)) (by decide) (by decide) (by rw [hZ]; decide) (by decide) (fun h => Bool.noConfusion h) hu)
  have R6 := Lib.hid (fun A v u (h : BkR u b5 v A) (hu : Laid u) => con.sign A b5 b6 v ⟨#[109, 32, 49]⟩ ⟨#[97, 103, 97, 105, 110]⟩ Z 0 u (by rw [hZ]; exact congrArg (fun x => tx x.1) o6.symm) (congrArg (fun x => x.2.1) o6.symm) (congrArg (fun x => x.2.2) o6.symm) h (r5.more (by decide)) (by decide) (by decide) hu)
  have R7 := Lib.hid (fun A v u (h : BkR u b6 v A) (hu : Laid u) => con.sign A b6 b6 v ⟨#[109, 32, 49]⟩ ⟨#[109, 111, 114, 101]⟩ ⟨#[]⟩ 6 u (congrArg (fun x => tx x.1) o7.symm) (congrArg (fun x => x.2.1) o7.symm) (congrArg (fun x => x.2.2) o7.symm) h (r6.more (by decide)) (by decide) (by decide) hu)
  have R8 := Lib.hid (fun A v u (h : BkR u b6 v A) => con.count A b6 v ⟨#[109, 32, 49]⟩ 2 u rfl h (r6.more (by decide)))
  have R9 := Lib.hid (fun A v u (h : BkR u b6 v A) => con.lift A b6 (liftB b6) v u rfl h (r6.more (by decide)))
  have hq1 : Tryz.prog.built 60 [(0, .string ⟨#[120]⟩), (1, .string ⟨#[97, 98]⟩)] = some #[.string ⟨#[120]⟩, .string ⟨#[97, 98]⟩] := by kernel_rfl
  have hq2 : Tryz.prog.built 60 [(0, .string ⟨#[112, 101, 114, 109, 32, 48]⟩), (1, .string ⟨#[5, 1, 5]⟩)] = some #[.string ⟨#[112, 101, 114, 109, 32, 48]⟩, .string ⟨#[5, 1, 5]⟩] := by kernel_rfl
  have HM := Lib.hid (Hold.Hld.start w)
  have HL := Lib.hid hl
  clear hl r0 r1 r2 r3 r4 r5 r6 hZ hZl
  go_enter Tryz.func6, Tryz.ntmps6
  go_wp2_with fail
  refine (RS.out _).mono ?_
  rintro e w1 ⟨rfl, hb⟩
  replace HM := Lib.hid (HM.out.next hb)
  clear hb
  go_wp2_with fail
  have hcs : CelR (w1.alloc (.cells #[.string ⟨#[120]⟩, .string ⟨#[97, 98]⟩, .string ⟨#[112, 101, 114, 109, 32, 48]⟩, .string ⟨#[5, 1, 5]⟩] 60)) (some ⟨w1.heap.size, 0, none⟩) (ofC cs) := fun _ => ⟨w1.heap.size, 0, rfl, by simp, fun i x hx => by
    match i, hx with
    | 0, hx => cases hx; simp [World.cell?_alloc_new]
    | 1, hx => cases hx; simp [World.cell?_alloc_new]; rfl⟩
  replace HM := Lib.hid (HM.out.next ((Below.refl w1.heap.size w1).alloc (Nat.le_refl _) (.cells #[.string ⟨#[120]⟩, .string ⟨#[97, 98]⟩, .string ⟨#[112, 101, 114, 109, 32, 48]⟩, .string ⟨#[5, 1, 5]⟩] 60)))
  refine (R0.out _ _ hcs (HL.out.below HM.out.below)).mono ?_
  clear hcs
  rintro e w ⟨v0, rfl, hv, hb⟩
  replace HM := Lib.hid (HM.out.next hb)
  have HV := Lib.hid (hv.mono (A' := Off []) fun k _ _ x hx => by cases hx)
  have L0 := Lib.hid hv.len
  clear hv hb
  go_upto_region 2 with ((first
    | ((with_reducible refine Hold.allocK HM.out rfl rfl zeroBk zero_bk ?_); clear HM; intro bb w hn hb HM; simp only [List.nil_append] at HM; replace HM := Lib.hid HM; replace HV := Lib.hid (HV.out.alloc (t := 30) (z := zeroBk) hn hb); clear hn hb)
    | ((with_reducible refine Hold.storeK HM.out 0 (v' := v0) rfl rfl rfl rfl rfl (bkFits HV.out.len zero_len) (bkLaid HV.out.len zero_len) HV.out.one (bkRowOf HV.out.len) ?_); clear HM; intro w hbt HM; simp only [List.set_cons_zero] at HM; replace HM := Lib.hid HM; replace HV := Lib.hid (HV.out.stored (i := 0) (z' := v0) rfl hbt); clear hbt)))
  go_upto_region 3 with ((first
    | (with_reducible refine Hold.load HM.out 0 (cs := v0) rfl rfl rfl rfl (Hold.Part.all _) (bkRowOf HV.out.len) ?_)
    | ((with_reducible refine (R1.out _ _ _ HV.out (HL.out.below HM.out.below)).mono ?_); rintro e w ⟨v1, rfl, hv, hb⟩; have L1 := Lib.hid hv.len; replace HV := Lib.hid (hv.answered HM.out); replace HM := Lib.hid (HM.out.next hb); clear hv hb)
    | ((with_reducible refine Hold.storeK HM.out 0 (v' := v1) rfl rfl rfl rfl rfl (bkFits HV.out.len L0.out) (bkLaid HV.out.len L0.out) HV.out.one (bkRowOf HV.out.len) ?_); clear HM; intro w hbt HM; simp only [List.set_cons_zero] at HM; replace HM := Lib.hid HM; replace HV := Lib.hid (HV.out.stored (i := 0) (z' := v1) rfl hbt); clear hbt)))
  go_upto_region 4 with ((first
    | (with_reducible refine Hold.load HM.out 0 (cs := v1) rfl rfl rfl rfl (Hold.Part.all _) (bkRowOf HV.out.len) ?_)
    | ((with_reducible refine (R2.out _ _ _ HV.out (HL.out.below HM.out.below)).mono ?_); rintro e w ⟨pa, pc, v2, rfl, hn, hnl, hv, hb⟩; have L2 := Lib.hid hv.len; replace HV := Lib.hid (hv.answered HM.out); have HN := Lib.hid (num_answered hn hnl HM.out); clear hn hnl; replace HM := Lib.hid (HM.out.next hb); clear hv hb)
    | ((with_reducible refine Hold.storeK HM.out 0 (v' := v2) rfl rfl rfl rfl rfl (bkFits HV.out.len L1.out) (bkLaid HV.out.len L1.out) HV.out.one (bkRowOf HV.out.len) ?_); clear HM; intro w hbt HM; simp only [List.set_cons_zero] at HM; replace HM := Lib.hid HM; replace HV := Lib.hid (HV.out.stored (i := 0) (z' := v2) rfl hbt); replace HN := Lib.hid (HN.out.stored (i := 0) (z' := v2) rfl hbt); clear hbt)))
  go_upto_region 5 with ((first
    | (with_reducible refine Hold.load HM.out 0 (cs := v2) rfl rfl rfl rfl (Hold.Part.all _) (bkRowOf HV.out.len) ?_)
    | ((with_reducible refine (R3.out _ _ _ HV.out (HL.out.below HM.out.below)).mono ?_); rintro e w ⟨v3, rfl, hv, hb⟩; have L3 := Lib.hid hv.len; replace HV := Lib.hid (hv.answered HM.out); replace HN := Lib.hid (HN.out.below hb); replace HM := Lib.hid (HM.out.next hb); clear hv hb)
    | ((with_reducible refine Hold.storeK HM.out 0 (v' := v3) rfl rfl rfl rfl rfl (bkFits HV.out.len L2.out) (bkLaid HV.out.len L2.out) HV.out.one (bkRowOf HV.out.len) ?_); clear HM; intro w hbt HM; simp only [List.set_cons_zero] at HM; replace HM := Lib.hid HM; replace HV := Lib.hid (HV.out.stored (i := 0) (z' := v3) rfl hbt); replace HN := Lib.hid (HN.out.stored (i := 0) (z' := v3) rfl hbt); clear hbt)))
  go_upto_region 6 with ((first
    | (with_reducible refine Hold.load HM.out 0 (cs := v3) rfl rfl rfl rfl (Hold.Part.all _) (bkRowOf HV.out.len) ?_)
    | ((with_reducible refine (R4.out _ _ _ HV.out (HL.out.below HM.out.below)).mono ?_); rintro e w ⟨v4, rfl, hv, hb⟩; have L4 := Lib.hid hv.len; replace HV := Lib.hid (hv.answered HM.out); replace HN := Lib.hid (HN.out.below hb); replace HM := Lib.hid (HM.out.next hb); clear hv hb)
    | ((with_reducible refine Hold.storeK HM.out 0 (v' := v4) rfl rfl rfl rfl rfl (bkFits HV.out.len L3.out) (bkLaid HV.out.len L3.out) HV.out.one (bkRowOf HV.out.len) ?_); clear HM; intro w hbt HM; simp only [List.set_cons_zero] at HM; replace HM := Lib.hid HM; replace HV := Lib.hid (HV.out.stored (i := 0) (z' := v4) rfl hbt); replace HN := Lib.hid (HN.out.stored (i := 0) (z' := v4) rfl hbt); clear hbt)))
  go_upto_region 7 with ((first
    | (with_reducible refine Hold.load HM.out 0 (cs := v4) rfl rfl rfl rfl (Hold.Part.all _) (bkRowOf HV.out.len) ?_)
    | ((with_reducible refine (R5.out _ _ _ HV.out (HL.out.below HM.out.below)).mono ?_); rintro e w ⟨v5, rfl, hv, hb⟩; have L5 := Lib.hid hv.len; replace HV := Lib.hid (hv.answered HM.out); replace HN := Lib.hid (HN.out.below hb); replace HM := Lib.hid (HM.out.next hb); clear hv hb)
    | ((with_reducible refine Hold.storeK HM.out 0 (v' := v5) rfl rfl rfl rfl rfl (bkFits HV.out.len L4.out) (bkLaid HV.out.len L4.out) HV.out.one (bkRowOf HV.out.len) ?_); clear HM; intro w hbt HM; simp only [List.set_cons_zero] at HM; replace HM := Lib.hid HM; replace HV := Lib.hid (HV.out.stored (i := 0) (z' := v5) rfl hbt); replace HN := Lib.hid (HN.out.stored (i := 0) (z' := v5) rfl hbt); clear hbt)))
  go_upto_region 8 with ((first
    | (with_reducible refine Hold.load HM.out 0 (cs := v5) rfl rfl rfl rfl (Hold.Part.all _) (bkRowOf HV.out.len) ?_)
    | ((with_reducible refine (R6.out _ _ _ HV.out (HL.out.below HM.out.below)).mono ?_); rintro e w ⟨v6, rfl, hv, hb⟩; have L6 := Lib.hid hv.len; replace HV := Lib.hid (hv.answered HM.out); replace HN := Lib.hid (HN.out.below hb); replace HM := Lib.hid (HM.out.next hb); clear hv hb)
    | ((with_reducible refine Hold.storeK HM.out 0 (v' := v6) rfl rfl rfl rfl rfl (bkFits HV.out.len L5.out) (bkLaid HV.out.len L5.out) HV.out.one (bkRowOf HV.out.len) ?_); clear HM; intro w hbt HM; simp only [List.set_cons_zero] at HM; replace HM := Lib.hid HM; replace HV := Lib.hid (HV.out.stored (i := 0) (z' := v6) rfl hbt); replace HN := Lib.hid (HN.out.stored (i := 0) (z' := v6) rfl hbt); clear hbt)))
  obtain ⟨ta, tn, tc, h8, h8l, -⟩ := HV.out.at8
  obtain rfl : tn = 1 := h8l.symm
  have H8 := Lib.hid h8
  have L6b := Lib.hid HV.out.len
  have HV6 := HV
  clear h8 h8l
  go_wp2_with ((first
    | (with_reducible refine Hold.load HM.out 0 (cs := v6) rfl rfl rfl rfl (Hold.Part.all _) (bkRowOf L6b.out) ?_)
    | ((with_reducible refine (R7.out _ _ _ HV.out (HL.out.below HM.out.below)).mono ?_); rintro e w ⟨v7, rfl, hv, hb⟩; have L7 := Lib.hid hv.len; replace HV6 := Lib.hid (HV6.out.below hb); replace HN := Lib.hid (HN.out.below hb); replace HV := Lib.hid (hv.answered HM.out); replace HM := Lib.hid (HM.out.next hb); clear hv hb)
    | ((with_reducible refine Hold.allocK HM.out rfl rfl zeroBk zero_bk ?_); clear HM; intro bx w hn hb HM; simp only [List.nil_append, List.cons_append] at HM; replace HM := Lib.hid HM; replace HV := Lib.hid (HV.out.alloc (t := 30) (z := zeroBk) hn hb); replace HV6 := Lib.hid (HV6.out.alloc (t := 30) (z := zeroBk) hn hb); replace HN := Lib.hid (HN.out.alloc (t := 30) (z := zeroBk) hn hb); clear hn hb)
    | ((with_reducible refine Hold.storeK HM.out 1 (v' := v7) rfl rfl rfl rfl rfl (bkFits HV.out.len zero_len) (bkLaid HV.out.len zero_len) HV.out.one (bkRowOf HV.out.len) ?_); clear HM; intro w hbt HM; simp only [List.set_cons_zero, List.set_cons_succ] at HM; replace HM := Lib.hid HM; replace HV := Lib.hid (HV.out.stored (i := 1) (z' := v7) rfl hbt); replace HV6 := Lib.hid (HV6.out.stored (i := 1) (z' := v7) rfl hbt); replace HN := Lib.hid (HN.out.stored (i := 1) (z' := v7) rfl hbt); clear hbt; obtain ⟨pb, po, rfl, -, hc⟩ := HN.out.read (by decide); have c0 : w.cell? ⟨pb, po, none⟩ = some (.int .i64 1) := hc 0 1 rfl 0 _ rfl; have c1 : w.cell? ⟨pb, po + 1, none⟩ = some (.int .i64 0) := hc 1 0 rfl 0 _ rfl; have c2 : w.cell? ⟨pb, po + 2, none⟩ = some (.int .i64 2) := hc 2 2 rfl 0 _ rfl; clear hc)
    | (refine Hold.wpList_want (by rfl) (.agg (v6).toArray) (Hold.load_run HM.out 0 rfl rfl rfl (Hold.Part.all _) (bkRowOf L6b.out)) ?_)
    | ((with_reducible refine (R8.out _ _ _ HV6.out).mono ?_); rintro e w ⟨rfl, hb⟩; replace HV6 := Lib.hid (HV6.out.below hb); replace HM := Lib.hid (HM.out.next hb); have cT : w.cell? ⟨bb, 8, none⟩ = some (.slice ta 1 tc) := (HM.out.at 0 rfl).row.cell H8.out; clear hb c0 c1 c2)
    | ((with_reducible refine (R9.out _ _ _ HV6.out).mono ?_); rintro e w ⟨v9, rfl, hv, hb⟩; replace HM := Lib.hid (HM.out.next hb); obtain ⟨la, ln, lc, h4, h4l, -⟩ := hv.at4; have hf := fun u => fieldC hv.len h4 u; obtain rfl : ln = 4 := h4l.symm; clear hv hb cT h4 h4l)))
  go_ret
  exact ⟨by simp, HM.out.below⟩
end Go.Proofs.YtdhipdoaefdfeaaGreatDoor.Bkw
