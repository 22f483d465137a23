/-
  Count and counted of package book: what the plain mathematics of the text Bkl says; all memory that was there is left as it was. Conditions: no list has more than 1000 counts, none of them above 1000000 where one is added.
-/
import Derived.Test.YtdhipdoaefdfeaaGreatDoorBkI
import Derived.Deep.AppendLies
namespace Go.Proofs.YtdhipdoaefdfeaaGreatDoor.Bkb
open Go.RowKit Mur Prt Lanes Tap Bkl Bkm Rec Cel Bkr
set_option maxRecDepth 100000
set_option linter.unusedSimpArgs false

set_option maxHeartbeats 1600000 in
theorem count_any (A : Nat → Prop) (b : Bk) (v : List Value) (who : ByteArray) (k : Int) (w : World) (hk : k = (Bkl.count b.counts who.data.toList : Nat)) (h : BkR w b v A) (hro : Room b 1000) :
    Calls Tryz.prog 11 #[.agg v.toArray, .string who] w fun e w' => e = .returned (.int .i64 k) ∧ Below w.heap.size w w' := by
  obtain ⟨a, n, c, h6, hn, -, hR, -⟩ := h.at6
  have hn2 : n ≤ 1000 := by have := hro.counts; omega
  obtain ⟨q, hq⟩ : ∃ q, q = plc (whoIs who) b.counts := ⟨_, rfl⟩
  have R1 := Lib.hid (fun u (hu : CntR u a b.counts) => countAt_any b.counts who q n a c u hq hn (by omega) hu)
  have HR := Lib.hid hR
  have H6 := Lib.hid h6
  have HM := Lib.hid (Hold.Hld.start w)
  rcases plc_cases (whoIs who) b.counts with ⟨p1, p2⟩ | ⟨i, x, p1, p2, p3, p4, p5⟩
  · have hk0 : k = 0 := by rw [hk, (count_none _ _ p2).1]; rfl
    have hq1 : q = -1 := hq.trans p1
    subst hk0 hq1
    clear h6 hn hR h hro hk hq p1 p2
    go_enter Tryz.func11, Tryz.ntmps11
    go_upto_region 1 with ((with_reducible refine Hold.box HM.out rfl rfl rfl ?_; clear HM; intro b1 w1 HM; simp only [List.nil_append] at HM; replace HM := Lib.hid HM))
    have c6 : w1.cell? ⟨b1, 6, none⟩ = some (.slice a n c) := (HM.out.at 0 rfl).row.cell H6.out
    go_wp2_with ((with_reducible refine (R1.out _ (HR.out.below HM.out.below)).mono ?_); rintro e w2 ⟨rfl, hb⟩; replace HM := Lib.hid (HM.out.next hb); clear hb)
    go_ret
    exact ⟨rfl, HM.out.below⟩
  · have hk0 : k = (x.2 : Int) := by rw [hk, (count_some _ _ _ _ p3 p4 p5).1]
    have hq1 : q = (i : Int) := hq.trans p1
    subst hq1
    obtain ⟨g, o, rfl, hg, hc⟩ := hR (by omega)
    have hcell := hc i x p3 1 _ rfl
    rw [← hk0] at hcell
    have HC := Lib.hid (fun (u : World) (hu : Below w.heap.size w u) => (hu.cell (p := ⟨g, o + i * 2 + 1, none⟩) hg).trans hcell)
    have hin : (i : Int) < (n : Int) := by omega
    have hi0 : (0 : Int) ≤ (i : Int) := by omega
    have hd : decide ((i : Int) < 0) = false := decide_eq_false (by omega)
    clear h6 hn hR h hro hk hq p1 p2 p3 p4 p5 hk0 hc hcell hg
    go_enter Tryz.func11, Tryz.ntmps11
    go_upto_region 1 with ((with_reducible refine Hold.box HM.out rfl rfl rfl ?_; clear HM; intro b1 w1 HM; simp only [List.nil_append] at HM; replace HM := Lib.hid HM))
    have c6 : w1.cell? ⟨b1, 6, none⟩ = some (.slice (some ⟨g, o, none⟩) n c) := (HM.out.at 0 rfl).row.cell H6.out
    go_wp2_with ((with_reducible refine (R1.out _ (HR.out.below HM.out.below)).mono ?_); rintro e w2 ⟨rfl, hb⟩; replace HM := Lib.hid (HM.out.next hb); clear hb; have d6 : w2.cell? ⟨b1, 6, none⟩ = some (.slice (some ⟨g, o, none⟩) n c) := (HM.out.at 0 rfl).row.cell H6.out; have dc := HC.out w2 HM.out.below)
    go_ret
    exact ⟨rfl, HM.out.below⟩

theorem cnt_new (W : World) (who : ByteArray) (t : TypeId) : CntR (W.alloc (.cells #[.string who, .int .i64 1] t)) (some ⟨W.heap.size, 0, none⟩) [(who.data.toList, 1)] := by
  have := RecR.new (sz := 2) (f := cntV) W (who.data.toList, 1) t
  rw [show cntV (who.data.toList, 1) = [.string who, .int .i64 1] from by rw [cntV, tx_data]; rfl] at this
  exact this
/-- A cell of an own row that is written. -/
theorem cnt_set {w : World} {g i : Nat} {l : List (List UInt8 × Nat)} {x : List UInt8 × Nat} {y : Int} {m : Nat} (h : CntR w (some ⟨g, 0, none⟩) l) (hx : l[i]? = some x) (hy : y = (m : Int)) : CntR (w.setCell ⟨g, i * 2 + 1, none⟩ (.int .i64 y)) (some ⟨g, 0, none⟩) (l.set i (x.1, m)) := fun hl => by
  subst hy
  have hil : i < l.length := (List.getElem?_eq_some_iff.1 hx).1
  obtain ⟨b, o, he, hb, hc⟩ := h (by omega)
  cases he
  refine ⟨g, 0, rfl, by simpa using hb, fun j z hz k u hu => ?_⟩
  have hk : k < 2 := by
    have := (List.getElem?_eq_some_iff.1 hu).1
    simpa [cntV] using this
  rw [List.getElem?_set] at hz
  by_cases hij : i = j
  · subst hij
    rw [if_pos rfl, if_pos hil] at hz
    cases hz
    match k, hk, hu with
    | 0, _, hu =>
      cases hu
      exact (show (w.setCell ⟨g, i * 2 + 1, none⟩ (.int .i64 (m : Int))).cell? ⟨g, 0 + i * 2 + 0, none⟩ = w.cell? ⟨g, 0 + i * 2 + 0, none⟩ by apply World.cell?_setCell_other; intro e; injection e; omega).trans (hc i x hx 0 _ rfl)
    | 1, _, hu =>
      cases hu
      have := hc i x hx 1 _ rfl
      rw [Nat.zero_add] at this ⊢
      exact World.cell?_setCell_same' _ _ _ (by rw [this]; rfl)
  · rw [if_neg hij] at hz
    exact (show (w.setCell ⟨g, i * 2 + 1, none⟩ (.int .i64 (m : Int))).cell? ⟨g, 0 + j * 2 + k, none⟩ = w.cell? ⟨g, 0 + j * 2 + k, none⟩ by apply World.cell?_setCell_other; intro e; injection e; omega).trans (hc j z hz k u hu)

set_option maxHeartbeats 1600000 in
theorem counted_any (l : List (List UInt8 × Nat)) (who : ByteArray) (L : List (List UInt8 × Nat)) (n : Nat) (a : Option Addr) (c : Nat) (w : World) (hL : L = counted l who.data.toList) (hk : count l who.data.toList ≤ 1000000) (hn : l.length = n) (hn2 : n ≤ 1000) (ha : CntR w a l) :
    Calls Tryz.prog 22 #[.slice a n c, .string who] w fun e w' => ∃ ao co, e = .returned (.slice ao L.length co) ∧ L.length ≤ co ∧ CntR w' ao L ∧ (∀ q, ao = some q → w.heap.size ≤ q.block) ∧ Below w.heap.size w w' := by
  obtain ⟨q, hq⟩ : ∃ q, q = plc (whoIs who) l := ⟨_, rfl⟩
  have R1 := Lib.hid (cloneC_any l n a c w hn (by omega) ha)
  have R2 := Lib.hid (fun u a c (hu : CntR u a l) => countAt_any l who q n a c u hq hn (by omega) hu)
  have HN := Lib.hid hn
  rcases plc_cases (whoIs who) l with ⟨p1, p2⟩ | ⟨i, x, p1, p2, p3, p4, p5⟩
  · have hLe : L = l ++ [(who.data.toList, 1)] := by rw [hL, (count_none _ _ p2).2]
    have hq1 : q = -1 := hq.trans p1
    subst hq1
    clear hL hk hn ha hq p1 p2
    go_enter Tryz.func22, Tryz.ntmps22
    go_upto_region 2 with ((with_reducible refine R1.out.mono ?_); rintro e w1 ⟨v1, rfl, hown, hb⟩; obtain ⟨a1, c1, rfl, -, -, hi, hlow⟩ := own_rec cntK.len cntK.pos hown; have HO := Lib.hid hown; have HI := Lib.hid hi; have HB1 := Lib.hid hb; clear hown hi hb hlow)
    go_upto_region 4 with ((with_reducible refine (R2.out _ _ _ HI.out).mono ?_); rintro e w2 ⟨rfl, hb⟩; have HB2 := Lib.hid hb; clear hb)
    have HO2 := Lib.hid ((own_below HO.out HB2.out).alloc (.cells #[.string who, .int .i64 1] 73))
    have HB3 := Lib.hid ((HB1.out.trans (HB2.out.mono HB1.out.size)).alloc (Nat.le_trans HB1.out.size HB2.out.size) (.cells #[.string who, .int .i64 1] 73))
    go_wp2_with (at_builtin; refine append_rec cntK cnt_zero rfl _ _ rfl w.heap.size n _ l [(who.data.toList, 1)] _ 1 1 rfl rfl HO2.out (cnt_new w2 who _) rfl (by omega) HB3.out.size ?_; intro v' w4 hown4 hgrow4)
    have HB4 := Lib.hid (HB3.out.grown hgrow4 HB3.out.size (fun q hq => (HO2.out.lt q hq).1))
    obtain ⟨ao, co, rfl, hl, hco, hi, hlow⟩ := own_rec cntK.len cntK.pos hown4
    have HI4 := Lib.hid (And.intro hl (And.intro hco (And.intro hi hlow)))
    clear hown4 hgrow4 hl hco hi hlow
    go_ret
    have e0 : n + 1 = L.length := by rw [hLe]; exact HI4.out.1
    rw [← e0]
    exact ⟨ao, co, rfl, HI4.out.2.1, by rw [hLe]; exact HI4.out.2.2.1, HI4.out.2.2.2, HB4.out⟩
  · obtain ⟨s1, s2⟩ := count_some _ _ _ _ p3 p4 p5
    have hLe : L = l.set i (x.1, x.2 + 1) := by rw [hL, s2]
    have hx2 : x.2 ≤ 1000000 := by rw [← s1]; exact hk
    have hq1 : q = (i : Int) := hq.trans p1
    subst hq1
    have hin : (i : Int) < (n : Int) := by omega
    have hi0 : (0 : Int) ≤ (i : Int) := by omega
    have hd : decide ((i : Int) < 0) = false := decide_eq_false (by omega)
    obtain ⟨y, hy⟩ : ∃ y : Int, y = (x.2 : Int) := ⟨_, rfl⟩
    have hw : wrap64 (y + 1) = y + 1 := by unfold wrap64; omega
    have HX := Lib.hid p3
    have HY := Lib.hid hy
    have HL := Lib.hid hLe
    have hnl : L.length = n := by rw [hLe, List.length_set, hn]
    have HNL := Lib.hid hnl
    have hn0 : 0 < n := by omega
    clear hL hk hn ha hq p1 p2 p3 p4 p5 s1 s2 hx2 hy hLe hnl
    go_enter Tryz.func22, Tryz.ntmps22
    go_upto_region 2 with ((with_reducible refine R1.out.mono ?_); rintro e w1 ⟨v1, rfl, hown, hb⟩; obtain ⟨g, cap, rfl, hg1, hg2⟩ := hown.form hn0; obtain ⟨a1, c1, e1, -, hco, hi, -⟩ := own_rec cntK.len cntK.pos hown; cases e1; have HO := Lib.hid hown; have HI := Lib.hid hi; have HB1 := Lib.hid hb; have HG := Lib.hid hg1; have HCO := Lib.hid hco; clear hown hi hb hg2 hg1 hco)
    go_upto_region 5 with ((with_reducible refine (R2.out _ _ _ HI.out).mono ?_); rintro e w2 ⟨rfl, hb⟩; have HB2 := Lib.hid hb; clear hb)
    have HI2 := Lib.hid (HI.out.below HB2.out)
    have HB3 := Lib.hid (HB1.out.trans (HB2.out.mono HB1.out.size))
    have hc2 : w2.cell? ⟨g, i * 2 + 1, none⟩ = some (.int .i64 y) := by
      obtain ⟨b, o, he, hb, hc⟩ := HI2.out (by have := HN.out; omega)
      cases he
      have := hc i x HX.out 1 _ rfl
      rw [Nat.zero_add] at this
      rw [HY.out]
      exact this
    have hf2 : w2.frozen? ⟨g, i * 2 + 1, none⟩ = false := by
      obtain ⟨-, h2⟩ := own_below HO.out HB2.out
      rcases h2 with ⟨h2, -⟩ | ⟨g', cap', cur, e, -, h3, -⟩
      · cases h2
      · cases e
        simp [World.frozen?, h3]
    go_wp2
    go_ret
    have HR := Lib.hid (cnt_set HI2.out HX.out (y := y + 1) (m := x.2 + 1) (by rw [HY.out]; omega))
    have e0 := HNL.out
    rw [e0]
    exact ⟨some ⟨g, 0, none⟩, cap, rfl, HCO.out, by rw [HL.out]; exact HR.out, (fun q hq => by cases hq; exact HG.out), HB3.out.setCell (p := ⟨g, i * 2 + 1, none⟩) HG.out _⟩
end Go.Proofs.YtdhipdoaefdfeaaGreatDoor.Bkb
