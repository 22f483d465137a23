/-
  The document's own answer for what is laid in a slot (Lay of layer 18) is what the plain mathematics of the text Frm says; all memory that was there is left as it was. Conditions: texts of no more than 140737488351232 bytes, numbers of 64 bits.
-/
import Derived.Test.YtlodgomjlkpdhaaGreatDoorRFrB
namespace Go.Proofs.YtlodgomjlkpdhaaGreatDoor.RFrm
open Go.RowKit Mur Lanes Prt Tap Cel Frm
set_option maxRecDepth 100000
set_option linter.unusedSimpArgs false

theorem u8_in (z : Int) (h1 : 0 ≤ z) (h2 : z ≤ 255) : ∃ b : UInt8, b = UInt8.ofNat z.toNat ∧ IntKind.u8.wrap z = ((b.toNat : Nat) : Int) := by
  refine ⟨_, rfl, ?_⟩
  have e : (UInt8.ofNat z.toNat).toNat = z.toNat := by simp; omega
  rw [e]
  have hw : IntKind.u8.wrap z = z := by
    rw [IntKind.wrap_u8]
    omega
  rw [hw]
  omega
theorem body_is (b0 b1 b2 : UInt8) (f g : List UInt8) : (⟨#[b0, b1, b2]⟩ : ByteArray) ++ tx f ++ tx g = tx ([b0, b1, b2] ++ (f ++ g)) := by
  apply ByteArray.ext
  apply Array.toList_inj.1
  simp [ByteArray.toList_data_append]
theorem laid_is (seed : ByteArray) (m : ByteArray) : (⟨#[1]⟩ : ByteArray) ++ seed ++ m = tx ([1] ++ (seed.data.toList ++ m.data.toList)) := by
  apply ByteArray.ext
  apply Array.toList_inj.1
  simp [ByteArray.toList_data_append]

set_option maxHeartbeats 12800000 in
theorem lay_ref (x : SayB) (c s : Int) (seed X : ByteArray) (E : Int) (w : World) (hX : X = tx (layT x.plain c s seed.data.toList)) (hE : E = layE x.plain c s seed.data.toList) (sm : Small x) (_ : seed.size ≤ 140737488351232) (hc : InR c) (hs : InR s) :
    Calls Tryz.prog 6 #[.agg (sayV x).toArray, .int .i64 c, .int .i64 s, .string seed] w fun z w' => z = .returned (.tuple #[.string X, .int .i64 E]) ∧ Below w.heap.size w w' := by
  obtain ⟨w0, hw0⟩ : ∃ w0, w0 = w := ⟨w, rfl⟩
  subst hw0
  obtain ⟨G, hG⟩ : ∃ G, G = Frm.long c s := ⟨_, rfl⟩
  have RL := Lib.hid (fun u => show Calls Tryz.prog 10 #[.int .i64 c, .int .i64 s] u fun z w' => z = .returned (.int .i64 G) ∧ Below u.heap.size u w' from by rw [hG]; exact long_ref c s u hc hs)
  have HM := Lib.hid (Hold.Hld.start w0)
  have hsl : seed.data.toList.length = seed.size := rfl
  have htl : x.plain.text.length = x.text.size := rfl
  have hgl : x.plain.sig.length = x.sig.size := rfl
  have hnx : x.plain.next = x.next := rfl
  have hsq : x.plain.seq = x.seq := rfl
  by_cases A0 : G = 0
  · have d0 : ((G : Int) == 0) = true := by rw [A0]; rfl
    have hbad : badLay x.plain c s seed.data.toList := Or.inl (by rw [← hG]; exact A0)
    have hE1 : layE x.plain c s seed.data.toList = 1 := by unfold layE; rw [if_pos hbad]
    obtain rfl : E = 1 := by rw [hE, hE1]
    obtain rfl : X = ⟨#[]⟩ := by rw [hX, lay_err _ _ _ _ (by rw [hE1]; decide)]
    clear hX hE hE1 hbad hG hsl htl hgl hnx hsq sm hc hs
    go_enter Tryz.func6, Tryz.ntmps6
    go_wp2_with ((first
      | ((with_reducible refine Hold.box HM.out rfl rfl rfl ?_); clear HM; intro bx w HM; simp only [List.nil_append, List.cons_append] at HM; replace HM := Lib.hid HM)
      | ((with_reducible refine (RL.out _).mono ?_); rintro e w ⟨rfl, hb⟩; replace HM := Lib.hid (HM.out.next hb); clear hb; have q0 : w.cell? ⟨bx, 0, none⟩ = some (.int .i64 x.next) := (HM.out.at 0 rfl).row.cell rfl; have q1 : w.cell? ⟨bx, 1, none⟩ = some (.int .i64 x.seq) := (HM.out.at 0 rfl).row.cell rfl)))
    go_ret2
    exact ⟨rfl, HM.out.below⟩
  have d0 : ((G : Int) == 0) = false := by simpa using A0
  by_cases A1 : ¬ seed.size = 4
  · have d1 : ((seed.size : Int) != 4) = true := by simp; omega
    have hbad : badLay x.plain c s seed.data.toList := Or.inr (Or.inl (by rw [hsl]; exact A1))
    have hE1 : layE x.plain c s seed.data.toList = 1 := by unfold layE; rw [if_pos hbad]
    obtain rfl : E = 1 := by rw [hE, hE1]
    obtain rfl : X = ⟨#[]⟩ := by rw [hX, lay_err _ _ _ _ (by rw [hE1]; decide)]
    clear hX hE hE1 hbad hG hsl htl hgl hnx hsq sm hc hs
    go_enter Tryz.func6, Tryz.ntmps6
    go_wp2_with ((first
      | ((with_reducible refine Hold.box HM.out rfl rfl rfl ?_); clear HM; intro bx w HM; simp only [List.nil_append, List.cons_append] at HM; replace HM := Lib.hid HM)
      | ((with_reducible refine (RL.out _).mono ?_); rintro e w ⟨rfl, hb⟩; replace HM := Lib.hid (HM.out.next hb); clear hb; have q0 : w.cell? ⟨bx, 0, none⟩ = some (.int .i64 x.next) := (HM.out.at 0 rfl).row.cell rfl; have q1 : w.cell? ⟨bx, 1, none⟩ = some (.int .i64 x.seq) := (HM.out.at 0 rfl).row.cell rfl)))
    go_ret2
    exact ⟨rfl, HM.out.below⟩
  have d1 : ((seed.size : Int) != 4) = false := by simp; omega
  by_cases A2 : x.next < 0
  · have d2 : decide (x.next < 0) = true := decide_eq_true A2
    have hbad : badLay x.plain c s seed.data.toList := Or.inr (Or.inr (Or.inl (by rw [hnx]; exact A2)))
    have hE1 : layE x.plain c s seed.data.toList = 1 := by unfold layE; rw [if_pos hbad]
    obtain rfl : E = 1 := by rw [hE, hE1]
    obtain rfl : X = ⟨#[]⟩ := by rw [hX, lay_err _ _ _ _ (by rw [hE1]; decide)]
    clear hX hE hE1 hbad hG hsl htl hgl hnx hsq sm hc hs
    go_enter Tryz.func6, Tryz.ntmps6
    go_wp2_with ((first
      | ((with_reducible refine Hold.box HM.out rfl rfl rfl ?_); clear HM; intro bx w HM; simp only [List.nil_append, List.cons_append] at HM; replace HM := Lib.hid HM)
      | ((with_reducible refine (RL.out _).mono ?_); rintro e w ⟨rfl, hb⟩; replace HM := Lib.hid (HM.out.next hb); clear hb; have q0 : w.cell? ⟨bx, 0, none⟩ = some (.int .i64 x.next) := (HM.out.at 0 rfl).row.cell rfl; have q1 : w.cell? ⟨bx, 1, none⟩ = some (.int .i64 x.seq) := (HM.out.at 0 rfl).row.cell rfl)))
    go_ret2
    exact ⟨rfl, HM.out.below⟩
  have d2 : decide (x.next < 0) = false := decide_eq_false A2
  by_cases A3 : 16 < x.next
  · have d3 : decide (16 < x.next) = true := decide_eq_true A3
    have hbad : badLay x.plain c s seed.data.toList := Or.inr (Or.inr (Or.inr (Or.inl (by rw [hnx]; exact A3))))
    have hE1 : layE x.plain c s seed.data.toList = 1 := by unfold layE; rw [if_pos hbad]
    obtain rfl : E = 1 := by rw [hE, hE1]
    obtain rfl : X = ⟨#[]⟩ := by rw [hX, lay_err _ _ _ _ (by rw [hE1]; decide)]
    clear hX hE hE1 hbad hG hsl htl hgl hnx hsq sm hc hs
    go_enter Tryz.func6, Tryz.ntmps6
    go_wp2_with ((first
      | ((with_reducible refine Hold.box HM.out rfl rfl rfl ?_); clear HM; intro bx w HM; simp only [List.nil_append, List.cons_append] at HM; replace HM := Lib.hid HM)
      | ((with_reducible refine (RL.out _).mono ?_); rintro e w ⟨rfl, hb⟩; replace HM := Lib.hid (HM.out.next hb); clear hb; have q0 : w.cell? ⟨bx, 0, none⟩ = some (.int .i64 x.next) := (HM.out.at 0 rfl).row.cell rfl; have q1 : w.cell? ⟨bx, 1, none⟩ = some (.int .i64 x.seq) := (HM.out.at 0 rfl).row.cell rfl)))
    go_ret2
    exact ⟨rfl, HM.out.below⟩
  have d3 : decide (16 < x.next) = false := decide_eq_false A3
  by_cases A4 : x.seq < 0
  · have d4 : decide (x.seq < 0) = true := decide_eq_true A4
    have hbad : badLay x.plain c s seed.data.toList := Or.inr (Or.inr (Or.inr (Or.inr (Or.inl (by rw [hsq]; exact A4)))))
    have hE1 : layE x.plain c s seed.data.toList = 1 := by unfold layE; rw [if_pos hbad]
    obtain rfl : E = 1 := by rw [hE, hE1]
    obtain rfl : X = ⟨#[]⟩ := by rw [hX, lay_err _ _ _ _ (by rw [hE1]; decide)]
    clear hX hE hE1 hbad hG hsl htl hgl hnx hsq sm hc hs
    go_enter Tryz.func6, Tryz.ntmps6
    go_wp2_with ((first
      | ((with_reducible refine Hold.box HM.out rfl rfl rfl ?_); clear HM; intro bx w HM; simp only [List.nil_append, List.cons_append] at HM; replace HM := Lib.hid HM)
      | ((with_reducible refine (RL.out _).mono ?_); rintro e w ⟨rfl, hb⟩; replace HM := Lib.hid (HM.out.next hb); clear hb; have q0 : w.cell? ⟨bx, 0, none⟩ = some (.int .i64 x.next) := (HM.out.at 0 rfl).row.cell rfl; have q1 : w.cell? ⟨bx, 1, none⟩ = some (.int .i64 x.seq) := (HM.out.at 0 rfl).row.cell rfl)))
    go_ret2
    exact ⟨rfl, HM.out.below⟩
  have d4 : decide (x.seq < 0) = false := decide_eq_false A4
  by_cases A5 : 255 < x.seq
  · have d5 : decide (255 < x.seq) = true := decide_eq_true A5
    have hbad : badLay x.plain c s seed.data.toList := Or.inr (Or.inr (Or.inr (Or.inr (Or.inr (by rw [hsq]; exact A5)))))
    have hE1 : layE x.plain c s seed.data.toList = 1 := by unfold layE; rw [if_pos hbad]
    obtain rfl : E = 1 := by rw [hE, hE1]
    obtain rfl : X = ⟨#[]⟩ := by rw [hX, lay_err _ _ _ _ (by rw [hE1]; decide)]
    clear hX hE hE1 hbad hG hsl htl hgl hnx hsq sm hc hs
    go_enter Tryz.func6, Tryz.ntmps6
    go_wp2_with ((first
      | ((with_reducible refine Hold.box HM.out rfl rfl rfl ?_); clear HM; intro bx w HM; simp only [List.nil_append, List.cons_append] at HM; replace HM := Lib.hid HM)
      | ((with_reducible refine (RL.out _).mono ?_); rintro e w ⟨rfl, hb⟩; replace HM := Lib.hid (HM.out.next hb); clear hb; have q0 : w.cell? ⟨bx, 0, none⟩ = some (.int .i64 x.next) := (HM.out.at 0 rfl).row.cell rfl; have q1 : w.cell? ⟨bx, 1, none⟩ = some (.int .i64 x.seq) := (HM.out.at 0 rfl).row.cell rfl)))
    go_ret2
    exact ⟨rfl, HM.out.below⟩
  have d5 : decide (255 < x.seq) = false := decide_eq_false A5
  have hbad : ¬ badLay x.plain c s seed.data.toList := by
    unfold badLay
    rw [← hG, hsl, hnx, hsq]
    omega
  obtain ⟨c1, c2, s1, s2⟩ := long_out c s (by rw [← hG]; exact A0)
  by_cases B0 : c < (x.text.size : Int)
  · have e0 : decide (c < (x.text.size : Int)) = true := decide_eq_true B0
    have hE4 : layE x.plain c s seed.data.toList = 4 := by unfold layE; rw [if_neg hbad, if_pos (Or.inl (by rw [htl]; exact B0))]
    obtain rfl : E = 4 := by rw [hE, hE4]
    obtain rfl : X = ⟨#[]⟩ := by rw [hX, lay_err _ _ _ _ (by rw [hE4]; decide)]
    have hx2 : (sayV x)[2]? = some (.string x.text) := rfl
    clear hX hE hE4 hbad hG hsl htl hgl hnx hsq sm hc hs
    go_enter Tryz.func6, Tryz.ntmps6
    go_upto_region 3 with ((first
      | ((with_reducible refine Hold.box HM.out rfl rfl rfl ?_); clear HM; intro bx w HM; simp only [List.nil_append, List.cons_append] at HM; replace HM := Lib.hid HM)
      | ((with_reducible refine (RL.out _).mono ?_); rintro e w ⟨rfl, hb⟩; replace HM := Lib.hid (HM.out.next hb); clear hb; have q0 : w.cell? ⟨bx, 0, none⟩ = some (.int .i64 x.next) := (HM.out.at 0 rfl).row.cell rfl; have q1 : w.cell? ⟨bx, 1, none⟩ = some (.int .i64 x.seq) := (HM.out.at 0 rfl).row.cell rfl)))
    have q3 : w.cell? ⟨bx, 3, none⟩ = some (.string x.sig) := (HM.out.at 0 rfl).row.cell rfl
    go_wp2_with ((with_reducible refine Hold.load1 HM.out 0 (c := .string x.text) rfl rfl rfl rfl hx2 Frm.cellStr ?_))
    go_ret2
    exact ⟨rfl, HM.out.below⟩
  have e0 : decide (c < (x.text.size : Int)) = false := decide_eq_false B0
  by_cases B1 : s < (x.sig.size : Int)
  · have e1 : decide (s < (x.sig.size : Int)) = true := decide_eq_true B1
    have hE4 : layE x.plain c s seed.data.toList = 4 := by unfold layE; rw [if_neg hbad, if_pos (Or.inr (by rw [hgl]; exact B1))]
    obtain rfl : E = 4 := by rw [hE, hE4]
    obtain rfl : X = ⟨#[]⟩ := by rw [hX, lay_err _ _ _ _ (by rw [hE4]; decide)]
    have hx2 : (sayV x)[2]? = some (.string x.text) := rfl
    clear hX hE hE4 hbad hG hsl htl hgl hnx hsq sm hc hs
    go_enter Tryz.func6, Tryz.ntmps6
    go_upto_region 3 with ((first
      | ((with_reducible refine Hold.box HM.out rfl rfl rfl ?_); clear HM; intro bx w HM; simp only [List.nil_append, List.cons_append] at HM; replace HM := Lib.hid HM)
      | ((with_reducible refine (RL.out _).mono ?_); rintro e w ⟨rfl, hb⟩; replace HM := Lib.hid (HM.out.next hb); clear hb; have q0 : w.cell? ⟨bx, 0, none⟩ = some (.int .i64 x.next) := (HM.out.at 0 rfl).row.cell rfl; have q1 : w.cell? ⟨bx, 1, none⟩ = some (.int .i64 x.seq) := (HM.out.at 0 rfl).row.cell rfl)))
    have q3 : w.cell? ⟨bx, 3, none⟩ = some (.string x.sig) := (HM.out.at 0 rfl).row.cell rfl
    go_wp2_with ((with_reducible refine Hold.load1 HM.out 0 (c := .string x.text) rfl rfl rfl rfl hx2 Frm.cellStr ?_))
    go_ret2
    exact ⟨rfl, HM.out.below⟩
  have e1 : decide (s < (x.sig.size : Int)) = false := decide_eq_false B1
  have hE0 : layE x.plain c s seed.data.toList = 0 := by
    unfold layE
    rw [if_neg hbad, if_neg]
    rw [htl, hgl]
    omega
  obtain rfl : E = 0 := by rw [hE, hE0]
  obtain ⟨b0, hb0, w8⟩ := u8_in x.next (by omega) (by omega)
  obtain ⟨b1, hb1, w9⟩ := u8_in (x.text.size : Int) (by omega) (by omega)
  obtain ⟨b2, hb2, w10⟩ := u8_in x.seq (by omega) (by omega)
  obtain ⟨FT, hFT⟩ : ∃ D, D = tx (fit x.text.data.toList c) := ⟨_, rfl⟩
  obtain ⟨FS, hFS⟩ : ∃ D, D = tx (fit x.sig.data.toList s) := ⟨_, rfl⟩
  have zFT : FT.size ≤ 16 := by rw [hFT, tx_len, fit_len _ _ (by omega) (by omega)]; omega
  have zFS : FS.size ≤ 2000 := by rw [hFS, tx_len, fit_len _ _ (by omega) (by omega)]; omega
  obtain ⟨A1', k1⟩ : ∃ A, (⟨#[b0, b1, b2]⟩ : ByteArray) ++ FT = A := ⟨_, rfl⟩
  have z1 : A1'.size = 3 + FT.size := by rw [← k1, ByteArray.size_append] <;> rfl
  have o1 : ¬ 9223372036854775807 < 3 + FT.size := by omega
  obtain ⟨BD, k2⟩ : ∃ A, A1' ++ FS = A := ⟨_, rfl⟩
  have z2 : BD.size = A1'.size + FS.size := by rw [← k2, ByteArray.size_append] <;> rfl
  have o2 : ¬ 9223372036854775807 < A1'.size + FS.size := by omega
  obtain ⟨S1, k3⟩ : ∃ A, (⟨#[1]⟩ : ByteArray) ++ seed = A := ⟨_, rfl⟩
  have z3 : S1.size = 1 + seed.size := by rw [← k3, ByteArray.size_append] <;> rfl
  have o3 : ¬ 9223372036854775807 < 1 + seed.size := by omega
  obtain ⟨MK, hMK⟩ : ∃ M, M = Frm.hidB seed.data.toList BD := ⟨_, rfl⟩
  have z4 : MK.size = BD.size := by rw [hMK, Frm.hidB_size]
  have o4 : ¬ 9223372036854775807 < S1.size + MK.size := by omega
  have hbd : BD = tx (bodyT x.plain c s) := by
    rw [← k2, ← k1, hFT, hFS, body_is, hb0, hb1, hb2]
    unfold bodyT
    rw [hnx, hsq, htl]
    have e1 : ((x.text.size : Int)).toNat = x.text.size := rfl
    rw [e1]
    exact Eq.refl _
  have k4 : S1 ++ MK = X := by
    rw [← k3, laid_is, hX]
    unfold layT
    rw [if_pos hE0, hMK, hbd]
    exact Eq.refl _
  have RF1 := Lib.hid (fun u => RTap.fit_wide x.text c FT u hFT sm.text)
  have RF2 := Lib.hid (fun u => RTap.fit_wide x.sig s FS u hFS sm.sig)
  have RM := Lib.hid (fun u => masked_ref seed BD MK u hMK (by omega) (by omega))
  have hx0 : (sayV x)[0]? = some (.int .i64 x.next) := rfl
  have hx1 : (sayV x)[1]? = some (.int .i64 x.seq) := rfl
  have hx2 : (sayV x)[2]? = some (.string x.text) := rfl
  have hx3 : (sayV x)[3]? = some (.string x.sig) := rfl
  have hcvt : ∀ (u : World) (b : Nat), Row u b [.int .u8 (b0.toNat : Int), .int .u8 (b1.toNat : Int), .int .u8 (b2.toNat : Int)] → (convert 37 9 (.slice (some ⟨b, 0, none⟩) 3 3)).run Tryz.prog u = .ok (.string ⟨#[b0, b1, b2]⟩) u := fun u b h => string_row (l := [b0, b1, b2]) h 37 5 9 Tryz.underlying37 Tryz.underlying5 Tryz.underlying9 3 3 rfl
  have HCV := Lib.hid hcvt
  clear hX hE hE0 hbad hG hsl htl hgl hnx hsq sm hc hs hb0 hb1 hb2 hFT hFS hMK hbd hcvt z1 z2 z3 z4 zFT zFS c1 c2 s1 s2
  go_enter Tryz.func6, Tryz.ntmps6
  go_upto_region 3 with ((first
    | ((with_reducible refine Hold.box HM.out rfl rfl rfl ?_); clear HM; intro bx w HM; simp only [List.nil_append, List.cons_append] at HM; replace HM := Lib.hid HM)
    | ((with_reducible refine (RL.out _).mono ?_); rintro e w ⟨rfl, hb⟩; replace HM := Lib.hid (HM.out.next hb); clear hb; have q0 : w.cell? ⟨bx, 0, none⟩ = some (.int .i64 x.next) := (HM.out.at 0 rfl).row.cell rfl; have q1 : w.cell? ⟨bx, 1, none⟩ = some (.int .i64 x.seq) := (HM.out.at 0 rfl).row.cell rfl)))
  clear q0 q1
  have q3 : w.cell? ⟨bx, 3, none⟩ = some (.string x.sig) := (HM.out.at 0 rfl).row.cell rfl
  go_upto_region 5 with ((with_reducible refine Hold.load1 HM.out 0 (c := .string x.text) rfl rfl rfl rfl hx2 Frm.cellStr ?_))
  clear q3
  have HS := Lib.hid (Hold.Hld.drew (show Hold.Hld _ [⟨bx, 23, sayV x⟩] w from HM.out))
  replace HM := Lib.hid HM.out.drew
  refine wp_region_held (S := fun u => Hold.Hld w0 [⟨bx, 23, sayV x⟩] u) (by kernel_rfl) ?_
  change wpAnyH _ _ _ _ _ _ _ _ w.drew
  generalize w.drew = wd at *
  change wpAnyH _ _ _ _ _ (22 + 1) _ _ _
  refine wpAnyH_take (i := 0) (by simp only [List.getElem?_toArray, List.getElem?_cons_succ, List.getElem?_cons_zero]; rfl) (by kernel_rfl) (by kernel_rfl) (by kernel_rfl) (fun _ _ _ h => by exact h) (.inl ⟨by rfl, fun u hu => by go_simp; try with_reducible rfl⟩) HS.out ?_
  try simp only [List.getElem_toArray, List.getElem_cons_succ, List.getElem_cons_zero, Act.put, List.setIfInBounds_toArray, List.set_cons_zero, List.set_cons_succ]
  change wpAnyH _ _ _ _ _ (21 + 1) _ _ _
  refine wpAnyH_take (i := 1) (v := .int .i64 x.next) (by simp only [List.getElem?_toArray, List.getElem?_cons_succ, List.getElem?_cons_zero]; rfl) (by kernel_rfl) (by kernel_rfl) (by kernel_rfl) (fun _ _ _ h => by exact h) (.inl ⟨by rfl, fun u hu => Hold.load1_run hu 0 rfl rfl rfl (hx0) (Frm.cellInt)⟩) HS.out ?_
  try simp only [List.getElem_toArray, List.getElem_cons_succ, List.getElem_cons_zero, Act.put, List.setIfInBounds_toArray, List.set_cons_zero, List.set_cons_succ]
  change wpAnyH _ _ _ _ _ (20 + 1) _ _ _
  refine wpAnyH_take (i := 2) (by simp only [List.getElem?_toArray, List.getElem?_cons_succ, List.getElem?_cons_zero]; rfl) (by kernel_rfl) (by kernel_rfl) (by kernel_rfl) (fun _ _ _ h => by exact h) (.inl ⟨by rfl, fun u hu => by go_simp; try with_reducible rfl⟩) HS.out ?_
  try simp only [List.getElem_toArray, List.getElem_cons_succ, List.getElem_cons_zero, Act.put, List.setIfInBounds_toArray, List.set_cons_zero, List.set_cons_succ]
  change wpAnyH _ _ _ _ _ (19 + 1) _ _ _
  refine wpAnyH_take (i := 3) (by simp only [List.getElem?_toArray, List.getElem?_cons_succ, List.getElem?_cons_zero]; rfl) (by kernel_rfl) (by kernel_rfl) (by kernel_rfl) (fun _ _ _ h => by exact h) (.inl ⟨by rfl, fun u hu => by go_simp; try with_reducible rfl⟩) HS.out ?_
  try simp only [List.getElem_toArray, List.getElem_cons_succ, List.getElem_cons_zero, Act.put, List.setIfInBounds_toArray, List.set_cons_zero, List.set_cons_succ]
  change wpAnyH _ _ _ _ _ (18 + 1) _ _ _
  refine wpAnyH_take (i := 4) (v := .string x.text) (by simp only [List.getElem?_toArray, List.getElem?_cons_succ, List.getElem?_cons_zero]; rfl) (by kernel_rfl) (by kernel_rfl) (by kernel_rfl) (fun _ _ _ h => by exact h) (.inl ⟨by rfl, fun u hu => Hold.load1_run hu 0 rfl rfl rfl (hx2) (Frm.cellStr)⟩) HS.out ?_
  try simp only [List.getElem_toArray, List.getElem_cons_succ, List.getElem_cons_zero, Act.put, List.setIfInBounds_toArray, List.set_cons_zero, List.set_cons_succ]
  change wpAnyH _ _ _ _ _ (17 + 1) _ _ _
  refine wpAnyH_take (i := 5) (by simp only [List.getElem?_toArray, List.getElem?_cons_succ, List.getElem?_cons_zero]; rfl) (by kernel_rfl) (by kernel_rfl) (by kernel_rfl) (fun _ _ _ h => by exact h) (.inl ⟨by rfl, fun u hu => by go_simp; try with_reducible rfl⟩) HS.out ?_
  try simp only [List.getElem_toArray, List.getElem_cons_succ, List.getElem_cons_zero, Act.put, List.setIfInBounds_toArray, List.set_cons_zero, List.set_cons_succ]
  change wpAnyH _ _ _ _ _ (16 + 1) _ _ _
  refine wpAnyH_take (i := 6) (by simp only [List.getElem?_toArray, List.getElem?_cons_succ, List.getElem?_cons_zero]; rfl) (by kernel_rfl) (by kernel_rfl) (by kernel_rfl) (fun _ _ _ h => by exact h) (.inl ⟨by rfl, fun u hu => by go_simp; try with_reducible rfl⟩) HS.out ?_
  try simp only [List.getElem_toArray, List.getElem_cons_succ, List.getElem_cons_zero, Act.put, List.setIfInBounds_toArray, List.set_cons_zero, List.set_cons_succ]
  change wpAnyH _ _ _ _ _ (15 + 1) _ _ _
  refine wpAnyH_take (i := 7) (by simp only [List.getElem?_toArray, List.getElem?_cons_succ, List.getElem?_cons_zero]; rfl) (by kernel_rfl) (by kernel_rfl) (by kernel_rfl) (fun _ _ _ h => by exact h) (.inl ⟨by rfl, fun u hu => by go_simp; try with_reducible rfl⟩) HS.out ?_
  try simp only [List.getElem_toArray, List.getElem_cons_succ, List.getElem_cons_zero, Act.put, List.setIfInBounds_toArray, List.set_cons_zero, List.set_cons_succ]
  change wpAnyH _ _ _ _ _ (14 + 1) _ _ _
  refine wpAnyH_take (i := 8) (v := .int .i64 x.seq) (by simp only [List.getElem?_toArray, List.getElem?_cons_succ, List.getElem?_cons_zero]; rfl) (by kernel_rfl) (by kernel_rfl) (by kernel_rfl) (fun _ _ _ h => by exact h) (.inl ⟨by rfl, fun u hu => Hold.load1_run hu 0 rfl rfl rfl (hx1) (Frm.cellInt)⟩) HS.out ?_
  try simp only [List.getElem_toArray, List.getElem_cons_succ, List.getElem_cons_zero, Act.put, List.setIfInBounds_toArray, List.set_cons_zero, List.set_cons_succ]
  change wpAnyH _ _ _ _ _ (13 + 1) _ _ _
  refine wpAnyH_take (i := 9) (by simp only [List.getElem?_toArray, List.getElem?_cons_succ, List.getElem?_cons_zero]; rfl) (by kernel_rfl) (by kernel_rfl) (by kernel_rfl) (fun _ _ _ h => by exact h) (.inl ⟨by rfl, fun u hu => by go_simp; try with_reducible rfl⟩) HS.out ?_
  try simp only [List.getElem_toArray, List.getElem_cons_succ, List.getElem_cons_zero, Act.put, List.setIfInBounds_toArray, List.set_cons_zero, List.set_cons_succ]
  change wpAnyH _ _ _ _ _ (12 + 1) _ _ _
  refine wpAnyH_take (i := 12) (by simp only [List.getElem?_toArray, List.getElem?_cons_succ, List.getElem?_cons_zero]; rfl) (by kernel_rfl) (by kernel_rfl) (by kernel_rfl) (fun _ _ _ h => by exact h) (.inl ⟨by rfl, fun u hu => by go_simp; try with_reducible rfl⟩) HS.out ?_
  try simp only [List.getElem_toArray, List.getElem_cons_succ, List.getElem_cons_zero, Act.put, List.setIfInBounds_toArray, List.set_cons_zero, List.set_cons_succ]
  change wpAnyH _ _ _ _ _ (11 + 1) _ _ _
  refine wpAnyH_take (i := 13) (v := .string x.text) (by simp only [List.getElem?_toArray, List.getElem?_cons_succ, List.getElem?_cons_zero]; rfl) (by kernel_rfl) (by kernel_rfl) (by kernel_rfl) (fun _ _ _ h => by exact h) (.inl ⟨by rfl, fun u hu => Hold.load1_run hu 0 rfl rfl rfl (hx2) (Frm.cellStr)⟩) HS.out ?_
  try simp only [List.getElem_toArray, List.getElem_cons_succ, List.getElem_cons_zero, Act.put, List.setIfInBounds_toArray, List.set_cons_zero, List.set_cons_succ]
  change wpAnyH _ _ _ _ _ (10 + 1) _ _ _
  refine wpAnyH_take (i := 14) (by simp only [List.getElem?_toArray, List.getElem?_cons_succ, List.getElem?_cons_zero]; rfl) (by kernel_rfl) (by kernel_rfl) (by kernel_rfl) (fun _ _ _ h => by exact h) (.inl ⟨by rfl, fun u hu => by go_simp; try with_reducible rfl⟩) HS.out ?_
  try simp only [List.getElem_toArray, List.getElem_cons_succ, List.getElem_cons_zero, Act.put, List.setIfInBounds_toArray, List.set_cons_zero, List.set_cons_succ]
  change wpAnyH _ _ _ _ _ (9 + 1) _ _ _
  refine wpAnyH_take (i := 17) (by simp only [List.getElem?_toArray, List.getElem?_cons_succ, List.getElem?_cons_zero]; rfl) (by kernel_rfl) (by kernel_rfl) (by kernel_rfl) (fun _ _ _ h => by exact h) (.inl ⟨by rfl, fun u hu => by go_simp; try with_reducible rfl⟩) HS.out ?_
  try simp only [List.getElem_toArray, List.getElem_cons_succ, List.getElem_cons_zero, Act.put, List.setIfInBounds_toArray, List.set_cons_zero, List.set_cons_succ]
  change wpAnyH _ _ _ _ _ (8 + 1) _ _ _
  refine wpAnyH_take (i := 18) (v := .string x.sig) (by simp only [List.getElem?_toArray, List.getElem?_cons_succ, List.getElem?_cons_zero]; rfl) (by kernel_rfl) (by kernel_rfl) (by kernel_rfl) (fun _ _ _ h => by exact h) (.inl ⟨by rfl, fun u hu => Hold.load1_run hu 0 rfl rfl rfl (hx3) (Frm.cellStr)⟩) HS.out ?_
  try simp only [List.getElem_toArray, List.getElem_cons_succ, List.getElem_cons_zero, Act.put, List.setIfInBounds_toArray, List.set_cons_zero, List.set_cons_succ]
  change wpAnyH _ _ _ _ _ (7 + 1) _ _ _
  refine wpAnyH_take (i := 19) (by simp only [List.getElem?_toArray, List.getElem?_cons_succ, List.getElem?_cons_zero]; rfl) (by kernel_rfl) (by kernel_rfl) (by kernel_rfl) (fun _ _ _ h => by exact h) (.inl ⟨by rfl, fun u hu => by go_simp; try with_reducible rfl⟩) HS.out ?_
  try simp only [List.getElem_toArray, List.getElem_cons_succ, List.getElem_cons_zero, Act.put, List.setIfInBounds_toArray, List.set_cons_zero, List.set_cons_succ]
  change wpAnyH _ _ _ _ _ (6 + 1) _ _ _
  refine wpAnyH_all (rs := [10, 15]) (by kernel_rfl) (by simp) (fun j hj => ?_)
  rcases (by simpa using hj : j = 10 ∨ j = 15) with rfl | rfl
  · refine op_any (by simp only [List.getElem?_toArray, List.getElem?_cons_succ, List.getElem?_cons_zero]; rfl) (by kernel_rfl) ?_
    go_simp
    replace HM := Lib.hid (HM.out.add 5 [.int .u8 (b0.toNat : Int), .int .u8 (b1.toNat : Int), .int .u8 (b2.toNat : Int)])
    simp only [List.cons_append, List.nil_append] at HM
    generalize wd.alloc (.cells [.int .u8 (b0.toNat : Int), .int .u8 (b1.toNat : Int), .int .u8 (b2.toNat : Int)].toArray 5) = w7_1 at *
    generalize wd.heap.size = q_1 at *
    replace HS := Lib.hid (show Hold.Hld _ [⟨bx, 23, sayV x⟩] _ from Hold.Hld.front (m' := [_]) HM.out)
    refine ⟨HS.out, ?_⟩
    try simp only [List.getElem_toArray, List.getElem_cons_succ, List.getElem_cons_zero, Act.put, List.setIfInBounds_toArray, List.set_cons_zero, List.set_cons_succ]
    change wpAnyH _ _ _ _ _ (5 + 1) _ _ _
    refine wpAnyH_all (rs := [11, 15]) (by kernel_rfl) (by simp) (fun j hj => ?_)
    rcases (by simpa using hj : j = 11 ∨ j = 15) with rfl | rfl
    · have hcv := HCV.out _ _ (HM.out.at 1 rfl).row
      refine op_any (by simp only [List.getElem?_toArray, List.getElem?_cons_succ, List.getElem?_cons_zero]; rfl) (by kernel_rfl) ?_
      go_simp
      clear hcv
      replace HS := Lib.hid (show Hold.Hld _ [⟨bx, 23, sayV x⟩] _ from Hold.Hld.front (m' := [_]) HM.out)
      refine ⟨HS.out, ?_⟩
      try simp only [List.getElem_toArray, List.getElem_cons_succ, List.getElem_cons_zero, Act.put, List.setIfInBounds_toArray, List.set_cons_zero, List.set_cons_succ]
      change wpAnyH _ _ _ _ _ (4 + 1) _ _ _
      refine wpAnyH_all (rs := [15]) (by kernel_rfl) (by simp) (fun j hj => ?_)
      obtain rfl : j = 15 := by simpa using hj
      refine Steady.call_any (i := 15) (by simp only [List.getElem?_toArray, List.getElem?_cons_succ, List.getElem?_cons_zero]; rfl) (by kernel_rfl) _ _ (by go_simp) (fun u w' => u = .string FT ∧ Below _ _ w') ((RF1.out _).mono (fun e w' hh => ⟨_, hh.1, rfl, hh.2⟩)) ?_
      rintro u w6_2 ⟨rfl, hb⟩
      replace HM := Lib.hid (HM.out.next hb)
      clear hb
      replace HS := Lib.hid (show Hold.Hld _ [⟨bx, 23, sayV x⟩] _ from Hold.Hld.front (m' := [_]) HM.out)
      refine ⟨HS.out, ?_⟩
      try simp only [List.getElem_toArray, List.getElem_cons_succ, List.getElem_cons_zero, Act.put, List.setIfInBounds_toArray, List.set_cons_zero, List.set_cons_succ]
      change wpAnyH _ _ _ _ _ (3 + 1) _ _ _
      refine wpAnyH_take (i := 16) (by simp only [List.getElem?_toArray, List.getElem?_cons_succ, List.getElem?_cons_zero]; rfl) (by kernel_rfl) (by kernel_rfl) (by kernel_rfl) (fun _ _ _ h => by exact h) (.inl ⟨by rfl, fun u hu => by go_simp; try with_reducible rfl⟩) HS.out ?_
      try simp only [List.getElem_toArray, List.getElem_cons_succ, List.getElem_cons_zero, Act.put, List.setIfInBounds_toArray, List.set_cons_zero, List.set_cons_succ]
      change wpAnyH _ _ _ _ _ (2 + 1) _ _ _
      refine wpAnyH_all (rs := [20]) (by kernel_rfl) (by simp) (fun j hj => ?_)
      obtain rfl : j = 20 := by simpa using hj
      refine Steady.call_any (i := 20) (by simp only [List.getElem?_toArray, List.getElem?_cons_succ, List.getElem?_cons_zero]; rfl) (by kernel_rfl) _ _ (by go_simp) (fun u w' => u = .string FS ∧ Below _ _ w') ((RF2.out _).mono (fun e w' hh => ⟨_, hh.1, rfl, hh.2⟩)) ?_
      rintro u w6_3 ⟨rfl, hb⟩
      replace HM := Lib.hid (HM.out.next hb)
      clear hb
      replace HS := Lib.hid (show Hold.Hld _ [⟨bx, 23, sayV x⟩] _ from Hold.Hld.front (m' := [_]) HM.out)
      refine ⟨HS.out, ?_⟩
      try simp only [List.getElem_toArray, List.getElem_cons_succ, List.getElem_cons_zero, Act.put, List.setIfInBounds_toArray, List.set_cons_zero, List.set_cons_succ]
      change wpAnyH _ _ _ _ _ (1 + 1) _ _ _
      refine wpAnyH_take (i := 21) (by simp only [List.getElem?_toArray, List.getElem?_cons_succ, List.getElem?_cons_zero]; rfl) (by kernel_rfl) (by kernel_rfl) (by kernel_rfl) (fun _ _ _ h => by exact h) (.inl ⟨by rfl, fun u hu => by go_simp; try with_reducible rfl⟩) HS.out ?_
      try simp only [List.getElem_toArray, List.getElem_cons_succ, List.getElem_cons_zero, Act.put, List.setIfInBounds_toArray, List.set_cons_zero, List.set_cons_succ]
      change wpAnyH _ _ _ _ _ (0 + 1) _ _ _
      refine wpAnyH_take (i := 22) (by simp only [List.getElem?_toArray, List.getElem?_cons_succ, List.getElem?_cons_zero]; rfl) (by kernel_rfl) (by kernel_rfl) (by kernel_rfl) (fun _ _ _ h => by exact h) (.inl ⟨by rfl, fun u hu => by go_simp; try with_reducible rfl⟩) HS.out ?_
      try simp only [List.getElem_toArray, List.getElem_cons_succ, List.getElem_cons_zero, Act.put, List.setIfInBounds_toArray, List.set_cons_zero, List.set_cons_succ]
      refine wpAnyH_done (by kernel_rfl) ?_ _
      go_wp2_with ((with_reducible refine (RM.out _).mono ?_); rintro e w ⟨rfl, hb⟩; replace HM := Lib.hid (HM.out.next hb); clear hb)
      go_ret2
      exact ⟨rfl, HM.out.below⟩
    · refine Steady.call_any (i := 15) (by simp only [List.getElem?_toArray, List.getElem?_cons_succ, List.getElem?_cons_zero]; rfl) (by kernel_rfl) _ _ (by go_simp) (fun u w' => u = .string FT ∧ Below _ _ w') ((RF1.out _).mono (fun e w' hh => ⟨_, hh.1, rfl, hh.2⟩)) ?_
      rintro u w6_4 ⟨rfl, hb⟩
      replace HM := Lib.hid (HM.out.next hb)
      clear hb
      replace HS := Lib.hid (show Hold.Hld _ [⟨bx, 23, sayV x⟩] _ from Hold.Hld.front (m' := [_]) HM.out)
      refine ⟨HS.out, ?_⟩
      try simp only [List.getElem_toArray, List.getElem_cons_succ, List.getElem_cons_zero, Act.put, List.setIfInBounds_toArray, List.set_cons_zero, List.set_cons_succ]
      change wpAnyH _ _ _ _ _ (4 + 1) _ _ _
      refine wpAnyH_all (rs := [11, 20]) (by kernel_rfl) (by simp) (fun j hj => ?_)
      rcases (by simpa using hj : j = 11 ∨ j = 20) with rfl | rfl
      · have hcv := HCV.out _ _ (HM.out.at 1 rfl).row
        refine op_any (by simp only [List.getElem?_toArray, List.getElem?_cons_succ, List.getElem?_cons_zero]; rfl) (by kernel_rfl) ?_
        go_simp
        clear hcv
        replace HS := Lib.hid (show Hold.Hld _ [⟨bx, 23, sayV x⟩] _ from Hold.Hld.front (m' := [_]) HM.out)
        refine ⟨HS.out, ?_⟩
        try simp only [List.getElem_toArray, List.getElem_cons_succ, List.getElem_cons_zero, Act.put, List.setIfInBounds_toArray, List.set_cons_zero, List.set_cons_succ]
        change wpAnyH _ _ _ _ _ (3 + 1) _ _ _
        refine wpAnyH_take (i := 16) (by simp only [List.getElem?_toArray, List.getElem?_cons_succ, List.getElem?_cons_zero]; rfl) (by kernel_rfl) (by kernel_rfl) (by kernel_rfl) (fun _ _ _ h => by exact h) (.inl ⟨by rfl, fun u hu => by go_simp; try with_reducible rfl⟩) HS.out ?_
        try simp only [List.getElem_toArray, List.getElem_cons_succ, List.getElem_cons_zero, Act.put, List.setIfInBounds_toArray, List.set_cons_zero, List.set_cons_succ]
        change wpAnyH _ _ _ _ _ (2 + 1) _ _ _
        refine wpAnyH_all (rs := [20]) (by kernel_rfl) (by simp) (fun j hj => ?_)
        obtain rfl : j = 20 := by simpa using hj
        refine Steady.call_any (i := 20) (by simp only [List.getElem?_toArray, List.getElem?_cons_succ, List.getElem?_cons_zero]; rfl) (by kernel_rfl) _ _ (by go_simp) (fun u w' => u = .string FS ∧ Below _ _ w') ((RF2.out _).mono (fun e w' hh => ⟨_, hh.1, rfl, hh.2⟩)) ?_
        rintro u w6_5 ⟨rfl, hb⟩
        replace HM := Lib.hid (HM.out.next hb)
        clear hb
        replace HS := Lib.hid (show Hold.Hld _ [⟨bx, 23, sayV x⟩] _ from Hold.Hld.front (m' := [_]) HM.out)
        refine ⟨HS.out, ?_⟩
        try simp only [List.getElem_toArray, List.getElem_cons_succ, List.getElem_cons_zero, Act.put, List.setIfInBounds_toArray, List.set_cons_zero, List.set_cons_succ]
        change wpAnyH _ _ _ _ _ (1 + 1) _ _ _
        refine wpAnyH_take (i := 21) (by simp only [List.getElem?_toArray, List.getElem?_cons_succ, List.getElem?_cons_zero]; rfl) (by kernel_rfl) (by kernel_rfl) (by kernel_rfl) (fun _ _ _ h => by exact h) (.inl ⟨by rfl, fun u hu => by go_simp; try with_reducible rfl⟩) HS.out ?_
        try simp only [List.getElem_toArray, List.getElem_cons_succ, List.getElem_cons_zero, Act.put, List.setIfInBounds_toArray, List.set_cons_zero, List.set_cons_succ]
        change wpAnyH _ _ _ _ _ (0 + 1) _ _ _
        refine wpAnyH_take (i := 22) (by simp only [List.getElem?_toArray, List.getElem?_cons_succ, List.getElem?_cons_zero]; rfl) (by kernel_rfl) (by kernel_rfl) (by kernel_rfl) (fun _ _ _ h => by exact h) (.inl ⟨by rfl, fun u hu => by go_simp; try with_reducible rfl⟩) HS.out ?_
        try simp only [List.getElem_toArray, List.getElem_cons_succ, List.getElem_cons_zero, Act.put, List.setIfInBounds_toArray, List.set_cons_zero, List.set_cons_succ]
        refine wpAnyH_done (by kernel_rfl) ?_ _
        go_wp2_with ((with_reducible refine (RM.out _).mono ?_); rintro e w ⟨rfl, hb⟩; replace HM := Lib.hid (HM.out.next hb); clear hb)
        go_ret2
        exact ⟨rfl, HM.out.below⟩
      · refine Steady.call_any (i := 20) (by simp only [List.getElem?_toArray, List.getElem?_cons_succ, List.getElem?_cons_zero]; rfl) (by kernel_rfl) _ _ (by go_simp) (fun u w' => u = .string FS ∧ Below _ _ w') ((RF2.out _).mono (fun e w' hh => ⟨_, hh.1, rfl, hh.2⟩)) ?_
        rintro u w6_6 ⟨rfl, hb⟩
        replace HM := Lib.hid (HM.out.next hb)
        clear hb
        replace HS := Lib.hid (show Hold.Hld _ [⟨bx, 23, sayV x⟩] _ from Hold.Hld.front (m' := [_]) HM.out)
        refine ⟨HS.out, ?_⟩
        try simp only [List.getElem_toArray, List.getElem_cons_succ, List.getElem_cons_zero, Act.put, List.setIfInBounds_toArray, List.set_cons_zero, List.set_cons_succ]
        change wpAnyH _ _ _ _ _ (3 + 1) _ _ _
        refine wpAnyH_all (rs := [11]) (by kernel_rfl) (by simp) (fun j hj => ?_)
        obtain rfl : j = 11 := by simpa using hj
        have hcv := HCV.out _ _ (HM.out.at 1 rfl).row
        refine op_any (by simp only [List.getElem?_toArray, List.getElem?_cons_succ, List.getElem?_cons_zero]; rfl) (by kernel_rfl) ?_
        go_simp
        clear hcv
        replace HS := Lib.hid (show Hold.Hld _ [⟨bx, 23, sayV x⟩] _ from Hold.Hld.front (m' := [_]) HM.out)
        refine ⟨HS.out, ?_⟩
        try simp only [List.getElem_toArray, List.getElem_cons_succ, List.getElem_cons_zero, Act.put, List.setIfInBounds_toArray, List.set_cons_zero, List.set_cons_succ]
        change wpAnyH _ _ _ _ _ (2 + 1) _ _ _
        refine wpAnyH_take (i := 16) (by simp only [List.getElem?_toArray, List.getElem?_cons_succ, List.getElem?_cons_zero]; rfl) (by kernel_rfl) (by kernel_rfl) (by kernel_rfl) (fun _ _ _ h => by exact h) (.inl ⟨by rfl, fun u hu => by go_simp; try with_reducible rfl⟩) HS.out ?_
        try simp only [List.getElem_toArray, List.getElem_cons_succ, List.getElem_cons_zero, Act.put, List.setIfInBounds_toArray, List.set_cons_zero, List.set_cons_succ]
        change wpAnyH _ _ _ _ _ (1 + 1) _ _ _
        refine wpAnyH_take (i := 21) (by simp only [List.getElem?_toArray, List.getElem?_cons_succ, List.getElem?_cons_zero]; rfl) (by kernel_rfl) (by kernel_rfl) (by kernel_rfl) (fun _ _ _ h => by exact h) (.inl ⟨by rfl, fun u hu => by go_simp; try with_reducible rfl⟩) HS.out ?_
        try simp only [List.getElem_toArray, List.getElem_cons_succ, List.getElem_cons_zero, Act.put, List.setIfInBounds_toArray, List.set_cons_zero, List.set_cons_succ]
        change wpAnyH _ _ _ _ _ (0 + 1) _ _ _
        refine wpAnyH_take (i := 22) (by simp only [List.getElem?_toArray, List.getElem?_cons_succ, List.getElem?_cons_zero]; rfl) (by kernel_rfl) (by kernel_rfl) (by kernel_rfl) (fun _ _ _ h => by exact h) (.inl ⟨by rfl, fun u hu => by go_simp; try with_reducible rfl⟩) HS.out ?_
        try simp only [List.getElem_toArray, List.getElem_cons_succ, List.getElem_cons_zero, Act.put, List.setIfInBounds_toArray, List.set_cons_zero, List.set_cons_succ]
        refine wpAnyH_done (by kernel_rfl) ?_ _
        go_wp2_with ((with_reducible refine (RM.out _).mono ?_); rintro e w ⟨rfl, hb⟩; replace HM := Lib.hid (HM.out.next hb); clear hb)
        go_ret2
        exact ⟨rfl, HM.out.below⟩
  · refine Steady.call_any (i := 15) (by simp only [List.getElem?_toArray, List.getElem?_cons_succ, List.getElem?_cons_zero]; rfl) (by kernel_rfl) _ _ (by go_simp) (fun u w' => u = .string FT ∧ Below _ _ w') ((RF1.out _).mono (fun e w' hh => ⟨_, hh.1, rfl, hh.2⟩)) ?_
    rintro u w6_7 ⟨rfl, hb⟩
    replace HM := Lib.hid (HM.out.next hb)
    clear hb
    replace HS := Lib.hid (show Hold.Hld _ [⟨bx, 23, sayV x⟩] _ from HM.out)
    refine ⟨HS.out, ?_⟩
    try simp only [List.getElem_toArray, List.getElem_cons_succ, List.getElem_cons_zero, Act.put, List.setIfInBounds_toArray, List.set_cons_zero, List.set_cons_succ]
    change wpAnyH _ _ _ _ _ (5 + 1) _ _ _
    refine wpAnyH_all (rs := [10, 20]) (by kernel_rfl) (by simp) (fun j hj => ?_)
    rcases (by simpa using hj : j = 10 ∨ j = 20) with rfl | rfl
    · refine op_any (by simp only [List.getElem?_toArray, List.getElem?_cons_succ, List.getElem?_cons_zero]; rfl) (by kernel_rfl) ?_
      go_simp
      replace HM := Lib.hid (HM.out.add 5 [.int .u8 (b0.toNat : Int), .int .u8 (b1.toNat : Int), .int .u8 (b2.toNat : Int)])
      simp only [List.cons_append, List.nil_append] at HM
      generalize w6_7.alloc (.cells [.int .u8 (b0.toNat : Int), .int .u8 (b1.toNat : Int), .int .u8 (b2.toNat : Int)].toArray 5) = w7_8 at *
      generalize w6_7.heap.size = q_8 at *
      replace HS := Lib.hid (show Hold.Hld _ [⟨bx, 23, sayV x⟩] _ from Hold.Hld.front (m' := [_]) HM.out)
      refine ⟨HS.out, ?_⟩
      try simp only [List.getElem_toArray, List.getElem_cons_succ, List.getElem_cons_zero, Act.put, List.setIfInBounds_toArray, List.set_cons_zero, List.set_cons_succ]
      change wpAnyH _ _ _ _ _ (4 + 1) _ _ _
      refine wpAnyH_all (rs := [11, 20]) (by kernel_rfl) (by simp) (fun j hj => ?_)
      rcases (by simpa using hj : j = 11 ∨ j = 20) with rfl | rfl
      · have hcv := HCV.out _ _ (HM.out.at 1 rfl).row
        refine op_any (by simp only [List.getElem?_toArray, List.getElem?_cons_succ, List.getElem?_cons_zero]; rfl) (by kernel_rfl) ?_
        go_simp
        clear hcv
        replace HS := Lib.hid (show Hold.Hld _ [⟨bx, 23, sayV x⟩] _ from Hold.Hld.front (m' := [_]) HM.out)
        refine ⟨HS.out, ?_⟩
        try simp only [List.getElem_toArray, List.getElem_cons_succ, List.getElem_cons_zero, Act.put, List.setIfInBounds_toArray, List.set_cons_zero, List.set_cons_succ]
        change wpAnyH _ _ _ _ _ (3 + 1) _ _ _
        refine wpAnyH_take (i := 16) (by simp only [List.getElem?_toArray, List.getElem?_cons_succ, List.getElem?_cons_zero]; rfl) (by kernel_rfl) (by kernel_rfl) (by kernel_rfl) (fun _ _ _ h => by exact h) (.inl ⟨by rfl, fun u hu => by go_simp; try with_reducible rfl⟩) HS.out ?_
        try simp only [List.getElem_toArray, List.getElem_cons_succ, List.getElem_cons_zero, Act.put, List.setIfInBounds_toArray, List.set_cons_zero, List.set_cons_succ]
        change wpAnyH _ _ _ _ _ (2 + 1) _ _ _
        refine wpAnyH_all (rs := [20]) (by kernel_rfl) (by simp) (fun j hj => ?_)
        obtain rfl : j = 20 := by simpa using hj
        refine Steady.call_any (i := 20) (by simp only [List.getElem?_toArray, List.getElem?_cons_succ, List.getElem?_cons_zero]; rfl) (by kernel_rfl) _ _ (by go_simp) (fun u w' => u = .string FS ∧ Below _ _ w') ((RF2.out _).mono (fun e w' hh => ⟨_, hh.1, rfl, hh.2⟩)) ?_
        rintro u w6_9 ⟨rfl, hb⟩
        replace HM := Lib.hid (HM.out.next hb)
        clear hb
        replace HS := Lib.hid (show Hold.Hld _ [⟨bx, 23, sayV x⟩] _ from Hold.Hld.front (m' := [_]) HM.out)
        refine ⟨HS.out, ?_⟩
        try simp only [List.getElem_toArray, List.getElem_cons_succ, List.getElem_cons_zero, Act.put, List.setIfInBounds_toArray, List.set_cons_zero, List.set_cons_succ]
        change wpAnyH _ _ _ _ _ (1 + 1) _ _ _
        refine wpAnyH_take (i := 21) (by simp only [List.getElem?_toArray, List.getElem?_cons_succ, List.getElem?_cons_zero]; rfl) (by kernel_rfl) (by kernel_rfl) (by kernel_rfl) (fun _ _ _ h => by exact h) (.inl ⟨by rfl, fun u hu => by go_simp; try with_reducible rfl⟩) HS.out ?_
        try simp only [List.getElem_toArray, List.getElem_cons_succ, List.getElem_cons_zero, Act.put, List.setIfInBounds_toArray, List.set_cons_zero, List.set_cons_succ]
        change wpAnyH _ _ _ _ _ (0 + 1) _ _ _
        refine wpAnyH_take (i := 22) (by simp only [List.getElem?_toArray, List.getElem?_cons_succ, List.getElem?_cons_zero]; rfl) (by kernel_rfl) (by kernel_rfl) (by kernel_rfl) (fun _ _ _ h => by exact h) (.inl ⟨by rfl, fun u hu => by go_simp; try with_reducible rfl⟩) HS.out ?_
        try simp only [List.getElem_toArray, List.getElem_cons_succ, List.getElem_cons_zero, Act.put, List.setIfInBounds_toArray, List.set_cons_zero, List.set_cons_succ]
        refine wpAnyH_done (by kernel_rfl) ?_ _
        go_wp2_with ((with_reducible refine (RM.out _).mono ?_); rintro e w ⟨rfl, hb⟩; replace HM := Lib.hid (HM.out.next hb); clear hb)
        go_ret2
        exact ⟨rfl, HM.out.below⟩
      · refine Steady.call_any (i := 20) (by simp only [List.getElem?_toArray, List.getElem?_cons_succ, List.getElem?_cons_zero]; rfl) (by kernel_rfl) _ _ (by go_simp) (fun u w' => u = .string FS ∧ Below _ _ w') ((RF2.out _).mono (fun e w' hh => ⟨_, hh.1, rfl, hh.2⟩)) ?_
        rintro u w6_10 ⟨rfl, hb⟩
        replace HM := Lib.hid (HM.out.next hb)
        clear hb
        replace HS := Lib.hid (show Hold.Hld _ [⟨bx, 23, sayV x⟩] _ from Hold.Hld.front (m' := [_]) HM.out)
        refine ⟨HS.out, ?_⟩
        try simp only [List.getElem_toArray, List.getElem_cons_succ, List.getElem_cons_zero, Act.put, List.setIfInBounds_toArray, List.set_cons_zero, List.set_cons_succ]
        change wpAnyH _ _ _ _ _ (3 + 1) _ _ _
        refine wpAnyH_all (rs := [11]) (by kernel_rfl) (by simp) (fun j hj => ?_)
        obtain rfl : j = 11 := by simpa using hj
        have hcv := HCV.out _ _ (HM.out.at 1 rfl).row
        refine op_any (by simp only [List.getElem?_toArray, List.getElem?_cons_succ, List.getElem?_cons_zero]; rfl) (by kernel_rfl) ?_
        go_simp
        clear hcv
        replace HS := Lib.hid (show Hold.Hld _ [⟨bx, 23, sayV x⟩] _ from Hold.Hld.front (m' := [_]) HM.out)
        refine ⟨HS.out, ?_⟩
        try simp only [List.getElem_toArray, List.getElem_cons_succ, List.getElem_cons_zero, Act.put, List.setIfInBounds_toArray, List.set_cons_zero, List.set_cons_succ]
        change wpAnyH _ _ _ _ _ (2 + 1) _ _ _
        refine wpAnyH_take (i := 16) (by simp only [List.getElem?_toArray, List.getElem?_cons_succ, List.getElem?_cons_zero]; rfl) (by kernel_rfl) (by kernel_rfl) (by kernel_rfl) (fun _ _ _ h => by exact h) (.inl ⟨by rfl, fun u hu => by go_simp; try with_reducible rfl⟩) HS.out ?_
        try simp only [List.getElem_toArray, List.getElem_cons_succ, List.getElem_cons_zero, Act.put, List.setIfInBounds_toArray, List.set_cons_zero, List.set_cons_succ]
        change wpAnyH _ _ _ _ _ (1 + 1) _ _ _
        refine wpAnyH_take (i := 21) (by simp only [List.getElem?_toArray, List.getElem?_cons_succ, List.getElem?_cons_zero]; rfl) (by kernel_rfl) (by kernel_rfl) (by kernel_rfl) (fun _ _ _ h => by exact h) (.inl ⟨by rfl, fun u hu => by go_simp; try with_reducible rfl⟩) HS.out ?_
        try simp only [List.getElem_toArray, List.getElem_cons_succ, List.getElem_cons_zero, Act.put, List.setIfInBounds_toArray, List.set_cons_zero, List.set_cons_succ]
        change wpAnyH _ _ _ _ _ (0 + 1) _ _ _
        refine wpAnyH_take (i := 22) (by simp only [List.getElem?_toArray, List.getElem?_cons_succ, List.getElem?_cons_zero]; rfl) (by kernel_rfl) (by kernel_rfl) (by kernel_rfl) (fun _ _ _ h => by exact h) (.inl ⟨by rfl, fun u hu => by go_simp; try with_reducible rfl⟩) HS.out ?_
        try simp only [List.getElem_toArray, List.getElem_cons_succ, List.getElem_cons_zero, Act.put, List.setIfInBounds_toArray, List.set_cons_zero, List.set_cons_succ]
        refine wpAnyH_done (by kernel_rfl) ?_ _
        go_wp2_with ((with_reducible refine (RM.out _).mono ?_); rintro e w ⟨rfl, hb⟩; replace HM := Lib.hid (HM.out.next hb); clear hb)
        go_ret2
        exact ⟨rfl, HM.out.below⟩
    · refine Steady.call_any (i := 20) (by simp only [List.getElem?_toArray, List.getElem?_cons_succ, List.getElem?_cons_zero]; rfl) (by kernel_rfl) _ _ (by go_simp) (fun u w' => u = .string FS ∧ Below _ _ w') ((RF2.out _).mono (fun e w' hh => ⟨_, hh.1, rfl, hh.2⟩)) ?_
      rintro u w6_11 ⟨rfl, hb⟩
      replace HM := Lib.hid (HM.out.next hb)
      clear hb
      replace HS := Lib.hid (show Hold.Hld _ [⟨bx, 23, sayV x⟩] _ from HM.out)
      refine ⟨HS.out, ?_⟩
      try simp only [List.getElem_toArray, List.getElem_cons_succ, List.getElem_cons_zero, Act.put, List.setIfInBounds_toArray, List.set_cons_zero, List.set_cons_succ]
      change wpAnyH _ _ _ _ _ (4 + 1) _ _ _
      refine wpAnyH_all (rs := [10]) (by kernel_rfl) (by simp) (fun j hj => ?_)
      obtain rfl : j = 10 := by simpa using hj
      refine op_any (by simp only [List.getElem?_toArray, List.getElem?_cons_succ, List.getElem?_cons_zero]; rfl) (by kernel_rfl) ?_
      go_simp
      replace HM := Lib.hid (HM.out.add 5 [.int .u8 (b0.toNat : Int), .int .u8 (b1.toNat : Int), .int .u8 (b2.toNat : Int)])
      simp only [List.cons_append, List.nil_append] at HM
      generalize w6_11.alloc (.cells [.int .u8 (b0.toNat : Int), .int .u8 (b1.toNat : Int), .int .u8 (b2.toNat : Int)].toArray 5) = w7_12 at *
      generalize w6_11.heap.size = q_12 at *
      replace HS := Lib.hid (show Hold.Hld _ [⟨bx, 23, sayV x⟩] _ from Hold.Hld.front (m' := [_]) HM.out)
      refine ⟨HS.out, ?_⟩
      try simp only [List.getElem_toArray, List.getElem_cons_succ, List.getElem_cons_zero, Act.put, List.setIfInBounds_toArray, List.set_cons_zero, List.set_cons_succ]
      change wpAnyH _ _ _ _ _ (3 + 1) _ _ _
      refine wpAnyH_all (rs := [11]) (by kernel_rfl) (by simp) (fun j hj => ?_)
      obtain rfl : j = 11 := by simpa using hj
      have hcv := HCV.out _ _ (HM.out.at 1 rfl).row
      refine op_any (by simp only [List.getElem?_toArray, List.getElem?_cons_succ, List.getElem?_cons_zero]; rfl) (by kernel_rfl) ?_
      go_simp
      clear hcv
      replace HS := Lib.hid (show Hold.Hld _ [⟨bx, 23, sayV x⟩] _ from Hold.Hld.front (m' := [_]) HM.out)
      refine ⟨HS.out, ?_⟩
      try simp only [List.getElem_toArray, List.getElem_cons_succ, List.getElem_cons_zero, Act.put, List.setIfInBounds_toArray, List.set_cons_zero, List.set_cons_succ]
      change wpAnyH _ _ _ _ _ (2 + 1) _ _ _
      refine wpAnyH_take (i := 16) (by simp only [List.getElem?_toArray, List.getElem?_cons_succ, List.getElem?_cons_zero]; rfl) (by kernel_rfl) (by kernel_rfl) (by kernel_rfl) (fun _ _ _ h => by exact h) (.inl ⟨by rfl, fun u hu => by go_simp; try with_reducible rfl⟩) HS.out ?_
      try simp only [List.getElem_toArray, List.getElem_cons_succ, List.getElem_cons_zero, Act.put, List.setIfInBounds_toArray, List.set_cons_zero, List.set_cons_succ]
      change wpAnyH _ _ _ _ _ (1 + 1) _ _ _
      refine wpAnyH_take (i := 21) (by simp only [List.getElem?_toArray, List.getElem?_cons_succ, List.getElem?_cons_zero]; rfl) (by kernel_rfl) (by kernel_rfl) (by kernel_rfl) (fun _ _ _ h => by exact h) (.inl ⟨by rfl, fun u hu => by go_simp; try with_reducible rfl⟩) HS.out ?_
      try simp only [List.getElem_toArray, List.getElem_cons_succ, List.getElem_cons_zero, Act.put, List.setIfInBounds_toArray, List.set_cons_zero, List.set_cons_succ]
      change wpAnyH _ _ _ _ _ (0 + 1) _ _ _
      refine wpAnyH_take (i := 22) (by simp only [List.getElem?_toArray, List.getElem?_cons_succ, List.getElem?_cons_zero]; rfl) (by kernel_rfl) (by kernel_rfl) (by kernel_rfl) (fun _ _ _ h => by exact h) (.inl ⟨by rfl, fun u hu => by go_simp; try with_reducible rfl⟩) HS.out ?_
      try simp only [List.getElem_toArray, List.getElem_cons_succ, List.getElem_cons_zero, Act.put, List.setIfInBounds_toArray, List.set_cons_zero, List.set_cons_succ]
      refine wpAnyH_done (by kernel_rfl) ?_ _
      go_wp2_with ((with_reducible refine (RM.out _).mono ?_); rintro e w ⟨rfl, hb⟩; replace HM := Lib.hid (HM.out.next hb); clear hb)
      go_ret2
      exact ⟨rfl, HM.out.below⟩
end Go.Proofs.YtlodgomjlkpdhaaGreatDoor.RFrm
