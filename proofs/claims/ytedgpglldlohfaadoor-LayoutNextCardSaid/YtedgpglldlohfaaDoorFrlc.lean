/-
  What the landed Lay of package frame of layer 18 lays in a slot is what the plain mathematics of the text Frm says; all memory that was there is left as it was. Conditions: texts of no more than 140737488351232 bytes, numbers of 64 bits, the listed tables.
-/
import Derived.Test.YtedgpglldlohfaaDoorFrla
namespace Go.Proofs.YtedgpglldlohfaaDoor.Frl
open Go.RowKit Mur Lanes Prt Tap Cel Frm
set_option maxRecDepth 100000
set_option linter.unusedSimpArgs false

theorem not_both {p q : Prop} [Decidable p] [Decidable q] (h : (decide p && decide q) = false) : ¬ p ∨ ¬ q := by
  by_cases hp : p
  · by_cases hq : q
    · rw [decide_eq_true hp, decide_eq_true hq] at h; cases h
    · exact Or.inr hq
  · exact Or.inl hp
theorem both {p q : Prop} [Decidable p] [Decidable q] (h : (decide p && decide q) = true) : p ∧ q := by
  rw [Bool.and_eq_true] at h
  exact ⟨of_decide_eq_true h.1, of_decide_eq_true h.2⟩

set_option maxHeartbeats 12800000 in
theorem lay_any (x : SayB) (c s : Int) (seed X : ByteArray) (E : Int) (w : World) (hX : X = tx (layT x.plain c s seed.data.toList)) (hE : E = layE x.plain c s seed.data.toList) (_ : Small x) (_ : seed.size ≤ 140737488351232) (hc : InR c) (hs : InR s) (hl : Laid w) :
    Calls Tryd.prog 21 #[.agg (sayV x).toArray, .int .i64 c, .int .i64 s, .string seed] w fun z w' => z = .returned (.tuple #[.string X, .int .i64 E]) ∧ Below w.heap.size w w' := by
  obtain ⟨w0, hw0⟩ : ∃ w0, w0 = w := ⟨w, rfl⟩
  subst hw0
  obtain ⟨G, hG⟩ : ∃ G, G = Frm.long c s := ⟨_, rfl⟩
  have RL := Lib.hid (fun u => show Calls Tryd.prog 9 #[.int .i64 c, .int .i64 s] u fun z w' => z = .returned (.int .i64 G) ∧ Below u.heap.size u w' from by rw [hG]; exact long_any c s u hc hs)
  obtain ⟨W1, hW1⟩ : ∃ W, W = (decide (0 ≤ x.next) && decide (x.next ≤ 16)) := ⟨_, rfl⟩
  have RW1 := Lib.hid (fun u => within_any x.next 16 W1 u hW1)
  obtain ⟨W2, hW2⟩ : ∃ W, W = (decide (0 ≤ x.seq) && decide (x.seq ≤ 255)) := ⟨_, rfl⟩
  have RW2 := Lib.hid (fun u => within_any x.seq 255 W2 u hW2)
  have HM := Lib.hid (Hold.Hld.start w0)
  have HL := Lib.hid hl
  have hsl : seed.data.toList.length = seed.size := rfl
  have htl : x.plain.text.length = x.text.size := rfl
  have hgl : x.plain.sig.length = x.sig.size := rfl
  have hnx : x.plain.next = x.next := rfl
  have hsq : x.plain.seq = x.seq := rfl
  have hx0 : (sayV x)[0]? = some (.int .i64 x.next) := rfl
  have hx1 : (sayV x)[1]? = some (.int .i64 x.seq) := rfl
  have hx2 : (sayV x)[2]? = some (.string x.text) := rfl
  have hx3 : (sayV x)[3]? = some (.string x.sig) := rfl
  clear hl
  by_cases A0 : G = 0
  · have d0 : ((G : Int) == 0) = true := by rw [A0]; rfl
    have hbad : badLay x.plain c s seed.data.toList := Or.inl (by rw [← hG]; exact A0)
    have hE1 : layE x.plain c s seed.data.toList = 1 := by unfold layE; rw [if_pos hbad]
    obtain rfl : E = 1 := by rw [hE, hE1]
    obtain rfl : X = ⟨#[]⟩ := by rw [hX, lay_err _ _ _ _ (by rw [hE1]; decide)]
    clear hX hE hE1 hbad hG hsl htl hgl hnx hsq hc hs hW1 hW2
    go_enter Tryd.func21, Tryd.ntmps21
    go_wp2_with ((first
      | ((with_reducible refine Hold.box HM.out rfl rfl rfl ?_); clear HM; intro bx w HM; simp only [List.nil_append, List.cons_append] at HM; replace HM := Lib.hid HM)
      | ((with_reducible refine (RL.out _).mono ?_); rintro e w ⟨rfl, hb⟩; replace HM := Lib.hid (HM.out.next hb); clear hb)
      | ((with_reducible refine (RW1.out _).mono ?_); rintro e w ⟨rfl, hb⟩; replace HM := Lib.hid (HM.out.next hb); clear hb)
      | ((with_reducible refine (RW2.out _).mono ?_); rintro e w ⟨rfl, hb⟩; replace HM := Lib.hid (HM.out.next hb); clear hb)
      | ((with_reducible refine Hold.load1 HM.out 0 (c := .int .i64 x.next) rfl rfl rfl rfl hx0 Frm.cellInt ?_))
      | ((with_reducible refine Hold.load1 HM.out 0 (c := .int .i64 x.seq) rfl rfl rfl rfl hx1 Frm.cellInt ?_))
      | ((with_reducible refine Hold.load1 HM.out 0 (c := .string x.text) rfl rfl rfl rfl hx2 Frm.cellStr ?_))
      | ((with_reducible refine Hold.load1 HM.out 0 (c := .string x.sig) rfl rfl rfl rfl hx3 Frm.cellStr ?_))))
    go_ret2
    exact ⟨rfl, HM.out.below⟩
  have d0 : ((G : Int) == 0) = false := by simpa using A0
  by_cases A1 : ¬ seed.size = 4
  · have d1 : ((seed.size : Int) != 4) = true := by simp; omega
    have hbad : badLay x.plain c s seed.data.toList := Or.inr (Or.inl (by rw [hsl]; exact A1))
    have hE1 : layE x.plain c s seed.data.toList = 1 := by unfold layE; rw [if_pos hbad]
    obtain rfl : E = 1 := by rw [hE, hE1]
    obtain rfl : X = ⟨#[]⟩ := by rw [hX, lay_err _ _ _ _ (by rw [hE1]; decide)]
    clear hX hE hE1 hbad hG hsl htl hgl hnx hsq hc hs hW1 hW2
    go_enter Tryd.func21, Tryd.ntmps21
    go_wp2_with ((first
      | ((with_reducible refine Hold.box HM.out rfl rfl rfl ?_); clear HM; intro bx w HM; simp only [List.nil_append, List.cons_append] at HM; replace HM := Lib.hid HM)
      | ((with_reducible refine (RL.out _).mono ?_); rintro e w ⟨rfl, hb⟩; replace HM := Lib.hid (HM.out.next hb); clear hb)
      | ((with_reducible refine (RW1.out _).mono ?_); rintro e w ⟨rfl, hb⟩; replace HM := Lib.hid (HM.out.next hb); clear hb)
      | ((with_reducible refine (RW2.out _).mono ?_); rintro e w ⟨rfl, hb⟩; replace HM := Lib.hid (HM.out.next hb); clear hb)
      | ((with_reducible refine Hold.load1 HM.out 0 (c := .int .i64 x.next) rfl rfl rfl rfl hx0 Frm.cellInt ?_))
      | ((with_reducible refine Hold.load1 HM.out 0 (c := .int .i64 x.seq) rfl rfl rfl rfl hx1 Frm.cellInt ?_))
      | ((with_reducible refine Hold.load1 HM.out 0 (c := .string x.text) rfl rfl rfl rfl hx2 Frm.cellStr ?_))
      | ((with_reducible refine Hold.load1 HM.out 0 (c := .string x.sig) rfl rfl rfl rfl hx3 Frm.cellStr ?_))))
    go_ret2
    exact ⟨rfl, HM.out.below⟩
  have d1 : ((seed.size : Int) != 4) = false := by simp; omega
  by_cases A2 : W1 = true
  case neg =>
    obtain rfl : W1 = false := by simpa using A2
    clear A2
    have hbad : badLay x.plain c s seed.data.toList := by
      rcases not_both hW1.symm with h | h
      · exact Or.inr (Or.inr (Or.inl (by rw [hnx]; omega)))
      · exact Or.inr (Or.inr (Or.inr (Or.inl (by rw [hnx]; omega))))
    have hE1 : layE x.plain c s seed.data.toList = 1 := by unfold layE; rw [if_pos hbad]
    obtain rfl : E = 1 := by rw [hE, hE1]
    obtain rfl : X = ⟨#[]⟩ := by rw [hX, lay_err _ _ _ _ (by rw [hE1]; decide)]
    clear hX hE hE1 hbad hG hsl htl hgl hnx hsq hc hs hW1 hW2
    go_enter Tryd.func21, Tryd.ntmps21
    go_wp2_with ((first
      | ((with_reducible refine Hold.box HM.out rfl rfl rfl ?_); clear HM; intro bx w HM; simp only [List.nil_append, List.cons_append] at HM; replace HM := Lib.hid HM)
      | ((with_reducible refine (RL.out _).mono ?_); rintro e w ⟨rfl, hb⟩; replace HM := Lib.hid (HM.out.next hb); clear hb)
      | ((with_reducible refine (RW1.out _).mono ?_); rintro e w ⟨rfl, hb⟩; replace HM := Lib.hid (HM.out.next hb); clear hb)
      | ((with_reducible refine (RW2.out _).mono ?_); rintro e w ⟨rfl, hb⟩; replace HM := Lib.hid (HM.out.next hb); clear hb)
      | ((with_reducible refine Hold.load1 HM.out 0 (c := .int .i64 x.next) rfl rfl rfl rfl hx0 Frm.cellInt ?_))
      | ((with_reducible refine Hold.load1 HM.out 0 (c := .int .i64 x.seq) rfl rfl rfl rfl hx1 Frm.cellInt ?_))
      | ((with_reducible refine Hold.load1 HM.out 0 (c := .string x.text) rfl rfl rfl rfl hx2 Frm.cellStr ?_))
      | ((with_reducible refine Hold.load1 HM.out 0 (c := .string x.sig) rfl rfl rfl rfl hx3 Frm.cellStr ?_))))
    go_ret2
    exact ⟨rfl, HM.out.below⟩
  subst A2
  have hI0 := both hW1.symm
  clear hW1
  by_cases A3 : W2 = true
  case neg =>
    obtain rfl : W2 = false := by simpa using A3
    clear A3
    have hbad : badLay x.plain c s seed.data.toList := by
      rcases not_both hW2.symm with h | h
      · exact Or.inr (Or.inr (Or.inr (Or.inr (Or.inl (by rw [hsq]; omega)))))
      · exact Or.inr (Or.inr (Or.inr (Or.inr (Or.inr (by rw [hsq]; omega)))))
    have hE1 : layE x.plain c s seed.data.toList = 1 := by unfold layE; rw [if_pos hbad]
    obtain rfl : E = 1 := by rw [hE, hE1]
    obtain rfl : X = ⟨#[]⟩ := by rw [hX, lay_err _ _ _ _ (by rw [hE1]; decide)]
    clear hX hE hE1 hbad hG hsl htl hgl hnx hsq hc hs hW2
    go_enter Tryd.func21, Tryd.ntmps21
    go_wp2_with ((first
      | ((with_reducible refine Hold.box HM.out rfl rfl rfl ?_); clear HM; intro bx w HM; simp only [List.nil_append, List.cons_append] at HM; replace HM := Lib.hid HM)
      | ((with_reducible refine (RL.out _).mono ?_); rintro e w ⟨rfl, hb⟩; replace HM := Lib.hid (HM.out.next hb); clear hb)
      | ((with_reducible refine (RW1.out _).mono ?_); rintro e w ⟨rfl, hb⟩; replace HM := Lib.hid (HM.out.next hb); clear hb)
      | ((with_reducible refine (RW2.out _).mono ?_); rintro e w ⟨rfl, hb⟩; replace HM := Lib.hid (HM.out.next hb); clear hb)
      | ((with_reducible refine Hold.load1 HM.out 0 (c := .int .i64 x.next) rfl rfl rfl rfl hx0 Frm.cellInt ?_))
      | ((with_reducible refine Hold.load1 HM.out 0 (c := .int .i64 x.seq) rfl rfl rfl rfl hx1 Frm.cellInt ?_))
      | ((with_reducible refine Hold.load1 HM.out 0 (c := .string x.text) rfl rfl rfl rfl hx2 Frm.cellStr ?_))
      | ((with_reducible refine Hold.load1 HM.out 0 (c := .string x.sig) rfl rfl rfl rfl hx3 Frm.cellStr ?_))))
    go_ret2
    exact ⟨rfl, HM.out.below⟩
  subst A3
  have hI1 := both hW2.symm
  clear hW2
  have hbad : ¬ badLay x.plain c s seed.data.toList := by
    unfold badLay
    rw [← hG, hsl, hnx, hsq]
    omega
  obtain ⟨c1, c2, s1, s2⟩ := long_out c s (by rw [← hG]; exact A0)
  by_cases B0 : c < (x.text.size : Int)
  · have e0 : decide (c < (x.text.size : Int)) = true := decide_eq_true B0
    have hE4 : layE x.plain c s seed.data.toList = 4 := by unfold layE; rw [if_neg hbad, if_pos (Or.inl (by rw [htl]; exact B0))]
    obtain rfl : E = 4 := by rw [hE, hE4]
    obtain rfl : X = ⟨#[]⟩ := by rw [hX, lay_err _ _ _ _ (by rw [hE4]; decide)]
    clear hX hE hE4 hbad hI0 hI1 c1 c2 s1 s2 hG hsl htl hgl hnx hsq hc hs
    go_enter Tryd.func21, Tryd.ntmps21
    go_wp2_with ((first
      | ((with_reducible refine Hold.box HM.out rfl rfl rfl ?_); clear HM; intro bx w HM; simp only [List.nil_append, List.cons_append] at HM; replace HM := Lib.hid HM)
      | ((with_reducible refine (RL.out _).mono ?_); rintro e w ⟨rfl, hb⟩; replace HM := Lib.hid (HM.out.next hb); clear hb)
      | ((with_reducible refine (RW1.out _).mono ?_); rintro e w ⟨rfl, hb⟩; replace HM := Lib.hid (HM.out.next hb); clear hb)
      | ((with_reducible refine (RW2.out _).mono ?_); rintro e w ⟨rfl, hb⟩; replace HM := Lib.hid (HM.out.next hb); clear hb)
      | ((with_reducible refine Hold.load1 HM.out 0 (c := .int .i64 x.next) rfl rfl rfl rfl hx0 Frm.cellInt ?_))
      | ((with_reducible refine Hold.load1 HM.out 0 (c := .int .i64 x.seq) rfl rfl rfl rfl hx1 Frm.cellInt ?_))
      | ((with_reducible refine Hold.load1 HM.out 0 (c := .string x.text) rfl rfl rfl rfl hx2 Frm.cellStr ?_))
      | ((with_reducible refine Hold.load1 HM.out 0 (c := .string x.sig) rfl rfl rfl rfl hx3 Frm.cellStr ?_))))
    go_ret2
    exact ⟨rfl, HM.out.below⟩
  have e0 : decide (c < (x.text.size : Int)) = false := decide_eq_false B0
  by_cases B1 : s < (x.sig.size : Int)
  · have e1 : decide (s < (x.sig.size : Int)) = true := decide_eq_true B1
    have hE4 : layE x.plain c s seed.data.toList = 4 := by unfold layE; rw [if_neg hbad, if_pos (Or.inr (by rw [hgl]; exact B1))]
    obtain rfl : E = 4 := by rw [hE, hE4]
    obtain rfl : X = ⟨#[]⟩ := by rw [hX, lay_err _ _ _ _ (by rw [hE4]; decide)]
    clear hX hE hE4 hbad hI0 hI1 c1 c2 s1 s2 hG hsl htl hgl hnx hsq hc hs
    go_enter Tryd.func21, Tryd.ntmps21
    go_wp2_with ((first
      | ((with_reducible refine Hold.box HM.out rfl rfl rfl ?_); clear HM; intro bx w HM; simp only [List.nil_append, List.cons_append] at HM; replace HM := Lib.hid HM)
      | ((with_reducible refine (RL.out _).mono ?_); rintro e w ⟨rfl, hb⟩; replace HM := Lib.hid (HM.out.next hb); clear hb)
      | ((with_reducible refine (RW1.out _).mono ?_); rintro e w ⟨rfl, hb⟩; replace HM := Lib.hid (HM.out.next hb); clear hb)
      | ((with_reducible refine (RW2.out _).mono ?_); rintro e w ⟨rfl, hb⟩; replace HM := Lib.hid (HM.out.next hb); clear hb)
      | ((with_reducible refine Hold.load1 HM.out 0 (c := .int .i64 x.next) rfl rfl rfl rfl hx0 Frm.cellInt ?_))
      | ((with_reducible refine Hold.load1 HM.out 0 (c := .int .i64 x.seq) rfl rfl rfl rfl hx1 Frm.cellInt ?_))
      | ((with_reducible refine Hold.load1 HM.out 0 (c := .string x.text) rfl rfl rfl rfl hx2 Frm.cellStr ?_))
      | ((with_reducible refine Hold.load1 HM.out 0 (c := .string x.sig) rfl rfl rfl rfl hx3 Frm.cellStr ?_))))
    go_ret2
    exact ⟨rfl, HM.out.below⟩
  have e1 : decide (s < (x.sig.size : Int)) = false := decide_eq_false B1
  have hE0 : layE x.plain c s seed.data.toList = 0 := by
    unfold layE
    rw [if_neg hbad, if_neg]
    rw [htl, hgl]
    omega
  obtain rfl : E = 0 := by rw [hE, hE0]
  obtain ⟨b0, hb0, w8⟩ := u8_in x.next (by omega) (by omega)
  obtain ⟨b1, hb1, w9⟩ := u8_in (x.text.size : Int) (by omega) (by omega)
  obtain ⟨b2, hb2, w10⟩ := u8_in x.seq (by omega) (by omega)
  obtain ⟨FT, hFT⟩ : ∃ D, D = tx (fit x.text.data.toList c) := ⟨_, rfl⟩
  obtain ⟨FS, hFS⟩ : ∃ D, D = tx (fit x.sig.data.toList s) := ⟨_, rfl⟩
  have zFT : FT.size ≤ 16 := by rw [hFT, tx_len, fit_len _ _ (by omega) (by omega)]; omega
  have zFS : FS.size ≤ 2000 := by rw [hFS, tx_len, fit_len _ _ (by omega) (by omega)]; omega
  obtain ⟨H3, kH⟩ : ∃ A, (⟨#[b0, b1, b2]⟩ : ByteArray) = A := ⟨_, rfl⟩
  have zH : H3.size = 3 := by rw [← kH]; rfl
  obtain ⟨A1', k1⟩ : ∃ A, H3 ++ FT = A := ⟨_, rfl⟩
  have z1 : A1'.size = H3.size + FT.size := by rw [← k1, ByteArray.size_append]
  have o1 : ¬ 9223372036854775807 < H3.size + FT.size := by omega
  obtain ⟨BD, k2⟩ : ∃ A, A1' ++ FS = A := ⟨_, rfl⟩
  have z2 : BD.size = A1'.size + FS.size := by rw [← k2, ByteArray.size_append]
  have o2 : ¬ 9223372036854775807 < A1'.size + FS.size := by omega
  obtain ⟨S1, k3⟩ : ∃ A, (⟨#[1]⟩ : ByteArray) ++ seed = A := ⟨_, rfl⟩
  have z3 : S1.size = 1 + seed.size := by rw [← k3, ByteArray.size_append] <;> rfl
  have o3 : ¬ 9223372036854775807 < 1 + seed.size := by omega
  obtain ⟨MK, hMK⟩ : ∃ M, M = Frm.hidB seed.data.toList BD := ⟨_, rfl⟩
  have z4 : MK.size = BD.size := by rw [hMK, Frm.hidB_size]
  have o4 : ¬ 9223372036854775807 < S1.size + MK.size := by omega
  have hbd : BD = tx (bodyT x.plain c s) := by
    rw [← k2, ← k1, ← kH, hFT, hFS, body_is, hb0, hb1, hb2]
    unfold bodyT
    rw [hnx, hsq, htl]
    have e1 : ((x.text.size : Int)).toNat = x.text.size := rfl
    rw [e1]
    exact Eq.refl _
  have k4 : S1 ++ MK = X := by
    rw [← k3, laid_is, hX]
    unfold layT
    rw [if_pos hE0, hMK, hbd]
    exact Eq.refl _
  have RF1 := Lib.hid (fun u => Tape.fit_all x.text c FT u hFT)
  have RF2 := Lib.hid (fun u => Tape.fit_all x.sig s FS u hFS)
  have RM := Lib.hid (fun u (hu : Laid u) => masked_any seed BD MK u hMK (by omega) (by omega) hu)
  have hcvt : ∀ (u : World) (b : Nat), Row u b [.int .u8 (b0.toNat : Int), .int .u8 (b1.toNat : Int), .int .u8 (b2.toNat : Int)] → (convert 55 9 (.slice (some ⟨b, 0, none⟩) 3 3)).run Tryd.prog u = .ok (.string H3) u := fun u b h => by rw [← kH]; exact string_row (l := [b0, b1, b2]) h 55 5 9 Tryd.underlying55 Tryd.underlying5 Tryd.underlying9 3 3 rfl
  have HCV := Lib.hid hcvt
  clear hX hE hE0 hbad hI0 hI1 hb0 hb1 hb2 hFT hFS hMK hbd hcvt kH zH z1 z2 z3 z4 zFT zFS c1 c2 s1 s2 hG hsl htl hgl hnx hsq hc hs
  go_enter Tryd.func21, Tryd.ntmps21
  go_upto_region 9 with ((first
    | ((with_reducible refine Hold.box HM.out rfl rfl rfl ?_); clear HM; intro bx w HM; simp only [List.nil_append, List.cons_append] at HM; replace HM := Lib.hid HM)
    | ((with_reducible refine (RL.out _).mono ?_); rintro e w ⟨rfl, hb⟩; replace HM := Lib.hid (HM.out.next hb); clear hb)
    | ((with_reducible refine (RW1.out _).mono ?_); rintro e w ⟨rfl, hb⟩; replace HM := Lib.hid (HM.out.next hb); clear hb)
    | ((with_reducible refine (RW2.out _).mono ?_); rintro e w ⟨rfl, hb⟩; replace HM := Lib.hid (HM.out.next hb); clear hb)
    | ((with_reducible refine Hold.load1 HM.out 0 (c := .int .i64 x.next) rfl rfl rfl rfl hx0 Frm.cellInt ?_))
    | ((with_reducible refine Hold.load1 HM.out 0 (c := .int .i64 x.seq) rfl rfl rfl rfl hx1 Frm.cellInt ?_))
    | ((with_reducible refine Hold.load1 HM.out 0 (c := .string x.text) rfl rfl rfl rfl hx2 Frm.cellStr ?_))
    | ((with_reducible refine Hold.load1 HM.out 0 (c := .string x.sig) rfl rfl rfl rfl hx3 Frm.cellStr ?_))))
  have hcv := HCV.out _ _ ((HM.out.add 5 [.int .u8 (b0.toNat : Int), .int .u8 (b1.toNat : Int), .int .u8 (b2.toNat : Int)]).at 1 rfl).row
  simp only at hcv
  go_upto_region 10 with ((first
    | ((with_reducible refine Hold.load1 HM.out 0 (c := .int .i64 x.next) rfl rfl rfl rfl hx0 Frm.cellInt ?_))
    | ((with_reducible refine Hold.load1 HM.out 0 (c := .int .i64 x.seq) rfl rfl rfl rfl hx1 Frm.cellInt ?_))
    | ((with_reducible refine Hold.load1 HM.out 0 (c := .string x.text) rfl rfl rfl rfl hx2 Frm.cellStr ?_))
    | ((with_reducible refine Hold.load1 HM.out 0 (c := .string x.sig) rfl rfl rfl rfl hx3 Frm.cellStr ?_))))
  clear hcv
  replace HM := Lib.hid (HM.out.add 5 [.int .u8 (b0.toNat : Int), .int .u8 (b1.toNat : Int), .int .u8 (b2.toNat : Int)])
  simp only [List.cons_append, List.nil_append] at HM
  generalize w.alloc (.cells [.int .u8 (b0.toNat : Int), .int .u8 (b1.toNat : Int), .int .u8 (b2.toNat : Int)].toArray 5) = w at *
  have HS := Lib.hid (Hold.Hld.drew (show Hold.Hld _ [⟨bx, 44, sayV x⟩] w from Hold.Hld.front (m' := [_]) HM.out))
  replace HM := Lib.hid HM.out.drew
  refine wp_region_held (S := fun u => Hold.Hld w0 [⟨bx, 44, sayV x⟩] u) (by kernel_rfl) ?_
  change wpAnyH _ _ _ _ _ _ _ _ w.drew
  generalize w.drew = wd at *
  change wpAnyH _ _ _ _ _ (17 + 1) _ _ _
  refine wpAnyH_take (i := 0) (by simp only [List.getElem?_toArray, List.getElem?_cons_succ, List.getElem?_cons_zero]; rfl) (by kernel_rfl) (by kernel_rfl) (by kernel_rfl) (fun _ _ _ h => by exact h) (.inl ⟨by rfl, fun u hu => by go_simp; try with_reducible rfl⟩) HS.out ?_
  try simp only [List.getElem_toArray, List.getElem_cons_succ, List.getElem_cons_zero, Act.put, List.setIfInBounds_toArray, List.set_cons_zero, List.set_cons_succ]
  change wpAnyH _ _ _ _ _ (16 + 1) _ _ _
  refine wpAnyH_take (i := 1) (by simp only [List.getElem?_toArray, List.getElem?_cons_succ, List.getElem?_cons_zero]; rfl) (by kernel_rfl) (by kernel_rfl) (by kernel_rfl) (fun _ _ _ h => by exact h) (.inl ⟨by rfl, fun u hu => by go_simp; try with_reducible rfl⟩) HS.out ?_
  try simp only [List.getElem_toArray, List.getElem_cons_succ, List.getElem_cons_zero, Act.put, List.setIfInBounds_toArray, List.set_cons_zero, List.set_cons_succ]
  change wpAnyH _ _ _ _ _ (15 + 1) _ _ _
  refine wpAnyH_take (i := 2) (by simp only [List.getElem?_toArray, List.getElem?_cons_succ, List.getElem?_cons_zero]; rfl) (by kernel_rfl) (by kernel_rfl) (by kernel_rfl) (fun _ _ _ h => by exact h) (.inl ⟨by rfl, fun u hu => by go_simp; try with_reducible rfl⟩) HS.out ?_
  try simp only [List.getElem_toArray, List.getElem_cons_succ, List.getElem_cons_zero, Act.put, List.setIfInBounds_toArray, List.set_cons_zero, List.set_cons_succ]
  change wpAnyH _ _ _ _ _ (14 + 1) _ _ _
  refine wpAnyH_take (i := 3) (by simp only [List.getElem?_toArray, List.getElem?_cons_succ, List.getElem?_cons_zero]; rfl) (by kernel_rfl) (by kernel_rfl) (by kernel_rfl) (fun _ _ _ h => by exact h) (.inl ⟨by rfl, fun u hu => by go_simp; try with_reducible rfl⟩) HS.out ?_
  try simp only [List.getElem_toArray, List.getElem_cons_succ, List.getElem_cons_zero, Act.put, List.setIfInBounds_toArray, List.set_cons_zero, List.set_cons_succ]
  change wpAnyH _ _ _ _ _ (13 + 1) _ _ _
  refine wpAnyH_take (i := 4) (by simp only [List.getElem?_toArray, List.getElem?_cons_succ, List.getElem?_cons_zero]; rfl) (by kernel_rfl) (by kernel_rfl) (by kernel_rfl) (fun _ _ _ h => by exact h) (.inl ⟨by rfl, fun u hu => by go_simp; try with_reducible rfl⟩) HS.out ?_
  try simp only [List.getElem_toArray, List.getElem_cons_succ, List.getElem_cons_zero, Act.put, List.setIfInBounds_toArray, List.set_cons_zero, List.set_cons_succ]
  change wpAnyH _ _ _ _ _ (12 + 1) _ _ _
  refine wpAnyH_take (i := 5) (v := .string x.text) (by simp only [List.getElem?_toArray, List.getElem?_cons_succ, List.getElem?_cons_zero]; rfl) (by kernel_rfl) (by kernel_rfl) (by kernel_rfl) (fun _ _ _ h => by exact h) (.inl ⟨by rfl, fun u hu => Hold.load1_run hu 0 rfl rfl rfl (hx2) (Frm.cellStr)⟩) HS.out ?_
  try simp only [List.getElem_toArray, List.getElem_cons_succ, List.getElem_cons_zero, Act.put, List.setIfInBounds_toArray, List.set_cons_zero, List.set_cons_succ]
  change wpAnyH _ _ _ _ _ (11 + 1) _ _ _
  refine wpAnyH_take (i := 6) (by simp only [List.getElem?_toArray, List.getElem?_cons_succ, List.getElem?_cons_zero]; rfl) (by kernel_rfl) (by kernel_rfl) (by kernel_rfl) (fun _ _ _ h => by exact h) (.inl ⟨by rfl, fun u hu => by go_simp; try with_reducible rfl⟩) HS.out ?_
  try simp only [List.getElem_toArray, List.getElem_cons_succ, List.getElem_cons_zero, Act.put, List.setIfInBounds_toArray, List.set_cons_zero, List.set_cons_succ]
  change wpAnyH _ _ _ _ _ (10 + 1) _ _ _
  refine wpAnyH_take (i := 9) (by simp only [List.getElem?_toArray, List.getElem?_cons_succ, List.getElem?_cons_zero]; rfl) (by kernel_rfl) (by kernel_rfl) (by kernel_rfl) (fun _ _ _ h => by exact h) (.inl ⟨by rfl, fun u hu => by go_simp; try with_reducible rfl⟩) HS.out ?_
  try simp only [List.getElem_toArray, List.getElem_cons_succ, List.getElem_cons_zero, Act.put, List.setIfInBounds_toArray, List.set_cons_zero, List.set_cons_succ]
  change wpAnyH _ _ _ _ _ (9 + 1) _ _ _
  refine wpAnyH_take (i := 10) (v := .string x.sig) (by simp only [List.getElem?_toArray, List.getElem?_cons_succ, List.getElem?_cons_zero]; rfl) (by kernel_rfl) (by kernel_rfl) (by kernel_rfl) (fun _ _ _ h => by exact h) (.inl ⟨by rfl, fun u hu => Hold.load1_run hu 0 rfl rfl rfl (hx3) (Frm.cellStr)⟩) HS.out ?_
  try simp only [List.getElem_toArray, List.getElem_cons_succ, List.getElem_cons_zero, Act.put, List.setIfInBounds_toArray, List.set_cons_zero, List.set_cons_succ]
  change wpAnyH _ _ _ _ _ (8 + 1) _ _ _
  refine wpAnyH_take (i := 11) (by simp only [List.getElem?_toArray, List.getElem?_cons_succ, List.getElem?_cons_zero]; rfl) (by kernel_rfl) (by kernel_rfl) (by kernel_rfl) (fun _ _ _ h => by exact h) (.inl ⟨by rfl, fun u hu => by go_simp; try with_reducible rfl⟩) HS.out ?_
  try simp only [List.getElem_toArray, List.getElem_cons_succ, List.getElem_cons_zero, Act.put, List.setIfInBounds_toArray, List.set_cons_zero, List.set_cons_succ]
  change wpAnyH _ _ _ _ _ (7 + 1) _ _ _
  refine wpAnyH_all (rs := [7]) (by kernel_rfl) (by simp) (fun j hj => ?_)
  obtain rfl : j = 7 := by simpa using hj
  refine Steady.call_any (i := 7) (by simp only [List.getElem?_toArray, List.getElem?_cons_succ, List.getElem?_cons_zero]; rfl) (by kernel_rfl) _ _ (by go_simp) (fun u w' => u = .string FT ∧ Below _ _ w') ((RF1.out _).mono (fun e w' hh => ⟨_, hh.1, rfl, hh.2⟩)) ?_
  rintro u w6_1 ⟨rfl, hb⟩
  replace HM := Lib.hid (HM.out.next hb)
  clear hb
  replace HS := Lib.hid (show Hold.Hld _ [⟨bx, 44, sayV x⟩] _ from Hold.Hld.front (m' := [_]) HM.out)
  refine ⟨HS.out, ?_⟩
  try simp only [List.getElem_toArray, List.getElem_cons_succ, List.getElem_cons_zero, Act.put, List.setIfInBounds_toArray, List.set_cons_zero, List.set_cons_succ]
  change wpAnyH _ _ _ _ _ (6 + 1) _ _ _
  refine wpAnyH_take (i := 8) (by simp only [List.getElem?_toArray, List.getElem?_cons_succ, List.getElem?_cons_zero]; rfl) (by kernel_rfl) (by kernel_rfl) (by kernel_rfl) (fun _ _ _ h => by exact h) (.inl ⟨by rfl, fun u hu => by go_simp; try with_reducible rfl⟩) HS.out ?_
  try simp only [List.getElem_toArray, List.getElem_cons_succ, List.getElem_cons_zero, Act.put, List.setIfInBounds_toArray, List.set_cons_zero, List.set_cons_succ]
  change wpAnyH _ _ _ _ _ (5 + 1) _ _ _
  refine wpAnyH_all (rs := [12]) (by kernel_rfl) (by simp) (fun j hj => ?_)
  obtain rfl : j = 12 := by simpa using hj
  refine Steady.call_any (i := 12) (by simp only [List.getElem?_toArray, List.getElem?_cons_succ, List.getElem?_cons_zero]; rfl) (by kernel_rfl) _ _ (by go_simp) (fun u w' => u = .string FS ∧ Below _ _ w') ((RF2.out _).mono (fun e w' hh => ⟨_, hh.1, rfl, hh.2⟩)) ?_
  rintro u w6_2 ⟨rfl, hb⟩
  replace HM := Lib.hid (HM.out.next hb)
  clear hb
  replace HS := Lib.hid (show Hold.Hld _ [⟨bx, 44, sayV x⟩] _ from Hold.Hld.front (m' := [_]) HM.out)
  refine ⟨HS.out, ?_⟩
  try simp only [List.getElem_toArray, List.getElem_cons_succ, List.getElem_cons_zero, Act.put, List.setIfInBounds_toArray, List.set_cons_zero, List.set_cons_succ]
  change wpAnyH _ _ _ _ _ (4 + 1) _ _ _
  refine wpAnyH_take (i := 13) (by simp only [List.getElem?_toArray, List.getElem?_cons_succ, List.getElem?_cons_zero]; rfl) (by kernel_rfl) (by kernel_rfl) (by kernel_rfl) (fun _ _ _ h => by exact h) (.inl ⟨by rfl, fun u hu => by go_simp; try with_reducible rfl⟩) HS.out ?_
  try simp only [List.getElem_toArray, List.getElem_cons_succ, List.getElem_cons_zero, Act.put, List.setIfInBounds_toArray, List.set_cons_zero, List.set_cons_succ]
  change wpAnyH _ _ _ _ _ (3 + 1) _ _ _
  refine wpAnyH_all (rs := [14]) (by kernel_rfl) (by simp) (fun j hj => ?_)
  obtain rfl : j = 14 := by simpa using hj
  refine Steady.call_any (i := 14) (by simp only [List.getElem?_toArray, List.getElem?_cons_succ, List.getElem?_cons_zero]; rfl) (by kernel_rfl) _ _ (by go_simp) (fun u w' => u = .string MK ∧ Below _ _ w') ((RM.out _ (HL.out.below HM.out.below)).mono (fun e w' hh => ⟨_, hh.1, rfl, hh.2⟩)) ?_
  rintro u w6_3 ⟨rfl, hb⟩
  replace HM := Lib.hid (HM.out.next hb)
  clear hb
  replace HS := Lib.hid (show Hold.Hld _ [⟨bx, 44, sayV x⟩] _ from Hold.Hld.front (m' := [_]) HM.out)
  refine ⟨HS.out, ?_⟩
  try simp only [List.getElem_toArray, List.getElem_cons_succ, List.getElem_cons_zero, Act.put, List.setIfInBounds_toArray, List.set_cons_zero, List.set_cons_succ]
  change wpAnyH _ _ _ _ _ (2 + 1) _ _ _
  refine wpAnyH_take (i := 15) (by simp only [List.getElem?_toArray, List.getElem?_cons_succ, List.getElem?_cons_zero]; rfl) (by kernel_rfl) (by kernel_rfl) (by kernel_rfl) (fun _ _ _ h => by exact h) (.inl ⟨by rfl, fun u hu => by go_simp; try with_reducible rfl⟩) HS.out ?_
  try simp only [List.getElem_toArray, List.getElem_cons_succ, List.getElem_cons_zero, Act.put, List.setIfInBounds_toArray, List.set_cons_zero, List.set_cons_succ]
  change wpAnyH _ _ _ _ _ (1 + 1) _ _ _
  refine wpAnyH_take (i := 16) (by simp only [List.getElem?_toArray, List.getElem?_cons_succ, List.getElem?_cons_zero]; rfl) (by kernel_rfl) (by kernel_rfl) (by kernel_rfl) (fun _ _ _ h => by exact h) (.inl ⟨by rfl, fun u hu => by go_simp; try with_reducible rfl⟩) HS.out ?_
  try simp only [List.getElem_toArray, List.getElem_cons_succ, List.getElem_cons_zero, Act.put, List.setIfInBounds_toArray, List.set_cons_zero, List.set_cons_succ]
  change wpAnyH _ _ _ _ _ (0 + 1) _ _ _
  refine wpAnyH_take (i := 17) (by simp only [List.getElem?_toArray, List.getElem?_cons_succ, List.getElem?_cons_zero]; rfl) (by kernel_rfl) (by kernel_rfl) (by kernel_rfl) (fun _ _ _ h => by exact h) (.inl ⟨by rfl, fun u hu => by go_simp; try with_reducible rfl⟩) HS.out ?_
  try simp only [List.getElem_toArray, List.getElem_cons_succ, List.getElem_cons_zero, Act.put, List.setIfInBounds_toArray, List.set_cons_zero, List.set_cons_succ]
  refine wpAnyH_done (by kernel_rfl) ?_ _
  go_wp2
  go_ret2
  exact ⟨rfl, HM.out.below⟩
end Go.Proofs.YtedgpglldlohfaaDoor.Frl
