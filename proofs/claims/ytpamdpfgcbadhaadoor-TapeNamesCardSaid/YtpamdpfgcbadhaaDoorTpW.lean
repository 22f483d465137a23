/-
  The statements' own example of layer 15 answers true. Condition: the table of powers of ten lies in its variable.
-/
import Derived.Test.YtpamdpfgcbadhaaDoorTpH
namespace Go.Proofs.YtpamdpfgcbadhaaDoor.TpW
open Go.RowKit Mur Prt Lanes Tap Cel RTap
set_option maxRecDepth 100000
set_option linter.unusedSimpArgs false

theorem one_digit (n : Nat) (_ : 1 ≤ n) (h : n < 10) : dec (n : Int) = [UInt8.ofNat (48 + n)] := by rw [dec_nat, digits_low n h]
theorem dec_hundred : dec 100 = [49, 48, 48] := by
  rw [show (100 : Int) = ((100 : Nat) : Int) from rfl, dec_nat, digits_high 100 (by decide), digits_high (100 / 10) (by decide), digits_low (100 / 10 / 10) (by decide)]
  rfl
theorem dec_twenty : dec 120 = [49, 50, 48] := by
  rw [show (120 : Int) = ((120 : Nat) : Int) from rfl, dec_nat, digits_high 120 (by decide), digits_high (120 / 10) (by decide), digits_low (120 / 10 / 10) (by decide)]
  rfl
theorem dec_zero : dec 0 = [48] := by rfl
theorem dec1 : dec 1 = [49] := one_digit 1 (by decide) (by decide)
theorem dec2 : dec 2 = [50] := one_digit 2 (by decide) (by decide)
theorem dec3 : dec 3 = [51] := one_digit 3 (by decide) (by decide)
theorem dec4 : dec 4 = [52] := one_digit 4 (by decide) (by decide)
theorem dec5 : dec 5 = [53] := one_digit 5 (by decide) (by decide)
theorem dec7 : dec 7 = [55] := one_digit 7 (by decide) (by decide)

set_option maxHeartbeats 3200000 in
theorem awake_any (w : World) (hp : Tape.Pow w) : Calls Tryd.prog 8 #[] w fun e w' => e = .returned (.bool true) ∧ Below w.heap.size w w' := by
  have R1 := Lib.hid (fun u => Tape.put_any [] 0 none 0 ⟨#[97]⟩ ⟨#[49]⟩ [([97], [49])] 1 u (by rfl) rfl (CelR.none u none) rfl (by omega) (by omega))
  have R2 := Lib.hid (fun u a c (h : CelR u a (ofC [([97], [49])])) (hc : 1 ≤ c) => Tape.put_any (ofC [([97], [49])]) 1 a c ⟨#[98]⟩ ⟨#[50]⟩ [([97], [49]), ([98], [50])] 2 u (by rfl) rfl h rfl (by omega) hc)
  have R3 := Lib.hid (fun u a c (h : CelR u a (ofC [([97], [49]), ([98], [50])])) (hc : 2 ≤ c) => Tape.put_any (ofC [([97], [49]), ([98], [50])]) 2 a c ⟨#[97]⟩ ⟨#[51]⟩ [([97], [51]), ([98], [50])] 2 u (by rfl) rfl h rfl (by omega) hc)
  have R4 := Lib.hid (fun u a c (h : CelR u a (ofC [([97], [51]), ([98], [50])])) => Tape.get_any (ofC [([97], [51]), ([98], [50])]) 2 a c ⟨#[97]⟩ ⟨#[51]⟩ true u (by rfl) (by rfl) h rfl (by omega))
  have R5 := Lib.hid (fun u => Tape.fit_any ⟨#[97, 98, 99]⟩ 2 ⟨#[97, 98]⟩ u (by rfl) (by decide))
  have R6 := Lib.hid (fun u => Tape.fit_any ⟨#[97]⟩ 3 ⟨#[97, 0, 0]⟩ u (by rfl) (by decide))
  have R7 := Lib.hid (fun u (hu : Below w.heap.size w u) => Tape.padName_any 100 1 0 7 ⟨#[112, 97, 100, 32, 49, 48, 48, 32, 49, 32, 48, 32, 55]⟩ u (by rw [joined, tail, tail, tail, tail, tail, dec_hundred, dec1, dec_zero, dec7]; rfl) (by decide) (by decide) (by decide) (by decide) (by decide) (by decide) (by decide) (by decide) (hp.below hu))
  have R8 := Lib.hid (fun u (hu : Below w.heap.size w u) => Tape.member_any 3 ⟨#[109, 32, 51]⟩ u (by rw [joined, tail, tail, dec3]; rfl) (by decide) (by decide) (hp.below hu))
  have R9 := Lib.hid (fun u (hu : Below w.heap.size w u) => Tape.sigName_any ⟨#[109, 32, 51]⟩ 2 ⟨#[115, 105, 103, 32, 109, 32, 51, 32, 50]⟩ u (by rw [joined, tail, tail, dec2]; rfl) (by decide) (by decide) (by decide) (hp.below hu))
  have R10 := Lib.hid (fun u (hu : Below w.heap.size w u) => Tape.dec_any 120 ⟨#[49, 50, 48]⟩ u (by rw [dec_twenty]) (by decide) (by decide) (hp.below hu))
  have R11 := Lib.hid (fun u (hu : Below w.heap.size w u) => Tape.permName_any 4 ⟨#[112, 101, 114, 109, 32, 52]⟩ u (by rw [joined, tail, tail, dec4]; rfl) (by decide) (by decide) (hp.below hu))
  have R12 := Lib.hid (fun u (hu : Below w.heap.size w u) => Tape.maskName_any 1 2 3 ⟨#[109, 97, 115, 107, 32, 49, 32, 50, 32, 51]⟩ u (by rw [joined, tail, tail, tail, tail, dec1, dec2, dec3]; rfl) (by decide) (by decide) (by decide) (by decide) (by decide) (by decide) (hp.below hu))
  have R13 := Lib.hid (fun u (hu : Below w.heap.size w u) => Tape.pseudonym_any 0 5 ⟨#[112, 32, 48, 32, 53]⟩ u (by rw [joined, tail, tail, tail, dec_zero, dec5]; rfl) (by decide) (by decide) (by decide) (by decide) (hp.below hu))
  have HB := Lib.hid (Below.refl w.heap.size w)
  go_enter Tryd.func8, Tryd.ntmps8
  go_wp2_with fail
  refine (R1.out _).mono ?_
  rintro e w1 ⟨a1, k1, rfl, hk1, hc1, -, hb1⟩
  have HK1 := Lib.hid hk1
  have HC1 := Lib.hid hc1
  replace HB := Lib.hid (HB.out.trans (hb1.mono HB.out.size))
  clear hc1 hb1 R1 hk1
  go_wp2_with fail
  refine (R2.out _ _ _ HC1.out HK1.out).mono ?_
  rintro e w2 ⟨a2, k2, rfl, hk2, hc2, -, hb2⟩
  have HK2 := Lib.hid hk2
  have HC2 := Lib.hid hc2
  replace HB := Lib.hid (HB.out.trans (hb2.mono HB.out.size))
  clear hc2 hb2 R2 HC1 hk2 HK1
  go_wp2_with fail
  refine (R3.out _ _ _ HC2.out HK2.out).mono ?_
  rintro e w3 ⟨a3, k3, rfl, -, hc3, -, hb3⟩
  have HC3 := Lib.hid hc3
  replace HB := Lib.hid (HB.out.trans (hb3.mono HB.out.size))
  clear hc3 hb3 R3 HC2 HK2
  go_wp2_with fail
  refine (R4.out _ _ _ HC3.out).mono ?_
  rintro e w ⟨rfl, hb4⟩
  replace HB := Lib.hid (HB.out.trans (hb4.mono HB.out.size))
  clear hb4 R4 HC3
  go_wp2_with ((first
    | (with_reducible (refine (R5.out _).mono ?_; rintro e w ⟨rfl, hb⟩; replace HB := Lib.hid (HB.out.trans (hb.mono HB.out.size)); clear hb))
    | (with_reducible (refine (R6.out _).mono ?_; rintro e w ⟨rfl, hb⟩; replace HB := Lib.hid (HB.out.trans (hb.mono HB.out.size)); clear hb))
    | (with_reducible (refine (R7.out _ HB.out).mono ?_; rintro e w ⟨rfl, hb⟩; replace HB := Lib.hid (HB.out.trans (hb.mono HB.out.size)); clear hb))
    | (with_reducible (refine (R8.out _ HB.out).mono ?_; rintro e w ⟨rfl, hb⟩; replace HB := Lib.hid (HB.out.trans (hb.mono HB.out.size)); clear hb))
    | (with_reducible (refine (R9.out _ HB.out).mono ?_; rintro e w ⟨rfl, hb⟩; replace HB := Lib.hid (HB.out.trans (hb.mono HB.out.size)); clear hb))
    | (with_reducible (refine (R10.out _ HB.out).mono ?_; rintro e w ⟨rfl, hb⟩; replace HB := Lib.hid (HB.out.trans (hb.mono HB.out.size)); clear hb))
    | (with_reducible (refine (R11.out _ HB.out).mono ?_; rintro e w ⟨rfl, hb⟩; replace HB := Lib.hid (HB.out.trans (hb.mono HB.out.size)); clear hb))
    | (with_reducible (refine (R12.out _ HB.out).mono ?_; rintro e w ⟨rfl, hb⟩; replace HB := Lib.hid (HB.out.trans (hb.mono HB.out.size)); clear hb))
    | (with_reducible (refine (R13.out _ HB.out).mono ?_; rintro e w ⟨rfl, hb⟩; replace HB := Lib.hid (HB.out.trans (hb.mono HB.out.size)); clear hb))))

  go_ret
  exact ⟨by simp, HB.out⟩
end Go.Proofs.YtpamdpfgcbadhaaDoor.TpW
