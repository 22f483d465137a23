/-
  The document's own answers for Right, Text and Bytes of layer 13 are what the plain mathematics of the text Sea says, and leave all memory that was there as it was. Conditions: Fit: the letter's texts are no longer than 2^63, its numbers fit into an int.
-/
import Derived.Test.YtnglnocdffjnoaaSeaC
import Derived.Test.YtnglnocdffjnoaaRPrtB
namespace Go.Proofs.Ytnglnocdffjnoaa.RSea
open Go.RowKit Mur Prt Lanes Sea
set_option maxRecDepth 100000

theorem right_sv (s : SV) : right s.l = true ↔ (1 ≤ s.g.size ∧ s.g.size ≤ 8) ∧ (0 ≤ s.e ∧ s.e < 1073741824) ∧ (0 ≤ s.r ∧ s.r < 1073741824) ∧ (1 ≤ s.k ∧ s.k ≤ 6) ∧ (0 ≤ s.f ∧ s.f < 200) ∧ s.b.size ≤ 6000 ∧ s.x.size ≤ 6000 := right_iff s.l
theorem right_not (s : SV) (h : ¬ ((1 ≤ s.g.size ∧ s.g.size ≤ 8) ∧ (0 ≤ s.e ∧ s.e < 1073741824) ∧ (0 ≤ s.r ∧ s.r < 1073741824) ∧ (1 ≤ s.k ∧ s.k ≤ 6) ∧ (0 ≤ s.f ∧ s.f < 200) ∧ s.b.size ≤ 6000 ∧ s.x.size ≤ 6000)) : right s.l = false := by
  rw [Bool.eq_false_iff]
  exact fun k => h ((right_sv s).1 k)

set_option maxHeartbeats 6400000 in
theorem right_any (s : SV) (X : List Value) (b : Bool) (w : World) (hX : Sl X s) (hb : b = right s.l) :
    Calls Try.prog 14 #[.agg X.toArray] w fun e w' => e = .returned (.bool b) ∧ Below w.heap.size w w' := by
  have HX := Lib.hid hX
  have HM := Lib.hid (Hold.Hld.start w)
  have HB := Lib.hid hb
  clear hX hb
  go_enter Try.func14, Try.ntmps14
  go_upto_region 1 with ((first
    | (with_reducible refine Hold.box HM.out rfl rfl rfl ?_; clear HM; intro b0 w HM; simp only [List.nil_append] at HM; replace HM := Lib.hid HM)))

  have hk := (HM.out.at 0 rfl).row
  have c0 : w.cell? ⟨b0, 0, none⟩ = some (.string s.g) := hk.cell HX.out.c0
  have c1 : w.cell? ⟨b0, 1, none⟩ = some (.int .i64 s.e) := hk.cell HX.out.c1
  have c2 : w.cell? ⟨b0, 2, none⟩ = some (.int .i64 s.r) := hk.cell HX.out.c2
  have c3 : w.cell? ⟨b0, 3, none⟩ = some (.int .i64 s.k) := hk.cell HX.out.c3
  have c4 : w.cell? ⟨b0, 4, none⟩ = some (.int .i64 s.f) := hk.cell HX.out.c4
  have c5 : w.cell? ⟨b0, 5, none⟩ = some (.string s.b) := hk.cell HX.out.c5
  have c6 : w.cell? ⟨b0, 6, none⟩ = some (.string s.x) := hk.cell HX.out.c6
  clear hk
  by_cases h0 : 1 ≤ s.g.size
  case neg =>
    obtain rfl : b = false := HB.out.trans (right_not s (by omega))
    have d0 : decide ((1 : Int) ≤ (s.g.size : Int)) = false := decide_eq_false (by omega)
    have e0 : decide (1 ≤ s.g.size) = false := decide_eq_false (by omega)
    clear h0
    go_wp2
    go_ret
    exact ⟨rfl, HM.out.below⟩
  have d0 : decide ((1 : Int) ≤ (s.g.size : Int)) = true := decide_eq_true (by omega)
  have e0 : decide (1 ≤ s.g.size) = true := decide_eq_true (by omega)
  by_cases h1 : s.g.size ≤ 8
  case neg =>
    obtain rfl : b = false := HB.out.trans (right_not s (by omega))
    have d1 : decide ((s.g.size : Int) ≤ 8) = false := decide_eq_false (by omega)
    have e1 : decide (s.g.size ≤ 8) = false := decide_eq_false (by omega)
    clear h0 h1
    go_wp2
    go_ret
    exact ⟨rfl, HM.out.below⟩
  have d1 : decide ((s.g.size : Int) ≤ 8) = true := decide_eq_true (by omega)
  have e1 : decide (s.g.size ≤ 8) = true := decide_eq_true (by omega)
  by_cases h2 : 0 ≤ s.e
  case neg =>
    obtain rfl : b = false := HB.out.trans (right_not s (by omega))
    have d2 : decide (0 ≤ s.e) = false := decide_eq_false (by omega)
    clear h0 h1 h2
    go_wp2
    go_ret
    exact ⟨rfl, HM.out.below⟩
  have d2 : decide (0 ≤ s.e) = true := decide_eq_true (by omega)
  by_cases h3 : s.e < 1073741824
  case neg =>
    obtain rfl : b = false := HB.out.trans (right_not s (by omega))
    have d3 : decide (s.e < 1073741824) = false := decide_eq_false (by omega)
    clear h0 h1 h2 h3
    go_wp2
    go_ret
    exact ⟨rfl, HM.out.below⟩
  have d3 : decide (s.e < 1073741824) = true := decide_eq_true (by omega)
  by_cases h4 : 0 ≤ s.r
  case neg =>
    obtain rfl : b = false := HB.out.trans (right_not s (by omega))
    have d4 : decide (0 ≤ s.r) = false := decide_eq_false (by omega)
    clear h0 h1 h2 h3 h4
    go_wp2
    go_ret
    exact ⟨rfl, HM.out.below⟩
  have d4 : decide (0 ≤ s.r) = true := decide_eq_true (by omega)
  by_cases h5 : s.r < 1073741824
  case neg =>
    obtain rfl : b = false := HB.out.trans (right_not s (by omega))
    have d5 : decide (s.r < 1073741824) = false := decide_eq_false (by omega)
    clear h0 h1 h2 h3 h4 h5
    go_wp2
    go_ret
    exact ⟨rfl, HM.out.below⟩
  have d5 : decide (s.r < 1073741824) = true := decide_eq_true (by omega)
  by_cases h6 : 1 ≤ s.k
  case neg =>
    obtain rfl : b = false := HB.out.trans (right_not s (by omega))
    have d6 : decide (1 ≤ s.k) = false := decide_eq_false (by omega)
    clear h0 h1 h2 h3 h4 h5 h6
    go_wp2
    go_ret
    exact ⟨rfl, HM.out.below⟩
  have d6 : decide (1 ≤ s.k) = true := decide_eq_true (by omega)
  by_cases h7 : s.k ≤ 6
  case neg =>
    obtain rfl : b = false := HB.out.trans (right_not s (by omega))
    have d7 : decide (s.k ≤ 6) = false := decide_eq_false (by omega)
    clear h0 h1 h2 h3 h4 h5 h6 h7
    go_wp2
    go_ret
    exact ⟨rfl, HM.out.below⟩
  have d7 : decide (s.k ≤ 6) = true := decide_eq_true (by omega)
  by_cases h8 : 0 ≤ s.f
  case neg =>
    obtain rfl : b = false := HB.out.trans (right_not s (by omega))
    have d8 : decide (0 ≤ s.f) = false := decide_eq_false (by omega)
    clear h0 h1 h2 h3 h4 h5 h6 h7 h8
    go_wp2
    go_ret
    exact ⟨rfl, HM.out.below⟩
  have d8 : decide (0 ≤ s.f) = true := decide_eq_true (by omega)
  by_cases h9 : s.f < 200
  case neg =>
    obtain rfl : b = false := HB.out.trans (right_not s (by omega))
    have d9 : decide (s.f < 200) = false := decide_eq_false (by omega)
    clear h0 h1 h2 h3 h4 h5 h6 h7 h8 h9
    go_wp2
    go_ret
    exact ⟨rfl, HM.out.below⟩
  have d9 : decide (s.f < 200) = true := decide_eq_true (by omega)
  by_cases h10 : s.b.size ≤ 6000
  case neg =>
    obtain rfl : b = false := HB.out.trans (right_not s (by omega))
    have d10 : decide ((s.b.size : Int) ≤ 6000) = false := decide_eq_false (by omega)
    have e10 : decide (s.b.size ≤ 6000) = false := decide_eq_false (by omega)
    clear h0 h1 h2 h3 h4 h5 h6 h7 h8 h9 h10
    go_wp2
    go_ret
    exact ⟨rfl, HM.out.below⟩
  have d10 : decide ((s.b.size : Int) ≤ 6000) = true := decide_eq_true (by omega)
  have e10 : decide (s.b.size ≤ 6000) = true := decide_eq_true (by omega)
  by_cases h11 : s.x.size ≤ 6000
  case neg =>
    obtain rfl : b = false := HB.out.trans (right_not s (by omega))
    have d11 : decide ((s.x.size : Int) ≤ 6000) = false := decide_eq_false (by omega)
    have e11 : decide (s.x.size ≤ 6000) = false := decide_eq_false (by omega)
    clear h0 h1 h2 h3 h4 h5 h6 h7 h8 h9 h10 h11
    go_wp2
    go_ret
    exact ⟨rfl, HM.out.below⟩
  have d11 : decide ((s.x.size : Int) ≤ 6000) = true := decide_eq_true (by omega)
  have e11 : decide (s.x.size ≤ 6000) = true := decide_eq_true (by omega)
  obtain rfl : b = true := HB.out.trans ((right_sv s).2 (by omega))
  clear h0 h1 h2 h3 h4 h5 h6 h7 h8 h9 h10 h11
  go_wp2
  go_ret
  exact ⟨rfl, HM.out.below⟩

set_option maxHeartbeats 1600000 in
theorem text_any (s : SV) (X : List Value) (T : ByteArray) (E : Int) (w : World) (hX : Sl X s) (hT : T = layX (text s.l)) (hE : E = errV (text s.l)) (hf : Fit s) :
    Calls Try.prog 8 #[.agg X.toArray] w fun e w' => e = .returned (.tuple #[.string T, .int .i64 E]) ∧ Below w.heap.size w w' := by
  obtain ⟨c, hc⟩ : ∃ c, c = right s.l := ⟨_, rfl⟩
  have R1 := Lib.hid (fun u => RSea.right_any s X c u hX hc)
  cases c with
  | false =>
    rw [text_wrong _ hc.symm] at hT hE
    obtain rfl : T = ⟨#[]⟩ := hT
    obtain rfl : E = 1 := hE
    have HX := Lib.hid hX
    have HM := Lib.hid (Hold.Hld.start w)
    clear hc hX hf
    go_enter Try.func8, Try.ntmps8
    go_wp2_with ((first
      | (with_reducible refine Hold.box HM.out rfl rfl rfl ?_; clear HM; intro b0 w HM; simp only [List.nil_append] at HM; replace HM := Lib.hid HM)
      | (with_reducible refine Hold.load HM.out 0 (cs := X) rfl rfl rfl rfl (Hold.Part.all _) (by rw [HX.out.len]; exact seaRow) ?_)
      | (with_reducible refine (R1.out _).mono ?_; rintro e w ⟨rfl, hb⟩; replace HM := Lib.hid (HM.out.next hb); clear hb)))

    go_ret2
    exact ⟨rfl, HM.out.below⟩
  | true =>
    obtain ⟨a, b, c, h1, h2, h3, ht⟩ := Sea.text_right s.l hc.symm
    rw [ht] at hT hE
    obtain rfl : E = 0 := hE
    obtain ⟨A, hA⟩ : ∃ A, A = tx a := ⟨_, rfl⟩
    obtain ⟨B, hB⟩ : ∃ B, B = tx b := ⟨_, rfl⟩
    obtain ⟨C, hC⟩ : ∃ C, C = tx c := ⟨_, rfl⟩
    have hAB : A ++ B ++ C = T := by
      rw [hT, hA, hB, hC, tx_append, tx_append, List.append_assoc]
      rfl
    have r2 : ∀ u, Calls Try.prog 18 #[.string s.g] u fun e w' => e = .returned (.tuple #[.string A, .int .i64 0]) ∧ Below u.heap.size u w' := fun u => RPrt.str_any s.g u A 0 (by rw [hA]; exact (congrArg layX h1).symm) (congrArg errV h1).symm hf.g
    have r3 : ∀ u ao, IntsR u ao [s.e, s.r, s.k, s.f] → Calls Try.prog 19 #[.slice ao 4 4] u fun e w' => e = .returned (.tuple #[.string B, .int .i64 0]) ∧ Below u.heap.size u w' := fun u ao hi => RPrt.nums_any [s.e, s.r, s.k, s.f] 4 ao 4 u B 0 (by rw [hB]; exact (congrArg layX h2).symm) (congrArg errV h2).symm hi rfl (by omega) hf.nums
    have r4 : ∀ u, Calls Try.prog 18 #[.string s.b] u fun e w' => e = .returned (.tuple #[.string C, .int .i64 0]) ∧ Below u.heap.size u w' := fun u => RPrt.str_any s.b u C 0 (by rw [hC]; exact (congrArg layX h3).symm) (congrArg errV h3).symm hf.b
    have q1 : A.size ≤ 6002 := by rw [hA, tx_size]; exact str_length _ _ h1
    have q2 : B.size = 21 := by rw [hB, tx_size]; exact nums_size _ _ h2
    have q3 : C.size ≤ 6002 := by rw [hC, tx_size]; exact str_length _ _ h3
    have g1 : ¬ 9223372036854775807 < A.size + B.size := by omega
    have g2 : ¬ 9223372036854775807 < (A ++ B).size + C.size := by rw [ByteArray.size_append]; omega
    obtain ⟨AB, hAB1⟩ : ∃ AB, AB = A ++ B := ⟨_, rfl⟩
    rw [← hAB1] at hAB g2
    have hAB2 := hAB1.symm
    have R2 := Lib.hid r2
    have R3 := Lib.hid r3
    have R4 := Lib.hid r4
    have HX := Lib.hid hX
    have HM := Lib.hid (Hold.Hld.start w)
    clear hc hX hf hA hB hC hT ht h1 h2 h3 r2 r3 r4 q1 q2 q3 hAB1
    go_enter Try.func8, Try.ntmps8
    go_upto_region 4 with ((first
      | (with_reducible refine Hold.box HM.out rfl rfl rfl ?_; clear HM; intro b0 w HM; simp only [List.nil_append] at HM; replace HM := Lib.hid HM)
      | (with_reducible refine Hold.load HM.out 0 (cs := X) rfl rfl rfl rfl (Hold.Part.all _) (by rw [HX.out.len]; exact seaRow) ?_)
      | (with_reducible refine (R1.out _).mono ?_; rintro e w ⟨rfl, hb⟩; replace HM := Lib.hid (HM.out.next hb); clear hb)
      | (with_reducible refine Hold.load1 HM.out 0 (c := .string s.g) rfl rfl rfl rfl (HX.out.c0) (cellStr) ?_)
      | (with_reducible refine (R2.out _).mono ?_; rintro e w ⟨rfl, hb⟩; replace HM := Lib.hid (HM.out.next hb); clear hb)))

    go_upto_region 5 with ((first
      | (with_reducible refine Hold.load1 HM.out 0 (c := .int .i64 s.e) rfl rfl rfl rfl (HX.out.c1) (cellInt) ?_)
      | (with_reducible refine Hold.load1 HM.out 0 (c := .int .i64 s.r) rfl rfl rfl rfl (HX.out.c2) (cellInt) ?_)
      | (with_reducible refine Hold.load1 HM.out 0 (c := .int .i64 s.k) rfl rfl rfl rfl (HX.out.c3) (cellInt) ?_)
      | (with_reducible refine Hold.load1 HM.out 0 (c := .int .i64 s.f) rfl rfl rfl rfl (HX.out.c4) (cellInt) ?_)
      | (with_reducible refine (R3.out _ _ (ints_new _ _ _ _ _)).mono ?_; rintro e w ⟨rfl, hb⟩; replace HM := Lib.hid ((HM.out.next ((Below.refl _ _).alloc (Nat.le_refl _) _)).next hb); clear hb)))

    go_wp2_with ((first
      | (with_reducible refine Hold.load1 HM.out 0 (c := .string s.b) rfl rfl rfl rfl (HX.out.c5) (cellStr) ?_)
      | (with_reducible refine (R4.out _).mono ?_; rintro e w ⟨rfl, hb⟩; replace HM := Lib.hid (HM.out.next hb); clear hb)))

    go_ret2
    exact ⟨rfl, HM.out.below⟩

set_option maxHeartbeats 1600000 in
theorem bytes_any (s : SV) (X : List Value) (T : ByteArray) (E : Int) (w : World) (hX : Sl X s) (hT : T = layX (Sea.bytes s.l)) (hE : E = errV (Sea.bytes s.l)) (hf : Fit s) :
    Calls Try.prog 10 #[.agg X.toArray] w fun e w' => e = .returned (.tuple #[.string T, .int .i64 E]) ∧ Below w.heap.size w w' := by
  cases hc : right s.l with
  | false =>
    rw [bytes_wrong _ hc] at hT hE
    obtain rfl : T = ⟨#[]⟩ := hT
    obtain rfl : E = 1 := hE
    have R1 := Lib.hid (fun u => RSea.text_any s X ⟨#[]⟩ 1 u hX (by rw [text_wrong _ hc]; rfl) (by rw [text_wrong _ hc]; rfl) hf)
    have HX := Lib.hid hX
    have HM := Lib.hid (Hold.Hld.start w)
    clear hc hX hf
    go_enter Try.func10, Try.ntmps10
    go_wp2_with ((first
      | (with_reducible refine Hold.box HM.out rfl rfl rfl ?_; clear HM; intro b0 w HM; simp only [List.nil_append] at HM; replace HM := Lib.hid HM)
      | (with_reducible refine Hold.load HM.out 0 (cs := X) rfl rfl rfl rfl (Hold.Part.all _) (by rw [HX.out.len]; exact seaRow) ?_)
      | (with_reducible refine (R1.out _).mono ?_; rintro e w ⟨rfl, hb⟩; replace HM := Lib.hid (HM.out.next hb); clear hb)))

    go_ret2
    exact ⟨rfl, HM.out.below⟩
  | true =>
    obtain ⟨t, d, h1, h2, ht⟩ := bytes_right s.l hc
    obtain ⟨a, b, c, k1, k2, k3, kt⟩ := Sea.text_right s.l hc
    rw [ht] at hT hE
    obtain rfl : E = 0 := hE
    obtain ⟨A, hA⟩ : ∃ A, A = tx t := ⟨_, rfl⟩
    obtain ⟨D, hD⟩ : ∃ D, D = tx d := ⟨_, rfl⟩
    have hAB : A ++ D = T := by
      rw [hT, hA, hD, tx_append]
      rfl
    have r1 : ∀ u, Calls Try.prog 8 #[.agg X.toArray] u fun e w' => e = .returned (.tuple #[.string A, .int .i64 0]) ∧ Below u.heap.size u w' := fun u => RSea.text_any s X A 0 u hX (by rw [h1, hA]; rfl) (by rw [h1]; rfl) hf
    have r2 : ∀ u, Calls Try.prog 18 #[.string s.x] u fun e w' => e = .returned (.tuple #[.string D, .int .i64 0]) ∧ Below u.heap.size u w' := fun u => RPrt.str_any s.x u D 0 (by rw [hD]; exact (congrArg layX h2).symm) (congrArg errV h2).symm hf.x
    have q1 : A.size ≤ 20000 := by
      rw [h1] at kt
      obtain rfl : t = a ++ (b ++ c) := Except.ok.inj kt
      rw [hA, tx_size, List.length_append, List.length_append]
      have := str_length _ _ k1
      have := nums_size _ _ k2
      have := str_length _ _ k3
      omega
    have q2 : D.size ≤ 6002 := by rw [hD, tx_size]; exact str_length _ _ h2
    have g1 : ¬ 9223372036854775807 < A.size + D.size := by omega
    have R1 := Lib.hid r1
    have R2 := Lib.hid r2
    have HX := Lib.hid hX
    have HM := Lib.hid (Hold.Hld.start w)
    clear hc hX hf hA hD hT ht h1 h2 k1 k2 k3 kt r1 r2 q1 q2
    go_enter Try.func10, Try.ntmps10
    go_wp2_with ((first
      | (with_reducible refine Hold.box HM.out rfl rfl rfl ?_; clear HM; intro b0 w HM; simp only [List.nil_append] at HM; replace HM := Lib.hid HM)
      | (with_reducible refine Hold.load HM.out 0 (cs := X) rfl rfl rfl rfl (Hold.Part.all _) (by rw [HX.out.len]; exact seaRow) ?_)
      | (with_reducible refine (R1.out _).mono ?_; rintro e w ⟨rfl, hb⟩; replace HM := Lib.hid (HM.out.next hb); clear hb)
      | (with_reducible refine Hold.load1 HM.out 0 (c := .string s.x) rfl rfl rfl rfl (HX.out.c6) (cellStr) ?_)
      | (with_reducible refine (R2.out _).mono ?_; rintro e w ⟨rfl, hb⟩; replace HM := Lib.hid (HM.out.next hb); clear hb)))

    go_ret2
    exact ⟨rfl, HM.out.below⟩
end Go.Proofs.Ytnglnocdffjnoaa.RSea
