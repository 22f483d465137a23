/-
  Text and Bytes of package seal answer what the plain mathematics of the text Sea says, and leave all memory that was there as it was. Conditions: Fit: the letter's texts are no longer than 2^63, its numbers fit into an int.
-/
import Derived.Test.YtnglnocdffjnoaaSeaB
import Derived.Test.YtnglnocdffjnoaaPrtC
namespace Go.Proofs.Ytnglnocdffjnoaa.Sea
open Go.RowKit Mur Prt Lanes
set_option maxRecDepth 100000

structure Fit (s : SV) : Prop where
  g : s.g.size ≤ 9223372036854775807
  b : s.b.size ≤ 9223372036854775807
  x : s.x.size ≤ 9223372036854775807
  e : -9223372036854775808 ≤ s.e ∧ s.e ≤ 9223372036854775807
  r : -9223372036854775808 ≤ s.r ∧ s.r ≤ 9223372036854775807
  k : -9223372036854775808 ≤ s.k ∧ s.k ≤ 9223372036854775807
  f : -9223372036854775808 ≤ s.f ∧ s.f ≤ 9223372036854775807
theorem Fit.nums {s : SV} (h : Fit s) : ∀ z ∈ [s.e, s.r, s.k, s.f], -9223372036854775808 ≤ z ∧ z ≤ 9223372036854775807 := fun z hz => by
  simp only [List.mem_cons, List.not_mem_nil, or_false] at hz
  rcases hz with rfl | rfl | rfl | rfl
  · exact h.e
  · exact h.r
  · exact h.k
  · exact h.f
theorem ints_new (w : World) (a b c d : Int) : IntsR (w.alloc (.cells #[.int .i64 a, .int .i64 b, .int .i64 c, .int .i64 d] 3)) (some ⟨w.heap.size, 0, none⟩) [a, b, c, d] := fun _ =>
  ⟨w.heap.size, 0, rfl, by simp, fun i x hx => by
    match i, hx with
    | 0, hx => cases hx; simp [World.cell?_alloc_new]
    | 1, hx => cases hx; simp [World.cell?_alloc_new]
    | 2, hx => cases hx; simp [World.cell?_alloc_new]
    | 3, hx => cases hx; simp [World.cell?_alloc_new]⟩
theorem each_length (l : List Int) : ∀ a, each num l = .ok a → a.length = 5 * l.length := by
  induction l with
  | nil => intro a h; cases h; rfl
  | cons x l ih =>
    intro a h
    cases hx : num x with
    | error e => rw [each_error num x l e hx] at h; cases h
    | ok y =>
      rw [each_ok num x l y hx] at h
      cases hl : each num l with
      | error e => rw [hl, Prt.ahead_error] at h; cases h
      | ok z =>
        rw [hl, Prt.ahead_ok] at h
        obtain rfl : y ++ z = a := Except.ok.inj h
        rw [List.length_append, num_length x y hx, ih z hl, List.length_cons]
        omega
theorem nums_size (l : L) (b : List UInt8) (h : layAll num (nums l) = .ok b) : b.length = 21 := by
  rw [layAll, if_neg (by simp [nums])] at h
  cases hl : each num (nums l) with
  | error e => rw [hl, Prt.ahead_error] at h; cases h
  | ok z =>
    rw [hl, Prt.ahead_ok] at h
    obtain rfl := Except.ok.inj h
    rw [List.length_append, high_length, each_length _ z hl]
    rfl

set_option maxHeartbeats 1600000 in
theorem text_any (s : SV) (X : List Value) (T : ByteArray) (E : Int) (w : World) (hX : Sl X s) (hT : T = layX (text s.l)) (hE : E = errV (text s.l)) (hf : Fit s) :
    Calls Try.prog 7 #[.agg X.toArray] w fun e w' => e = .returned (.tuple #[.string T, .int .i64 E]) ∧ Below w.heap.size w w' := by
  obtain ⟨c, hc⟩ : ∃ c, c = right s.l := ⟨_, rfl⟩
  have R1 := Lib.hid (fun u => right_any s X c u hX hc hf.g hf.b hf.x)
  cases c with
  | false =>
    rw [text_wrong _ hc.symm] at hT hE
    obtain rfl : T = ⟨#[]⟩ := hT
    obtain rfl : E = 1 := hE
    have HX := Lib.hid hX
    have HM := Lib.hid (Hold.Hld.start w)
    clear hc hX hf
    go_enter Try.func7, Try.ntmps7
    go_wp2_with ((first
      | (with_reducible refine Hold.box HM.out rfl rfl rfl ?_; clear HM; intro b0 w HM; simp only [List.nil_append] at HM; replace HM := Lib.hid HM)
      | (with_reducible refine Hold.load HM.out 0 (cs := X) rfl rfl rfl rfl (Hold.Part.all _) (by rw [HX.out.len]; exact seaRow) ?_)
      | (with_reducible refine (R1.out _).mono ?_; rintro e w ⟨rfl, hb⟩; replace HM := Lib.hid (HM.out.next hb); clear hb)))

    go_ret2
    exact ⟨rfl, HM.out.below⟩
  | true =>
    obtain ⟨a, b, c, h1, h2, h3, ht⟩ := text_right s.l hc.symm
    rw [ht] at hT hE
    obtain rfl : E = 0 := hE
    obtain ⟨A, hA⟩ : ∃ A, A = tx a := ⟨_, rfl⟩
    obtain ⟨B, hB⟩ : ∃ B, B = tx b := ⟨_, rfl⟩
    obtain ⟨C, hC⟩ : ∃ C, C = tx c := ⟨_, rfl⟩
    have hAB : A ++ B ++ C = T := by
      rw [hT, hA, hB, hC, tx_append, tx_append, List.append_assoc]
      rfl
    have r2 : ∀ u, Calls Try.prog 16 #[.string s.g] u fun e w' => e = .returned (.tuple #[.string A, .int .i64 0]) ∧ Below u.heap.size u w' := fun u => str_any s.g u A 0 (by rw [hA]; exact (congrArg layX h1).symm) (congrArg errV h1).symm hf.g
    have r3 : ∀ u ao, IntsR u ao [s.e, s.r, s.k, s.f] → Calls Try.prog 17 #[.slice ao 4 4] u fun e w' => e = .returned (.tuple #[.string B, .int .i64 0]) ∧ Below u.heap.size u w' := fun u ao hi => nums_any [s.e, s.r, s.k, s.f] 4 ao 4 u B 0 (by rw [hB]; exact (congrArg layX h2).symm) (congrArg errV h2).symm hi rfl (by omega) hf.nums
    have r4 : ∀ u, Calls Try.prog 16 #[.string s.b] u fun e w' => e = .returned (.tuple #[.string C, .int .i64 0]) ∧ Below u.heap.size u w' := fun u => str_any s.b u C 0 (by rw [hC]; exact (congrArg layX h3).symm) (congrArg errV h3).symm hf.b
    have q1 : A.size ≤ 6002 := by rw [hA, tx_size]; exact str_length _ _ h1
    have q2 : B.size = 21 := by rw [hB, tx_size]; exact nums_size _ _ h2
    have q3 : C.size ≤ 6002 := by rw [hC, tx_size]; exact str_length _ _ h3
    have g1 : ¬ 9223372036854775807 < A.size + B.size := by omega
    have g2 : ¬ 9223372036854775807 < (A ++ B).size + C.size := by rw [ByteArray.size_append]; omega
    obtain ⟨AB, hAB1⟩ : ∃ AB, AB = A ++ B := ⟨_, rfl⟩
    rw [← hAB1] at hAB g2
    have hAB2 := hAB1.symm
    have R2 := Lib.hid r2
    have R3 := Lib.hid r3
    have R4 := Lib.hid r4
    have HX := Lib.hid hX
    have HM := Lib.hid (Hold.Hld.start w)
    clear hc hX hf hA hB hC hT ht h1 h2 h3 r2 r3 r4 q1 q2 q3 hAB1
    go_enter Try.func7, Try.ntmps7
    go_upto_region 4 with ((first
      | (with_reducible refine Hold.box HM.out rfl rfl rfl ?_; clear HM; intro b0 w HM; simp only [List.nil_append] at HM; replace HM := Lib.hid HM)
      | (with_reducible refine Hold.load HM.out 0 (cs := X) rfl rfl rfl rfl (Hold.Part.all _) (by rw [HX.out.len]; exact seaRow) ?_)
      | (with_reducible refine (R1.out _).mono ?_; rintro e w ⟨rfl, hb⟩; replace HM := Lib.hid (HM.out.next hb); clear hb)
      | (with_reducible refine Hold.load1 HM.out 0 (c := .string s.g) rfl rfl rfl rfl (HX.out.c0) (cellStr) ?_)
      | (with_reducible refine (R2.out _).mono ?_; rintro e w ⟨rfl, hb⟩; replace HM := Lib.hid (HM.out.next hb); clear hb)))

    go_upto_region 5 with ((first
      | (with_reducible refine Hold.load1 HM.out 0 (c := .int .i64 s.e) rfl rfl rfl rfl (HX.out.c1) (cellInt) ?_)
      | (with_reducible refine Hold.load1 HM.out 0 (c := .int .i64 s.r) rfl rfl rfl rfl (HX.out.c2) (cellInt) ?_)
      | (with_reducible refine Hold.load1 HM.out 0 (c := .int .i64 s.k) rfl rfl rfl rfl (HX.out.c3) (cellInt) ?_)
      | (with_reducible refine Hold.load1 HM.out 0 (c := .int .i64 s.f) rfl rfl rfl rfl (HX.out.c4) (cellInt) ?_)
      | (with_reducible refine (R3.out _ _ (ints_new _ _ _ _ _)).mono ?_; rintro e w ⟨rfl, hb⟩; replace HM := Lib.hid ((HM.out.next ((Below.refl _ _).alloc (Nat.le_refl _) _)).next hb); clear hb)))

    go_wp2_with ((first
      | (with_reducible refine Hold.load1 HM.out 0 (c := .string s.b) rfl rfl rfl rfl (HX.out.c5) (cellStr) ?_)
      | (with_reducible refine (R4.out _).mono ?_; rintro e w ⟨rfl, hb⟩; replace HM := Lib.hid (HM.out.next hb); clear hb)))

    go_ret2
    exact ⟨rfl, HM.out.below⟩

set_option maxHeartbeats 1600000 in
theorem bytes_any (s : SV) (X : List Value) (T : ByteArray) (E : Int) (w : World) (hX : Sl X s) (hT : T = layX (bytes s.l)) (hE : E = errV (bytes s.l)) (hf : Fit s) :
    Calls Try.prog 9 #[.agg X.toArray] w fun e w' => e = .returned (.tuple #[.string T, .int .i64 E]) ∧ Below w.heap.size w w' := by
  cases hc : right s.l with
  | false =>
    rw [bytes_wrong _ hc] at hT hE
    obtain rfl : T = ⟨#[]⟩ := hT
    obtain rfl : E = 1 := hE
    have R1 := Lib.hid (fun u => text_any s X ⟨#[]⟩ 1 u hX (by rw [text_wrong _ hc]; rfl) (by rw [text_wrong _ hc]; rfl) hf)
    have HX := Lib.hid hX
    have HM := Lib.hid (Hold.Hld.start w)
    clear hc hX hf
    go_enter Try.func9, Try.ntmps9
    go_wp2_with ((first
      | (with_reducible refine Hold.box HM.out rfl rfl rfl ?_; clear HM; intro b0 w HM; simp only [List.nil_append] at HM; replace HM := Lib.hid HM)
      | (with_reducible refine Hold.load HM.out 0 (cs := X) rfl rfl rfl rfl (Hold.Part.all _) (by rw [HX.out.len]; exact seaRow) ?_)
      | (with_reducible refine (R1.out _).mono ?_; rintro e w ⟨rfl, hb⟩; replace HM := Lib.hid (HM.out.next hb); clear hb)))

    go_ret2
    exact ⟨rfl, HM.out.below⟩
  | true =>
    obtain ⟨t, d, h1, h2, ht⟩ := bytes_right s.l hc
    obtain ⟨a, b, c, k1, k2, k3, kt⟩ := text_right s.l hc
    rw [ht] at hT hE
    obtain rfl : E = 0 := hE
    obtain ⟨A, hA⟩ : ∃ A, A = tx t := ⟨_, rfl⟩
    obtain ⟨D, hD⟩ : ∃ D, D = tx d := ⟨_, rfl⟩
    have hAB : A ++ D = T := by
      rw [hT, hA, hD, tx_append]
      rfl
    have r1 : ∀ u, Calls Try.prog 7 #[.agg X.toArray] u fun e w' => e = .returned (.tuple #[.string A, .int .i64 0]) ∧ Below u.heap.size u w' := fun u => text_any s X A 0 u hX (by rw [h1, hA]; rfl) (by rw [h1]; rfl) hf
    have r2 : ∀ u, Calls Try.prog 16 #[.string s.x] u fun e w' => e = .returned (.tuple #[.string D, .int .i64 0]) ∧ Below u.heap.size u w' := fun u => str_any s.x u D 0 (by rw [hD]; exact (congrArg layX h2).symm) (congrArg errV h2).symm hf.x
    have q1 : A.size ≤ 20000 := by
      rw [h1] at kt
      obtain rfl : t = a ++ (b ++ c) := Except.ok.inj kt
      rw [hA, tx_size, List.length_append, List.length_append]
      have := str_length _ _ k1
      have := nums_size _ _ k2
      have := str_length _ _ k3
      omega
    have q2 : D.size ≤ 6002 := by rw [hD, tx_size]; exact str_length _ _ h2
    have g1 : ¬ 9223372036854775807 < A.size + D.size := by omega
    have R1 := Lib.hid r1
    have R2 := Lib.hid r2
    have HX := Lib.hid hX
    have HM := Lib.hid (Hold.Hld.start w)
    clear hc hX hf hA hD hT ht h1 h2 k1 k2 k3 kt r1 r2 q1 q2
    go_enter Try.func9, Try.ntmps9
    go_wp2_with ((first
      | (with_reducible refine Hold.box HM.out rfl rfl rfl ?_; clear HM; intro b0 w HM; simp only [List.nil_append] at HM; replace HM := Lib.hid HM)
      | (with_reducible refine Hold.load HM.out 0 (cs := X) rfl rfl rfl rfl (Hold.Part.all _) (by rw [HX.out.len]; exact seaRow) ?_)
      | (with_reducible refine (R1.out _).mono ?_; rintro e w ⟨rfl, hb⟩; replace HM := Lib.hid (HM.out.next hb); clear hb)
      | (with_reducible refine Hold.load1 HM.out 0 (c := .string s.x) rfl rfl rfl rfl (HX.out.c6) (cellStr) ?_)
      | (with_reducible refine (R2.out _).mono ?_; rintro e w ⟨rfl, hb⟩; replace HM := Lib.hid (HM.out.next hb); clear hb)))

    go_ret2
    exact ⟨rfl, HM.out.below⟩
end Go.Proofs.Ytnglnocdffjnoaa.Sea
