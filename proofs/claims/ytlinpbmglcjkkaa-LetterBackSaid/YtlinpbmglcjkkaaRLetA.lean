/-
  The document's own answers for what letters say as bytes (LayCast, LayList, LayPledge, LayShare, LayCert, LayOut, both, Name) of layer 14 are what the plain mathematics of the text Let says, and leave all memory that was there as it was. Conditions: lists are read in memory (IntsR, StrsR), have no more than 1000000 elements; numbers and lengths fit.
-/
import Derived.Test.YtlinpbmglcjkkaaLet
import Derived.Test.YtlinpbmglcjkkaaHoldC
import Derived.Test.YtlinpbmglcjkkaaRPrtB
namespace Go.Proofs.Ytlinpbmglcjkkaa.RLet
open Go.RowKit Mur Prt Lanes Cod Let
open Ros (glue glue_error glue_ok)
set_option maxRecDepth 100000

theorem layX_size (r : Except Nat (List UInt8)) (n : Nat) (h : ∀ a, r = .ok a → a.length ≤ n) : (layX r).size ≤ n := by
  cases r with
  | error e => exact Nat.zero_le _
  | ok a => exact h a rfl
theorem nums_most (zs : List Int) (a : List UInt8) (h : layAll num zs = .ok a) : a.length ≤ 2000 := by
  have := all_most num 5 (fun x a h => by rw [num_length x a h]; omega) zs a h
  omega
theorem strs_most (zs : List ByteArray) (a : List UInt8) (h : layAll strB zs = .ok a) : a.length ≤ 2000000 := by
  have := all_most strB 6002 (fun _ a h => str_length _ a h) zs a h
  omega
/-- Texts as lists of bytes. -/
def bl (zs : List ByteArray) : List (List UInt8) := zs.map fun z => z.data.toList
theorem each_bl (zs : List ByteArray) : each strB zs = each str (bl zs) := by
  induction zs with
  | nil => rfl
  | cons x l ih =>
    show each strB (x :: l) = each str (x.data.toList :: bl l)
    rw [each, each, ih]
    rfl
theorem lay_bl (zs : List ByteArray) : layAll strB zs = layAll str (bl zs) := by
  rw [layAll, layAll, each_bl, bl, List.length_map]
theorem strB_errs (zs : List ByteArray) (e : Nat) (h : layAll strB zs = .error e) : 1 ≤ e ∧ e ≤ 4 := all_errs strB (fun _ e h => str_err _ e h) zs e h
theorem cellInt : Hold.TyCell Try.prog 3 := ⟨_, Try.underlying3, rfl, by kernel_rfl⟩
theorem cellStr : Hold.TyCell Try.prog 9 := ⟨_, Try.underlying9, rfl, by kernel_rfl⟩
theorem cellInts : Hold.TyCell Try.prog 22 := ⟨_, Try.underlying22, rfl, by kernel_rfl⟩
theorem cellStrs : Hold.TyCell Try.prog 23 := ⟨_, Try.underlying23, rfl, by kernel_rfl⟩

set_option maxHeartbeats 800000 in
theorem both_any (r q : Except Nat (List UInt8)) (A B X : ByteArray) (E F G : Int) (w : World) (hA : A = layX r) (hE : E = errV r) (hB : B = layX q) (hF : F = errV q) (hX : X = layX (glue r q)) (hG : G = errV (glue r q)) (h1 : ∀ e, r = .error e → 1 ≤ e ∧ e ≤ 4) (h2 : ∀ e, q = .error e → 1 ≤ e ∧ e ≤ 4) (s1 : A.size ≤ 1000000000000) (s2 : B.size ≤ 1000000000000) :
    Calls Try.prog 39 #[.string A, .int .i64 E, .string B, .int .i64 F] w fun e w' => e = .returned (.tuple #[.string X, .int .i64 G]) ∧ w = w' := by
  cases r with
  | error e =>
    have hr := h1 e rfl
    obtain rfl : X = ⟨#[]⟩ := hX
    obtain rfl : G = (e : Int) := hG
    obtain rfl : E = (e : Int) := hE
    have hne : ((e : Int) != 0) = true := by simp; omega
    clear hA hB hF h1 h2 hr
    go_enter Try.func39, Try.ntmps39
    go_wp2
    go_ret2
    exact ⟨rfl, rfl⟩
  | ok a =>
    obtain rfl : E = 0 := hE
    cases q with
    | error e =>
      have hr := h2 e rfl
      obtain rfl : X = ⟨#[]⟩ := hX
      obtain rfl : G = (e : Int) := hG
      obtain rfl : F = (e : Int) := hF
      have hne : ((e : Int) != 0) = true := by simp; omega
      clear hA hB h1 h2 hr
      go_enter Try.func39, Try.ntmps39
      go_wp2
      go_ret2
      exact ⟨rfl, rfl⟩
    | ok b =>
      obtain rfl : F = 0 := hF
      obtain rfl : G = 0 := hG
      have hap : A ++ B = X := by rw [hX, hA, hB]; exact tx_append a b
      have hbig : ¬ 9223372036854775807 < A.size + B.size := by omega
      clear hA hB h1 h2 hX
      go_enter Try.func39, Try.ntmps39
      go_wp2
      go_ret2
      exact ⟨rfl, rfl⟩

set_option maxHeartbeats 800000 in
theorem layCast_any (b : ByteArray) (X : ByteArray) (E : Int) (w : World) (hX : X = layX (str b.data.toList)) (hE : E = errV (str b.data.toList)) (h1 : b.size ≤ 9223372036854775807) :
    Calls Try.prog 9 #[.agg #[.string b]] w fun e w' => e = .returned (.tuple #[.string X, .int .i64 E]) ∧ Below w.heap.size w w' := by
  have R1 := Lib.hid (fun u => RPrt.str_any b u X E hX hE h1)
  have HM := Lib.hid (Hold.Hld.start w)
  clear hX hE h1
  go_enter Try.func9, Try.ntmps9
  go_wp2_with ((first
    | (with_reducible refine Hold.box HM.out rfl rfl rfl ?_; clear HM; intro b0 w HM; simp only [List.nil_append] at HM; replace HM := Lib.hid HM)
    | (with_reducible refine Hold.load1 HM.out 0 (c := .string b) rfl rfl rfl rfl (rfl) (cellStr) ?_)
    | (with_reducible refine (R1.out _).mono ?_; rintro e w ⟨rfl, hb⟩; replace HM := Lib.hid (HM.out.next hb); clear hb)))

  go_ret2
  exact ⟨rfl, HM.out.below⟩

set_option maxHeartbeats 800000 in
theorem layPledge_any (d : ByteArray) (X : ByteArray) (E : Int) (w : World) (hX : X = layX (layPledge d.data.toList)) (hE : E = errV (layPledge d.data.toList)) :
    Calls Try.prog 11 #[.agg #[.string d]] w fun e w' => e = .returned (.tuple #[.string X, .int .i64 E]) ∧ Below w.heap.size w w' := by
  have HM := Lib.hid (Hold.Hld.start w)
  have hsl : d.data.toList.length = d.size := rfl
  by_cases h : d.size = 32
  · rw [layPledge, if_pos (by rw [hsl]; exact h)] at hX hE
    obtain rfl : X = d := by rw [hX]; cases d; rfl
    obtain rfl : E = 0 := hE
    have hd : ((X.size : Int) != 32) = false := by simp; omega
    clear hX h hsl
    go_enter Try.func11, Try.ntmps11
    go_wp2_with ((first
      | (with_reducible refine Hold.box HM.out rfl rfl rfl ?_; clear HM; intro b0 w HM; simp only [List.nil_append] at HM; replace HM := Lib.hid HM)
      | (with_reducible refine Hold.load1 HM.out 0 (c := .string X) rfl rfl rfl rfl (rfl) (cellStr) ?_)))

    go_ret2
    exact ⟨rfl, HM.out.below⟩
  · rw [layPledge, if_neg (by rw [hsl]; exact h)] at hX hE
    obtain rfl : X = ⟨#[]⟩ := hX
    obtain rfl : E = 1 := hE
    have hd : ((d.size : Int) != 32) = true := by simp; omega
    clear h hsl
    go_enter Try.func11, Try.ntmps11
    go_wp2_with ((first
      | (with_reducible refine Hold.box HM.out rfl rfl rfl ?_; clear HM; intro b0 w HM; simp only [List.nil_append] at HM; replace HM := Lib.hid HM)
      | (with_reducible refine Hold.load1 HM.out 0 (c := .string d) rfl rfl rfl rfl (rfl) (cellStr) ?_)))

    go_ret2
    exact ⟨rfl, HM.out.below⟩

set_option maxHeartbeats 800000 in
theorem layOut_any (zs : List ByteArray) (n : Nat) (a : Option Addr) (cap : Nat) (X : ByteArray) (E : Int) (w : World) (hX : X = layX (layAll strB zs)) (hE : E = errV (layAll strB zs)) (hr : StrsR w a zs) (hn : zs.length = n) (hn2 : n ≤ 1000000) (hz : ∀ z ∈ zs, z.size ≤ 9223372036854775807) :
    Calls Try.prog 14 #[.agg #[.slice a n cap]] w fun e w' => e = .returned (.tuple #[.string X, .int .i64 E]) ∧ Below w.heap.size w w' := by
  have R1 := Lib.hid (fun u (hu : Below w.heap.size w u) => RPrt.strs_any zs n a cap u X E hX hE (hr.below hu) hn hn2 hz)
  have HM := Lib.hid (Hold.Hld.start w)
  clear hX hE hr hn hz
  go_enter Try.func14, Try.ntmps14
  go_wp2_with ((first
    | (with_reducible refine Hold.box HM.out rfl rfl rfl ?_; clear HM; intro b0 w HM; simp only [List.nil_append] at HM; replace HM := Lib.hid HM)
    | (with_reducible refine Hold.load1 HM.out 0 (c := .slice a n cap) rfl rfl rfl rfl (rfl) (cellStrs) ?_)
    | (with_reducible refine (R1.out _ HM.out.below).mono ?_; rintro e w ⟨rfl, hb⟩; replace HM := Lib.hid (HM.out.next hb); clear hb)))

  go_ret2
  exact ⟨rfl, HM.out.below⟩

set_option maxHeartbeats 800000 in
theorem layList_any (zs : List Int) (n : Nat) (a : Option Addr) (cap : Nat) (z : Int) (X : ByteArray) (E : Int) (w : World) (hX : X = layX (layList zs z)) (hE : E = errV (layList zs z)) (hr : IntsR w a zs) (hn : zs.length = n) (hn2 : n ≤ 1000000) (hz : ∀ z ∈ zs, -9223372036854775808 ≤ z ∧ z ≤ 9223372036854775807) (h1 : -9223372036854775808 ≤ z) (h2 : z ≤ 9223372036854775807) :
    Calls Try.prog 10 #[.agg #[.slice a n cap, .int .i64 z]] w fun e w' => e = .returned (.tuple #[.string X, .int .i64 E]) ∧ Below w.heap.size w w' := by
  obtain ⟨A, hA⟩ : ∃ A, A = layX (layAll num zs) := ⟨_, rfl⟩
  obtain ⟨F, hF⟩ : ∃ F, F = errV (layAll num zs) := ⟨_, rfl⟩
  obtain ⟨B, hB⟩ : ∃ A, A = layX (num z) := ⟨_, rfl⟩
  obtain ⟨G, hG⟩ : ∃ F, F = errV (num z) := ⟨_, rfl⟩
  have R1 := Lib.hid (fun u (hu : Below w.heap.size w u) => RPrt.nums_any zs n a cap u A F hA hF (hr.below hu) hn hn2 hz)
  have R2 := Lib.hid (fun u => RPrt.num_any z u B G hB hG h1 h2)
  have R3 := Lib.hid (fun u => both_any (layAll num zs) (num z) A B X F G E u hA hF hB hG hX hE (all_errs num num_err zs) (num_err z) (by rw [hA]; exact Nat.le_trans (layX_size _ _ (nums_most zs)) (by omega)) (by rw [hB]; exact Nat.le_trans (layX_size _ 5 (fun a h => Nat.le_of_eq (num_length _ a h))) (by omega)))
  have HM := Lib.hid (Hold.Hld.start w)
  clear hX hE hr hn hz h1 h2 hA hF hB hG
  go_enter Try.func10, Try.ntmps10
  go_wp2_with ((first
    | (with_reducible refine Hold.box HM.out rfl rfl rfl ?_; clear HM; intro b0 w HM; simp only [List.nil_append] at HM; replace HM := Lib.hid HM)
    | (with_reducible refine Hold.load1 HM.out 0 (c := .slice a n cap) rfl rfl rfl rfl (rfl) (cellInts) ?_)
    | (with_reducible refine (R1.out _ HM.out.below).mono ?_; rintro e w ⟨rfl, hb⟩; replace HM := Lib.hid (HM.out.next hb); clear hb)
    | (with_reducible refine Hold.load1 HM.out 0 (c := .int .i64 z) rfl rfl rfl rfl (rfl) (cellInt) ?_)
    | (with_reducible refine (R2.out _).mono ?_; rintro e w ⟨rfl, hb⟩; replace HM := Lib.hid (HM.out.next hb); clear hb)
    | (with_reducible refine (R3.out _).mono ?_; rintro e w ⟨rfl, rfl⟩)))

  go_ret2
  exact ⟨rfl, HM.out.below⟩

set_option maxHeartbeats 800000 in
theorem layShare_any (b : ByteArray) (zs : List ByteArray) (n : Nat) (a : Option Addr) (cap : Nat) (X : ByteArray) (E : Int) (w : World) (hX : X = layX (glue (str b.data.toList) (layAll strB zs))) (hE : E = errV (glue (str b.data.toList) (layAll strB zs))) (hr : StrsR w a zs) (hn : zs.length = n) (hn2 : n ≤ 1000000) (hz : ∀ z ∈ zs, z.size ≤ 9223372036854775807) (h1 : b.size ≤ 9223372036854775807) :
    Calls Try.prog 12 #[.agg #[.string b, .slice a n cap]] w fun e w' => e = .returned (.tuple #[.string X, .int .i64 E]) ∧ Below w.heap.size w w' := by
  obtain ⟨A, hA⟩ : ∃ A, A = layX (str b.data.toList) := ⟨_, rfl⟩
  obtain ⟨F, hF⟩ : ∃ F, F = errV (str b.data.toList) := ⟨_, rfl⟩
  obtain ⟨B, hB⟩ : ∃ A, A = layX (layAll strB zs) := ⟨_, rfl⟩
  obtain ⟨G, hG⟩ : ∃ F, F = errV (layAll strB zs) := ⟨_, rfl⟩
  have R1 := Lib.hid (fun u => RPrt.str_any b u A F hA hF h1)
  have R2 := Lib.hid (fun u (hu : Below w.heap.size w u) => RPrt.strs_any zs n a cap u B G hB hG (hr.below hu) hn hn2 hz)
  have R3 := Lib.hid (fun u => both_any (str b.data.toList) (layAll strB zs) A B X F G E u hA hF hB hG hX hE (str_err _) (strB_errs zs) (by rw [hA]; exact Nat.le_trans (layX_size _ _ (str_length _)) (by omega)) (by rw [hB]; exact Nat.le_trans (layX_size _ _ (strs_most zs)) (by omega)))
  have HM := Lib.hid (Hold.Hld.start w)
  clear hX hE hr hn hz h1 hA hF hB hG
  go_enter Try.func12, Try.ntmps12
  go_wp2_with ((first
    | (with_reducible refine Hold.box HM.out rfl rfl rfl ?_; clear HM; intro b0 w HM; simp only [List.nil_append] at HM; replace HM := Lib.hid HM)
    | (with_reducible refine Hold.load1 HM.out 0 (c := .string b) rfl rfl rfl rfl (rfl) (cellStr) ?_)
    | (with_reducible refine (R1.out _).mono ?_; rintro e w ⟨rfl, hb⟩; replace HM := Lib.hid (HM.out.next hb); clear hb)
    | (with_reducible refine Hold.load1 HM.out 0 (c := .slice a n cap) rfl rfl rfl rfl (rfl) (cellStrs) ?_)
    | (with_reducible refine (R2.out _ HM.out.below).mono ?_; rintro e w ⟨rfl, hb⟩; replace HM := Lib.hid (HM.out.next hb); clear hb)
    | (with_reducible refine (R3.out _).mono ?_; rintro e w ⟨rfl, rfl⟩)))

  go_ret2
  exact ⟨rfl, HM.out.below⟩

set_option maxHeartbeats 800000 in
theorem layCert_any (b : ByteArray) (zs : List Int) (n : Nat) (a : Option Addr) (cap : Nat) (z : Int) (X : ByteArray) (E : Int) (w : World) (hX : X = layX (layCert b.data.toList zs z)) (hE : E = errV (layCert b.data.toList zs z)) (hr : IntsR w a zs) (hn : zs.length = n) (hn2 : n ≤ 1000000) (hz : ∀ z ∈ zs, -9223372036854775808 ≤ z ∧ z ≤ 9223372036854775807) (h1 : -9223372036854775808 ≤ z) (h2 : z ≤ 9223372036854775807) (h3 : b.size ≤ 9223372036854775807) :
    Calls Try.prog 13 #[.agg #[.string b, .slice a n cap, .int .i64 z]] w fun e w' => e = .returned (.tuple #[.string X, .int .i64 E]) ∧ Below w.heap.size w w' := by
  obtain ⟨A, hA⟩ : ∃ A, A = layX (str b.data.toList) := ⟨_, rfl⟩
  obtain ⟨F, hF⟩ : ∃ F, F = errV (str b.data.toList) := ⟨_, rfl⟩
  obtain ⟨B, hB⟩ : ∃ A, A = layX (layAll num zs) := ⟨_, rfl⟩
  obtain ⟨G, hG⟩ : ∃ F, F = errV (layAll num zs) := ⟨_, rfl⟩
  obtain ⟨S, hS⟩ : ∃ A, A = layX (glue (str b.data.toList) (layAll num zs)) := ⟨_, rfl⟩
  obtain ⟨I, hI⟩ : ∃ F, F = errV (glue (str b.data.toList) (layAll num zs)) := ⟨_, rfl⟩
  obtain ⟨C, hC⟩ : ∃ A, A = layX (num z) := ⟨_, rfl⟩
  obtain ⟨J, hJ⟩ : ∃ F, F = errV (num z) := ⟨_, rfl⟩
  have sA : A.size ≤ 6002 := by rw [hA]; exact layX_size _ _ (str_length _)
  have sB : B.size ≤ 2000 := by rw [hB]; exact layX_size _ _ (nums_most zs)
  have sC : C.size ≤ 5 := by rw [hC]; exact layX_size _ 5 (fun a h => Nat.le_of_eq (num_length _ a h))
  have sS : S.size ≤ 6002 + 2000 := by rw [hS]; exact layX_size _ _ (glue_most _ _ _ _ (str_length _) (nums_most zs))
  have R1 := Lib.hid (fun u => RPrt.str_any b u A F hA hF h3)
  have R2 := Lib.hid (fun u (hu : Below w.heap.size w u) => RPrt.nums_any zs n a cap u B G hB hG (hr.below hu) hn hn2 hz)
  have R3 := Lib.hid (fun u => both_any (str b.data.toList) (layAll num zs) A B S F G I u hA hF hB hG hS hI (str_err _) (all_errs num num_err zs) (by omega) (by omega))
  have R4 := Lib.hid (fun u => RPrt.num_any z u C J hC hJ h1 h2)
  have R5 := Lib.hid (fun u => both_any (glue (str b.data.toList) (layAll num zs)) (num z) S C X I J E u hS hI hC hJ hX hE (glue_errs _ _ (str_err _) (all_errs num num_err zs)) (num_err z) (by omega) (by omega))
  have HM := Lib.hid (Hold.Hld.start w)
  clear hX hE hr hn hz h1 h2 h3 hA hF hB hG hS hI hC hJ sA sB sC sS
  go_enter Try.func13, Try.ntmps13
  go_wp2_with ((first
    | (with_reducible refine Hold.box HM.out rfl rfl rfl ?_; clear HM; intro b0 w HM; simp only [List.nil_append] at HM; replace HM := Lib.hid HM)
    | (with_reducible refine Hold.load1 HM.out 0 (c := .string b) rfl rfl rfl rfl (rfl) (cellStr) ?_)
    | (with_reducible refine (R1.out _).mono ?_; rintro e w ⟨rfl, hb⟩; replace HM := Lib.hid (HM.out.next hb); clear hb)
    | (with_reducible refine Hold.load1 HM.out 0 (c := .slice a n cap) rfl rfl rfl rfl (rfl) (cellInts) ?_)
    | (with_reducible refine (R2.out _ HM.out.below).mono ?_; rintro e w ⟨rfl, hb⟩; replace HM := Lib.hid (HM.out.next hb); clear hb)
    | (with_reducible refine (R3.out _).mono ?_; rintro e w ⟨rfl, rfl⟩)
    | (with_reducible refine Hold.load1 HM.out 0 (c := .int .i64 z) rfl rfl rfl rfl (rfl) (cellInt) ?_)
    | (with_reducible refine (R4.out _).mono ?_; rintro e w ⟨rfl, hb⟩; replace HM := Lib.hid (HM.out.next hb); clear hb)
    | (with_reducible refine (R5.out _).mono ?_; rintro e w ⟨rfl, rfl⟩)))

  go_ret2
  exact ⟨rfl, HM.out.below⟩
end Go.Proofs.Ytlinpbmglcjkkaa.RLet
