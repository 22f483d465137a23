/-
  Times, Public, Shared, nought and Weak of package ladder answer what the plain ladder says, and leave all memory that was there as it was. Condition: texts that take no more than the reach of the form.
-/
import Derived.Test.YtcglobpklhkebaaLadder
import Derived.Test.YtcglobpklhkebaaClamp
import Derived.Test.YtcglobpklhkebaaLnAlike
namespace Go.Proofs.Ytcglobpklhkebaa.LadC
open Go.RowKit Mur Lanes Limb Hold Lad
set_option maxRecDepth 100000

theorem lim_mod255 (n : Nat) : lim n = lim (n % 57896044618658097711785492504343953926634992332820282019728792003956564819968) := by
  have h := lim_add (n % 57896044618658097711785492504343953926634992332820282019728792003956564819968) (n / 57896044618658097711785492504343953926634992332820282019728792003956564819968)
  rw [Nat.mod_add_div] at h
  exact h
/-- The number of a public key, and of what two share. -/
def pubN (p : ByteArray) : Nat := num p.data.toList % 57896044618658097711785492504343953926634992332820282019728792003956564819968
def clampT (s : ByteArray) : ByteArray := ⟨(clamp s.data.toList).toArray⟩
def shareN (s p : ByteArray) : Nat := ladder (bt (clampT s)) (pubN p)
def shareT (s p : ByteArray) : ByteArray := numT (shareN s p)
theorem shareN_lt (s p : ByteArray) : shareN s p < Prime.P := ladder_lt _ _
theorem shareT_size (s p : ByteArray) : (shareT s p).size = 32 := numT_size _
theorem clampT_size (s : ByteArray) : (clampT s).size = 32 := by
  show (clamp s.data.toList).toArray.size = 32
  simp [clamp_length]
theorem read_l (p : ByteArray) (hs : p.size ≤ 140737488351232) (u : World) : Calls Try.prog 12 #[.string p] u fun r w' => r = .returned (.agg (limL (pubN p)).toArray) ∧ Below u.heap.size u w' := by
  have := read_any p u hs
  rw [limV_L, limL, lim_mod255] at this
  exact this
theorem pub_l (p : ByteArray) : LimL (limL (pubN p)) (pubN p) := LimL.ofLim (Nat.mod_lt _ (by decide))
theorem bytes_l {X : List Value} {N : Nat} (h : LimL X N) (hN : N < Prime.P) (u : World) : Calls Try.prog 16 #[.agg X.toArray] u fun r w' => r = .returned (.string (numT N)) ∧ Below u.heap.size u w' :=
  bytes_val h (numT N) (by rw [Nat.mod_eq_of_lt hN]; rfl) u

set_option maxHeartbeats 1600000 in
theorem times_err (s p : ByteArray) (w0 : World) (h : ¬ (s.size = 32 ∧ p.size = 32)) :
    Calls Try.prog 37 #[.string s, .string p] w0 fun r w' => r = .returned (.tuple #[.string ⟨#[]⟩, .int .i64 1]) ∧ Below w0.heap.size w0 w' := by
  by_cases h1 : s.size = 32
  · have h2 : p.size ≠ 32 := fun e => h ⟨h1, e⟩
    have d1 : ((s.size : Int) == 32) = true := by simp; omega
    have d2 : ((p.size : Int) == 32) = false := by simp; omega
    have d1' : ((s.size : Int) != 32) = false := by simp; omega
    have d2' : ((p.size : Int) != 32) = true := by simp; omega
    clear h h1 h2
    go_enter Try.func37, Try.ntmps37
    go_wp2
    refine bodyPost_ret (v := .tuple #[.string ⟨#[]⟩, .int .i64 1]) (by simp [results, Try.results37, go_sem]) rfl ⟨rfl, Below.refl _ _⟩
  · have d1 : ((s.size : Int) == 32) = false := by simp; omega
    have d1' : ((s.size : Int) != 32) = true := by simp; omega
    clear h h1
    go_enter Try.func37, Try.ntmps37
    go_wp2
    refine bodyPost_ret (v := .tuple #[.string ⟨#[]⟩, .int .i64 1]) (by simp [results, Try.results37, go_sem]) rfl ⟨rfl, Below.refl _ _⟩

set_option maxHeartbeats 1600000 in
theorem times_ok (s p : ByteArray) (w0 : World) (h1 : s.size = 32) (h2 : p.size = 32) :
    Calls Try.prog 37 #[.string s, .string p] w0 fun r w' => r = .returned (.tuple #[.string (shareT s p), .int .i64 0]) ∧ Below w0.heap.size w0 w' := by
  have d1 : ((s.size : Int) == 32) = true := by simp; omega
  have d2 : ((p.size : Int) == 32) = true := by simp; omega
  have d1' : ((s.size : Int) != 32) = false := by simp; omega
  have d2' : ((p.size : Int) != 32) = false := by simp; omega
  obtain ⟨C, hC⟩ : ∃ C, C = clampT s := ⟨_, rfl⟩
  have R1 := Lib.hid (show ∀ u, Calls Try.prog 39 #[.string s] u fun r w' => r = .returned (.string C) ∧ Below u.heap.size u w' from fun u => by rw [hC]; exact clamp_any s u)
  obtain ⟨X, hX⟩ : ∃ X, X = limL (pubN p) := ⟨_, rfl⟩
  have hXl : LimL X (pubN p) := by rw [hX]; exact pub_l p
  have R2 := Lib.hid (show ∀ u, Calls Try.prog 12 #[.string p] u fun r w' => r = .returned (.agg X.toArray) ∧ Below u.heap.size u w' from fun u => by rw [hX]; exact read_l p (by omega) u)
  have r3 := fun u => ladder_any C hXl (by rw [hC, clampT_size]; decide) u
  have hl : ladder (bt C) (pubN p) < Prime.P := ladder_lt _ _
  have hT : shareT s p = numT (ladder (bt C) (pubN p)) := by rw [hC]; rfl
  obtain ⟨Y, hY⟩ : ∃ X, X = limL (ladder (bt C) (pubN p)) := ⟨_, rfl⟩
  have hYl : LimL Y (ladder (bt C) (pubN p)) := by rw [hY]; exact LimL.ofLim (Nat.lt_trans hl P_lt)
  have r4 := fun u => bytes_l hYl hl u
  rw [← hY] at r3
  rw [← hT] at r4
  obtain ⟨T, hT⟩ : ∃ T, T = shareT s p := ⟨_, rfl⟩
  rw [← hT] at r4 ⊢
  have R3 := Lib.hid r3
  have R4 := Lib.hid r4
  clear h1 h2 hC hX hXl r3 r4 hl hY hYl hT
  go_enter Try.func37, Try.ntmps37
  go_wp2_with fail
  refine (R1.out _).mono ?_
  rintro e w1 ⟨rfl, hb⟩
  have HB1 := Lib.hid hb
  clear hb
  go_wp2_with fail
  refine (R2.out _).mono ?_
  rintro e w2 ⟨rfl, hb⟩
  have HB2 := Lib.hid (HB1.out.trans (hb.mono HB1.out.size))
  clear hb HB1
  go_wp2_with fail
  refine (R3.out _).mono ?_
  rintro e w3 ⟨rfl, hb⟩
  have HB3 := Lib.hid (HB2.out.trans (hb.mono HB2.out.size))
  clear hb HB2
  go_wp2_with fail
  refine (R4.out _).mono ?_
  rintro e w4 ⟨rfl, hb⟩
  have HB4 := Lib.hid (HB3.out.trans (hb.mono HB3.out.size))
  clear hb HB3
  go_wp2
  refine bodyPost_ret (v := .tuple #[.string T, .int .i64 0]) (by simp [results, Try.results37, go_sem]) rfl ⟨rfl, HB4.out⟩

/-- What Times answers. -/
def timesV (s p : ByteArray) : Value := if s.size = 32 ∧ p.size = 32 then .tuple #[.string (shareT s p), .int .i64 0] else .tuple #[.string ⟨#[]⟩, .int .i64 1]
theorem times_any (s p : ByteArray) (w : World) : Calls Try.prog 37 #[.string s, .string p] w fun r w' => r = .returned (timesV s p) ∧ Below w.heap.size w w' := by
  unfold timesV
  split
  · rename_i h
    exact times_ok s p w h.1 h.2
  · rename_i h
    exact times_err s p w h

theorem nine_l : LimL [.int .u64 9, .int .u64 0, .int .u64 0, .int .u64 0, .int .u64 0] 9 := LimL.ofFive (a := 9) (b := 0) (c := 0) (d := 0) (e := 0) (by unfold Words5; omega)
set_option maxHeartbeats 1600000 in
theorem public_any (s : ByteArray) (w0 : World) :
    Calls Try.prog 43 #[.string s] w0 fun r w' => r = .returned (timesV s (numT 9)) ∧ Below w0.heap.size w0 w' := by
  have R1 := Lib.hid (show ∀ u, Calls Try.prog 16 #[.agg #[.int .u64 9, .int .u64 0, .int .u64 0, .int .u64 0, .int .u64 0]] u fun r w' => r = .returned (.string (numT 9)) ∧ Below u.heap.size u w' from fun u => bytes_l nine_l (by decide) u)
  obtain ⟨N9, h9⟩ : ∃ T, T = numT 9 := ⟨_, rfl⟩
  rw [← h9] at R1 ⊢
  have R2 := fun u => times_any s N9 u
  have hv : ∃ a b, timesV s N9 = .tuple #[.string a, .int .i64 b] := by
    unfold timesV
    split
    · exact ⟨_, _, rfl⟩
    · exact ⟨_, _, rfl⟩
  obtain ⟨a, b, hv⟩ := hv
  rw [hv] at R2 ⊢
  have R2 := Lib.hid R2
  clear h9 hv
  go_enter Try.func43, Try.ntmps43
  go_wp2_with fail
  refine (R1.out _).mono ?_
  rintro e w1 ⟨rfl, hb⟩
  have HB1 := Lib.hid hb
  clear hb
  go_wp2_with fail
  refine (R2.out _).mono ?_
  rintro e w2 ⟨rfl, hb⟩
  have HB2 := Lib.hid (HB1.out.trans (hb.mono HB1.out.size))
  clear hb HB1
  go_wp2
  refine bodyPost_ret (v := .tuple #[.string a, .int .i64 b]) (by simp [results, Try.results43, go_sem]) rfl ⟨rfl, HB2.out⟩

theorem none_l : LimL [.int .u64 0, .int .u64 0, .int .u64 0, .int .u64 0, .int .u64 0] 0 := LimL.ofFive (a := 0) (b := 0) (c := 0) (d := 0) (e := 0) (by unfold Words5; omega)
set_option maxHeartbeats 1600000 in
theorem nought_any (w0 : World) :
    Calls Try.prog 65 #[] w0 fun r w' => r = .returned (.string (numT 0)) ∧ Below w0.heap.size w0 w' := by
  have R1 := Lib.hid (show ∀ u, Calls Try.prog 16 #[.agg #[.int .u64 0, .int .u64 0, .int .u64 0, .int .u64 0, .int .u64 0]] u fun r w' => r = .returned (.string (numT 0)) ∧ Below u.heap.size u w' from fun u => bytes_l none_l (by decide) u)
  obtain ⟨N9, h9⟩ : ∃ T, T = numT 0 := ⟨_, rfl⟩
  rw [← h9] at R1 ⊢
  clear h9
  go_enter Try.func65, Try.ntmps65
  go_wp2_with fail
  refine (R1.out _).mono ?_
  rintro e w1 ⟨rfl, hb⟩
  have HB1 := Lib.hid hb
  clear hb
  go_wp2
  go_ret
  exact ⟨rfl, HB1.out⟩

/-- What Shared answers. -/
def sharedV (s p : ByteArray) : Value := if s.size = 32 ∧ p.size = 32 then (if (shareT s p).data.toList = (numT 0).data.toList then .tuple #[.string ⟨#[]⟩, .int .i64 5] else .tuple #[.string (shareT s p), .int .i64 0]) else .tuple #[.string ⟨#[]⟩, .int .i64 1]
theorem shared_any (s p : ByteArray) (w0 : World) :
    Calls Try.prog 35 #[.string s, .string p] w0 fun r w' => r = .returned (sharedV s p) ∧ Below w0.heap.size w0 w' := by
  have RT := fun u => times_any s p u
  unfold sharedV
  unfold timesV at RT
  by_cases h : s.size = 32 ∧ p.size = 32
  · rw [if_pos h] at RT ⊢
    have R2 := Lib.hid (fun u => nought_any u)
    obtain ⟨N0, h0⟩ : ∃ T, T = numT 0 := ⟨_, rfl⟩
    have h0s : N0.size = 32 := by rw [h0]; exact numT_size _
    obtain ⟨T, hT⟩ : ∃ T, T = shareT s p := ⟨_, rfl⟩
    have hTs : T.size = 32 := by rw [hT]; exact shareT_size _ _
    rw [← hT] at RT ⊢
    rw [← h0] at R2 ⊢
    have r3 := fun u => alike_any T N0 u (by omega) (by omega)
    have R1 := Lib.hid RT
    by_cases he : T.data.toList = N0.data.toList
    · rw [decide_eq_true he] at r3
      rw [if_pos he]
      have R3 := Lib.hid r3
      clear r3 he h0 h0s hT hTs h
      go_enter Try.func35, Try.ntmps35
      go_wp2_with fail
      refine (R1.out _).mono ?_
      rintro e w1 ⟨rfl, hb⟩
      have HB1 := Lib.hid hb
      clear hb
      go_wp2_with fail
      refine (R2.out _).mono ?_
      rintro e w2 ⟨rfl, hb⟩
      have HB2 := Lib.hid (HB1.out.trans (hb.mono HB1.out.size))
      clear hb HB1
      go_wp2_with fail
      refine (R3.out _).mono ?_
      rintro e w3 ⟨rfl, hb⟩
      have HB3 := Lib.hid (HB2.out.trans (hb.mono HB2.out.size))
      clear hb HB2
      go_wp2
      refine bodyPost_ret (v := .tuple #[.string ⟨#[]⟩, .int .i64 5]) (by simp [results, Try.results35, go_sem]) rfl ⟨rfl, HB3.out⟩
    · rw [decide_eq_false he] at r3
      rw [if_neg he]
      have R3 := Lib.hid r3
      clear r3 he h0 h0s hT hTs h
      go_enter Try.func35, Try.ntmps35
      go_wp2_with fail
      refine (R1.out _).mono ?_
      rintro e w1 ⟨rfl, hb⟩
      have HB1 := Lib.hid hb
      clear hb
      go_wp2_with fail
      refine (R2.out _).mono ?_
      rintro e w2 ⟨rfl, hb⟩
      have HB2 := Lib.hid (HB1.out.trans (hb.mono HB1.out.size))
      clear hb HB1
      go_wp2_with fail
      refine (R3.out _).mono ?_
      rintro e w3 ⟨rfl, hb⟩
      have HB3 := Lib.hid (HB2.out.trans (hb.mono HB2.out.size))
      clear hb HB2
      go_wp2
      refine bodyPost_ret (v := .tuple #[.string T, .int .i64 0]) (by simp [results, Try.results35, go_sem]) rfl ⟨rfl, HB3.out⟩
  · rw [if_neg h] at RT ⊢
    have R1 := Lib.hid RT
    clear h
    go_enter Try.func35, Try.ntmps35
    go_wp2_with fail
    refine (R1.out _).mono ?_
    rintro e w1 ⟨rfl, hb⟩
    have HB1 := Lib.hid hb
    clear hb
    go_wp2
    refine bodyPost_ret (v := .tuple #[.string ⟨#[]⟩, .int .i64 1]) (by simp [results, Try.results35, go_sem]) rfl ⟨rfl, HB1.out⟩

/-- Whether a public key is weak. -/
def weakB (p : ByteArray) : Bool := decide (¬ p.size = 32) || decide ((shareT (numT 0) p).data.toList = (numT 0).data.toList)
set_option maxHeartbeats 1600000 in
theorem weak_any (p : ByteArray) (w0 : World) :
    Calls Try.prog 47 #[.string p] w0 fun r w' => r = .returned (.bool (weakB p)) ∧ Below w0.heap.size w0 w' := by
  have R1 := Lib.hid (fun u => nought_any u)
  obtain ⟨N0, h0⟩ : ∃ T, T = numT 0 := ⟨_, rfl⟩
  have h0s : N0.size = 32 := by rw [h0]; exact numT_size _
  have R2 := fun u => shared_any N0 p u
  have hv : ∃ a b, sharedV N0 p = .tuple #[.string a, .int .i64 b] ∧ (!(b == 0)) = weakB p := by
    unfold sharedV weakB
    rw [← h0]
    by_cases h1 : p.size = 32
    · rw [if_pos ⟨h0s, h1⟩]
      by_cases he : (shareT N0 p).data.toList = N0.data.toList
      · rw [if_pos he]
        exact ⟨_, _, rfl, by rw [decide_eq_true he, Bool.or_true]; rfl⟩
      · rw [if_neg he]
        exact ⟨_, _, rfl, by rw [decide_eq_false he, decide_eq_false (by simp [h1])]; rfl⟩
    · rw [if_neg (fun h => h1 h.2)]
      exact ⟨_, _, rfl, by rw [decide_eq_true h1, Bool.true_or]; rfl⟩
  obtain ⟨a, b, hv, hw⟩ := hv
  rw [hv] at R2
  rw [← h0] at R1
  rw [← hw]
  have R2 := Lib.hid R2
  clear h0 h0s hv hw
  go_enter Try.func47, Try.ntmps47
  go_wp2_with fail
  refine (R1.out _).mono ?_
  rintro e w1 ⟨rfl, hb⟩
  have HB1 := Lib.hid hb
  clear hb
  go_wp2_with fail
  refine (R2.out _).mono ?_
  rintro e w2 ⟨rfl, hb⟩
  have HB2 := Lib.hid (HB1.out.trans (hb.mono HB1.out.size))
  clear hb HB1
  go_wp2
  go_ret
  exact ⟨rfl, HB2.out⟩
end Go.Proofs.Ytcglobpklhkebaa.LadC
