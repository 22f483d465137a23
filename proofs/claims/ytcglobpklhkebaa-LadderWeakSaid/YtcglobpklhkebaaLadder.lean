/-
  Ladder of package ladder answers the plain ladder, and leaves all memory that was there as it was. Conditions: limbs of words, a text that takes no more than the reach of the form.
-/
import Derived.Test.YtcglobpklhkebaaLadRung
import Derived.Test.YtcglobpklhkebaaLnBit
namespace Go.Proofs.Ytcglobpklhkebaa.LadC
open Go.RowKit Mur Lanes Limb Hold Lad
set_option maxRecDepth 100000

/-- The bits of a text. -/
def bt (s : ByteArray) (i : Nat) : Nat := bit s.data.toList (i : Int)
theorem bt_lt (s : ByteArray) (i : Nat) : bt s i < 2 := by
  unfold bt bit
  split
  · decide
  · exact Nat.mod_lt _ (by decide)

/-- A pair of limbs twice, worth s. -/
structure Four (A B C D : List Value) (s : St) : Prop where
  a : LimL A s.a
  b : LimL B s.b
  c : LimL C s.c
  d : LimL D s.d
theorem exch_some {A B C D : List Value} {s : St} {n : Nat} (h : Four A B C D s) (hn : n < 9223372036854775808) :
    ∃ A' B' C' D', Four A' B' C' D' (exch n s) ∧ ∀ u, Calls Try.prog 67 #[.agg (A ++ B).toArray, .agg (C ++ D).toArray, .int .i64 n] u fun r w' => r = .returned (.tuple #[.agg (A' ++ B').toArray, .agg (C' ++ D').toArray]) ∧ Below u.heap.size u w' := by
  have R := fun u => exchanged_any h.a h.b h.c h.d hn u
  unfold exch
  by_cases e : n % 2 = 1
  · simp only [if_pos e] at R ⊢
    exact ⟨C, D, A, B, ⟨h.c, h.d, h.a, h.b⟩, R⟩
  · simp only [if_neg e] at R ⊢
    exact ⟨A, B, C, D, h, R⟩
theorem rung_some {A B C D Y : List Value} {s : St} {N : Nat} (h : Four A B C D s) (hY : LimL Y N) :
    ∃ A' B' C' D', Four A' B' C' D' (rungN N s) ∧ ∀ u, Calls Try.prog 68 #[.agg (A ++ B).toArray, .agg (C ++ D).toArray, .agg Y.toArray] u fun r w' => r = .returned (.tuple #[.agg (A' ++ B').toArray, .agg (C' ++ D').toArray]) ∧ Below u.heap.size u w' :=
  ⟨_, _, _, _, ⟨LimL.ofMod _, LimL.ofMod _, LimL.ofMod _, LimL.ofMod _⟩, fun u => rung_any h.a h.b h.c h.d hY u⟩
theorem zeros10_length : zeros10.length = 10 := rfl
def one5 : List Value := [.int .u64 1, .int .u64 0, .int .u64 0, .int .u64 0, .int .u64 0]
theorem one5_l : LimL one5 1 := LimL.ofFive (a := 1) (b := 0) (c := 0) (d := 0) (e := 0) (by unfold Words5; omega)
theorem zeros5_l : LimL zeros5 0 := LimL.ofFive (a := 0) (b := 0) (c := 0) (d := 0) (e := 0) (by unfold Words5; omega)
theorem built_one : Try.prog.built 24 [(0, .int .u64 1)] = some one5.toArray := by kernel_rfl
theorem built_first : Try.prog.built 72 [(0, .agg one5.toArray)] = some (one5 ++ zeros5).toArray := by kernel_rfl
theorem built_pair {X : List Value} {N : Nat} (h : LimL X N) : Try.prog.built 72 [(0, .agg X.toArray), (1, .agg one5.toArray)] = some (X ++ one5).toArray := by
  obtain ⟨a, b, c, d, e, rfl, -, -⟩ := h.out
  kernel_rfl
theorem Four.len {A B C D : List Value} {s : St} (h : Four A B C D s) : (A.length = 5 ∧ B.length = 5 ∧ C.length = 5 ∧ D.length = 5) ∧ (A ++ B).length = 10 ∧ (C ++ D).length = 10 ∧ Single (A ++ B) ∧ Single (C ++ D) :=
  ⟨⟨h.a.len, h.b.len, h.c.len, h.d.len⟩, by rw [List.length_append, h.a.len, h.b.len], by rw [List.length_append, h.c.len, h.d.len], h.a.one.append h.b.one, h.c.one.append h.d.one⟩

set_option maxHeartbeats 4000000 in
theorem ladder_any {Y : List Value} {N : Nat} (s : ByteArray) (hY : LimL Y N) (hs : s.size ≤ 140737488351232) (w0 : World) :
    Calls Try.prog 41 #[.string s, .agg Y.toArray] w0 fun r w' => r = .returned (.agg (limL (ladder (bt s) N)).toArray) ∧ Below w0.heap.size w0 w' := by
  have y5 : Y.length = 5 ∧ Single Y := ⟨hY.len, hY.one⟩
  have o5 : one5.length = 5 ∧ Single one5 := ⟨one5_l.len, one5_l.one⟩
  have hb := fun (k : Nat) (hk : k < 255) u => show Calls Try.prog 62 #[.string s, .int .i64 (254 - (k : Int))] u fun e w' => e = .returned (.int .i64 (bt s (254 - k) : Nat)) ∧ u = w' by
    have := bit_any s ((254 - k : Nat) : Int) u (by omega) (by omega) hs
    unfold bt
    rw [show ((254 - k : Nat) : Int) = 254 - (k : Int) by omega] at this ⊢
    exact this
  have HBIT := Lib.hid hb
  have HY := Lib.hid y5
  have HO := Lib.hid o5
  have LY := Lib.hid hY
  have HM := Lib.hid (Hld.start w0)
  clear y5 o5 hb hY hs
  go_enter Try.func41, Try.ntmps41
  go_upto_region 1 with ((first
    | (with_reducible refine Hold.box HM.out rfl rfl rfl ?_; clear HM; intro bx w HM; simp only [List.nil_append] at HM; replace HM := Lib.hid HM)
    | (with_reducible refine Hold.alloc HM.out rfl rfl zeros5 zero_limbs5 ?_; clear HM; intro br w HM; simp only [List.nil_append, List.cons_append] at HM; replace HM := Lib.hid HM)))
  refine wp_region_held (S := fun u => Hld w0 [⟨bx, 24, Y⟩, ⟨br, 24, zeros5⟩] u) (by kernel_rfl) ?_
  show wpAnyH _ _ _ _ _ 9 _ _ (World.drew _)
  refine wpAnyH_take (i := 0) (v := .agg (one5).toArray) rfl (by kernel_rfl) (by kernel_rfl) (by kernel_rfl) (fun _ _ _ h => h) (.inl ⟨by rfl, fun u hu => Hold.build_run rfl (by simp [Act.eval, Act.put]; exact built_one)⟩) HM.out.drew ?_
  simp only [Act.put, List.setIfInBounds_toArray, List.set_cons_zero, List.set_cons_succ]
  refine wpAnyH_take (i := 1) (v := .agg (one5 ++ zeros5).toArray) rfl (by kernel_rfl) (by kernel_rfl) (by kernel_rfl) (fun _ _ _ h => h) (.inl ⟨by rfl, fun u hu => Hold.build_run rfl (by simp [Act.eval]; exact built_first)⟩) HM.out.drew ?_
  simp only [Act.put]
  refine wpAnyH_take (i := 2) (v := .agg (Y).toArray) rfl (by kernel_rfl) (by kernel_rfl) (by kernel_rfl) (fun _ _ _ h => h) (.inl ⟨by rfl, fun u hu => Hold.load_run hu 0 rfl rfl rfl (Part.all _) (by rw [HY.out.1]; exact row_limbs)⟩) HM.out.drew ?_
  simp only [Act.put]
  refine wpAnyH_take (i := 3) (v := .agg (one5).toArray) rfl (by kernel_rfl) (by kernel_rfl) (by kernel_rfl) (fun _ _ _ h => h) (.inl ⟨by rfl, fun u hu => Hold.build_run rfl (by simp [Act.eval]; exact built_one)⟩) HM.out.drew ?_
  simp only [Act.put]
  refine wpAnyH_take (i := 4) (v := .agg (Y ++ one5).toArray) rfl (by kernel_rfl) (by kernel_rfl) (by kernel_rfl) (fun _ _ _ h => h) (.inl ⟨by rfl, fun u hu => Hold.build_run rfl (by simp [Act.eval]; exact built_pair LY.out)⟩) HM.out.drew ?_
  simp only [Act.put]
  refine Hold.new_end (i := 5) (j := 6) (k := 7) (l := 8) (di := 5) (dj := 6) (x := 10) (y := 13) (v := one5 ++ zeros5) (v' := Y ++ one5) HM.out.drew rfl rfl rfl rfl (by decide) (by kernel_rfl) (by kernel_rfl) (by kernel_rfl) (by kernel_rfl) (by kernel_rfl) (by kernel_rfl) rfl rfl rfl rfl rfl rfl rfl rfl rfl rfl rfl rfl rfl rfl (by decide) (by simp) (by simp) zero_pair zero_pair (by rw [List.length_append, HO.out.1, zeros5_length]; exact row_pair) (by rw [List.length_append, HY.out.1, HO.out.1]; exact row_pair)
    (by rw [List.length_append, HO.out.1, zeros5_length]; rfl) (by rw [List.length_append, HY.out.1, HO.out.1]; rfl) (HO.out.2.append zeros5_l.one) (HY.out.2.append HO.out.2) ?_
  clear HM
  intro bn bf w HM
  simp only [List.nil_append, List.cons_append] at HM
  replace HM := Lib.hid HM
  simp only [Act.put]
  go_wp2
  go_loopw [7, 8, 14] (fun _ _ i wr => ∃ k : Nat, k ≤ 255 ∧ i = .int .i64 k ∧ ∃ A B C D, Four A B C D (ladN (bt s) N k) ∧ Hld w0 [⟨bx, 24, Y⟩, ⟨br, 24, zeros5⟩, ⟨bn, 72, A ++ B⟩, ⟨bf, 72, C ++ D⟩] wr) (fun _ _ i _ => 255 - (intOf i).toNat)
  case atStart => exact ⟨0, by omega, rfl, one5, zeros5, Y, one5, ⟨one5_l, zeros5_l, LY.out, one5_l⟩, HM.out⟩
  case round =>
    obtain ⟨k, hk5, rfl, A1, B1, C1, D1, hf, hm⟩ := hrel
    clear HM
    have F1 := Lib.hid hf
    have HM := Lib.hid hm
    clear hf hm
    by_cases hlt : k < 255
    · have hd2 : decide ((k : Int) < 255) = true := by simp; omega
      have ik : (k : Int) ≤ 254 := by omega
      obtain ⟨n, hn⟩ : ∃ n, n = bt s (254 - k) := ⟨_, rfl⟩
      have hnl : n < 9223372036854775808 := by
        have := bt_lt s (254 - k)
        omega
      have hnext : ladN (bt s) N (k + 1) = exch n (rungN N (exch n (ladN (bt s) N k))) := by rw [hn]; rfl
      obtain ⟨A2, B2, C2, D2, f2, r2⟩ := exch_some F1.out hnl
      obtain ⟨A3, B3, C3, D3, f3, r3⟩ := rung_some f2 LY.out
      obtain ⟨A4, B4, C4, D4, f4, r4⟩ := exch_some f3 hnl
      rw [← hnext] at f4
      have rb := fun u => HBIT.out k hlt u
      rw [← hn] at rb
      have RB := Lib.hid rb
      have R2 := Lib.hid r2
      have R3 := Lib.hid r3
      have R4 := Lib.hid r4
      have F2 := Lib.hid f2
      have F3 := Lib.hid f3
      have F4 := Lib.hid f4
      clear r2 r3 r4 f2 f3 f4 rb hn hnext
      go_upto_region 6 with ((first
        | (with_reducible refine (RB.out _).mono ?_; rintro e w ⟨rfl, rfl⟩)))
      go_upto_region 7 with ((first
        | (with_reducible refine Hold.load HM.out 2 (cs := A1 ++ B1) rfl rfl rfl rfl (Part.all _) (by rw [F1.out.len.2.1]; exact row_pair) ?_)
        | (with_reducible refine Hold.load HM.out 3 (cs := C1 ++ D1) rfl rfl rfl rfl (Part.all _) (by rw [F1.out.len.2.2.1]; exact row_pair) ?_)
        | (with_reducible refine (R2.out _).mono ?_; rintro e w ⟨rfl, hb⟩; replace HM := Lib.hid (HM.out.next hb); clear hb)
        | (with_reducible refine Hold.store HM.out 2 (v' := A2 ++ B2) rfl rfl rfl rfl rfl (by rw [Nat.zero_add, F2.out.len.2.1, F1.out.len.2.1]; exact Nat.le_refl _) (lay_all (F1.out.len.2.1.trans F2.out.len.2.1.symm)) (F2.out.len.2.2.2.1) (by rw [F2.out.len.2.1]; exact row_pair) ?_; clear HM; intro w HM; simp only [List.set_cons_zero, List.set_cons_succ] at HM; replace HM := Lib.hid HM)
        | (with_reducible refine Hold.store HM.out 3 (v' := C2 ++ D2) rfl rfl rfl rfl rfl (by rw [Nat.zero_add, F2.out.len.2.2.1, F1.out.len.2.2.1]; exact Nat.le_refl _) (lay_all (F1.out.len.2.2.1.trans F2.out.len.2.2.1.symm)) (F2.out.len.2.2.2.2) (by rw [F2.out.len.2.2.1]; exact row_pair) ?_; clear HM; intro w HM; simp only [List.set_cons_zero, List.set_cons_succ] at HM; replace HM := Lib.hid HM)))
      go_upto_region 8 with ((first
        | (with_reducible refine Hold.load HM.out 2 (cs := A2 ++ B2) rfl rfl rfl rfl (Part.all _) (by rw [F2.out.len.2.1]; exact row_pair) ?_)
        | (with_reducible refine Hold.load HM.out 3 (cs := C2 ++ D2) rfl rfl rfl rfl (Part.all _) (by rw [F2.out.len.2.2.1]; exact row_pair) ?_)
        | (with_reducible refine Hold.load HM.out 0 (cs := Y) rfl rfl rfl rfl (Part.all _) (by rw [HY.out.1]; exact row_limbs) ?_)
        | (with_reducible refine (R3.out _).mono ?_; rintro e w ⟨rfl, hb⟩; replace HM := Lib.hid (HM.out.next hb); clear hb)
        | (with_reducible refine Hold.store HM.out 2 (v' := A3 ++ B3) rfl rfl rfl rfl rfl (by rw [Nat.zero_add, F3.out.len.2.1, F2.out.len.2.1]; exact Nat.le_refl _) (lay_all (F2.out.len.2.1.trans F3.out.len.2.1.symm)) (F3.out.len.2.2.2.1) (by rw [F3.out.len.2.1]; exact row_pair) ?_; clear HM; intro w HM; simp only [List.set_cons_zero, List.set_cons_succ] at HM; replace HM := Lib.hid HM)
        | (with_reducible refine Hold.store HM.out 3 (v' := C3 ++ D3) rfl rfl rfl rfl rfl (by rw [Nat.zero_add, F3.out.len.2.2.1, F2.out.len.2.2.1]; exact Nat.le_refl _) (lay_all (F2.out.len.2.2.1.trans F3.out.len.2.2.1.symm)) (F3.out.len.2.2.2.2) (by rw [F3.out.len.2.2.1]; exact row_pair) ?_; clear HM; intro w HM; simp only [List.set_cons_zero, List.set_cons_succ] at HM; replace HM := Lib.hid HM)))
      go_upto_region 9 with ((first
        | (with_reducible refine Hold.load HM.out 2 (cs := A3 ++ B3) rfl rfl rfl rfl (Part.all _) (by rw [F3.out.len.2.1]; exact row_pair) ?_)
        | (with_reducible refine Hold.load HM.out 3 (cs := C3 ++ D3) rfl rfl rfl rfl (Part.all _) (by rw [F3.out.len.2.2.1]; exact row_pair) ?_)
        | (with_reducible refine (R4.out _).mono ?_; rintro e w ⟨rfl, hb⟩; replace HM := Lib.hid (HM.out.next hb); clear hb)
        | (with_reducible refine Hold.store HM.out 2 (v' := A4 ++ B4) rfl rfl rfl rfl rfl (by rw [Nat.zero_add, F4.out.len.2.1, F3.out.len.2.1]; exact Nat.le_refl _) (lay_all (F3.out.len.2.1.trans F4.out.len.2.1.symm)) (F4.out.len.2.2.2.1) (by rw [F4.out.len.2.1]; exact row_pair) ?_; clear HM; intro w HM; simp only [List.set_cons_zero, List.set_cons_succ] at HM; replace HM := Lib.hid HM)
        | (with_reducible refine Hold.store HM.out 3 (v' := C4 ++ D4) rfl rfl rfl rfl rfl (by rw [Nat.zero_add, F4.out.len.2.2.1, F3.out.len.2.2.1]; exact Nat.le_refl _) (lay_all (F3.out.len.2.2.1.trans F4.out.len.2.2.1.symm)) (F4.out.len.2.2.2.2) (by rw [F4.out.len.2.2.1]; exact row_pair) ?_; clear HM; intro w HM; simp only [List.set_cons_zero, List.set_cons_succ] at HM; replace HM := Lib.hid HM)))
      go_wp2
      go_roundw
      case rel => exact ⟨k + 1, by omega, by go_num, A4, B4, C4, D4, F4.out, HM.out⟩
      case measure => simp [intOf]; omega
    · have hd2 : decide ((k : Int) < 255) = false := by simp; omega
      obtain rfl : k = 255 := by omega
      have ri := fun u => invert_l F1.out.b u
      obtain ⟨V, hV, lV⟩ : ∃ V, V = limL ((ladN (bt s) N 255).b ^ (Prime.P - 2) % Prime.P) ∧ LimL V _ := ⟨_, rfl, LimL.ofMod _⟩
      rw [← hV] at ri
      have rt := fun u => times_l F1.out.a lV u
      obtain ⟨W, hW, lW⟩ : ∃ V, V = limL (ladder (bt s) N) ∧ LimL V _ := ⟨_, rfl, LimL.ofMod _⟩
      change ∀ u, Calls _ _ _ u fun r w' => r = .returned (.agg (limL (ladder (bt s) N)).toArray) ∧ _ at rt
      rw [← hW] at rt
      have RI := Lib.hid ri
      have RT := Lib.hid rt
      have HW := Lib.hid (show W.length = 5 ∧ Single W from ⟨lW.len, lW.one⟩)
      have HA1 := Lib.hid (show A1.length = 5 from F1.out.a.len)
      have HB1 := Lib.hid (show B1.length = 5 from F1.out.b.len)
      have HWE := Lib.hid hW
      clear ri rt hV lV hW lW
      go_upto_region 10 with (fail)
      refine Steady.region 6 (by kernel_rfl) (by kernel_rfl) (fun u => Hld _ _ u) HM.out.drew ?_
      simp only [List.take_succ_cons, List.take_zero, List.drop_succ_cons, List.drop_zero]
      refine Steady.take ?_ rfl (by intro u hu; go_simp; with_reducible rfl) ?_
      simp only [Act.put, List.setIfInBounds_toArray, List.set_cons_zero, List.set_cons_succ]
      refine Steady.take (.agg (A1).toArray) rfl (fun u hu => Hold.load_run hu 2 rfl rfl rfl (Part.left _ _) (by rw [HA1.out]; exact row_limbs)) ?_
      simp only [Act.put, List.setIfInBounds_toArray, List.set_cons_zero, List.set_cons_succ]
      refine Steady.take ?_ rfl (by intro u hu; go_simp; with_reducible rfl) ?_
      simp only [Act.put, List.setIfInBounds_toArray, List.set_cons_zero, List.set_cons_succ]
      refine Steady.take (.agg (B1).toArray) rfl (fun u hu => Hold.load_run hu 2 rfl rfl rfl (Part.right HA1.out) (by rw [HB1.out]; exact row_limbs)) ?_
      simp only [Act.put, List.setIfInBounds_toArray, List.set_cons_zero, List.set_cons_succ]
      refine Steady.call _ _ _ rfl ?_ (Hold.kept RI.out) ?_
      · intro u
        go_simp
      simp only [Act.put, List.setIfInBounds_toArray, List.set_cons_zero, List.set_cons_succ]
      refine Steady.call _ _ _ rfl ?_ (Hold.kept RT.out) ?_
      · intro u
        go_simp
      simp only [Act.put, List.setIfInBounds_toArray, List.set_cons_zero, List.set_cons_succ]
      refine Steady.nil ?_
      clear HM
      intro w HM
      replace HM := Lib.hid HM
      go_wp2_with ((first
        | (with_reducible refine Hold.store HM.out 1 (v' := W) rfl rfl rfl rfl rfl (by simp [HW.out.1, zeros5_length]) (lay_all (by simp [HW.out.1, zeros5_length])) (HW.out.2) (by rw [HW.out.1]; exact row_limbs) ?_; clear HM; intro w HM; simp only [List.set_cons_zero, List.set_cons_succ] at HM; replace HM := Lib.hid HM)))
      exact bodyPost_ret (Hold.results1 HM.out 1 rfl _ rfl rfl (by rw [HW.out.1]; exact row_limbs)) rfl ⟨by rw [HWE.out], HM.out.below⟩
end Go.Proofs.Ytcglobpklhkebaa.LadC
