/-
  StampBack: what is kept is loaded, whoever it is, and signs on where it stood; leaves that were given up sign nothing: for every input, the law answers true and changes nothing that was there. Condition: the constant table lies as the program's text lays it (the card ties it).
-/
import Derived.Test.YtkchbilkmoemaaaDoorMKeep
import Derived.Test.YtkchbilkmoemaaaDoorMStp
import Derived.Test.YtkchbilkmoemaaaDoorConstFrame
import Derived.Test.YtkchbilkmoemaaaDoorCards
import Derived.Test.YtkchbilkmoemaaaDoorOpen
import Derived.Test.YtkchbilkmoemaaaDoorTie
import Derived.SevenTiedAt
import Derived.Deep.RegionLaw
namespace Go.Proofs.YtkchbilkmoemaaaDoor.LawSBack
open Go.ChangeShapes Go.WideShapes Go.ChangeAt Go.ChangeMaps Go.RowKit Mur Sha Chn Grv Stp
set_option maxRecDepth 100000

theorem rest_of (x : Int) (q : Nat) (h1 : 0 < q) (h2 : q ≤ 1000) : ∃ m : Nat, m < q ∧ wrap64 ((IntKind.u64.wrap x).tmod (q : Int)) = (m : Int) := by
  rw [IntKind.wrap_u64, Int.tmod_eq_emod_of_nonneg (by omega)]
  have h3 : 0 ≤ x % 18446744073709551616 % (q : Int) := Int.emod_nonneg _ (by omega)
  have h4 : x % 18446744073709551616 % (q : Int) < q := Int.emod_lt_of_pos _ (by omega)
  refine ⟨(x % 18446744073709551616 % (q : Int)).toNat, by omega, ?_⟩
  rw [IntWalk.wrap64_in _ (by omega)]
  omega

def zeroC : List Value := [.int .i64 0, .int .i64 0, .string ⟨#[]⟩, .int .i64 0]
theorem set_four {W w : World} {b c : Nat} {t : TypeId} {X : List Value} (hB : Below W.heap.size W w) (hc : W.heap.size ≤ c) (hk : Whole w b t X) (hne : c ≠ b) (y0 y1 y2 y3 : Value) :
    Below W.heap.size W ((((w.setCell ⟨c, 0, none⟩ y0).setCell ⟨c, 1, none⟩ y1).setCell ⟨c, 2, none⟩ y2).setCell ⟨c, 3, none⟩ y3) ∧ Whole ((((w.setCell ⟨c, 0, none⟩ y0).setCell ⟨c, 1, none⟩ y1).setCell ⟨c, 2, none⟩ y2).setCell ⟨c, 3, none⟩ y3) b t X :=
  ⟨(((hB.setCell (p := ⟨c, 0, none⟩) hc y0).setCell (p := ⟨c, 1, none⟩) hc y1).setCell (p := ⟨c, 2, none⟩) hc y2).setCell (p := ⟨c, 3, none⟩) hc y3, (((hk.other c 0 y0 hne).other c 1 y1 hne).other c 2 y2 hne).other c 3 y3 hne⟩
theorem whole_sign {w : World} {b : Nat} {t : TypeId} {X : List Value} {n h nx : Int} {seed : ByteArray} (k : Whole w b t X) (hX : X = cellsS n h seed nx) :
    w.cell? ⟨b, 0, none⟩ = some (.int .i64 n) ∧ w.cell? ⟨b, 1, none⟩ = some (.int .i64 h) ∧ w.cell? ⟨b, 2, none⟩ = some (.string seed) ∧ w.cell? ⟨b, 3, none⟩ = some (.int .i64 nx) := by
  subst hX
  exact ⟨k.row.cell rfl, k.row.cell rfl, k.row.cell rfl, k.row.cell rfl⟩
set_option maxHeartbeats 1600000 in
theorem law_great (seed : ByteArray) (m n : Int) (w : World) (hg : ¬ seed.size ≤ 300) (hk : Consts w) :
    Calls Tryd.prog 5 #[.string seed, .agg #[.int .i64 m, .int .i64 n]] w
      fun e w' => e = .returned (.bool true) ∧ Below w.heap.size w w' := by
  have hd1 : decide (300 < (seed.size : Int)) = true := by simp; omega
  have RA := Lib.hid (fun u hu => awake_any u hu)
  have hB0 := ((Below.refl w.heap.size w).alloc (Nat.le_refl _) (.cells #[.int .i64 m, .int .i64 n] 45))
  have HK := Lib.hid (hk.below hk.1 hB0)
  have HB := Lib.hid hB0
  clear hk hB0
  go_enter Tryd.func5, Tryd.ntmps5
  go_wp2_with fail
  refine (RA.out _ HK.out).mono ?_
  rintro e w1 ⟨rfl, hb1⟩
  have HB1 := Lib.hid (HB.out.trans (hb1.mono HB.out.size))
  clear hb1
  go_wp2
  go_ret
  exact ⟨rfl, HB1.out⟩

set_option maxHeartbeats 6400000 in
theorem law_small (seed : ByteArray) (m n : Int) (W : World) (hg : seed.size ≤ 300) (hk : Consts W) :
    Calls Tryd.prog 5 #[.string seed, .agg #[.int .i64 m, .int .i64 n]] W
      fun e w' => e = .returned (.bool true) ∧ Below W.heap.size W w' := by
  have hd1 : decide (300 < (seed.size : Int)) = false := by simp; omega
  obtain ⟨k, hk5, hkm⟩ := rest_of m 5 (by omega) (by omega)
  have hr : Right ((2 : Nat) : Int) ((2 : Nat) : Int) := by decide
  have hlv : leavesI 2 = 4 := rfl
  obtain ⟨S, hS⟩ : ∃ S : ByteArray, S = tx (seedOf seed.data.toList) := ⟨_, rfl⟩
  have hSs : S.size = 32 := by rw [hS, tx_size, seedOf_length]
  have hSl : S.data.toList.length = S.size := rfl
  have hkp : Keeps ((2 : Nat) : Int) ((2 : Nat) : Int) (k : Int) S.size := ⟨hr, by omega, by show (k : Int) ≤ 4; omega, by omega⟩
  obtain ⟨Kp, hKp⟩ : ∃ K : ByteArray, K = tx (kept 2 2 k S.data.toList) := ⟨_, rfl⟩
  have hKs : Kp.size = 41 := by rw [hKp, tx_size, kept_length, hSl, hSs]
  obtain ⟨g1, g2, g3, g4, g5, g6, g7, g8⟩ := load_kept 2 2 k S.data.toList hkp
  obtain ⟨L, hL⟩ : ∃ L : Int, L = 4 - (k : Int) := ⟨_, rfl⟩
  have hLk : leftI 2 2 (k : Int) = L := by rw [leftI, if_pos ⟨hr, by omega, by rw [hlv]; omega⟩, hlv, hL]; rfl
  have hL0 : leftI 2 2 0 = 4 := by rw [leftI, if_pos ⟨hr, by omega, by rw [hlv]; omega⟩, hlv]; rfl
  have hue0 : useE 2 2 0 (k : Int) = 0 := by rw [useE, if_neg (by omega), hL0, if_neg (by omega)]
  have hue1 : useE 2 2 (k : Int) (L + 1) = 6 := by rw [useE, if_neg (by omega), hLk, if_pos (by omega)]
  have hsig : ∃ (A : ByteArray) (k' e : Int), (∀ u, Below W.heap.size W u → Calls Tryd.prog 9 #[.agg #[.int .i64 2, .int .i64 2, .string S, .int .i64 (k : Int)], .string ⟨#[116, 101, 120, 116]⟩] u fun v w' => v = .returned (.tuple #[.string A, .agg #[.int .i64 2, .int .i64 2, .string S, .int .i64 k'], .int .i64 e]) ∧ Below u.heap.size u w') ∧ (e == 0) = decide (0 < L) := by
    by_cases h4 : k < 4
    · exact ⟨tx (signature 2 2 S.data.toList k [116, 101, 120, 116]), ((k + 1 : Nat) : Int), 0, fun u hu => sign_any 2 2 k S ⟨#[116, 101, 120, 116]⟩ _ u hr h4 (by omega) (by decide) rfl (hk.below hk.1 hu), by rw [decide_eq_true (by omega)]; rfl⟩
    · exact ⟨⟨#[]⟩, k, 6, fun u _ => sign_spent 2 2 k S ⟨#[116, 101, 120, 116]⟩ u hr (by omega) (by omega) (by rw [hlv]; omega), by rw [decide_eq_false (by omega)]; rfl⟩
  obtain ⟨A, k', e, hsg, hee⟩ := hsig
  obtain ⟨MN, hMN, hMNc⟩ := named_shape m n
  obtain ⟨Y, hY, hYc⟩ := named_shape 2 2
  obtain ⟨X0, hX0, hXc0⟩ := named 2 2 S 0
  obtain ⟨Xk, hXk, hXck⟩ := named 2 2 S k
  obtain ⟨Xs, hXs, hXcs⟩ := named 2 2 S k'
  have r1 : ∀ u, Below W.heap.size W u → Calls Tryd.prog 7 #[.agg #[.int .i64 2, .int .i64 2], .string seed] u fun e w' => e = .returned (.tuple #[.agg #[.int .i64 2, .int .i64 2, .string S, .int .i64 0], .int .i64 0]) ∧ Below u.heap.size u w' :=
    fun u hu => make_any 2 2 seed S u hr (by omega) hS (hk.below hk.1 hu)
  have r2 : ∀ u, Calls Tryd.prog 17 #[.agg #[.int .i64 2, .int .i64 2, .string S, .int .i64 0], .int .i64 (k : Int)] u fun e w' => e = .returned (.tuple #[.agg #[.int .i64 2, .int .i64 2, .string S, .int .i64 (k : Int)], .int .i64 0]) ∧ Below u.heap.size u w' :=
    fun u => use_any 2 2 0 k k 0 S u (by omega) (by omega) (by rw [useN, if_pos hue0]; omega) (by rw [hue0]; rfl)
  have r3 : ∀ u, Below W.heap.size W u → Calls Tryd.prog 13 #[.agg #[.int .i64 2, .int .i64 2, .string S, .int .i64 (k : Int)]] u fun e w' => e = .returned (.tuple #[.string Kp, .int .i64 0]) ∧ Below u.heap.size u w' :=
    fun u hu => keep_any 2 2 k S Kp u hkp hKp (hk.below hk.1 hu)
  have r4 : ∀ u, Below W.heap.size W u → Calls Tryd.prog 15 #[.string Kp] u fun e w' => e = .returned (.tuple #[.agg #[.int .i64 2, .int .i64 2, .string S, .int .i64 (k : Int)], .int .i64 0]) ∧ Below u.heap.size u w' := fun u hu => by
    have e1 : Kp.data.toList = kept 2 2 k S.data.toList := by rw [hKp]
    have g := load_tagged Kp u (by omega) (by omega) (by rw [e1, g1]; exact g2) (hk.below hk.1 hu) S 2 2 k (by rw [e1, g1, g7]) (by rw [e1, g1, g3]) (by rw [e1, g1, g4]) (by rw [e1, g1, g5])
    refine g.mono fun v w' h => ⟨?_, h.2⟩
    rcases h.1 with h1 | h1
    · exact h1.2
    · exact absurd (by rw [e1]; exact g8) h1.1
  have r5 := hsg
  have R6 := Lib.hid (show ∀ u, Calls Tryd.prog 12 #[.agg #[.int .i64 2, .int .i64 2, .string S, .int .i64 (k : Int)]] u fun e w' => e = .returned (.int .i64 L) ∧ Below u.heap.size u w' from
    fun u => left_any 2 2 k S L u hLk.symm)
  have r6 := R6.out
  have r7 : ∀ u, Calls Tryd.prog 17 #[.agg #[.int .i64 2, .int .i64 2, .string S, .int .i64 (k : Int)], .int .i64 (L + 1)] u fun e w' => e = .returned (.tuple #[.agg #[.int .i64 2, .int .i64 2, .string S, .int .i64 (k : Int)], .int .i64 6]) ∧ Below u.heap.size u w' :=
    fun u => use_any 2 2 k (L + 1) k 6 S u (by omega) (by omega) (by rw [useN, hue1]; rfl) (by rw [hue1]; rfl)
  have R7 := Lib.hid r7
  have RA := Lib.hid (fun u (hu : Below W.heap.size W u) => awake_any u (hk.below hk.1 hu))
  have hw1 : IntKind.i64.wrap (L + 1) = L + 1 := IntWalk.i64_in _ (by omega)
  rw [← hY.agg, ← hX0.agg] at r1
  rw [← hX0.agg, ← hXk.agg] at r2
  rw [← hXk.agg] at r3 r4 r5 r6 r7
  rw [← hXs.agg] at r5
  rw [← hMN.agg]
  have R1 := Lib.hid r1
  have R2 := Lib.hid r2
  have R3 := Lib.hid r3
  have R4 := Lib.hid r4
  have R5 := Lib.hid r5
  have R6' := Lib.hid r6
  have HMN := Lib.hid hMN
  have HY := Lib.hid hY
  have HX0 := Lib.hid hX0
  have HXk := Lib.hid hXk
  have HXs := Lib.hid hXs
  have HYA := Lib.hid hY.agg
  have HCk := Lib.hid hXck
  have HCs := Lib.hid hXcs
  have HMI := Lib.hid (show MN[0]? = some (.int .i64 m) by rw [hMNc]; rfl)
  have HEE := Lib.hid hee
  have HKM := Lib.hid hkm
  have HW1 := Lib.hid hw1
  have HM := Lib.hid (Hold.Hld.start W)
  clear r1 r2 r3 r4 r5 r6 r7 hsg hee hkm hw1 hMN hMNc hY hYc hX0 hXc0 hXk hXck hXs hXcs hS hSs hSl hkp hKp hKs g1 g2 g3 g4 g5 g6 g7 g8 hL hLk hL0 hue0 hue1 hr hlv hk hk5 hg
  go_enter Tryd.func5, Tryd.ntmps5
  go_upto_region 4 with ((first
    | (with_reducible refine Hold.box HM.out rfl rfl rfl ?_; clear HM; intro b0 w HM; simp only [List.nil_append] at HM; replace HM := Lib.hid HM)
    | (with_reducible refine Hold.alloc HM.out rfl rfl zeroP zero_shape ?_; clear HM; intro b1 w HM; simp only [List.nil_append, List.cons_append] at HM; replace HM := Lib.hid HM; rw [← HYA.out])
    | (with_reducible refine Hold.store HM.out 1 (v' := Y) rfl rfl rfl rfl rfl (by rw [zeroP_len, HY.out.len]; exact Nat.le_of_eq (Nat.zero_add _)) (Hold.lay_all (zeroP_len.trans HY.out.len.symm)) (HY.out.one) (by rw [HY.out.len]; exact shapeRow) ?_; clear HM; intro w HM; simp only [List.set_cons_zero, List.set_cons_succ] at HM; replace HM := Lib.hid HM)))

  go_upto_region 5 with ((first
    | (with_reducible refine Hold.load HM.out 1 (cs := Y) rfl rfl rfl rfl (Hold.Part.all _) (by rw [HY.out.len]; exact shapeRow) ?_)
    | (with_reducible refine (R1.out _ HM.out.below).mono ?_; rintro e w ⟨rfl, hb⟩; replace HM := Lib.hid (HM.out.next hb); clear hb)
    | (with_reducible refine Hold.alloc HM.out rfl rfl zeroS zero_sign ?_; clear HM; intro b2 w HM; simp only [List.nil_append, List.cons_append] at HM; replace HM := Lib.hid HM)
    | (with_reducible refine Hold.store HM.out 2 (v' := X0) rfl rfl rfl rfl rfl (by rw [zero_len, HX0.out.len]; exact Nat.le_of_eq (Nat.zero_add _)) (Hold.lay_all (zero_len.trans HX0.out.len.symm)) (HX0.out.one) (by rw [HX0.out.len]; exact signRow) ?_; clear HM; intro w HM; simp only [List.set_cons_zero, List.set_cons_succ] at HM; replace HM := Lib.hid HM)))

  have hkm := HKM.out
  rw [show ((5 : Nat) : Int) = 5 from rfl] at hkm
  go_upto_region 6 with ((first
    | (with_reducible refine Hold.load HM.out 2 (cs := X0) rfl rfl rfl rfl (Hold.Part.all _) (by rw [HX0.out.len]; exact signRow) ?_)
    | (with_reducible refine Hold.load1 HM.out 0 (c := .int .i64 m) rfl rfl rfl rfl (HMI.out) (cellInt) ?_)
    | (with_reducible refine (R2.out _).mono ?_; rintro e w ⟨rfl, hb⟩; replace HM := Lib.hid (HM.out.next hb); clear hb; clear hkm; generalize (IntKind.u64.wrap m).tmod 5 = y0; generalize IntKind.u64.wrap m = y1)
    | (with_reducible refine Hold.store HM.out 2 (v' := Xk) rfl rfl rfl rfl rfl (by rw [HX0.out.len, HXk.out.len]; exact Nat.le_of_eq (Nat.zero_add _)) (Hold.lay_all (HX0.out.len.trans HXk.out.len.symm)) (HXk.out.one) (by rw [HXk.out.len]; exact signRow) ?_; clear HM; intro w HM; simp only [List.set_cons_zero, List.set_cons_succ] at HM; replace HM := Lib.hid HM)))

  go_upto_region 7 with ((first
    | (with_reducible refine Hold.load HM.out 2 (cs := Xk) rfl rfl rfl rfl (Hold.Part.all _) (by rw [HXk.out.len]; exact signRow) ?_)
    | (with_reducible refine (R3.out _ HM.out.below).mono ?_; rintro e w ⟨rfl, hb⟩; replace HM := Lib.hid (HM.out.next hb); clear hb)))

  go_upto_region 8 with ((first
    | (with_reducible refine (R4.out _ HM.out.below).mono ?_; rintro e w ⟨rfl, hb⟩; replace HM := Lib.hid (HM.out.next hb); clear hb)
    | (with_reducible refine Hold.alloc HM.out rfl rfl zeroS zero_sign ?_; clear HM; intro b3 w HM; simp only [List.nil_append, List.cons_append] at HM; replace HM := Lib.hid HM)
    | (with_reducible refine Hold.store HM.out 3 (v' := Xk) rfl rfl rfl rfl rfl (by rw [zero_len, HXk.out.len]; exact Nat.le_of_eq (Nat.zero_add _)) (Hold.lay_all (zero_len.trans HXk.out.len.symm)) (HXk.out.one) (by rw [HXk.out.len]; exact signRow) ?_; clear HM; intro w HM; simp only [List.set_cons_zero, List.set_cons_succ] at HM; replace HM := Lib.hid HM)))

  go_upto_region 9 with ((first
    | (with_reducible refine Hold.load HM.out 3 (cs := Xk) rfl rfl rfl rfl (Hold.Part.all _) (by rw [HXk.out.len]; exact signRow) ?_)
    | (with_reducible refine (R5.out _ HM.out.below).mono ?_; rintro e w ⟨rfl, hb⟩; replace HM := Lib.hid (HM.out.next hb); clear hb)
    | (with_reducible refine Hold.alloc HM.out rfl rfl zeroS zero_sign ?_; clear HM; intro b4 w HM; simp only [List.nil_append, List.cons_append] at HM; replace HM := Lib.hid HM)
    | (with_reducible refine Hold.store HM.out 4 (v' := Xs) rfl rfl rfl rfl rfl (by rw [zero_len, HXs.out.len]; exact Nat.le_of_eq (Nat.zero_add _)) (Hold.lay_all (zero_len.trans HXs.out.len.symm)) (HXs.out.one) (by rw [HXs.out.len]; exact signRow) ?_; clear HM; intro w HM; simp only [List.set_cons_zero, List.set_cons_succ] at HM; replace HM := Lib.hid HM)))

  go_upto_region 10 with ((first
    | (with_reducible refine Hold.load HM.out 2 (cs := Xk) rfl rfl rfl rfl (Hold.Part.all _) (by rw [HXk.out.len]; exact signRow) ?_)
    | (with_reducible refine (R5.out _ HM.out.below).mono ?_; rintro e w ⟨rfl, hb⟩; replace HM := Lib.hid (HM.out.next hb); clear hb)
    | (with_reducible refine Hold.alloc HM.out rfl rfl zeroS zero_sign ?_; clear HM; intro b5 w HM; simp only [List.nil_append, List.cons_append] at HM; replace HM := Lib.hid HM)
    | (with_reducible refine Hold.store HM.out 5 (v' := Xs) rfl rfl rfl rfl rfl (by rw [zero_len, HXs.out.len]; exact Nat.le_of_eq (Nat.zero_add _)) (Hold.lay_all (zero_len.trans HXs.out.len.symm)) (HXs.out.one) (by rw [HXs.out.len]; exact signRow) ?_; clear HM; intro w HM; simp only [List.set_cons_zero, List.set_cons_succ] at HM; replace HM := Lib.hid HM)))

  have hns : (!(A.toList == A.toList)) = false := by simp
  have hf := And.intro (sign_cells HM.out 2 rfl HCk.out) (And.intro (sign_cells HM.out 3 rfl HCk.out) (And.intro (sign_cells HM.out 4 rfl HCs.out) (sign_cells HM.out 5 rfl HCs.out)))
  go_upto_region 12 with (fail)
  clear hf hns
  have hw1 := HW1.out
  have hf := sign_cells HM.out 2 rfl HCk.out
  have hlt := (HM.out.at 2 rfl).lt
  simp only at hlt
  have HFN := Lib.hid (fun (u : World) (q : Below w.heap.size w u) => And.intro (sign_cells (HM.out.next q) 2 rfl HCk.out) ((HM.out.next q).at 2 rfl))
  go_cut [20] (fun v wc => v = .int .i64 6 ∧ Below W.heap.size W wc ∧ Whole wc b2 28 Xk)
  case first =>
    go_region_law ((first
      | (refine step_call rfl 12 Tryd.call12 #[.tmp 100] #[28] rfl #[.agg #[.int .i64 2, .int .i64 2, .string S, .int .i64 (k : Int)]] (by first | (simp [Act.eval]; done) | simp [Act.eval, Act.put]) _ _ (R6.out _) ?_; intro w5 hb5; (first | (have hz5 := Whole.below (Whole.drew (Mur.Whole.made w 28 zeroC)) (by simp) hb5; have hw5 := ((Below.refl w.heap.size w).alloc (Nat.le_refl _) (.cells zeroC.toArray 28)).drew.trans (hb5.mono (by simp))) | (have hw5 := (Below.refl w.heap.size w).drew.trans (hb5.mono (Nat.le_refl _)))); have hf5 := (HFN.out w5 hw5).1; have hl5 := Nat.lt_of_lt_of_le hlt hw5.size)
      | (refine step_call rfl 17 Tryd.call17 #[.tmp 99, .tmp 102] #[28, 3] rfl #[.agg #[.int .i64 2, .int .i64 2, .string S, .int .i64 (k : Int)], .int .i64 (L + 1)] (by first | (simp [Act.eval]; done) | simp [Act.eval, Act.put]) _ _ (R7.out _) ?_; intro w6 hb6; (first | (have hz6 := Whole.below hz5 hz5.lt hb6; have hw6 := hw5.trans (hb6.mono hw5.size)) | (have hz6 := Whole.below (Mur.Whole.made w5 28 zeroC) (by simp) hb6; have hw6 := (hw5.alloc hw5.size (.cells zeroC.toArray 28)).trans (hb6.mono (by simp; exact Nat.le_succ_of_le hw5.size))) | (have hw6 := hw5.trans (hb6.mono hw5.size))); have hf6 := (HFN.out w6 hw6).1; have hl6 := Nat.lt_of_lt_of_le hlt hw6.size; (first | (have hy6 := four_cells hz6; have hy7 := four_free hz6) | skip))))
    all_goals
      go_wp2_with fail
      go_meet
      have hB6 : Below W.heap.size W w6 := HM.out.below.trans (hw6.mono HM.out.below.size)
      have hk6 : Whole w6 b2 28 Xk := (HFN.out w6 hw6).2
      first
        | exact ⟨rfl, hB6.alloc hB6.size _, hk6.alloc _⟩
        | exact ⟨rfl, set_four hB6 HM.out.below.size hk6 (Nat.ne_of_gt hlt) _ _ _ _⟩
        | exact ⟨rfl, set_four hB6 (Nat.le_trans HM.out.below.size hw5.size) hk6 (Nat.ne_of_gt hl5) _ _ _ _⟩
  case rest =>
    obtain ⟨rfl, hbc, hwh⟩ := hcut
    have HBC := Lib.hid hbc
    have hf := whole_sign hwh HCk.out
    have HWH := Lib.hid hwh
    clear hbc hwh
    have hee := HEE.out
    go_wp2_with fail
    refine (R6.out _).mono ?_
    rintro ev wd ⟨rfl, hbd⟩
    have HBD := Lib.hid (HBC.out.trans (hbd.mono HBC.out.size))
    clear hbd hf
    go_wp2_with fail
    refine (RA.out _ HBD.out).mono ?_
    rintro ev we ⟨rfl, hbe⟩
    have HBE := Lib.hid (HBD.out.trans (hbe.mono HBD.out.size))
    clear hbe
    go_wp2
    go_ret
    exact ⟨rfl, HBE.out⟩

theorem walk (seed : ByteArray) (m n : Int) (w : World) (_ : seed.size ≤ 140737488351232) (hk : Consts w) :
    Calls Tryd.prog 5 #[.string seed, .agg #[.int .i64 m, .int .i64 n]] w
      fun e w' => e = .returned (.bool true) ∧ Below w.heap.size w w' := by
  by_cases hg : seed.size ≤ 300
  · exact law_small seed m n w hg hk
  · exact law_great seed m n w hg hk

theorem two_of {α : Type} (l : List α) (h : l.length = 2) : ∃ a b, l = [a, b] := by
  match l, h with
  | [a, b], _ => exact ⟨a, b, rfl⟩
theorem laidOut : laidOutB Tryd.prog = true := by kernel_rfl

set_option maxRecDepth 100000 in
theorem lifted (os : Os) (started : os.Started) (H : Type) (enc : TypeId × Value → H) :
    ReturnsInHanded {} Tryd.checked os 5 .any (fun w args => (Rows.stampBackSpec.pre enc Tryd.prog Tryd.f5 [] false w args ∧ laidMetH Tryd.prog laidL w) ∧ sizedMet enc Tryd.prog Tryd.f5 (OpenSpec.ofChange Rows.stampBackSpec) false w args)
      (Rows.stampBackSpec.post enc Tryd.prog Tryd.f5 false true false false) := by
  refine returnsInHanded_of_change_and (C := Tryd.checked) (X := fun w _ => laidMetH Tryd.prog laidL w) (fun _ _ _ hh h => h.of_heap hh) own started (by kernel_rfl) Tryd.func5
    (ChangeSpec.witness_shaped (enc := enc) (C := Tryd.checked) (os := os) (X := fun w _ => laidMetH Tryd.prog laidL w) false (World.doorLaid Tryd.prog 400 os) #[.string ByteArray.empty, .agg #[.int .i64 0, .int .i64 0]] 8 rfl (World.shaped_of_RefB (by kernel_rfl) (by kernel_rfl)) (by kernel_rfl) (by kernel_rfl) (by kernel_rfl) (door_met os _)) ?_
  intro W base args ds gs before hval0 hW _ hsz0 hL _
  have hval : ∀ (j : Nat) t v, Tryd.f5.params[j]? = some t → args[j]? = some v → Value.okWide Tryd.prog W .any base t v := hval0
  have hsz : (DataW.weightsEach Tryd.prog (Tryd.f5.params.toList ++ Rows.stampBackSpec.plain.varTypes Tryd.prog) (ds ++ gs)).all (· ≤ reachBytes) = true := hsz0
  clear hsz0
  have hW' := hW
  obtain ⟨p, q, hA0, hV, rfl, hfz, hnd⟩ := hW
  have hA : DataW.TrodAll enc Tryd.prog W 0 (fun _ => true) true Tryd.f5.params.toList args.toList ds p := hA0
  rw [Tryd.params5] at hA hval hsz
  obtain ⟨v0, vs0, d0, ds0, p0, q0, hargs, rfl, rfl, h0, r0⟩ := trodAll_cons hA
  obtain ⟨v1, vs1, d1, ds1, p1, q1, rfl, rfl, rfl, h1, r1⟩ := trodAll_cons r0
  obtain ⟨rfl, rfl, rfl⟩ := trodAll_nil r1
  obtain rfl : args = #[v0, v1] := by cases args; simp_all
  obtain ⟨rfl, rfl⟩ := trodVars_none hV
  have k1 := h1
  have lt1 : ∀ x ∈ p1, x.block < W.heap.size := by obtain ⟨m, hm⟩ := k1; exact DataW.trod_lt m _ _ _ hm
  obtain ⟨s0, rfl, rfl, rfl, w0⟩ := open_string Tryd.underlying9 (hval 0 9 v0 rfl rfl) h0
  have z0 := sized_string hsz (j := 0) (t := 9) (bytes := s0.data.toList) rfl rfl
  obtain ⟨ns1, hnl1, rfl, rfl, rfl, w1⟩ := Open.open_int_array Tryd.underlying45 Tryd.underlying3 (by kernel_rfl) (by kernel_rfl) (hval 1 45 v1 rfl rfl) h1
  obtain ⟨m1a, m1b, rfl⟩ := two_of ns1 hnl1
  have hcl := of_laid hL
  clear hA0 hval0
  refine (walk s0 m1a m1b W z0 hcl).mono fun e W' ⟨he, bel⟩ => ?_
  subst he
  exact ⟨_, rfl, _, _, _, [], _, [], hW', trodAll_mk1 (shut_bool Tryd.underlying4 _), (trodAll_cons_mk (shut_string Tryd.underlying9 w0) (trodAll_cons_mk (Below.trod laidOut (by kernel_rfl) (of_decide_eq_true (by kernel_rfl)) k1 bel lt1) trodAll_mk0)), rfl, bel.frame _, fun h => by cases h⟩

theorem over : Rows.StampBackSaid :=
  OpenClaim.holds_of_wide 5 Tryd.f5 rfl rfl rfl rfl rfl rfl rfl ⟨rfl, rfl, rfl, rfl, rfl⟩ rfl rfl rfl rfl rfl (by kernel_rfl) Tryd.func5 (by kernel_rfl)
    (of_decide_eq_true (by kernel_rfl)) (by unfold Func.isWrapper; first | (rw [if_pos (by decide +kernel)]; kernel_rfl) | (rw [if_neg (by decide +kernel)]; exact ⟨rfl, rfl⟩))
    (fun os started H enc _ => lifted os started H enc)

theorem proved : Rows.StampBackCardSaid :=
  Claim7.holds_tied_plain_at .later [] [.data] true Rows.stampBackCard.stood.harness false
    over (fun _ h => by cases h) (by kernel_rfl) (fun _ h => by cases h) stampBack_row_tie rfl ⟨rfl, rfl⟩ (by kernel_rfl) rfl
    (fun f fn hf hfn => by
      obtain rfl : f = 5 := Option.some.inj ((show Tryd.prog.funcNamed "murmur/murmurlaw09.StampBack" = some 5 by kernel_rfl).symm.trans hf) |>.symm
      obtain rfl : fn = Tryd.f5 := (Option.some.inj (Tryd.func5.symm.trans hfn)).symm
      exact ⟨by kernel_rfl, fun j t ht => by
        rw [Tryd.params5] at ht
        have hm : t ∈ [9, 45] := by simpa using Array.mem_of_getElem? ht
        have hall : ([9, 45].all fun u => !Tryd.prog.wantsStandIn u) = true := by kernel_rfl
        exact (show Tryd.prog.wantsStandIn t = false by simpa using List.all_eq_true.1 hall t hm)⟩)
    (by kernel_rfl)
#print axioms proved
end Go.Proofs.YtkchbilkmoemaaaDoor.LawSBack
